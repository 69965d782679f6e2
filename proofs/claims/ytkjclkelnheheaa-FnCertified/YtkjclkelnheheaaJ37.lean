/-
 GrImplH.
-/
import Derived.Test.YtkjclkelnheheaaJ18
import Derived.Laws.EntriesVeiled
namespace Go.Proofs.Ytkjclkelnheheaa
namespace Gr
open Go.RowKit
theorem mFrom_next (Q : List EdgeI) (M : List CoupleI) (U : List Int) (k : Nat) (h : k < M.length) : mFrom Q (prevC M k) U (M.drop k) = (nextC Q (prevC M k) M[k] && (!inK U M[k].A && (!inK U M[k].B && mFrom Q (prevC M (k + 1)) (U ++ [M[k].A, M[k].B]) (M.drop (k + 1))))) := by
  rw [mFrom_step Q M U k h]
  unfold nextC
  generalize decide (M[k].A < M[k].B) = p1
  generalize decide (0 ≤ atFrom M[k].A M[k].B 0 Q) = p2
  generalize aheadC (prevC M k) M[k] = p3
  cases p1 <;> cases p2 <;> cases p3 <;> simp
set_option maxRecDepth 100000 in
set_option maxHeartbeats 4000000 in
theorem implMatch_any (v : Value) (B : Nat) (s : Int) (Q : List EdgeI) (a : Option Addr) (n c : Nat) (M : List CoupleI) (h1 : Q.length ≤ 1048576) (h2 : n ≤ 1048576) (w : World) (hB : B ≤ w.heap.size) (hv : GrAt w v B s Q) (hM : couplesAt w a n B M) :
    Calls Try.prog 39 #[v, .slice a n c] w fun e w' => e = .returned (.bool (matchOk s Q M)) ∧ Below w.heap.size w w' := by
  have OK := hide (fun w1 (hb : Below w.heap.size w w1) => implGraph_gen B v s Q h1 w1 (by have := hb.size; omega) (hv.below hb hB))
  have NX := hide (fun (hg : graphOk s Q = true) j hj w1 (hb : Below w.heap.size w w1) => isNext_any B v s Q a n c M hg h1 h2 j hj w1 (by have := hb.size; omega) (hv.below hb hB) (hM.below hb hB))
  obtain ⟨a0, n0, c0, rfl, _⟩ := hv
  have hmk := match_nolen s Q M
  have HRG : Hid (graphOk s Q = true → ∀ p x, nextC Q p x = true → 0 ≤ x.A ∧ x.A < x.B ∧ x.B < 9) := fun hg p x h => next_range hg h
  generalize graphOk s Q = gk at OK NX HRG hmk
  obtain ⟨hL, hc⟩ := hM
  have HC := hide hc
  have HL := hide hL
  generalize matchOk s Q M = R at hmk ⊢
  clear hc hL h1
  go_enter Try.func39, Try.ntmps39
  go_wp2_with fail
  obtain ⟨V1, hV1⟩ : ∃ W, W = w.alloc (Obj.cells #[Value.int .i64 s, Value.slice a0 n0 c0] 26) := ⟨_, rfl⟩
  rw [← hV1]
  have x1 : GBox V1 w.heap.size s (.slice a0 n0 c0) := by rw [hV1]; exact GBox.new _ _ _
  have b1 : Below w.heap.size w V1 := by rw [hV1]; exact below_new _ _
  clear hV1
  refine (unhide OK V1 b1).mono ?_
  rintro e w2 ⟨rfl, hb2⟩
  have x2 := x1.below hb2
  have b2 : Below w.heap.size w w2 := b1.trans (hb2.mono b1.size)
  have hx2 := x2.lt
  clear hb2 b1 x1
  cases gk
  · rw [Bool.false_and] at hmk
    subst hmk
    go_wp2
    go_ret
    exact ⟨rfl, b2⟩
  · rw [Bool.true_and] at hmk
    have HST := hide (fun U k h => mFrom_next Q M U k h)
    have HEND : Hid (∀ U, mFrom Q (prevC M n) U (M.drop n) = true) := fun U => by rw [← unhide HL, List.drop_length]; cases prevC M M.length <;> rfl
    have H0 : Hid (R = mFrom Q (prevC M 0) [] (M.drop 0)) := hmk
    have NXT := hide (unhide NX rfl)
    have HRGT := hide (unhide HRG rfl)
    have HX2 := hide x2
    clear hmk x2 NX HRG OK
    go_wp2_with fail
    go_loopw [13] (fun i wr => ∃ (j : Nat) (U : List Int), i = .int .i64 (j : Int) ∧ j ≤ n ∧ Hid (R = mFrom Q (prevC M j) U (M.drop j)) ∧ Hid (Blk wr w2.heap.size (flags U) 106) ∧ Below w2.heap.size w2 wr) (fun i _ => n - (intOf i).toNat)
    case atStart => exact ⟨0, [], rfl, Nat.zero_le _, unhide H0, (by rw [flags_nil]; exact Blk.new0), below_new _ _⟩
    case round =>
      obtain ⟨j, U, rfl, hj, HR, HF, hb⟩ := hrel
      have hsr := hb.size
      have hbw : Below w.heap.size w wr := b2.trans (hb.mono b2.size)
      have hfl := (unhide HF).lt
      by_cases hlt : j < n
      · have hjL : j < M.length := by have := unhide HL; omega
        obtain ⟨b, off, rfl, hbB, c1, c2⟩ := unhide HC j hjL
        rw [← hbw.cell (p := ⟨b, off + j * 2, none⟩) (by simp; omega)] at c1
        rw [← hbw.cell (p := ⟨b, off + j * 2 + 1, none⟩) (by simp; omega)] at c2
        have hr := (unhide HR).trans (unhide HST U j hjL)
        have NJ := hide (unhide NXT j hjL)
        have RJ := hide (unhide HRGT (prevC M j) M[j])
        generalize nextC Q (prevC M j) M[j] = nx at NJ hr RJ
        generalize M[j] = x at hr c1 c2 RJ
        obtain ⟨y0, y1⟩ := x
        simp only at c1 c2 hr RJ
        obtain ⟨p0, p1⟩ := ((unhide HX2).below hb).cells
        have hbl : b < wr.heap.size := by omega
        have hbn : ¬ b = wr.heap.size := by omega
        have hgn : ¬ w.heap.size = wr.heap.size := by omega
        have hgl : w.heap.size < wr.heap.size := by omega
        have bx : Below wr.heap.size wr (wr.alloc (Obj.cells #[Value.int .i64 y0, Value.int .i64 y1] 85)) := below_new _ _
        have bx' := hbw.trans (bx.mono hbw.size)
        have ux : Blk (wr.alloc (Obj.cells #[Value.int .i64 y0, Value.int .i64 y1] 85)) wr.heap.size #[Value.int .i64 y0, Value.int .i64 y1] 85 := Blk.new0
        go_wp2_with fail
        obtain ⟨V3, hV3⟩ : ∃ W, W = wr.alloc (Obj.cells #[Value.int .i64 y0, Value.int .i64 y1] 85) := ⟨_, rfl⟩
        rw [← hV3] at bx bx' ux ⊢
        clear hV3
        refine (unhide NJ V3 bx').mono ?_
        rintro e w4 ⟨rfl, hb4⟩
        have b4 : Below wr.heap.size wr w4 := bx.trans (hb4.mono bx.size)
        have b4' : Below w.heap.size w w4 := hbw.trans (b4.mono hbw.size)
        have b4'' : Below w2.heap.size w2 w4 := hb.trans (b4.mono hb.size)
        have u4 := ux.below hb4
        have F4 := (unhide HF).below b4
        have HF4 := hide F4
        clear c1 c2 p0 p1 bx bx' ux hb4 F4
        have d0 : w4.cell? ⟨wr.heap.size, 0, none⟩ = some (.int .i64 y0) := u4.cell 0 _ rfl
        have d1 : w4.cell? ⟨wr.heap.size, 1, none⟩ = some (.int .i64 y1) := u4.cell 1 _ rfl
        cases nx with
        | false =>
          rw [Bool.false_and] at hr
          subst hr
          go_wp2_with fail
          go_ret
          exact ⟨rfl, b4'⟩
        | true =>
          rw [Bool.true_and] at hr
          obtain ⟨q0, q1, q2⟩ := unhide RJ rfl
          obtain ⟨z0, rfl⟩ := Int.eq_ofNat_of_zero_le q0
          obtain ⟨z1, rfl⟩ := Int.eq_ofNat_of_zero_le (show 0 ≤ y1 by omega)
          have f0 : w4.cell? ⟨w2.heap.size, z0, none⟩ = some (.bool (inK U (z0 : Int))) := (unhide HF4).cell z0 _ (flags_at U z0 (by omega))
          have f1 : w4.cell? ⟨w2.heap.size, z1, none⟩ = some (.bool (inK U (z1 : Int))) := (unhide HF4).cell z1 _ (flags_at U z1 (by omega))
          have hx09 : (z0 : Int) < 9 := by omega
          have hx19 : (z1 : Int) < 9 := by omega
          cases hu0 : inK U (z0 : Int) with
          | true =>
            rw [hu0] at f0 hr
            rw [Bool.not_true, Bool.false_and] at hr
            subst hr
            go_wp2_with fail
            go_ret
            exact ⟨rfl, b4'⟩
          | false =>
            rw [hu0] at f0 hr
            rw [Bool.not_false, Bool.true_and] at hr
            cases hu1 : inK U (z1 : Int) with
            | true =>
              rw [hu1] at f1 hr
              rw [Bool.not_true, Bool.false_and] at hr
              subst hr
              go_wp2_with fail
              go_ret
              exact ⟨rfl, b4'⟩
            | false =>
              rw [hu1] at f1 hr
              rw [Bool.not_false, Bool.true_and] at hr
              have t0 := (unhide HF4).froz z0
              have t1 := (unhide HF4).froz z1
              have hx01 : ¬ z0 = z1 := by omega
              have HRN := hide hr
              clear hr
              go_wp2_with fail
              go_region
              go_wp2_with fail
              refine ⟨⟨j + 1, U ++ [(z0 : Int), (z1 : Int)], by go_num, by omega, unhide HRN, ?_, ?_⟩, by simp [intOf]; omega⟩
              · have := (((unhide HF4).set z0 (.bool true)).set z1 (.bool true))
                rw [flags_two U z0 z1 (by omega) (by omega)] at this
                exact this.drew
              · exact ((b4''.setCell (p := ⟨w2.heap.size, z0, none⟩) (Nat.le_refl _) _).setCell (p := ⟨w2.heap.size, z1, none⟩) (Nat.le_refl _) _).drew
      · have hjn : j = n := by omega
        subst hjn
        have hrr := (unhide HR).trans (unhide HEND U)
        subst hrr
        go_wp2_with fail
        go_ret
        exact ⟨rfl, hbw⟩
end Gr
end Go.Proofs.Ytkjclkelnheheaa
