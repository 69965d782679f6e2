/-
 GrMatch, GrInd, GrBest0, GrSumsMath, GrIndMath, GrBestMath, GrEach.
-/
import Derived.Test.YtihnaddfpmjpaaaGreatDoorJ9
import Derived.Test.YtihnaddfpmjpaaaGreatDoorJ11
import Derived.Test.YtihnaddfpmjpaaaGreatDoorJ3
import Derived.Test.YtihnaddfpmjpaaaGreatDoorJ2
import Derived.Deep.AppendLies
import Derived.Deep.RegionWith
import Derived.BigQuiet
namespace Go.Proofs.YtihnaddfpmjpaaaGreatDoor
namespace Gr
open Go.RowKit
theorem wrap_in (x : Int) (h : -9223372036854775808 ≤ x ∧ x ≤ 9223372036854775807) : IntKind.i64.wrap x = x := by
  have e : IntKind.i64.wrap x = if (9223372036854775808 : Int) ≤ x % 18446744073709551616 then x % 18446744073709551616 - 18446744073709551616 else x % 18446744073709551616 := by
    simp [IntKind.wrap, IntKind.signed, IntKind.bits]
  rw [e]
  split <;> omega
def aheadC (p : Option CoupleI) (x : CoupleI) : Bool := match p with | none => true | some q => decide (q.A < x.A)
def mFrom (Q : List EdgeI) : Option CoupleI → List Int → List CoupleI → Bool
  | _, _, [] => true
  | p, U, x :: r => decide (x.A < x.B) && (aheadC p x && (decide (0 ≤ atFrom x.A x.B 0 Q) && (!inK U x.A && (!inK U x.B && mFrom Q (some x) (U ++ [x.A, x.B]) r))))
def matchOk (s : Int) (Q : List EdgeI) (M : List CoupleI) : Bool := graphOk s Q && (decide (M.length ≤ 9) && mFrom Q none [] M)
def prevC (M : List CoupleI) (k : Nat) : Option CoupleI := if k = 0 then none else M[k - 1]?
theorem mFrom_step (Q : List EdgeI) (M : List CoupleI) (U : List Int) (k : Nat) (h : k < M.length) : mFrom Q (prevC M k) U (M.drop k) = (decide (M[k].A < M[k].B) && (aheadC (prevC M k) M[k] && (decide (0 ≤ atFrom M[k].A M[k].B 0 Q) && (!inK U M[k].A && (!inK U M[k].B && mFrom Q (prevC M (k + 1)) (U ++ [M[k].A, M[k].B]) (M.drop (k + 1))))))) := by
  rw [← List.getElem_cons_drop h]
  have e : prevC M (k + 1) = some M[k] := by unfold prevC; simp [h]
  rw [e]
  rfl
theorem two_int (x y : Int) : ∀ u ∈ [Value.int .i64 x, Value.int .i64 y], u.oneCell' = true := fun u hu => by simp at hu; rcases hu with rfl | rfl <;> rfl
theorem intsV_two (K : List Int) (x y : Int) : intsV (K ++ [x, y]) = intsV K ++ [.int .i64 x, .int .i64 y] := by simp [intsV]
theorem own_slice {w : World} {B e s n : Nat} {v : Value} {xs : List Value} (h : w.ownsRow B e s v n xs) : ∃ A c, v = .slice A n c := by
  rcases h.2 with ⟨rfl, rfl⟩ | ⟨g, cap, cur, rfl, _⟩
  · exact ⟨none, 0, rfl⟩
  · exact ⟨_, cap, rfl⟩
def MD (w3 : World) (Q : List EdgeI) (M : List CoupleI) (r : Bool) (j : Nat) (used : Value) (wr : World) : Prop :=
  Below w3.heap.size w3 wr ∧ ∃ U : List Int, U.length = 2 * j ∧ r = mFrom Q (prevC M j) U (M.drop j) ∧ wr.ownsRow w3.heap.size 3 1 used U.length (intsV U)
set_option maxRecDepth 100000 in
set_option maxHeartbeats 4000000 in
theorem specMatch_any (v : Value) (B : Nat) (s : Int) (Q : List EdgeI) (a : Option Addr) (n c : Nat) (M : List CoupleI) (h1 : Q.length ≤ 1048576) (h2 : n ≤ 1048576) (w : World) (hB : B ≤ w.heap.size) (hv : GrAt w v B s Q) (hM : couplesAt w a n B M) :
    Calls Tryz.prog 141 #[v, .slice a n c] w fun e w' => e = .returned (.bool (matchOk s Q M)) ∧ Below w.heap.size w w' := by
  have OK := hide (fun w1 (hb : Below w.heap.size w w1) => specGraph_any v B s Q h1 w1 (by have := hb.size; omega) (hv.below hb hB))
  have AT := hide (fun x y w1 (hb : Below w.heap.size w w1) => specAt_any v B s x y Q h1 w1 (by have := hb.size; omega) (hv.below hb hB))
  obtain ⟨a0, n0, c0, rfl, _⟩ := hv
  obtain ⟨i0, hi, hz0, hz1, hz2⟩ := info_parts info3
  have hmk : matchOk s Q M = (graphOk s Q && (decide (M.length ≤ 9) && mFrom Q none [] M)) := rfl
  generalize graphOk s Q = gk at OK hmk
  obtain ⟨hL, hc⟩ := hM
  have HC := hide hc
  have HL := hide hL
  generalize hR : matchOk s Q M = R at hmk
  clear hR hc hL h1
  go_enter Tryz.func141, Tryz.ntmps141
  go_wp2_with fail
  obtain ⟨V1, hV1⟩ : ∃ W, W = w.alloc (Obj.cells #[Value.int .i64 s, Value.slice a0 n0 c0] 35) := ⟨_, rfl⟩
  rw [← hV1]
  have x1 : GBox V1 w.heap.size s (.slice a0 n0 c0) := by rw [hV1]; exact GBox.new _ _ _
  have b1 : Below w.heap.size w V1 := by rw [hV1]; exact below_new _ _
  clear hV1
  refine (unhide OK V1 b1).mono ?_
  rintro e w2 ⟨rfl, hb2⟩
  have x2 := x1.below hb2
  have b2 : Below w.heap.size w w2 := b1.trans (hb2.mono b1.size)
  have hx2 := x2.lt
  clear hb2 b1 x1
  cases gk
  · rw [Bool.false_and] at hmk
    subst hmk
    go_wp2
    go_ret
    exact ⟨rfl, b2⟩
  · rw [Bool.true_and] at hmk
    by_cases h9 : (9 : Int) < (n : Int)
    · rw [decide_eq_false (show ¬ M.length ≤ 9 by have := unhide HL; omega), Bool.false_and] at hmk
      subst hmk
      go_wp2
      go_ret
      exact ⟨rfl, b2⟩
    · rw [decide_eq_true (show M.length ≤ 9 by have := unhide HL; omega), Bool.true_and] at hmk
      have HST := hide (fun U k h => mFrom_step Q M U k h)
      have HEND : Hid (∀ U, mFrom Q (prevC M n) U (M.drop n) = true) := fun U => by rw [← unhide HL, List.drop_length]; cases prevC M M.length <;> rfl
      have H0 : Hid (R = mFrom Q (prevC M 0) [] (M.drop 0)) := hmk
      have HX2 := hide x2
      clear hmk x2
      go_wp2_with fail
      go_loopw [5, 6] (fun used i wr => ∃ j : Nat, i = .int .i64 (j : Int) ∧ j ≤ n ∧ MD w2 Q M R j used wr) (fun _ i _ => n - (intOf i).toNat)
      case atStart =>
        refine ⟨0, rfl, Nat.zero_le _, below_new w2 _, [], rfl, unhide H0, ?_⟩
        exact World.ownsRow_made w2 #[] 0 (by omega) (Nat.zero_le _) rfl
      case round =>
        obtain ⟨j, rfl, hj, hb3, U, hU, hR, own3⟩ := hrel
        have HR := hide hR
        have HU := hide hU
        clear hR hU
        have b3 : Below w.heap.size w wr := b2.trans (hb3.mono b2.size)
        by_cases hlt : j < n
        · obtain ⟨A5, C5, hu5⟩ := own_slice own3
          subst hu5
          have hjL : j < M.length := by have := unhide HL; omega
          obtain ⟨b, off, rfl, hbB, c1, c2⟩ := unhide HC j hjL
          rw [← b3.cell (p := ⟨b, off + j * 2, none⟩) (by simp; omega)] at c1
          rw [← b3.cell (p := ⟨b, off + j * 2 + 1, none⟩) (by simp; omega)] at c2
          have HPR : Hid (∀ q, prevC M j = some q → 0 < j ∧ wr.cell? ⟨b, off + (j - 1) * 2, none⟩ = some (.int .i64 q.A)) := fun q hq => by
            unfold prevC at hq
            split at hq
            · cases hq
            · have hj1 : j - 1 < M.length := by omega
              obtain ⟨b', off', e', _, k0, _⟩ := unhide HC (j - 1) hj1
              simp at e'
              obtain ⟨rfl, rfl⟩ := e'
              rw [List.getElem?_eq_getElem hj1] at hq
              obtain rfl := Option.some.inj hq
              exact ⟨by omega, by rw [b3.cell (p := ⟨b, off + (j - 1) * 2, none⟩) (by simp; omega)]; exact k0⟩
          have HPZ : Hid (prevC M j = none → j = 0) := fun h => by
            unfold prevC at h
            split at h
            · assumption
            · rw [List.getElem?_eq_getElem (show j - 1 < M.length by omega)] at h; cases h
          have hr := (unhide HR).trans (unhide HST U j hjL)
          generalize hpe : prevC M j = pe at hr HPR HPZ
          have HNX : Hid (∀ x : CoupleI, M[j] = x → mFrom Q (prevC M (j + 1)) (U ++ [M[j].A, M[j].B]) (M.drop (j + 1)) = mFrom Q (prevC M (j + 1)) (U ++ [x.A, x.B]) (M.drop (j + 1))) := fun x hx => by rw [hx]
          generalize hq : M[j] = q at c1 c2 hr HNX
          obtain ⟨y0, y1⟩ := q
          simp only at c1 c2 hr
          have HNX2 := unhide HNX ⟨y0, y1⟩ rfl
          simp only at HNX2
          generalize hrest : mFrom Q (prevC M (j + 1)) (U ++ [y0, y1]) (M.drop (j + 1)) = rest at hr
          have HREST := hide hrest
          have AT1 := hide (unhide AT y0 y1)
          generalize atFrom y0 y1 0 Q = at1 at AT1 hr
          have IN0 := hide (fun w' (hb : Below wr.heap.size wr w') => l03In_any A5 U.length C5 wr.heap.size U y0 (by have := unhide HU; omega) w' ((by obtain ⟨a', c', e', h'⟩ := intsAt_of_own own3; simp at e'; obtain ⟨rfl, rfl⟩ := e'; exact h' : IntsAt wr A5 U.length wr.heap.size U).below hb (Nat.le_refl _)))
          have IN1 := hide (fun w' (hb : Below wr.heap.size wr w') => l03In_any A5 U.length C5 wr.heap.size U y1 (by have := unhide HU; omega) w' ((by obtain ⟨a', c', e', h'⟩ := intsAt_of_own own3; simp at e'; obtain ⟨rfl, rfl⟩ := e'; exact h' : IntsAt wr A5 U.length wr.heap.size U).below hb (Nat.le_refl _)))
          generalize inK U y0 = k0 at IN0 hr
          generalize inK U y1 = k1 at IN1 hr
          have HOW := hide own3
          have HB3 := hide hb3
          have x4 := (unhide HX2).below hb3
          have hx0 : (0 : Int) ≤ (j : Int) := by omega
          have hx1 : (j : Int) < (n : Int) := by omega
          have hx9 : (n : Int) ≤ 9 := by omega
          have hz4 := hb3.size
          clear hpe hq hrest HNX HNX2 HR own3 hb3
          go_upto_region 8 with fail
          obtain ⟨W, hW⟩ : ∃ W, W = wr.alloc (Obj.cells #[Value.int .i64 y0, Value.int .i64 y1] 162) := ⟨_, rfl⟩
          rw [← hW]
          have bW : Below wr.heap.size wr W := by rw [hW]; exact below_new _ _
          have eW : W.heap[wr.heap.size]? = some (.cells #[Value.int .i64 y0, Value.int .i64 y1] 162 (0, 0)) := by rw [hW]; exact heap_alloc_new _ _
          obtain ⟨f0, f1, _⟩ := cells_of_two eW
          obtain ⟨p0, p1⟩ := (x4.below bW).cells
          have hfW : wr.heap.size < W.heap.size := by rw [hW]; simp
          have hgW : w.heap.size < W.heap.size := (x4.below bW).lt
          have hbW : b < W.heap.size := by omega
          have cW : Below w.heap.size w W := b3.trans (bW.mono b3.size)
          have HPR2 : Hid (∀ q, pe = some q → 0 < j ∧ W.cell? ⟨b, off + (j - 1) * 2, none⟩ = some (.int .i64 q.A)) := fun q hq => ⟨(unhide HPR q hq).1, (bW.cell (p := ⟨b, off + (j - 1) * 2, none⟩) (show b < wr.heap.size by omega)).trans (unhide HPR q hq).2⟩
          have HCW := hide cW
          have HGB : Hid (∀ d : Grown W.heap.size W, Below wr.heap.size wr d.w) := fun d => bW.trans (d.below.mono bW.size)
          have HGC : Hid (∀ d : Grown W.heap.size W, Below w.heap.size w d.w) := fun d => cW.trans (d.below.mono cW.size)
          clear hW eW x4 c1 c2 HPR
          by_cases t1 : y1 ≤ y0
          · rw [decide_eq_false (show ¬ y0 < y1 by omega), Bool.false_and] at hr
            subst hr
            clear HPR2
            go_quiet (fail)
            go_wp2
            go_ret
            exact ⟨rfl, below_drewN (unhide HCW) _⟩
          · rw [decide_eq_true (show y0 < y1 by omega), Bool.true_and] at hr
            have e1 : decide (y1 ≤ y0) = false := decide_eq_false t1
            cases pe with
            | none =>
              obtain rfl : j = 0 := unhide HPZ rfl
              change R = (true && _) at hr
              rw [Bool.true_and] at hr
              clear HPR2
              by_cases t3 : at1 < 0
              · rw [decide_eq_false (show ¬ 0 ≤ at1 by omega), Bool.false_and] at hr
                subst hr
                have gf0 : ∀ d : Grown W.heap.size W, d.w.cell? ⟨wr.heap.size, 0, none⟩ = some (.int .i64 y0) := fun d => d.cell hfW f0
                have gf1 : ∀ d : Grown W.heap.size W, d.w.cell? ⟨wr.heap.size, 1, none⟩ = some (.int .i64 y1) := fun d => d.cell hfW f1
                have gp0 : ∀ d : Grown W.heap.size W, d.w.cell? ⟨w.heap.size, 0, none⟩ = some (.int .i64 s) := fun d => d.cell hgW p0
                have gp1 : ∀ d : Grown W.heap.size W, d.w.cell? ⟨w.heap.size, 1, none⟩ = some (.slice a0 n0 c0) := fun d => d.cell hgW p1
                clear f0 f1 p0 p1
                refine wp_region_grown W.heap.size (by kernel_rfl) (by kernel_rfl) ?_
                repeat (go_big_quiet_step (first
                  | (go_at_call 158; exact Calls.grown (Nat.le_refl _) (unhide AT1 _ (unhide HGC _)))
                  | (go_at_call_of 159 (Value.int IntKind.i64 y0); exact Calls.grown_same (unhide IN0 _ (unhide HGB _)))
                  | (go_at_call_of 159 (Value.int IntKind.i64 y1); exact Calls.grown_same (unhide IN1 _ (unhide HGB _)))))
                refine wpQuiet_nil ?_
                rintro w5 ⟨d5, rfl⟩
                have bw5 := unhide HGB d5
                have zw5 := d5.below.size
                go_wp2
                go_ret
                exact ⟨rfl, b3.trans (bw5.mono b3.size)⟩
              · rw [decide_eq_true (show 0 ≤ at1 by omega), Bool.true_and] at hr
                have e3 : decide (at1 < 0) = false := decide_eq_false t3
                cases k0
                · rw [Bool.not_false, Bool.true_and] at hr
                  cases k1
                  · rw [Bool.not_false, Bool.true_and] at hr
                    have gf0 : ∀ d : Grown W.heap.size W, d.w.cell? ⟨wr.heap.size, 0, none⟩ = some (.int .i64 y0) := fun d => d.cell hfW f0
                    have gf1 : ∀ d : Grown W.heap.size W, d.w.cell? ⟨wr.heap.size, 1, none⟩ = some (.int .i64 y1) := fun d => d.cell hfW f1
                    have gp0 : ∀ d : Grown W.heap.size W, d.w.cell? ⟨w.heap.size, 0, none⟩ = some (.int .i64 s) := fun d => d.cell hgW p0
                    have gp1 : ∀ d : Grown W.heap.size W, d.w.cell? ⟨w.heap.size, 1, none⟩ = some (.slice a0 n0 c0) := fun d => d.cell hgW p1
                    clear f0 f1 p0 p1
                    refine wp_region_grown W.heap.size (by kernel_rfl) (by kernel_rfl) ?_
                    repeat (go_big_quiet_step (first
                      | (go_at_call 158; exact Calls.grown (Nat.le_refl _) (unhide AT1 _ (unhide HGC _)))
                      | (go_at_call_of 159 (Value.int IntKind.i64 y0); exact Calls.grown_same (unhide IN0 _ (unhide HGB _)))
                      | (go_at_call_of 159 (Value.int IntKind.i64 y1); exact Calls.grown_same (unhide IN1 _ (unhide HGB _)))))
                    refine wpQuiet_nil ?_
                    rintro w5 ⟨d5, rfl⟩
                    have bw5 := unhide HGB d5
                    have zw5 := d5.below.size
                    have own5 := own_below (unhide HOW) bw5
                    have cU : U.length ≤ 18 := by have := unhide HU; omega
                    go_wp2_with (at_builtin; refine wpList_append_own _ rfl _ _ 24 rfl w2.heap.size 3 i0 (.int .i64 0) 1 8 Tryz.underlying24 hi hz0 hz1 hz2 rfl (by decide) _ _ _ rfl (own5.alloc _) ⟨d5.w.heap.size, 0, none⟩ 2 2 [.int .i64 y0, .int .i64 y1] rfl rfl (World.news_of_block (heap_alloc_new _ _)) (two_int _ _) ?_ ?_ ?_ ?_)
                    · unfold maxLen; omega
                    · omega
                    · first | omega | (simp; omega)
                    intro v' w7 hown' hgrow _
                    have HMD : Hid (MD w2 Q M R (0 + 1) v' w7) := ⟨below_append ((unhide HB3).trans (bw5.mono (unhide HB3).size)) (Nat.le_refl _) own5 hgrow, U ++ [y0, y1], by rw [List.length_append, unhide HU]; first | rfl | omega | (simp; omega), hr.trans (unhide HREST).symm, by rw [List.length_append, intsV_two]; exact hown'⟩
                    clear hown' hgrow own5 cU
                    go_wp2
                    go_roundw
                    case rel => exact ⟨0 + 1, by go_num, by omega, unhide HMD⟩
                    case measure => simp [intOf]; omega
                  · rw [Bool.not_true, Bool.false_and] at hr
                    subst hr
                    have gf0 : ∀ d : Grown W.heap.size W, d.w.cell? ⟨wr.heap.size, 0, none⟩ = some (.int .i64 y0) := fun d => d.cell hfW f0
                    have gf1 : ∀ d : Grown W.heap.size W, d.w.cell? ⟨wr.heap.size, 1, none⟩ = some (.int .i64 y1) := fun d => d.cell hfW f1
                    have gp0 : ∀ d : Grown W.heap.size W, d.w.cell? ⟨w.heap.size, 0, none⟩ = some (.int .i64 s) := fun d => d.cell hgW p0
                    have gp1 : ∀ d : Grown W.heap.size W, d.w.cell? ⟨w.heap.size, 1, none⟩ = some (.slice a0 n0 c0) := fun d => d.cell hgW p1
                    clear f0 f1 p0 p1
                    refine wp_region_grown W.heap.size (by kernel_rfl) (by kernel_rfl) ?_
                    repeat (go_big_quiet_step (first
                      | (go_at_call 158; exact Calls.grown (Nat.le_refl _) (unhide AT1 _ (unhide HGC _)))
                      | (go_at_call_of 159 (Value.int IntKind.i64 y0); exact Calls.grown_same (unhide IN0 _ (unhide HGB _)))
                      | (go_at_call_of 159 (Value.int IntKind.i64 y1); exact Calls.grown_same (unhide IN1 _ (unhide HGB _)))))
                    refine wpQuiet_nil ?_
                    rintro w5 ⟨d5, rfl⟩
                    have bw5 := unhide HGB d5
                    have zw5 := d5.below.size
                    go_wp2
                    go_ret
                    exact ⟨rfl, b3.trans (bw5.mono b3.size)⟩
                · rw [Bool.not_true, Bool.false_and] at hr
                  subst hr
                  have gf0 : ∀ d : Grown W.heap.size W, d.w.cell? ⟨wr.heap.size, 0, none⟩ = some (.int .i64 y0) := fun d => d.cell hfW f0
                  have gf1 : ∀ d : Grown W.heap.size W, d.w.cell? ⟨wr.heap.size, 1, none⟩ = some (.int .i64 y1) := fun d => d.cell hfW f1
                  have gp0 : ∀ d : Grown W.heap.size W, d.w.cell? ⟨w.heap.size, 0, none⟩ = some (.int .i64 s) := fun d => d.cell hgW p0
                  have gp1 : ∀ d : Grown W.heap.size W, d.w.cell? ⟨w.heap.size, 1, none⟩ = some (.slice a0 n0 c0) := fun d => d.cell hgW p1
                  clear f0 f1 p0 p1
                  refine wp_region_grown W.heap.size (by kernel_rfl) (by kernel_rfl) ?_
                  repeat (go_big_quiet_step (first
                    | (go_at_call 158; exact Calls.grown (Nat.le_refl _) (unhide AT1 _ (unhide HGC _)))
                    | (go_at_call_of 159 (Value.int IntKind.i64 y0); exact Calls.grown_same (unhide IN0 _ (unhide HGB _)))
                    | (go_at_call_of 159 (Value.int IntKind.i64 y1); exact Calls.grown_same (unhide IN1 _ (unhide HGB _)))))
                  refine wpQuiet_nil ?_
                  rintro w5 ⟨d5, rfl⟩
                  have bw5 := unhide HGB d5
                  have zw5 := d5.below.size
                  go_wp2
                  go_ret
                  exact ⟨rfl, b3.trans (bw5.mono b3.size)⟩
            | some q =>
              obtain ⟨hj0, d0⟩ := unhide HPR2 q rfl
              obtain ⟨i, rfl⟩ : ∃ i, j = i + 1 := ⟨j - 1, by omega⟩
              rw [Nat.add_sub_cancel] at d0
              obtain ⟨q0, q1⟩ := q
              simp only at d0
              change R = (decide (q0 < y0) && _) at hr
              have hj1 : (0 : Int) < (i : Int) + 1 := by omega
              have hi0 : (0 : Int) ≤ (i : Int) := by omega
              have hi1 : (i : Int) < (n : Int) := by omega
              have hi2 : (i : Int) + 1 - 1 = (i : Int) := by omega
              have hi3 : IntKind.i64.wrap ((i : Int) + 1 - 1) = (i : Int) := by rw [hi2]; exact wrap_in _ (by omega)
              have hi4 : IntKind.i64.wrap (i : Int) = (i : Int) := wrap_in _ (by omega)
              have hi5 : IntKind.i64.wrap ((i : Int) + 1) = (i : Int) + 1 := wrap_in _ (by omega)
              clear HPR2
              by_cases t2 : y0 ≤ q0
              · rw [decide_eq_false (show ¬ q0 < y0 by omega), Bool.false_and] at hr
                subst hr
                go_quiet (fail)
                go_wp2
                go_ret
                exact ⟨rfl, below_drewN (unhide HCW) _⟩
              · rw [decide_eq_true (show q0 < y0 by omega), Bool.true_and] at hr
                have e2 : decide (y0 ≤ q0) = false := decide_eq_false t2
                by_cases t3 : at1 < 0
                · rw [decide_eq_false (show ¬ 0 ≤ at1 by omega), Bool.false_and] at hr
                  subst hr
                  have gf0 : ∀ d : Grown W.heap.size W, d.w.cell? ⟨wr.heap.size, 0, none⟩ = some (.int .i64 y0) := fun d => d.cell hfW f0
                  have gf1 : ∀ d : Grown W.heap.size W, d.w.cell? ⟨wr.heap.size, 1, none⟩ = some (.int .i64 y1) := fun d => d.cell hfW f1
                  have gp0 : ∀ d : Grown W.heap.size W, d.w.cell? ⟨w.heap.size, 0, none⟩ = some (.int .i64 s) := fun d => d.cell hgW p0
                  have gp1 : ∀ d : Grown W.heap.size W, d.w.cell? ⟨w.heap.size, 1, none⟩ = some (.slice a0 n0 c0) := fun d => d.cell hgW p1
                  have gd0 : ∀ d : Grown W.heap.size W, d.w.cell? ⟨b, off + i * 2, none⟩ = some (.int .i64 q0) := fun d => d.cell hbW d0
                  clear f0 f1 p0 p1 d0
                  refine wp_region_grown W.heap.size (by kernel_rfl) (by kernel_rfl) ?_
                  repeat (go_big_quiet_step (first
                    | (go_at_call 158; exact Calls.grown (Nat.le_refl _) (unhide AT1 _ (unhide HGC _)))
                    | (go_at_call_of 159 (Value.int IntKind.i64 y0); exact Calls.grown_same (unhide IN0 _ (unhide HGB _)))
                    | (go_at_call_of 159 (Value.int IntKind.i64 y1); exact Calls.grown_same (unhide IN1 _ (unhide HGB _)))))
                  refine wpQuiet_nil ?_
                  rintro w5 ⟨d5, rfl⟩
                  have bw5 := unhide HGB d5
                  have zw5 := d5.below.size
                  go_wp2
                  go_ret
                  exact ⟨rfl, b3.trans (bw5.mono b3.size)⟩
                · rw [decide_eq_true (show 0 ≤ at1 by omega), Bool.true_and] at hr
                  have e3 : decide (at1 < 0) = false := decide_eq_false t3
                  cases k0
                  · rw [Bool.not_false, Bool.true_and] at hr
                    cases k1
                    · rw [Bool.not_false, Bool.true_and] at hr
                      have gf0 : ∀ d : Grown W.heap.size W, d.w.cell? ⟨wr.heap.size, 0, none⟩ = some (.int .i64 y0) := fun d => d.cell hfW f0
                      have gf1 : ∀ d : Grown W.heap.size W, d.w.cell? ⟨wr.heap.size, 1, none⟩ = some (.int .i64 y1) := fun d => d.cell hfW f1
                      have gp0 : ∀ d : Grown W.heap.size W, d.w.cell? ⟨w.heap.size, 0, none⟩ = some (.int .i64 s) := fun d => d.cell hgW p0
                      have gp1 : ∀ d : Grown W.heap.size W, d.w.cell? ⟨w.heap.size, 1, none⟩ = some (.slice a0 n0 c0) := fun d => d.cell hgW p1
                      have gd0 : ∀ d : Grown W.heap.size W, d.w.cell? ⟨b, off + i * 2, none⟩ = some (.int .i64 q0) := fun d => d.cell hbW d0
                      clear f0 f1 p0 p1 d0
                      refine wp_region_grown W.heap.size (by kernel_rfl) (by kernel_rfl) ?_
                      repeat (go_big_quiet_step (first
                        | (go_at_call 158; exact Calls.grown (Nat.le_refl _) (unhide AT1 _ (unhide HGC _)))
                        | (go_at_call_of 159 (Value.int IntKind.i64 y0); exact Calls.grown_same (unhide IN0 _ (unhide HGB _)))
                        | (go_at_call_of 159 (Value.int IntKind.i64 y1); exact Calls.grown_same (unhide IN1 _ (unhide HGB _)))))
                      refine wpQuiet_nil ?_
                      rintro w5 ⟨d5, rfl⟩
                      have bw5 := unhide HGB d5
                      have zw5 := d5.below.size
                      have own5 := own_below (unhide HOW) bw5
                      have cU : U.length ≤ 18 := by have := unhide HU; omega
                      go_wp2_with (at_builtin; refine wpList_append_own _ rfl _ _ 24 rfl w2.heap.size 3 i0 (.int .i64 0) 1 8 Tryz.underlying24 hi hz0 hz1 hz2 rfl (by decide) _ _ _ rfl (own5.alloc _) ⟨d5.w.heap.size, 0, none⟩ 2 2 [.int .i64 y0, .int .i64 y1] rfl rfl (World.news_of_block (heap_alloc_new _ _)) (two_int _ _) ?_ ?_ ?_ ?_)
                      · unfold maxLen; omega
                      · omega
                      · first | omega | (simp; omega)
                      intro v' w7 hown' hgrow _
                      have HMD : Hid (MD w2 Q M R (i + 1 + 1) v' w7) := ⟨below_append ((unhide HB3).trans (bw5.mono (unhide HB3).size)) (Nat.le_refl _) own5 hgrow, U ++ [y0, y1], by rw [List.length_append, unhide HU]; first | rfl | omega | (simp; omega), hr.trans (unhide HREST).symm, by rw [List.length_append, intsV_two]; exact hown'⟩
                      clear hown' hgrow own5 cU
                      go_wp2
                      go_roundw
                      case rel => exact ⟨i + 1 + 1, by go_num, by omega, unhide HMD⟩
                      case measure => simp [intOf]; omega
                    · rw [Bool.not_true, Bool.false_and] at hr
                      subst hr
                      have gf0 : ∀ d : Grown W.heap.size W, d.w.cell? ⟨wr.heap.size, 0, none⟩ = some (.int .i64 y0) := fun d => d.cell hfW f0
                      have gf1 : ∀ d : Grown W.heap.size W, d.w.cell? ⟨wr.heap.size, 1, none⟩ = some (.int .i64 y1) := fun d => d.cell hfW f1
                      have gp0 : ∀ d : Grown W.heap.size W, d.w.cell? ⟨w.heap.size, 0, none⟩ = some (.int .i64 s) := fun d => d.cell hgW p0
                      have gp1 : ∀ d : Grown W.heap.size W, d.w.cell? ⟨w.heap.size, 1, none⟩ = some (.slice a0 n0 c0) := fun d => d.cell hgW p1
                      have gd0 : ∀ d : Grown W.heap.size W, d.w.cell? ⟨b, off + i * 2, none⟩ = some (.int .i64 q0) := fun d => d.cell hbW d0
                      clear f0 f1 p0 p1 d0
                      refine wp_region_grown W.heap.size (by kernel_rfl) (by kernel_rfl) ?_
                      repeat (go_big_quiet_step (first
                        | (go_at_call 158; exact Calls.grown (Nat.le_refl _) (unhide AT1 _ (unhide HGC _)))
                        | (go_at_call_of 159 (Value.int IntKind.i64 y0); exact Calls.grown_same (unhide IN0 _ (unhide HGB _)))
                        | (go_at_call_of 159 (Value.int IntKind.i64 y1); exact Calls.grown_same (unhide IN1 _ (unhide HGB _)))))
                      refine wpQuiet_nil ?_
                      rintro w5 ⟨d5, rfl⟩
                      have bw5 := unhide HGB d5
                      have zw5 := d5.below.size
                      go_wp2
                      go_ret
                      exact ⟨rfl, b3.trans (bw5.mono b3.size)⟩
                  · rw [Bool.not_true, Bool.false_and] at hr
                    subst hr
                    have gf0 : ∀ d : Grown W.heap.size W, d.w.cell? ⟨wr.heap.size, 0, none⟩ = some (.int .i64 y0) := fun d => d.cell hfW f0
                    have gf1 : ∀ d : Grown W.heap.size W, d.w.cell? ⟨wr.heap.size, 1, none⟩ = some (.int .i64 y1) := fun d => d.cell hfW f1
                    have gp0 : ∀ d : Grown W.heap.size W, d.w.cell? ⟨w.heap.size, 0, none⟩ = some (.int .i64 s) := fun d => d.cell hgW p0
                    have gp1 : ∀ d : Grown W.heap.size W, d.w.cell? ⟨w.heap.size, 1, none⟩ = some (.slice a0 n0 c0) := fun d => d.cell hgW p1
                    have gd0 : ∀ d : Grown W.heap.size W, d.w.cell? ⟨b, off + i * 2, none⟩ = some (.int .i64 q0) := fun d => d.cell hbW d0
                    clear f0 f1 p0 p1 d0
                    refine wp_region_grown W.heap.size (by kernel_rfl) (by kernel_rfl) ?_
                    repeat (go_big_quiet_step (first
                      | (go_at_call 158; exact Calls.grown (Nat.le_refl _) (unhide AT1 _ (unhide HGC _)))
                      | (go_at_call_of 159 (Value.int IntKind.i64 y0); exact Calls.grown_same (unhide IN0 _ (unhide HGB _)))
                      | (go_at_call_of 159 (Value.int IntKind.i64 y1); exact Calls.grown_same (unhide IN1 _ (unhide HGB _)))))
                    refine wpQuiet_nil ?_
                    rintro w5 ⟨d5, rfl⟩
                    have bw5 := unhide HGB d5
                    have zw5 := d5.below.size
                    go_wp2
                    go_ret
                    exact ⟨rfl, b3.trans (bw5.mono b3.size)⟩
        · obtain rfl : j = n := by omega
          obtain rfl := (unhide HR).trans (unhide HEND U)
          go_wp2
          go_ret
          exact ⟨rfl, b3⟩
def ascFrom (s : Int) : Option Int → List Int → Bool
  | _, [] => true
  | p, y :: r => (decide (0 ≤ y) && decide (y ≤ s - 1)) && ((match p with | none => true | some q => decide (q < y)) && ascFrom s (some y) r)
def prevK (K : List Int) (k : Nat) : Option Int := if k = 0 then none else K[k - 1]?
def addS (s : SumsI) (e : EdgeI) : SumsI := ⟨s.W1 + e.W1, s.W2 + e.W2, s.W3 + e.W3⟩
def edgeN (Q : List EdgeI) (i : Int) : EdgeI := Q.getD i.toNat ⟨0, 0, 0, 0, 0⟩
def sumsFrom (Q : List EdgeI) : SumsI → List CoupleI → SumsI
  | s, [] => s
  | s, x :: r => sumsFrom Q (addS s (edgeN Q (atFrom x.A x.B 0 Q))) r
def sums (Q : List EdgeI) (M : List CoupleI) : SumsI := sumsFrom Q ⟨0, 0, 0⟩ M
def SB (s : SumsI) (n : Int) : Prop := (0 ≤ s.W1 ∧ s.W1 ≤ 50 * n) ∧ (0 ≤ s.W2 ∧ s.W2 ≤ 50 * n) ∧ (0 ≤ s.W3 ∧ s.W3 ≤ 50 * n)
theorem SB.mono {s : SumsI} {n m : Int} (h : SB s n) (hm : n ≤ m) : SB s m := by
  unfold SB at *
  omega
theorem worth_range {x : Int} (h : worthOk x = true) : 0 ≤ x ∧ x ≤ 50 := by
  unfold worthOk at h
  simpa using h
theorem SB.add {s : SumsI} {n : Int} {g : Int} {e : EdgeI} (h : SB s n) (he : edgeOk g e = true) : SB (addS s e) (n + 1) := by
  obtain ⟨_, _, _, h1, h2, h3⟩ := (edgeOk_iff g e).1 he
  have := worth_range h1
  have := worth_range h2
  have := worth_range h3
  unfold SB addS at *
  simp only
  omega
theorem SB.zero (n : Int) (h : 0 ≤ n) : SB ⟨0, 0, 0⟩ n := by
  unfold SB
  simp only
  omega
theorem at_range (x y : Int) : ∀ (Q : List EdgeI) (k : Nat), 0 ≤ atFrom x y k Q → ∃ i, ∃ h : i < Q.length, atFrom x y k Q = ((k + i : Nat) : Int) ∧ hit x y Q[i] = true
  | [], _, h => by unfold atFrom at h; omega
  | q :: r, k, h => by
    unfold atFrom at h ⊢
    by_cases hq : hit x y q = true
    · rw [if_pos hq]
      exact ⟨0, by simp, rfl, hq⟩
    · rw [if_neg hq] at h ⊢
      obtain ⟨i, hi, e, hh⟩ := at_range x y r (k + 1) h
      exact ⟨i + 1, by simp; omega, by rw [e]; omega, by simpa using hh⟩
theorem edgeN_at {x y : Int} {Q : List EdgeI} (h : 0 ≤ atFrom x y 0 Q) : ∃ i, ∃ h' : i < Q.length, atFrom x y 0 Q = (i : Int) ∧ edgeN Q (atFrom x y 0 Q) = Q[i] ∧ hit x y Q[i] = true := by
  obtain ⟨i, hi, e, hh⟩ := at_range x y Q 0 h
  rw [Nat.zero_add] at e
  refine ⟨i, hi, e, ?_, hh⟩
  unfold edgeN
  rw [e, Int.toNat_natCast, List.getD_eq_getElem?_getD, List.getElem?_eq_getElem hi]
  rfl
theorem edgeN_ok {s x y : Int} {Q : List EdgeI} (hg : graphOk s Q = true) (h : 0 ≤ atFrom x y 0 Q) : edgeOk s (edgeN Q (atFrom x y 0 Q)) = true := by
  obtain ⟨i, hi, _, e, _⟩ := edgeN_at h
  rw [e]
  exact (graph_sound hg).2.2.1 _ (List.getElem_mem hi)
theorem sumsFrom_step (Q : List EdgeI) (M : List CoupleI) (s : SumsI) (k : Nat) (h : k < M.length) : sumsFrom Q s (M.drop k) = sumsFrom Q (addS s (edgeN Q (atFrom M[k].A M[k].B 0 Q))) (M.drop (k + 1)) := by
  rw [← List.getElem_cons_drop h]
  rfl
theorem mFrom_at (Q : List EdgeI) : ∀ (M : List CoupleI) (p : Option CoupleI) (U : List Int), mFrom Q p U M = true → ∀ x ∈ M, 0 ≤ atFrom x.A x.B 0 Q
  | [], _, _, _ => by simp
  | y :: r, p, U, h => by
    unfold mFrom at h
    simp only [Bool.and_eq_true, decide_eq_true_eq] at h
    intro x hx
    rcases List.mem_cons.1 hx with rfl | hx
    · exact h.2.2.1
    · exact mFrom_at Q r _ _ h.2.2.2.2.2 x hx
theorem match_sound {s : Int} {Q : List EdgeI} {M : List CoupleI} (h : matchOk s Q M = true) : graphOk s Q = true ∧ M.length ≤ 9 ∧ mFrom Q none [] M = true := by
  unfold matchOk at h
  simpa using h
def wsum (t : SumsI) : Int := 90000 * t.W1 + 300 * t.W2 + t.W3
theorem wsum_add {t : SumsI} {n s : Int} {e : EdgeI} (h : SB t n) (hn : 0 ≤ n ∧ n ≤ 9) (he : edgeOk s e = true) : wsum (addS t e) = wsum t + scal e ∧ 0 ≤ scal e ∧ scal e ≤ 4515050 ∧ 0 ≤ wsum t ∧ wsum t ≤ 45150500 := by
  obtain ⟨_, _, _, h1, h2, h3⟩ := (edgeOk_iff s e).1 he
  have e1 := worth_range h1
  have e2 := worth_range h2
  have e3 := worth_range h3
  have hs : scal e = 90000 * e.W1 + 300 * e.W2 + e.W3 := by
    unfold scal
    rw [wrap_mod]
    omega
  unfold SB at h
  rw [hs]
  unfold wsum addS
  simp only
  omega
def LE (a b : SumsI) : Prop := a.W1 < b.W1 ∨ a.W1 = b.W1 ∧ (a.W2 < b.W2 ∨ a.W2 = b.W2 ∧ a.W3 ≤ b.W3)
theorem LE.refl (a : SumsI) : LE a a := by unfold LE; omega
theorem LE.trans {a b c : SumsI} (h : LE a b) (k : LE b c) : LE a c := by unfold LE at *; omega
theorem LE.add {a b : SumsI} (e : EdgeI) (h : LE a b) : LE (addS a e) (addS b e) := by unfold LE addS at *; simp only; omega
def Pm (Q : List EdgeI) (s : Int) (n : Nat) (U : List Int) (M : List CoupleI) : Prop :=
  (∀ x ∈ M, s - (n : Int) ≤ x.A ∧ x.A < x.B ∧ x.B < s ∧ 0 ≤ atFrom x.A x.B 0 Q ∧ inK U x.A = false ∧ inK U x.B = false) ∧ M.Pairwise (fun x y => x.A < y.A ∧ y.A ≠ x.B ∧ y.B ≠ x.B)
theorem inK_two {U : List Int} {a b x : Int} (h : inK (U ++ [a, b]) x = false) : inK U x = false ∧ x ≠ a ∧ x ≠ b := by
  unfold inK at *
  simp at h ⊢
  exact h
theorem match_pm {s : Int} {Q : List EdgeI} (hg : graphOk s Q = true) : ∀ (M : List CoupleI) (p : Option CoupleI) (U : List Int), mFrom Q p U M = true → (∀ x ∈ M, 0 ≤ x.A ∧ x.A < x.B ∧ x.B < s ∧ 0 ≤ atFrom x.A x.B 0 Q ∧ inK U x.A = false ∧ inK U x.B = false) ∧ M.Pairwise (fun x y => x.A < y.A ∧ y.A ≠ x.B ∧ y.B ≠ x.B) ∧ ∀ q, p = some q → ∀ x ∈ M, q.A < x.A
  | [], _, _, _ => ⟨by simp, List.Pairwise.nil, by simp⟩
  | x :: r, p, U, h => by
    unfold mFrom at h
    simp only [Bool.and_eq_true, decide_eq_true_eq, Bool.not_eq_true'] at h
    obtain ⟨h1, h2, h3, h4, h5, h6⟩ := h
    obtain ⟨i1, i2, i3⟩ := match_pm hg r (some x) (U ++ [x.A, x.B]) h6
    obtain ⟨i, hi, _, _, hh⟩ := edgeN_at h3
    have hek := (graph_sound hg).2.2.1 _ (List.getElem_mem hi)
    have he := (edgeOk_iff s _).1 hek
    have hh2 := ((hit_iff hek h1).1).1 hh
    refine ⟨fun y hy => ?_, List.Pairwise.cons (fun y hy => ?_) i2, fun q hq y hy => ?_⟩
    · rcases List.mem_cons.1 hy with rfl | hy
      · exact ⟨by omega, h1, by omega, h3, h4, h5⟩
      · obtain ⟨g1, g2, g3, g4, g5, g6⟩ := i1 y hy
        exact ⟨g1, g2, g3, g4, (inK_two g5).1, (inK_two g6).1⟩
    · obtain ⟨g1, g2, g3, g4, g5, g6⟩ := i1 y hy
      exact ⟨i3 x rfl y hy, (inK_two g5).2.2, (inK_two g6).2.2⟩
    · subst hq
      have h2' : q.A < x.A := by simpa [aheadC] using h2
      rcases List.mem_cons.1 hy with rfl | hy
      · exact h2'
      · have := i3 x rfl y hy
        omega
def mx (a b : SumsI) : SumsI := if better b a = true then b else a
def comb (a b : SumsI × Int) : SumsI × Int := (mx a.1 b.1, a.2 + b.2)
def addP (x : SumsI × Int) (e : EdgeI) : SumsI × Int := (addS x.1 e, x.2)
def freeE (U : List Int) (e : EdgeI) : Bool := !(inK U e.A || inK U e.B)
def each : List EdgeI → List Int → SumsI × Int
  | [], _ => (⟨0, 0, 0⟩, 1)
  | e :: r, U => if freeE U e = true then comb (each r U) (addP (each r (U ++ [e.A, e.B])) e) else each r U
theorem inK_app (U V : List Int) (x : Int) : inK (U ++ V) x = (inK U x || inK V x) := by
  unfold inK
  rw [Bool.eq_iff_iff]
  simp
def since (f b : Int) (e : EdgeI) : Bool := decide (f < e.A ∨ e.A = f ∧ b ≤ e.B)
end Gr
end Go.Proofs.YtihnaddfpmjpaaaGreatDoor
