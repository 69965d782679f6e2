/-
 GrGen, GrImplA, GrImplB, GrImplC, GrImplD.
-/
import Derived.Test.YtkjclkelnheheaaJ10
import Derived.Test.YtkjclkelnheheaaJ11
import Derived.Test.YtkjclkelnheheaaJ2
namespace Go.Proofs.Ytkjclkelnheheaa
namespace Gr
open Go.RowKit
theorem isPlace_is (x n : Int) (w : World) :
    Calls Try.prog 64 #[.int .i64 x, .int .i64 n] w fun e w' => e = .returned (.bool (decide (0 ≤ x) && decide (x < n))) ∧ w' = w := by
  go_enter Try.func64, Try.ntmps64
  go_wp2
  all_goals (go_ret; exact ⟨by simp_all <;> omega, rfl⟩)
def w3 (a b c : Int) : Value := .agg #[.int .i64 a, .int .i64 b, .int .i64 c]
theorem worthsOf_any (x : EdgeI) (w : World) :
    Calls Try.prog 66 #[x.v] w fun e w' => e = .returned (w3 x.W1 x.W2 x.W3) ∧ Below w.heap.size w w' := by
  unfold EdgeI.v w3
  obtain ⟨y0, y1, y2, y3, y4⟩ := x
  simp only
  go_enter Try.func66, Try.ntmps66
  go_wp2
  go_returns
  refine ⟨rfl, ?_⟩
  exact ((below_new _ _).alloc (by simp) _)
theorem isEdgeAhead_any (x y : EdgeI) (w : World) :
    Calls Try.prog 50 #[x.v, y.v] w fun e w' => e = .returned (.bool (ahead x y)) ∧ Below w.heap.size w w' := by
  have hr : ahead x y = (decide (x.A < y.A) || (decide (x.A = y.A) && decide (x.B < y.B))) := rfl
  generalize ahead x y = r at hr ⊢
  unfold EdgeI.v
  obtain ⟨y0, y1, y2, y3, y4⟩ := x
  obtain ⟨z0, z1, z2, z3, z4⟩ := y
  simp only at hr ⊢
  by_cases t0 : y0 < z0
  · rw [decide_eq_true t0, Bool.true_or] at hr
    subst hr
    go_enter Try.func50, Try.ntmps50
    go_wp2
    go_ret
    exact ⟨rfl, ((below_new _ _).alloc (by simp) _)⟩
  · rw [decide_eq_false t0, Bool.false_or] at hr
    by_cases t1 : y0 = z0
    · subst t1
      rw [decide_eq_true (show y0 = y0 from rfl), Bool.true_and] at hr
      subst hr
      go_enter Try.func50, Try.ntmps50
      go_wp2
      go_ret
      exact ⟨rfl, ((below_new _ _).alloc (by simp) _)⟩
    · rw [decide_eq_false t1, Bool.false_and] at hr
      subst hr
      have t1' : (y0 == z0) = false := by simpa using t1
      go_enter Try.func50, Try.ntmps50
      go_wp2
      go_ret
      exact ⟨rfl, ((below_new _ _).alloc (by simp) _)⟩
def areFrom (a b c : Int) : Nat → Bool
  | 0 => worthOk a && (worthOk b && worthOk c)
  | 1 => worthOk b && worthOk c
  | 2 => worthOk c
  | _ => true
theorem worthOk_iff (x : Int) : worthOk x = (decide (0 ≤ x) && decide (x ≤ 50)) := rfl
set_option maxRecDepth 100000 in
set_option maxHeartbeats 1000000 in
theorem areWorths_any (a b c : Int) (w : World) :
    Calls Try.prog 65 #[w3 a b c] w fun e w' => e = .returned (.bool (worthOk a && (worthOk b && worthOk c))) ∧ Below w.heap.size w w' := by
  have H0 : Hid ((worthOk a && (worthOk b && worthOk c)) = areFrom a b c 0) := rfl
  generalize (worthOk a && (worthOk b && worthOk c)) = r at H0 ⊢
  have HST : Hid (∀ k x, k < 3 → #[a, b, c][k]? = some x → areFrom a b c k = ((decide (0 ≤ x) && decide (x ≤ 50)) && areFrom a b c (k + 1))) := by
    intro k x hk hx
    rcases k with _ | _ | _ | k
    · simp at hx; subst hx; rfl
    · simp at hx; subst hx; rfl
    · simp at hx; subst hx; show worthOk c = _; rw [worthOk_iff]; simp [areFrom]
    · omega
  have HEND : Hid (areFrom a b c 3 = true) := rfl
  unfold w3
  go_enter Try.func65, Try.ntmps65
  go_wp2_with fail
  go_loopw [6] (fun i wr => ∃ j : Nat, i = .int .i64 (j : Int) ∧ j ≤ 3 ∧ Hid (r = areFrom a b c j) ∧ wr = w.alloc (Obj.cells #[Value.int .i64 a, Value.int .i64 b, Value.int .i64 c] 112)) (fun i _ => 3 - (intOf i).toNat)
  case atStart => exact ⟨0, rfl, Nat.zero_le _, unhide H0, rfl⟩
  case round =>
    obtain ⟨j, rfl, hj, HR, rfl⟩ := hrel
    by_cases hlt : j < 3
    · obtain rfl | rfl | rfl : j = 0 ∨ j = 1 ∨ j = 2 := by omega
      · have hr := (unhide HR).trans (unhide HST 0 a (by omega) rfl)
        have hix : ∀ W : World, (Instr.index 112 (.agg #[.int .i64 a, .int .i64 b, .int .i64 c]) (.int .i64 (0 : Int))).run Try.prog W = .ok (.int .i64 a) W := fun W => by kernel_rfl
        have hcast : ((0 : Nat) : Int) = 0 := rfl
        rw [hcast]
        generalize hrest : areFrom a b c (0 + 1) = rest at hr
        have HREST := hide hrest
        clear hrest HR
        by_cases t0 : 0 ≤ a
        · rw [decide_eq_true t0, Bool.true_and] at hr
          by_cases t1 : a ≤ 50
          · rw [decide_eq_true t1, Bool.true_and] at hr
            subst hr
            go_wp2
            go_roundw
            case rel => exact ⟨0 + 1, by go_num, by omega, (by show _ = _; rw [unhide HREST]), (by first | rfl | trivial)⟩
            case measure => simp [intOf]
          · rw [decide_eq_false t1, Bool.false_and] at hr
            subst hr
            go_wp2
            go_ret
            exact ⟨rfl, below_new _ _⟩
        · rw [decide_eq_false t0, Bool.false_and, Bool.false_and] at hr
          subst hr
          go_wp2
          go_ret
          exact ⟨rfl, below_new _ _⟩
      · have hr := (unhide HR).trans (unhide HST 1 b (by omega) rfl)
        have hix : ∀ W : World, (Instr.index 112 (.agg #[.int .i64 a, .int .i64 b, .int .i64 c]) (.int .i64 (1 : Int))).run Try.prog W = .ok (.int .i64 b) W := fun W => by kernel_rfl
        have hcast : ((1 : Nat) : Int) = 1 := rfl
        rw [hcast]
        generalize hrest : areFrom a b c (1 + 1) = rest at hr
        have HREST := hide hrest
        clear hrest HR
        by_cases t0 : 0 ≤ b
        · rw [decide_eq_true t0, Bool.true_and] at hr
          by_cases t1 : b ≤ 50
          · rw [decide_eq_true t1, Bool.true_and] at hr
            subst hr
            go_wp2
            go_roundw
            case rel => exact ⟨1 + 1, by go_num, by omega, (by show _ = _; rw [unhide HREST]), (by first | rfl | trivial)⟩
            case measure => simp [intOf]
          · rw [decide_eq_false t1, Bool.false_and] at hr
            subst hr
            go_wp2
            go_ret
            exact ⟨rfl, below_new _ _⟩
        · rw [decide_eq_false t0, Bool.false_and, Bool.false_and] at hr
          subst hr
          go_wp2
          go_ret
          exact ⟨rfl, below_new _ _⟩
      · have hr := (unhide HR).trans (unhide HST 2 c (by omega) rfl)
        have hix : ∀ W : World, (Instr.index 112 (.agg #[.int .i64 a, .int .i64 b, .int .i64 c]) (.int .i64 (2 : Int))).run Try.prog W = .ok (.int .i64 c) W := fun W => by kernel_rfl
        have hcast : ((2 : Nat) : Int) = 2 := rfl
        rw [hcast]
        generalize hrest : areFrom a b c (2 + 1) = rest at hr
        have HREST := hide hrest
        clear hrest HR
        by_cases t0 : 0 ≤ c
        · rw [decide_eq_true t0, Bool.true_and] at hr
          by_cases t1 : c ≤ 50
          · rw [decide_eq_true t1, Bool.true_and] at hr
            subst hr
            go_wp2
            go_roundw
            case rel => exact ⟨2 + 1, by go_num, by omega, (by show _ = _; rw [unhide HREST]), (by first | rfl | trivial)⟩
            case measure => simp [intOf]
          · rw [decide_eq_false t1, Bool.false_and] at hr
            subst hr
            go_wp2
            go_ret
            exact ⟨rfl, below_new _ _⟩
        · rw [decide_eq_false t0, Bool.false_and, Bool.false_and] at hr
          subst hr
          go_wp2
          go_ret
          exact ⟨rfl, below_new _ _⟩
    · obtain rfl : j = 3 := by omega
      have hr := (unhide HR).trans (unhide HEND)
      subst hr
      go_wp2
      go_ret
      exact ⟨rfl, below_new _ _⟩
set_option maxRecDepth 100000 in
set_option maxHeartbeats 1000000 in
theorem isEdgeAmong_any (x : EdgeI) (s : Int) (w : World) :
    Calls Try.prog 49 #[x.v, .int .i64 s] w fun e w' => e = .returned (.bool (edgeOk s x)) ∧ Below w.heap.size w w' := by
  have HW := hide (fun w => worthsOf_any x w)
  have HA := hide (fun w => areWorths_any x.W1 x.W2 x.W3 w)
  have hr : edgeOk s x = (((decide (0 ≤ x.A) && decide (x.A < s)) && (decide (0 ≤ x.B) && decide (x.B < s))) && (decide (x.A < x.B) && (worthOk x.W1 && (worthOk x.W2 && worthOk x.W3)))) := by
    unfold edgeOk
    generalize (worthOk x.W1 && (worthOk x.W2 && worthOk x.W3)) = k
    by_cases h1 : 0 ≤ x.A <;> by_cases h2 : x.A < x.B <;> by_cases h3 : x.B < s <;> cases k <;> simp [h1, h2, h3] <;> omega
  generalize edgeOk s x = r at hr ⊢
  generalize (worthOk x.W1 && (worthOk x.W2 && worthOk x.W3)) = k at HA hr
  have P0 := hide (fun w => isPlace_is x.A s w)
  have P1 := hide (fun w => isPlace_is x.B s w)
  generalize (decide (0 ≤ x.A) && decide (x.A < s)) = k0 at P0 hr
  generalize (decide (0 ≤ x.B) && decide (x.B < s)) = k1 at P1 hr
  unfold EdgeI.v at HW ⊢
  obtain ⟨y0, y1, y2, y3, y4⟩ := x
  simp only at HW HA P0 P1 hr ⊢
  cases k0 with
  | false =>
    rw [Bool.false_and, Bool.false_and] at hr
    subst hr
    go_enter Try.func49, Try.ntmps49
    go_wp2_with fail
    refine (unhide P0 _).mono ?_
    rintro e wk ⟨rfl, rfl⟩
    go_wp2
    go_ret
    exact ⟨rfl, below_new _ _⟩
  | true =>
    rw [Bool.true_and] at hr
    cases k1 with
    | false =>
      rw [Bool.false_and] at hr
      subst hr
      go_enter Try.func49, Try.ntmps49
      go_wp2_with fail
      refine (unhide P0 _).mono ?_
      rintro e wk ⟨rfl, rfl⟩
      go_wp2_with fail
      refine (unhide P1 _).mono ?_
      rintro e wk ⟨rfl, rfl⟩
      go_wp2
      go_ret
      exact ⟨rfl, below_new _ _⟩
    | true =>
      rw [Bool.true_and] at hr
      by_cases t : y0 < y1
      · rw [decide_eq_true t, Bool.true_and] at hr
        subst hr
        go_enter Try.func49, Try.ntmps49
        go_wp2_with fail
        refine (unhide P0 _).mono ?_
        rintro e wk ⟨rfl, rfl⟩
        go_wp2_with fail
        refine (unhide P1 _).mono ?_
        rintro e wk ⟨rfl, rfl⟩
        go_wp2_with fail
        refine (unhide HW _).mono ?_
        rintro e w1 ⟨rfl, hb1⟩
        have b1 : Below w.heap.size w w1 := (below_new _ _).trans (hb1.mono (by simp))
        clear hb1
        go_wp2_with fail
        refine (unhide HA _).mono ?_
        rintro e w2 ⟨rfl, hb2⟩
        have b2 : Below w.heap.size w w2 := b1.trans (hb2.mono b1.size)
        clear hb2
        go_wp2
        go_ret
        exact ⟨rfl, b2⟩
      · rw [decide_eq_false t, Bool.false_and] at hr
        subst hr
        go_enter Try.func49, Try.ntmps49
        go_wp2_with fail
        refine (unhide P0 _).mono ?_
        rintro e wk ⟨rfl, rfl⟩
        go_wp2_with fail
        refine (unhide P1 _).mono ?_
        rintro e wk ⟨rfl, rfl⟩
        go_wp2
        go_ret
        exact ⟨rfl, below_new _ _⟩
set_option maxRecDepth 100000 in
theorem implScalar_any (x : EdgeI) (w : World) :
    Calls Try.prog 62 #[x.v] w fun e w' => e = .returned (.int .i64 (scal x)) ∧ Below w.heap.size w w' := by
  have HS : Hid (scal x = wrap64 (wrap64 (wrap64 (90000 * x.W1) + wrap64 (300 * x.W2)) + x.W3)) := by
    show _ = _
    unfold scal
    simp only [wrap_mod]
    omega
  have HW := hide (fun w => worthsOf_any x w)
  generalize scal x = r at HS
  unfold EdgeI.v at HW ⊢
  obtain ⟨y0, y1, y2, y3, y4⟩ := x
  simp only at HS HW ⊢
  go_enter Try.func62, Try.ntmps62
  go_wp2_with fail
  refine (unhide HW _).mono ?_
  rintro e w1 ⟨rfl, hb1⟩
  have b1 : Below w.heap.size w w1 := (below_new _ _).trans (hb1.mono (by simp))
  clear hb1
  unfold w3
  go_wp2
  go_ret
  rw [unhide HS]
  exact ⟨rfl, b1.alloc b1.size _⟩
set_option maxRecDepth 100000 in
set_option maxHeartbeats 4000000 in
theorem implGraph_gen (B : Nat) (v : Value) (s : Int) (Q : List EdgeI) (h1 : Q.length ≤ 1048576) (w : World) (hB : B ≤ w.heap.size) (hv : GrAt w v B s Q) :
    Calls Try.prog 22 #[v] w fun e w' => e = .returned (.bool (graphOk s Q)) ∧ Below w.heap.size w w' := by
  obtain ⟨a, n, c, rfl, hE⟩ := hv
  have hg : graphOk s Q = ((decide (0 ≤ s) && decide (s ≤ 9)) && okFrom s none Q) := rfl
  by_cases s0 : s < 0
  · rw [decide_eq_false (show ¬ 0 ≤ s by omega), Bool.false_and, Bool.false_and] at hg
    rw [hg]
    clear hE hg
    go_enter Try.func22, Try.ntmps22
    go_wp2
    go_ret
    exact ⟨rfl, below_new _ _⟩
  rw [decide_eq_true (show 0 ≤ s by omega), Bool.true_and] at hg
  by_cases s9 : 9 < s
  · rw [decide_eq_false (show ¬ s ≤ 9 by omega), Bool.false_and] at hg
    rw [hg]
    clear hE hg
    go_enter Try.func22, Try.ntmps22
    go_wp2
    go_ret
    exact ⟨rfl, below_new _ _⟩
  rw [decide_eq_true (show s ≤ 9 by omega), Bool.true_and] at hg
  obtain ⟨hL, hc⟩ := hE
  have HST := hide (fun k h => okFrom_step s Q k h)
  have HEND : Hid (okFrom s (prevE Q n) (Q.drop n) = true) := by show _ = _; rw [← hL, List.drop_length]; cases prevE Q Q.length <;> rfl
  have H0 : Hid (graphOk s Q = okFrom s (prevE Q 0) (Q.drop 0)) := hg
  have HC := hide hc
  have HL := hide hL
  generalize graphOk s Q = r at H0
  have HN : Hid (n ≤ 1048576) := by show _ ≤ _; omega
  clear hc hL hg h1
  go_enter Try.func22, Try.ntmps22
  go_wp2_with fail
  obtain ⟨V1, hV1⟩ : ∃ W, W = w.alloc (Obj.cells #[Value.int .i64 s, Value.slice a n c] 26) := ⟨_, rfl⟩
  rw [← hV1]
  have x1 : GBox V1 w.heap.size s (.slice a n c) := by rw [hV1]; exact GBox.new _ _ _
  have b1 : Below w.heap.size w V1 := by rw [hV1]; exact below_new _ _
  have z1 : V1.heap.size = w.heap.size + 1 := by rw [hV1]; simp
  clear hV1
  obtain ⟨p0, p1⟩ := x1.cells
  go_loopw [16] (fun i wr => ∃ j : Nat, i = .int .i64 (j : Int) ∧ j ≤ n ∧ Hid (r = okFrom s (prevE Q j) (Q.drop j)) ∧ Below (w.heap.size + 1) V1 wr) (fun i _ => n - (intOf i).toNat)
  case atStart => exact ⟨0, rfl, Nat.zero_le _, unhide H0, Below.refl _ _⟩
  case round =>
    obtain ⟨j, rfl, hj, HR, hb⟩ := hrel
    have hsr := hb.size
    have g0 := p0
    have g1 := p1
    rw [← hb.cell (p := ⟨w.heap.size, 0, none⟩) (by simp)] at g0
    rw [← hb.cell (p := ⟨w.heap.size, 1, none⟩) (by simp)] at g1
    have hbw : Below w.heap.size w wr := b1.trans (hb.mono (by omega))
    by_cases hlt : j < n
    · have hjL : j < Q.length := by have := unhide HL; omega
      obtain ⟨b, off, rfl, hbB, c0, c1, c2, c3, c4⟩ := unhide HC j hjL
      rw [← hbw.cell (p := ⟨b, off + j * 5, none⟩) (by simp; omega)] at c0
      rw [← hbw.cell (p := ⟨b, off + j * 5 + 1, none⟩) (by simp; omega)] at c1
      rw [← hbw.cell (p := ⟨b, off + j * 5 + 2, none⟩) (by simp; omega)] at c2
      rw [← hbw.cell (p := ⟨b, off + j * 5 + 3, none⟩) (by simp; omega)] at c3
      rw [← hbw.cell (p := ⟨b, off + j * 5 + 4, none⟩) (by simp; omega)] at c4
      have HPR : Hid (∀ q, prevE Q j = some q → 0 < j ∧ wr.cell? ⟨b, off + (j - 1) * 5, none⟩ = some (.int .i64 q.A) ∧ wr.cell? ⟨b, off + (j - 1) * 5 + 1, none⟩ = some (.int .i64 q.B) ∧ wr.cell? ⟨b, off + (j - 1) * 5 + 2, none⟩ = some (.int .i64 q.W1) ∧ wr.cell? ⟨b, off + (j - 1) * 5 + 3, none⟩ = some (.int .i64 q.W2) ∧ wr.cell? ⟨b, off + (j - 1) * 5 + 4, none⟩ = some (.int .i64 q.W3)) := fun q hq => by
        unfold prevE at hq
        split at hq
        · cases hq
        · have hj1 : j - 1 < Q.length := by omega
          obtain ⟨b', off', e', _, k0, k1, k2, k3, k4⟩ := unhide HC (j - 1) hj1
          simp at e'
          obtain ⟨rfl, rfl⟩ := e'
          rw [List.getElem?_eq_getElem hj1] at hq
          obtain rfl := Option.some.inj hq
          refine ⟨by omega, ?_, ?_, ?_, ?_, ?_⟩
          · rw [hbw.cell (p := ⟨b, off + (j - 1) * 5, none⟩) (by simp; omega)]; exact k0
          · rw [hbw.cell (p := ⟨b, off + (j - 1) * 5 + 1, none⟩) (by simp; omega)]; exact k1
          · rw [hbw.cell (p := ⟨b, off + (j - 1) * 5 + 2, none⟩) (by simp; omega)]; exact k2
          · rw [hbw.cell (p := ⟨b, off + (j - 1) * 5 + 3, none⟩) (by simp; omega)]; exact k3
          · rw [hbw.cell (p := ⟨b, off + (j - 1) * 5 + 4, none⟩) (by simp; omega)]; exact k4
      have HPZ : Hid (prevE Q j = none → j = 0) := fun h => by
        unfold prevE at h
        split at h
        · assumption
        · rw [List.getElem?_eq_getElem (show j - 1 < Q.length by omega)] at h; cases h
      have hr := (unhide HR).trans (unhide HST j hjL)
      have hwl : w.heap.size < wr.heap.size := by omega
      have hbl : b < wr.heap.size := by omega
      have hx0 : (0 : Int) ≤ (j : Int) := by omega
      have hx1 : (j : Int) < (n : Int) := by omega
      have hx2 : (n : Int) ≤ 9223372036854775807 := by have := unhide HN; omega
      generalize Q[j] = q at c0 c1 c2 c3 c4 hr
      generalize hrest : okFrom s (prevE Q (j + 1)) (Q.drop (j + 1)) = rest at hr
      have HREST := hide hrest
      clear hrest
      generalize hpe : prevE Q j = pe at hr HPR HPZ
      have HM := hide (fun w => isEdgeAmong_any q s w)
      have HAH := hide (fun p w => isEdgeAhead_any p q w)
      have HAO : Hid (∀ p, aheadOf (some p) q = ahead p q) := fun _ => rfl
      generalize edgeOk s q = kE at HM hr
      unfold EdgeI.v at HM HAH
      obtain ⟨y0, y1, y2, y3, y4⟩ := q
      simp only at c0 c1 c2 c3 c4 HM
      clear hpe HR
      go_upto_region 6 with fail
      obtain ⟨V2, hV2⟩ : ∃ W, W = wr.alloc (Obj.cells #[Value.int .i64 y0, Value.int .i64 y1, Value.int .i64 y2, Value.int .i64 y3, Value.int .i64 y4] 68) := ⟨_, rfl⟩
      rw [← hV2]
      have z2 : V2.heap.size = wr.heap.size + 1 := by rw [hV2]; simp
      have e2 : V2.heap[wr.heap.size]? = some (.cells #[Value.int .i64 y0, Value.int .i64 y1, Value.int .i64 y2, Value.int .i64 y3, Value.int .i64 y4] 68 (0, 0)) := by rw [hV2]; exact heap_alloc_new _ _
      have hn2 : Below wr.heap.size wr V2 := by rw [hV2]; exact below_new _ _
      clear hV2
      have G (d : Grown V2.heap.size V2) : Below wr.heap.size wr d.w := hn2.trans (d.below.mono (by omega))
      have k0 : ∀ d : Grown V2.heap.size V2, d.w.cell? ⟨wr.heap.size, 0, none⟩ = some (.int .i64 y0) := fun d => d.cell (by omega) (by rw [cell_of_row V2 wr.heap.size 0 _ 68 (0, 0) e2]; rfl)
      have k1 : ∀ d : Grown V2.heap.size V2, d.w.cell? ⟨wr.heap.size, 1, none⟩ = some (.int .i64 y1) := fun d => d.cell (by omega) (by rw [cell_of_row V2 wr.heap.size 1 _ 68 (0, 0) e2]; rfl)
      have k2 : ∀ d : Grown V2.heap.size V2, d.w.cell? ⟨wr.heap.size, 2, none⟩ = some (.int .i64 y2) := fun d => d.cell (by omega) (by rw [cell_of_row V2 wr.heap.size 2 _ 68 (0, 0) e2]; rfl)
      have k3 : ∀ d : Grown V2.heap.size V2, d.w.cell? ⟨wr.heap.size, 3, none⟩ = some (.int .i64 y3) := fun d => d.cell (by omega) (by rw [cell_of_row V2 wr.heap.size 3 _ 68 (0, 0) e2]; rfl)
      have k4 : ∀ d : Grown V2.heap.size V2, d.w.cell? ⟨wr.heap.size, 4, none⟩ = some (.int .i64 y4) := fun d => d.cell (by omega) (by rw [cell_of_row V2 wr.heap.size 4 _ 68 (0, 0) e2]; rfl)
      have k5 : ∀ d : Grown V2.heap.size V2, d.w.cell? ⟨w.heap.size, 0, none⟩ = some (.int .i64 s) := fun d => ((G d).cell (p := ⟨w.heap.size, 0, none⟩) hwl).trans g0
      have k6 : ∀ d : Grown V2.heap.size V2, d.w.cell? ⟨w.heap.size, 1, none⟩ = some (.slice (some ⟨b, off, none⟩) n c) := fun d => ((G d).cell (p := ⟨w.heap.size, 1, none⟩) hwl).trans g1
      have HG := hide G
      have HEN : Hid (∀ d : Grown V2.heap.size V2, Below (w.heap.size + 1) V1 d.w) := fun d => hb.trans ((G d).mono (by omega))
      have HWN : Hid (∀ d : Grown V2.heap.size V2, Below w.heap.size w d.w) := fun d => hbw.trans ((G d).mono (by omega))
      clear G e2 hn2 z2 hb hbw g0 g1 c0 c1 c2 c3 c4 p0 p1
      cases kE with
      | false =>
        rw [Bool.false_and] at hr
        subst hr
        refine wp_region_grown V2.heap.size (by kernel_rfl) (by kernel_rfl) ?_
        repeat (go_big_quiet_step (first | (go_at_call 49; exact Calls.grown (Nat.le_refl _) (unhide HM _))))
        refine wpQuiet_nil ?_
        rintro w5 ⟨d5, rfl⟩
        go_wp2
        go_ret
        exact ⟨rfl, unhide HWN d5⟩
      | true =>
        rw [Bool.true_and] at hr
        cases pe with
        | none =>
          obtain rfl := unhide HPZ rfl
          change r = rest at hr
          have hz : decide (0 < 0) = false := rfl
          refine wp_region_grown V2.heap.size (by kernel_rfl) (by kernel_rfl) ?_
          repeat (go_big_quiet_step (first | (go_at_call 49; exact Calls.grown (Nat.le_refl _) (unhide HM _))))
          refine wpQuiet_nil ?_
          rintro w5 ⟨d5, rfl⟩
          go_wp2
          go_roundw
          case rel => exact ⟨0 + 1, by go_num, by omega, (by show _ = _; rw [unhide HREST]; exact hr), unhide HEN d5⟩
          case measure => simp [intOf]; omega
        | some q =>
          obtain ⟨hj0, d0, d1, d2, d3, d4⟩ := unhide HPR q rfl
          obtain ⟨i, rfl⟩ : ∃ i, j = i + 1 := ⟨j - 1, by omega⟩
          rw [Nat.add_sub_cancel] at d0 d1 d2 d3 d4
          rw [unhide HAO] at hr
          have HA := hide (unhide HAH q)
          generalize ahead q _ = kA at HA hr
          obtain ⟨x0, x1, x2, x3, x4⟩ := q
          simp only at d0 d1 d2 d3 d4 HA
          have m0 : ∀ d : Grown V2.heap.size V2, d.w.cell? ⟨b, off + i * 5, none⟩ = some (.int .i64 x0) := fun d => ((unhide HG d).cell (p := ⟨b, off + i * 5, none⟩) hbl).trans d0
          have m1 : ∀ d : Grown V2.heap.size V2, d.w.cell? ⟨b, off + i * 5 + 1, none⟩ = some (.int .i64 x1) := fun d => ((unhide HG d).cell (p := ⟨b, off + i * 5 + 1, none⟩) hbl).trans d1
          have m2 : ∀ d : Grown V2.heap.size V2, d.w.cell? ⟨b, off + i * 5 + 2, none⟩ = some (.int .i64 x2) := fun d => ((unhide HG d).cell (p := ⟨b, off + i * 5 + 2, none⟩) hbl).trans d2
          have m3 : ∀ d : Grown V2.heap.size V2, d.w.cell? ⟨b, off + i * 5 + 3, none⟩ = some (.int .i64 x3) := fun d => ((unhide HG d).cell (p := ⟨b, off + i * 5 + 3, none⟩) hbl).trans d3
          have m4 : ∀ d : Grown V2.heap.size V2, d.w.cell? ⟨b, off + i * 5 + 4, none⟩ = some (.int .i64 x4) := fun d => ((unhide HG d).cell (p := ⟨b, off + i * 5 + 4, none⟩) hbl).trans d4
          have hj1 : (0 : Int) < (i : Int) + 1 := by omega
          have hi0 : (0 : Int) ≤ (i : Int) := by omega
          have hi1 : (i : Int) < (n : Int) := by omega
          clear d0 d1 d2 d3 d4
          cases kA with
          | false =>
            rw [Bool.false_and] at hr
            subst hr
            refine wp_region_grown V2.heap.size (by kernel_rfl) (by kernel_rfl) ?_
            repeat (go_big_quiet_step (first | (go_at_call 49; exact Calls.grown (Nat.le_refl _) (unhide HM _)) | (go_at_call 50; exact Calls.grown (Nat.le_refl _) (unhide HA _))))
            refine wpQuiet_nil ?_
            rintro w5 ⟨d5, rfl⟩
            go_wp2
            go_ret
            exact ⟨rfl, unhide HWN d5⟩
          | true =>
            rw [Bool.true_and] at hr
            refine wp_region_grown V2.heap.size (by kernel_rfl) (by kernel_rfl) ?_
            repeat (go_big_quiet_step (first | (go_at_call 49; exact Calls.grown (Nat.le_refl _) (unhide HM _)) | (go_at_call 50; exact Calls.grown (Nat.le_refl _) (unhide HA _))))
            refine wpQuiet_nil ?_
            rintro w5 ⟨d5, rfl⟩
            go_wp2
            go_roundw
            case rel => exact ⟨i + 1 + 1, by go_num, by omega, (by show _ = _; rw [unhide HREST]; exact hr), unhide HEN d5⟩
            case measure => simp [intOf]; omega
    · obtain rfl : j = n := by omega
      have hr := (unhide HR).trans (unhide HEND)
      subst hr
      go_wp2
      go_ret
      exact ⟨rfl, hbw⟩
theorem hit_le {s x y : Int} {e : EdgeI} (he : edgeOk s e = true) (hxy : x ≤ y) : hit x y e = ((e.A == x) && (e.B == y)) := by
  have := (edgeOk_iff s e).1 he
  unfold hit
  by_cases h1 : e.A = x <;> by_cases h2 : e.B = y <;> by_cases h3 : e.A = y <;> by_cases h4 : e.B = x <;> simp [h1, h2, h3, h4] <;> omega
theorem hit_gt {s x y : Int} {e : EdgeI} (he : edgeOk s e = true) (hxy : y < x) : hit x y e = ((e.A == y) && (e.B == x)) := by
  have := (edgeOk_iff s e).1 he
  unfold hit
  by_cases h1 : e.A = x <;> by_cases h2 : e.B = y <;> by_cases h3 : e.A = y <;> by_cases h4 : e.B = x <;> simp [h1, h2, h3, h4] <;> omega
theorem hit_min {s x y : Int} {e : EdgeI} (he : edgeOk s e = true) : hit x y e = ((e.A == min x y) && (e.B == max x y)) := by
  by_cases hxy : x ≤ y
  · rw [hit_le he hxy, Int.min_eq_left hxy, Int.max_eq_right hxy]
  · rw [hit_gt he (by omega), Int.min_eq_right (by omega), Int.max_eq_left (by omega)]
set_option maxRecDepth 100000 in
set_option maxHeartbeats 2000000 in
theorem implEdgeAt_gen (B : Nat) (v : Value) (s : Int) (Q : List EdgeI) (x y : Int) (h1 : Q.length ≤ 1048576) (w : World) (hB : B ≤ w.heap.size) (hv : GrAt w v B s Q) :
    Calls Try.prog 63 #[v, .int .i64 x, .int .i64 y] w fun e w' => e = .returned (.int .i64 (edgeAtV s x y Q)) ∧ Below w.heap.size w w' := by
  have OK := hide (fun w1 (hb : Below w.heap.size w w1) => implGraph_gen B v s Q h1 w1 (by have := hb.size; omega) (hv.below hb hB))
  obtain ⟨a, n, c, rfl, hE⟩ := hv
  obtain ⟨hL, hc⟩ := hE
  have hV : edgeAtV s x y Q = if graphOk s Q = true then atFrom x y 0 Q else -1 := rfl
  have HH : Hid (graphOk s Q = true → ∀ k (h : k < Q.length), hit x y Q[k] = ((Q[k].A == min x y) && (Q[k].B == max x y))) := fun hg k h => by
    obtain ⟨_, _, h2, _⟩ := graph_sound hg
    exact hit_min (h2 _ (List.getElem_mem h))
  have HST := hide (fun k h => atFrom_step x y Q k h)
  have HEND : Hid (atFrom x y n (Q.drop n) = -1) := by show _ = _; rw [← hL, List.drop_length]; rfl
  have H0 : Hid (atFrom x y 0 Q = atFrom x y 0 (Q.drop 0)) := rfl
  have HC := hide hc
  have HL := hide hL
  have HN : Hid (n ≤ 1048576) := by show _ ≤ _; omega
  generalize edgeAtV s x y Q = V at hV ⊢
  generalize atFrom x y 0 Q = r at H0 hV
  generalize graphOk s Q = ok at OK hV HH
  clear h1 hc hL
  obtain ⟨mn, hmn⟩ : ∃ m, m = min x y := ⟨_, rfl⟩
  obtain ⟨mx, hmx⟩ : ∃ m, m = max x y := ⟨_, rfl⟩
  rw [← hmn, ← hmx] at HH
  go_enter Try.func63, Try.ntmps63
  go_wp2_with fail
  obtain ⟨V1, hV1⟩ : ∃ W, W = w.alloc (Obj.cells #[Value.int .i64 s, Value.slice a n c] 26) := ⟨_, rfl⟩
  rw [← hV1]
  have x1 : GBox V1 w.heap.size s (.slice a n c) := by rw [hV1]; exact GBox.new _ _ _
  have b1 : Below w.heap.size w V1 := by rw [hV1]; exact below_new _ _
  clear hV1
  refine (unhide OK V1 b1).mono ?_
  rintro e w2 ⟨rfl, hb2⟩
  have x2 := x1.below hb2
  have b2 := b1.trans (hb2.mono b1.size)
  have hwl := x2.lt
  obtain ⟨p0, p1⟩ := x2.cells
  clear hb2 x1
  cases ok
  · rw [if_neg (by simp)] at hV
    subst hV
    go_wp2
    go_ret
    exact ⟨rfl, b2⟩
  · rw [if_pos rfl] at hV
    subst hV
    have HHT := hide (unhide HH rfl)
    clear HH
    go_wp2_with fail
    go_loopw [15] (fun i wr => ∃ j : Nat, i = .int .i64 (j : Int) ∧ j ≤ n ∧ Hid (V = atFrom x y j (Q.drop j)) ∧ Below w2.heap.size w2 wr) (fun i _ => n - (intOf i).toNat)
    case atStart => exact ⟨0, rfl, Nat.zero_le _, unhide H0, Below.refl _ _⟩
    case round =>
      obtain ⟨j, rfl, hj, HR, hb⟩ := hrel
      have b3 := b2.trans (hb.mono b2.size)
      by_cases hlt : j < n
      · have hjL : j < Q.length := by have := unhide HL; omega
        obtain ⟨b, off, rfl, hbB, c0, c1, c2, c3, c4⟩ := unhide HC j hjL
        rw [← b3.cell (p := ⟨b, off + j * 5, none⟩) (by simp; omega)] at c0
        rw [← b3.cell (p := ⟨b, off + j * 5 + 1, none⟩) (by simp; omega)] at c1
        rw [← b3.cell (p := ⟨b, off + j * 5 + 2, none⟩) (by simp; omega)] at c2
        rw [← b3.cell (p := ⟨b, off + j * 5 + 3, none⟩) (by simp; omega)] at c3
        rw [← b3.cell (p := ⟨b, off + j * 5 + 4, none⟩) (by simp; omega)] at c4
        have hr := (unhide HR).trans (unhide HST j hjL)
        rw [unhide HHT j hjL] at hr
        generalize hrest : atFrom x y (j + 1) (Q.drop (j + 1)) = rest at hr
        have HREST := hide hrest
        have hx0 : (0 : Int) ≤ (j : Int) := by omega
        have hx1 : (j : Int) < (n : Int) := by omega
        have hx2 : (n : Int) ≤ 9223372036854775807 := by have := unhide HN; omega
        have HBN : Hid (Below w2.heap.size w2 (wr.alloc (Obj.cells #[Value.int .i64 Q[j].A, Value.int .i64 Q[j].B, Value.int .i64 Q[j].W1, Value.int .i64 Q[j].W2, Value.int .i64 Q[j].W3] 68))) := hb.alloc hb.size _
        have HBW : Hid (Below w.heap.size w (wr.alloc (Obj.cells #[Value.int .i64 Q[j].A, Value.int .i64 Q[j].B, Value.int .i64 Q[j].W1, Value.int .i64 Q[j].W2, Value.int .i64 Q[j].W3] 68))) := b3.alloc b3.size _
        generalize Q[j] = q at c0 c1 c2 c3 c4 hr HBN HBW
        obtain ⟨y0, y1, y2, y3, y4⟩ := q
        simp only at c0 c1 c2 c3 c4 hr HBN HBW
        clear hrest HR hb b3 b2 b1
        by_cases hxy : x ≤ y
        · rw [Int.min_eq_left hxy] at hmn
          rw [Int.max_eq_right hxy] at hmx
          subst hmn hmx
          cases t0 : (y0 == mn) <;> cases t1 : (y1 == mx)
          all_goals
            rw [t0, t1] at hr
            simp only [Bool.and_true, Bool.and_false, Bool.false_eq_true, if_true, if_false] at hr
            subst hr
            go_wp2
            first
              | (all_goals (go_ret; exact ⟨rfl, unhide HBW⟩))
              | (go_roundw
                 case rel => exact ⟨j + 1, by go_num, by omega, (by show _ = _; rw [unhide HREST]), unhide HBN⟩
                 case measure => simp [intOf]; omega)
        · rw [Int.min_eq_right (by omega)] at hmn
          rw [Int.max_eq_left (by omega)] at hmx
          subst hmn hmx
          have hyx : mn < mx := by omega
          cases t0 : (y0 == mn) <;> cases t1 : (y1 == mx)
          all_goals
            rw [t0, t1] at hr
            simp only [Bool.and_true, Bool.and_false, Bool.false_eq_true, if_true, if_false] at hr
            subst hr
            go_wp2
            first
              | (all_goals (go_ret; exact ⟨rfl, unhide HBW⟩))
              | (go_roundw
                 case rel => exact ⟨j + 1, by go_num, by omega, (by show _ = _; rw [unhide HREST]), unhide HBN⟩
                 case measure => simp [intOf]; omega)
      · obtain rfl : j = n := by omega
        have hr := (unhide HR).trans (unhide HEND)
        subst hr
        go_wp2
        go_ret
        exact ⟨rfl, b3⟩
def chainFrom : Option Int → List Int → Bool
  | _, [] => true
  | p, y :: r => (match p with | none => true | some q => decide (q < y)) && chainFrom (some y) r
def allIn (s : Int) : List Int → Bool
  | [] => true
  | y :: r => (decide (0 ≤ y) && decide (y < s)) && allIn s r
theorem asc_parts (s : Int) : ∀ (K : List Int) (p : Option Int), ascFrom s p K = (chainFrom p K && allIn s K)
  | [], _ => rfl
  | y :: r, p => by
    unfold ascFrom chainFrom allIn
    rw [asc_parts s r (some y)]
    have e : decide (y ≤ s - 1) = decide (y < s) := by rw [decide_eq_decide]; omega
    rw [e]
    generalize (decide (0 ≤ y) && decide (y < s)) = a
    generalize chainFrom (some y) r = b
    generalize allIn s r = c
    cases p with
    | none => cases a <;> cases b <;> cases c <;> rfl
    | some q =>
      simp only
      generalize decide (q < y) = d
      cases a <;> cases b <;> cases c <;> cases d <;> rfl
theorem chainFrom_step (K : List Int) (k : Nat) (h : k < K.length) (h0 : 0 < k) : chainFrom (prevK K k) (K.drop k) = (decide (K[k - 1] < K[k]) && chainFrom (prevK K (k + 1)) (K.drop (k + 1))) := by
  rw [← List.getElem_cons_drop h]
  have e : prevK K (k + 1) = some K[k] := by unfold prevK; simp [h]
  have e2 : prevK K k = some K[k - 1] := by unfold prevK; rw [if_neg (by omega), List.getElem?_eq_getElem (by omega)]
  rw [e, e2]
  rfl
theorem chainFrom_one (K : List Int) : chainFrom none K = chainFrom (prevK K 1) (K.drop 1) := by
  cases K with
  | nil => rfl
  | cons y r => rfl
theorem chainFrom_end (K : List Int) (k : Nat) (h : K.length ≤ k) : chainFrom (prevK K k) (K.drop k) = true := by
  rw [List.drop_of_length_le h]
  cases prevK K k <;> rfl
set_option maxRecDepth 100000 in
set_option maxHeartbeats 1000000 in
theorem isAsc_any (a : Option Addr) (n c B : Nat) (K : List Int) (hn : n ≤ 1048576) (w : World) (hB : B ≤ w.heap.size) (hK : IntsAt w a n B K) :
    Calls Try.prog 67 #[.slice a n c] w fun e w' => e = .returned (.bool (chainFrom none K)) ∧ Below w.heap.size w w' := by
  obtain ⟨hL, hc⟩ := hK
  have HST := hide (fun k h h0 => chainFrom_step K k h h0)
  have HEND : Hid (∀ k, n ≤ k → chainFrom (prevK K k) (K.drop k) = true) := fun k hk => chainFrom_end K k (by omega)
  have H0 : Hid (chainFrom none K = chainFrom (prevK K 1) (K.drop 1)) := chainFrom_one K
  have HC := hide hc
  have HL := hide hL
  generalize chainFrom none K = r at H0 ⊢
  clear hc hL
  go_enter Try.func67, Try.ntmps67
  go_wp2_with fail
  go_loopw [3] (fun i wr => ∃ k : Nat, i = .int .i64 k ∧ 0 < k ∧ k ≤ n + 1 ∧ Hid (r = chainFrom (prevK K k) (K.drop k)) ∧ Below w.heap.size w wr) (fun i _ => n + 1 - (intOf i).toNat)
  case atStart => exact ⟨1, rfl, by omega, by omega, unhide H0, Below.refl _ _⟩
  case round =>
    obtain ⟨k, rfl, hk0, hk, HR, hb⟩ := hrel
    by_cases hlt : k < n
    · have hkL : k < K.length := by have := unhide HL; omega
      obtain ⟨i, rfl⟩ : ∃ i, k = i + 1 := ⟨k - 1, by omega⟩
      obtain ⟨b, off, rfl, hbB, c1⟩ := unhide HC (i + 1) hkL
      obtain ⟨b', off', e', _, c0⟩ := unhide HC i (by omega)
      simp at e'
      obtain ⟨rfl, rfl⟩ := e'
      have hr := (unhide HR).trans (unhide HST (i + 1) hkL hk0)
      rw [← hb.cell (p := ⟨b, off + (i + 1), none⟩) (by simp; omega)] at c1
      rw [← hb.cell (p := ⟨b, off + i, none⟩) (by simp; omega)] at c0
      generalize hrest : chainFrom (prevK K (i + 1 + 1)) (K.drop (i + 1 + 1)) = rest at hr
      have HREST := hide hrest
      simp only [Nat.add_sub_cancel] at hr
      have hx0 : (0 : Int) ≤ (i : Int) := by omega
      have hx1 : (i : Int) + 1 < (n : Int) := by omega
      have hx3 : (i : Int) < (n : Int) := by omega
      have hx2 : (n : Int) ≤ 9223372036854775807 := by omega
      generalize K[i + 1] = y at c1 hr
      generalize K[i] = z at c0 hr
      clear hrest HR
      by_cases t : z < y
      · rw [decide_eq_true t, Bool.true_and] at hr
        subst hr
        go_upto_region 4 with fail
        go_quiet (fail)
        go_wp2
        go_roundw
        case rel => exact ⟨i + 1 + 1, by go_num, by omega, by omega, (by show _ = _; rw [unhide HREST]), below_drewN hb _⟩
        case measure => simp [intOf]; omega
      · rw [decide_eq_false t, Bool.false_and] at hr
        subst hr
        go_upto_region 4 with fail
        go_quiet (fail)
        go_wp2
        go_ret
        exact ⟨rfl, below_drewN hb _⟩
    · have hr := (unhide HR).trans (unhide HEND k (by omega))
      subst hr
      go_wp2
      go_ret
      exact ⟨rfl, hb⟩
theorem allIn_step (s : Int) (K : List Int) (k : Nat) (h : k < K.length) : allIn s (K.drop k) = ((decide (0 ≤ K[k]) && decide (K[k] < s)) && allIn s (K.drop (k + 1))) := by
  rw [← List.getElem_cons_drop h]
  rfl
set_option maxRecDepth 100000 in
set_option maxHeartbeats 1000000 in
theorem arePlaces_is (a : Option Addr) (n c B : Nat) (K : List Int) (s : Int) (hn : n ≤ 1048576) (w : World) (hK : IntsAt w a n B K) :
    Calls Try.prog 68 #[.slice a n c, .int .i64 s] w fun e w' => e = .returned (.bool (allIn s K)) ∧ w' = w := by
  obtain ⟨hL, hc⟩ := hK
  have HST := hide (fun k h => allIn_step s K k h)
  have HEND : Hid (allIn s (K.drop n) = true) := by show _ = _; rw [← hL, List.drop_length]; rfl
  have H0 : Hid (allIn s K = allIn s (K.drop 0)) := rfl
  have HC := hide hc
  have HL := hide hL
  generalize allIn s K = r at H0 ⊢
  clear hc hL
  go_enter Try.func68, Try.ntmps68
  go_wp2_with fail
  go_loop [9] (fun i => ∃ k : Nat, i = .int .i64 k ∧ k ≤ n ∧ Hid (r = allIn s (K.drop k))) (fun i => n - (intOf i).toNat)
  case atStart => exact ⟨0, rfl, Nat.zero_le _, unhide H0⟩
  case round =>
    obtain ⟨k, rfl, hk, HR⟩ := hrel
    by_cases hlt : k < n
    · have hkL : k < K.length := by have := unhide HL; omega
      obtain ⟨b, off, rfl, hbB, hcell⟩ := unhide HC k hkL
      have hx0 : (0 : Int) ≤ (k : Int) := by omega
      have hx1 : (k : Int) < (n : Int) := by omega
      have hr := (unhide HR).trans (unhide HST k hkL)
      generalize hrest : allIn s (K.drop (k + 1)) = rest at hr
      have HREST := hide hrest
      generalize K[k] = y at hcell hr
      have HP := hide (fun w => isPlace_is y s w)
      generalize (decide (0 ≤ y) && decide (y < s)) = kp at HP hr
      clear hrest HR
      cases kp
      · rw [Bool.false_and] at hr
        subst hr
        go_wp2_with fail
        refine (unhide HP _).mono ?_
        rintro e wk ⟨rfl, rfl⟩
        go_wp2
        go_ret
        exact ⟨rfl, rfl⟩
      · rw [Bool.true_and] at hr
        subst hr
        go_wp2_with fail
        refine (unhide HP _).mono ?_
        rintro e wk ⟨rfl, rfl⟩
        go_wp2
        go_round
        case rel => exact ⟨k + 1, by go_num, by omega, (by show _ = _; rw [unhide HREST])⟩
        case measure => simp [intOf]; omega
    · obtain rfl : k = n := by omega
      have hr := (unhide HR).trans (unhide HEND)
      subst hr
      go_wp2
      go_ret
      exact ⟨rfl, rfl⟩
end Gr
end Go.Proofs.Ytkjclkelnheheaa
