/-
  The contracts of the program's small functions over edges: isPlace, worthsOf, noWorths, edgeOf, areWorths, isEdgeAhead, isEdgeAmong, Scalar.
-/
import Derived.Test.YtejfknkcakeakaaGrGen
import Derived.Test.YtejfknkcakeakaaGrGrown
namespace Go.Proofs.Ytejfknkcakeakaa
namespace Gr
open Go.RowKit

theorem isPlace_is (x n : Int) (w : World) :
    Calls Try.prog 45 #[.int .i64 x, .int .i64 n] w fun e w' => e = .returned (.bool (decide (0 ≤ x) && decide (x < n))) ∧ w' = w := by
  go_enter Try.func45, Try.ntmps45
  go_wp2
  all_goals (go_ret; exact ⟨by simp_all <;> omega, rfl⟩)

/-- Three worths. -/
def w3 (a b c : Int) : Value := .agg #[.int .i64 a, .int .i64 b, .int .i64 c]

theorem worthsOf_any (x : EdgeI) (w : World) :
    Calls Try.prog 84 #[x.v] w fun e w' => e = .returned (w3 x.W1 x.W2 x.W3) ∧ Below w.heap.size w w' := by
  unfold EdgeI.v w3
  obtain ⟨y0, y1, y2, y3, y4⟩ := x
  simp only
  go_enter Try.func84, Try.ntmps84
  go_wp2
  go_returns
  refine ⟨rfl, ?_⟩
  exact ((below_new _ _).alloc (by simp) _)

theorem isEdgeAhead_any (x y : EdgeI) (w : World) :
    Calls Try.prog 73 #[x.v, y.v] w fun e w' => e = .returned (.bool (ahead x y)) ∧ Below w.heap.size w w' := by
  have hr : ahead x y = (decide (x.A < y.A) || (decide (x.A = y.A) && decide (x.B < y.B))) := rfl
  generalize ahead x y = r at hr ⊢
  unfold EdgeI.v
  obtain ⟨y0, y1, y2, y3, y4⟩ := x
  obtain ⟨z0, z1, z2, z3, z4⟩ := y
  simp only at hr ⊢
  by_cases t0 : y0 < z0
  · rw [decide_eq_true t0, Bool.true_or] at hr
    subst hr
    go_enter Try.func73, Try.ntmps73
    go_wp2
    go_ret
    exact ⟨rfl, ((below_new _ _).alloc (by simp) _)⟩
  · rw [decide_eq_false t0, Bool.false_or] at hr
    by_cases t1 : y0 = z0
    · subst t1
      rw [decide_eq_true (show y0 = y0 from rfl), Bool.true_and] at hr
      subst hr
      go_enter Try.func73, Try.ntmps73
      go_wp2
      go_ret
      exact ⟨rfl, ((below_new _ _).alloc (by simp) _)⟩
    · rw [decide_eq_false t1, Bool.false_and] at hr
      subst hr
      have t1' : (y0 == z0) = false := by simpa using t1
      go_enter Try.func73, Try.ntmps73
      go_wp2
      go_ret
      exact ⟨rfl, ((below_new _ _).alloc (by simp) _)⟩

/-- Whether three worths are right, from one of them on. -/
def areFrom (a b c : Int) : Nat → Bool
  | 0 => worthOk a && (worthOk b && worthOk c)
  | 1 => worthOk b && worthOk c
  | 2 => worthOk c
  | _ => true

theorem worthOk_iff (x : Int) : worthOk x = (decide (0 ≤ x) && decide (x ≤ 50)) := rfl

set_option maxRecDepth 100000 in
set_option maxHeartbeats 1000000 in
theorem areWorths_any (a b c : Int) (w : World) :
    Calls Try.prog 83 #[w3 a b c] w fun e w' => e = .returned (.bool (worthOk a && (worthOk b && worthOk c))) ∧ Below w.heap.size w w' := by
  have H0 : Hid ((worthOk a && (worthOk b && worthOk c)) = areFrom a b c 0) := rfl
  generalize (worthOk a && (worthOk b && worthOk c)) = r at H0 ⊢
  have HST : Hid (∀ k x, k < 3 → #[a, b, c][k]? = some x → areFrom a b c k = ((decide (0 ≤ x) && decide (x ≤ 50)) && areFrom a b c (k + 1))) := by
    intro k x hk hx
    rcases k with _ | _ | _ | k
    · simp at hx; subst hx; rfl
    · simp at hx; subst hx; rfl
    · simp at hx; subst hx; show worthOk c = _; rw [worthOk_iff]; simp [areFrom]
    · omega
  have HEND : Hid (areFrom a b c 3 = true) := rfl
  unfold w3
  go_enter Try.func83, Try.ntmps83
  go_wp2_with fail
  go_loopw [6] (fun i wr => ∃ j : Nat, i = .int .i64 (j : Int) ∧ j ≤ 3 ∧ Hid (r = areFrom a b c j) ∧ wr = w.alloc (Obj.cells #[Value.int .i64 a, Value.int .i64 b, Value.int .i64 c] 113)) (fun i _ => 3 - (intOf i).toNat)
  case atStart => exact ⟨0, rfl, Nat.zero_le _, unhide H0, rfl⟩
  case round =>
    obtain ⟨j, rfl, hj, HR, rfl⟩ := hrel
    by_cases hlt : j < 3
    · obtain rfl | rfl | rfl : j = 0 ∨ j = 1 ∨ j = 2 := by omega
      · have hr := (unhide HR).trans (unhide HST 0 a (by omega) rfl)
        have hix : ∀ W : World, (Instr.index 113 (.agg #[.int .i64 a, .int .i64 b, .int .i64 c]) (.int .i64 (0 : Int))).run Try.prog W = .ok (.int .i64 a) W := fun W => by kernel_rfl
        have hcast : ((0 : Nat) : Int) = 0 := rfl
        rw [hcast]
        generalize hrest : areFrom a b c (0 + 1) = rest at hr
        have HREST := hide hrest
        clear hrest HR
        by_cases t0 : 0 ≤ a
        · rw [decide_eq_true t0, Bool.true_and] at hr
          by_cases t1 : a ≤ 50
          · rw [decide_eq_true t1, Bool.true_and] at hr
            subst hr
            go_wp2
            go_roundw
            case rel => exact ⟨0 + 1, by go_num, by omega, (by show _ = _; rw [unhide HREST]), (by first | rfl | trivial)⟩
            case measure => simp [intOf]
          · rw [decide_eq_false t1, Bool.false_and] at hr
            subst hr
            go_wp2
            go_ret
            exact ⟨rfl, below_new _ _⟩
        · rw [decide_eq_false t0, Bool.false_and, Bool.false_and] at hr
          subst hr
          go_wp2
          go_ret
          exact ⟨rfl, below_new _ _⟩
      · have hr := (unhide HR).trans (unhide HST 1 b (by omega) rfl)
        have hix : ∀ W : World, (Instr.index 113 (.agg #[.int .i64 a, .int .i64 b, .int .i64 c]) (.int .i64 (1 : Int))).run Try.prog W = .ok (.int .i64 b) W := fun W => by kernel_rfl
        have hcast : ((1 : Nat) : Int) = 1 := rfl
        rw [hcast]
        generalize hrest : areFrom a b c (1 + 1) = rest at hr
        have HREST := hide hrest
        clear hrest HR
        by_cases t0 : 0 ≤ b
        · rw [decide_eq_true t0, Bool.true_and] at hr
          by_cases t1 : b ≤ 50
          · rw [decide_eq_true t1, Bool.true_and] at hr
            subst hr
            go_wp2
            go_roundw
            case rel => exact ⟨1 + 1, by go_num, by omega, (by show _ = _; rw [unhide HREST]), (by first | rfl | trivial)⟩
            case measure => simp [intOf]
          · rw [decide_eq_false t1, Bool.false_and] at hr
            subst hr
            go_wp2
            go_ret
            exact ⟨rfl, below_new _ _⟩
        · rw [decide_eq_false t0, Bool.false_and, Bool.false_and] at hr
          subst hr
          go_wp2
          go_ret
          exact ⟨rfl, below_new _ _⟩
      · have hr := (unhide HR).trans (unhide HST 2 c (by omega) rfl)
        have hix : ∀ W : World, (Instr.index 113 (.agg #[.int .i64 a, .int .i64 b, .int .i64 c]) (.int .i64 (2 : Int))).run Try.prog W = .ok (.int .i64 c) W := fun W => by kernel_rfl
        have hcast : ((2 : Nat) : Int) = 2 := rfl
        rw [hcast]
        generalize hrest : areFrom a b c (2 + 1) = rest at hr
        have HREST := hide hrest
        clear hrest HR
        by_cases t0 : 0 ≤ c
        · rw [decide_eq_true t0, Bool.true_and] at hr
          by_cases t1 : c ≤ 50
          · rw [decide_eq_true t1, Bool.true_and] at hr
            subst hr
            go_wp2
            go_roundw
            case rel => exact ⟨2 + 1, by go_num, by omega, (by show _ = _; rw [unhide HREST]), (by first | rfl | trivial)⟩
            case measure => simp [intOf]
          · rw [decide_eq_false t1, Bool.false_and] at hr
            subst hr
            go_wp2
            go_ret
            exact ⟨rfl, below_new _ _⟩
        · rw [decide_eq_false t0, Bool.false_and, Bool.false_and] at hr
          subst hr
          go_wp2
          go_ret
          exact ⟨rfl, below_new _ _⟩
    · obtain rfl : j = 3 := by omega
      have hr := (unhide HR).trans (unhide HEND)
      subst hr
      go_wp2
      go_ret
      exact ⟨rfl, below_new _ _⟩

end Gr
end Go.Proofs.Ytejfknkcakeakaa
