/-
  The contract of spec.AskText.
-/
import Derived.Test.YtabnghiphmongaaAk0
import Derived.Test.YtabnghiphmongaaGrBlkS
import Derived.Test.YtabnghiphmongaaGrInts
namespace Go.Proofs.Ytabnghiphmongaa
namespace Gr
open Go.RowKit

set_option maxRecDepth 100000 in
theorem askNum_is (op : Int) (w : World) : Calls Try.prog 17 #[.int .i64 op] w fun e w' => e = .returned (.int .i64 ((askN op : Nat) : Int)) ∧ w' = w := by
  have hR : askN op = if op = 1 ∨ op = 3 ∨ op = 5 then 1 else if op = 2 then 5 else 0 := rfl
  generalize askN op = R at hR ⊢
  by_cases h1 : op = 1
  · subst h1
    simp at hR
    subst hR
    go_enter Try.func17, Try.ntmps17
    go_wp2
    go_ret
    exact ⟨rfl, rfl⟩
  by_cases h3 : op = 3
  · subst h3
    simp at hR
    subst hR
    go_enter Try.func17, Try.ntmps17
    go_wp2
    go_ret
    exact ⟨rfl, rfl⟩
  by_cases h5 : op = 5
  · subst h5
    simp at hR
    subst hR
    go_enter Try.func17, Try.ntmps17
    go_wp2
    go_ret
    exact ⟨rfl, rfl⟩
  by_cases h2 : op = 2
  · subst h2
    simp at hR
    subst hR
    go_enter Try.func17, Try.ntmps17
    go_wp2
    go_ret
    exact ⟨rfl, rfl⟩
  · have e1 : (op == 1) = false := by simp; exact h1
    have e3 : (op == 3) = false := by simp; exact h3
    have e5 : (op == 5) = false := by simp; exact h5
    have e2 : (op == 2) = false := by simp; exact h2
    simp [h1, h3, h5, h2] at hR
    subst hR
    clear h1 h2 h3 h5
    go_enter Try.func17, Try.ntmps17
    go_wp2
    go_ret
    exact ⟨rfl, rfl⟩

set_option maxRecDepth 100000 in
set_option maxHeartbeats 1000000 in
theorem askList_any (x : AskI) (w : World) : Calls Try.prog 16 #[x.v] w fun e w' => (∃ g, e = .returned (.slice (some ⟨g, 0, none⟩) 5 5) ∧ w.heap.size ≤ g ∧ Blk w' g #[.int .i64 x.A, .int .i64 x.B, .int .i64 x.W1, .int .i64 x.W2, .int .i64 x.W3] 3) ∧ Below w.heap.size w w' := by
  obtain ⟨x0, x1, x2, x3, x4, x5⟩ := x
  unfold AskI.v
  simp only
  go_enter Try.func16, Try.ntmps16
  go_wp2_with fail
  go_ret
  refine ⟨⟨w.heap.size + 1, rfl, by omega, Blk.new1⟩, (below_new _ _).alloc (by simp) _⟩
end Gr
end Go.Proofs.Ytabnghiphmongaa
