/-
  The contracts of the closure that impl.pageIn defers.
-/
import Derived.Test.YtajajfmaekdphaaPgItem
import Derived.Defers
import Derived.Recover
namespace Go.Proofs.Ytajajfmaekdphaa
open Go.RowKit

theorem ta_noPage (w : World) : (Instr.typeAssert (.iface 94 (.agg #[])) 20 94 true).run Try.prog w = .ok (.tuple #[.agg #[], .bool true]) w := by kernel_rfl
theorem ta_nil (w : World) : (Instr.typeAssert .nilIface 20 94 true).run Try.prog w = .ok (.tuple #[.agg #[], .bool false]) w := by kernel_rfl

theorem catch_idle (p q : Addr) (w : World) :
    CallsD Try.prog 65 #[.pointer (some p), .pointer (some q)] .returning w fun e u' w' => e = .returned (.tuple #[]) ∧ u' = .returning ∧ Below w.heap.size w w' := by
  have hta := ta_nil
  refine callsD_of_wpS Try.func65 rfl fun c₀ cs hu => ?_
  apply wpS_seq
  apply wpS_region
  simp [wpOpsS, go_sem, recoverD, hu, Try.ntmps65, Exit.thenS, hta]
  apply wpS_seq
  apply wpS_region
  simp [wpOpsS, go_sem, Exit.thenS]
  refine wpS_cond (t := false) (by simp [Act.eval, Array.replicate]) ?_
  simp only [Bool.false_eq_true, if_false]
  refine wpS_of_wp (wp_skip ?_)
  refine ⟨rfl, .returning, by cases c₀; simp_all, .tuple #[], by simp [results, Try.results65, go_sem], rfl, rfl, below_new _ _⟩

theorem catch_panic (P Q : Nat) (a b c : Value) (older : List PanicEntry) (w : World) (hp : Box w P a b) (hq : w.heap[Q]? = some (.cells #[c] 4 (0, 0))) (hPQ : P < Q) :
    CallsD Try.prog 65 #[.pointer (some ⟨P, 0, none⟩), .pointer (some ⟨Q, 0, none⟩)] (.panicking ({ v := .iface 94 (.agg #[]), recovered := false } :: older)) w fun e u' w' =>
      e = .returned (.tuple #[]) ∧ u' = .panicking ({ v := .iface 94 (.agg #[]), recovered := true } :: older) ∧ w' = (((w.alloc (.cells #[] 94)).setCell ⟨P, 0, none⟩ (.int .i64 0)).setCell ⟨P, 1, none⟩ (.slice none 0 0)).setCell ⟨Q, 0, none⟩ (.bool false) := by
  have hta := ta_noPage
  refine callsD_of_wpS Try.func65 rfl fun c₀ cs hu => ?_
  apply wpS_seq
  apply wpS_region
  simp [wpOpsS, go_sem, recoverD, hu, Try.ntmps65, Exit.thenS, hta]
  apply wpS_seq
  apply wpS_region
  simp [wpOpsS, go_sem, Exit.thenS]
  refine wpS_cond (t := true) (by simp [Act.eval, Array.replicate]) ?_
  simp only [if_true]
  obtain ⟨W1, hW1⟩ : ∃ W, W = w.alloc (.cells #[] 94) := ⟨_, rfl⟩
  rw [← hW1]
  have hp1 : Box W1 P a b := by rw [hW1]; exact hp.below (below_new _ _)
  have hq1 : W1.heap[Q]? = some (.cells #[c] 4 (0, 0)) := by rw [hW1, (below_new w _).block _ (blk_lt hq)]; exact hq
  obtain ⟨c0, c1⟩ := hp1.cells
  have f0 := hp1.froz 0
  have f1 := hp1.froz 1
  have q0 : W1.cell? ⟨Q, 0, none⟩ = some c := by rw [cell_of_row W1 Q 0 _ 4 (0, 0) hq1]; rfl
  have qf := frozen_of_row W1 Q 0 _ 4 hq1
  clear hW1
  apply wpS_region
  simp [wpOpsS, go_sem, c0, c1, f0, f1, q0, qf, bodyPostS, results, Try.results65]
end Go.Proofs.Ytajajfmaekdphaa
