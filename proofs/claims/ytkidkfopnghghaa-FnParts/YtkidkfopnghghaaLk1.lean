/-
  The contract of spec.Neighbours.
-/
import Derived.Test.YtkidkfopnghghaaLk0
namespace Go.Proofs.Ytkidkfopnghghaa
namespace Lk
open Go.RowKit
open Gr (EdgeI GrAt GBox atFrom below_new InOwn InAt own_below own_lower intsV graphOk specGraph_any l01In_is)

theorem ok_size {s : Int} {Q : List EdgeI} (h : graphOk s Q = true) : 0 ≤ s ∧ s ≤ 9 := by
  unfold graphOk at h
  simp at h
  omega

end Lk
end Go.Proofs.Ytkidkfopnghghaa
