/-
  The specification's contracts of chapter 8, in the form that a law's walk asks for (tools/exactlaw.py).
-/
import Derived.Test.YtkidkfopnghghaaGrInd
import Derived.Test.YtkidkfopnghghaaGrKinds
namespace Go.Proofs.Ytkidkfopnghghaa
namespace Gr
open Go.RowKit

theorem specGraph_gen (B : Nat) (v : Value) (s : Int) (Q : List EdgeI) (h1 : Q.length ≤ 1048576) (w : World) (hB : B ≤ w.heap.size) (hv : GrAt w v B s Q) :
    Calls Try.prog 34 #[v] w fun e w' => e = .returned (.bool (graphOk s Q)) ∧ Below w.heap.size w w' := specGraph_any v B s Q h1 w hB hv

theorem specScalar_gen (B : Nat) (v : Value) (x : EdgeI) (w : World) (_hB : B ≤ w.heap.size) (hv : EdAt w v B x) :
    Calls Try.prog 64 #[v] w fun e w' => e = .returned (.int .i64 (scal x)) ∧ Below w.heap.size w w' := by
  unfold EdAt at hv
  subst hv
  exact specScalar_any x w

end Gr
end Go.Proofs.Ytkidkfopnghghaa
