/-
  The specification's contracts of chapter 8, in the form that a law's walk asks for (tools/exactlaw.py).
-/
import Derived.Test.YtejfknkcakeakaaGrInd
import Derived.Test.YtejfknkcakeakaaGrKinds
namespace Go.Proofs.Ytejfknkcakeakaa
namespace Gr
open Go.RowKit

theorem specGraph_gen (B : Nat) (v : Value) (s : Int) (Q : List EdgeI) (h1 : Q.length ≤ 1048576) (w : World) (hB : B ≤ w.heap.size) (hv : GrAt w v B s Q) :
    Calls Try.prog 40 #[v] w fun e w' => e = .returned (.bool (graphOk s Q)) ∧ Below w.heap.size w w' := specGraph_any v B s Q h1 w hB hv

end Gr
end Go.Proofs.Ytejfknkcakeakaa
