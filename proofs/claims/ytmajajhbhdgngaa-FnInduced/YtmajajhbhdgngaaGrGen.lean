/-
  The specification's contracts of chapter 8, in the form that a law's walk asks for (tools/exactlaw.py).
-/
import Derived.Test.YtmajajhbhdgngaaGrInd
import Derived.Test.YtmajajhbhdgngaaGrKinds
namespace Go.Proofs.Ytmajajhbhdgngaa
namespace Gr
open Go.RowKit

theorem specGraph_gen (B : Nat) (v : Value) (s : Int) (Q : List EdgeI) (h1 : Q.length ≤ 1048576) (w : World) (hB : B ≤ w.heap.size) (hv : GrAt w v B s Q) :
    Calls Try.prog 9 #[v] w fun e w' => e = .returned (.bool (graphOk s Q)) ∧ Below w.heap.size w w' := specGraph_any v B s Q h1 w hB hv

theorem specEdgeAt_gen (B : Nat) (v : Value) (s : Int) (Q : List EdgeI) (x y : Int) (h1 : Q.length ≤ 1048576) (w : World) (hB : B ≤ w.heap.size) (hv : GrAt w v B s Q) :
    Calls Try.prog 16 #[v, .int .i64 x, .int .i64 y] w fun e w' => e = .returned (.int .i64 (edgeAtV s x y Q)) ∧ Below w.heap.size w w' := specEdgeAt_any v B s x y Q h1 w hB hv

theorem specScalar_gen (B : Nat) (v : Value) (x : EdgeI) (w : World) (_hB : B ≤ w.heap.size) (hv : EdAt w v B x) :
    Calls Try.prog 13 #[v] w fun e w' => e = .returned (.int .i64 (scal x)) ∧ Below w.heap.size w w' := by
  unfold EdAt at hv
  subst hv
  exact specScalar_any x w

theorem specInd_gen (B : Nat) (v : Value) (s : Int) (Q : List EdgeI) (u : Value) (K : List Int) (h1 : Q.length ≤ 1048576) (h2 : K.length ≤ 1048576) (w : World) (hB : B ≤ w.heap.size) (hv : GrAt w v B s Q) (hu : InAt w u B K) :
    Calls Try.prog 18 #[v, u] w fun e w' => (∃ d, e = .returned (.tuple #[d, .bool (indOk s Q K)]) ∧ GrOwn w' w.heap.size d (indS s Q K) (indQ s Q K)) ∧ Below w.heap.size w w' := by
  obtain ⟨a, c, rfl, hK⟩ := hu
  exact specInd_any v B s Q a K.length c K h1 h2 w hB hv hK
end Gr
end Go.Proofs.Ytmajajhbhdgngaa
