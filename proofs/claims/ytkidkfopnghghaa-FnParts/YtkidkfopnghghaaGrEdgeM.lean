/-
  Rows of Edge: what is marked is held. Written by program (tools/introws.py).
-/
import Derived.Test.YtkidkfopnghghaaGrEdge
namespace Go.Proofs.Ytkidkfopnghghaa
namespace Gr
open Go.ChangeShapes Go.WideShapes Go.ChangeAt Go.RowKit

/-- The marks of n rows from k on. -/
def marksEdge (k n : Nat) : List EdgeI := (List.range n).map fun i => ⟨((k + i * 5 : Nat) : Int), ((k + i * 5 + 1 : Nat) : Int), ((k + i * 5 + 2 : Nat) : Int), ((k + i * 5 + 3 : Nat) : Int), ((k + i * 5 + 4 : Nat) : Int)⟩

theorem marksEdge_length (k n : Nat) : (marksEdge k n).length = n := by simp [marksEdge]
theorem marksEdge_at (k n i : Nat) (h : i < (marksEdge k n).length) : (marksEdge k n)[i] = ⟨((k + i * 5 : Nat) : Int), ((k + i * 5 + 1 : Nat) : Int), ((k + i * 5 + 2 : Nat) : Int), ((k + i * 5 + 3 : Nat) : Int), ((k + i * 5 + 4 : Nat) : Int)⟩ := by simp [marksEdge]

end Gr
end Go.Proofs.Ytkidkfopnghghaa
