/-
  Rows of Couple: what is marked is held. Written by program (tools/introws.py).
-/
import Derived.Test.YtecdagfenooboaaGrCouple
namespace Go.Proofs.Ytecdagfenooboaa
namespace Gr
open Go.ChangeShapes Go.WideShapes Go.ChangeAt Go.RowKit

/-- The marks of n rows from k on. -/
def marksCouple (k n : Nat) : List CoupleI := (List.range n).map fun i => ⟨((k + i * 2 : Nat) : Int), ((k + i * 2 + 1 : Nat) : Int)⟩

theorem marksCouple_length (k n : Nat) : (marksCouple k n).length = n := by simp [marksCouple]
theorem marksCouple_at (k n i : Nat) (h : i < (marksCouple k n).length) : (marksCouple k n)[i] = ⟨((k + i * 2 : Nat) : Int), ((k + i * 2 + 1 : Nat) : Int)⟩ := by simp [marksCouple]

end Gr
end Go.Proofs.Ytecdagfenooboaa
