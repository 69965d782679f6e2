/-
  Rows of Sums: what is marked is held. Written by program (tools/introws.py).
-/
import Derived.Test.YtejfknkcakeakaaGrSums
namespace Go.Proofs.Ytejfknkcakeakaa
namespace Gr
open Go.ChangeShapes Go.WideShapes Go.ChangeAt Go.RowKit

/-- The marks of n rows from k on. -/
def marksSums (k n : Nat) : List SumsI := (List.range n).map fun i => ⟨((k + i * 3 : Nat) : Int), ((k + i * 3 + 1 : Nat) : Int), ((k + i * 3 + 2 : Nat) : Int)⟩

theorem marksSums_length (k n : Nat) : (marksSums k n).length = n := by simp [marksSums]
theorem marksSums_at (k n i : Nat) (h : i < (marksSums k n).length) : (marksSums k n)[i] = ⟨((k + i * 3 : Nat) : Int), ((k + i * 3 + 1 : Nat) : Int), ((k + i * 3 + 2 : Nat) : Int)⟩ := by simp [marksSums]

end Gr
end Go.Proofs.Ytejfknkcakeakaa
