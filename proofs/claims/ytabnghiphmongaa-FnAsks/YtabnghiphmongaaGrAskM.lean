/-
  Rows of Ask: what is marked is held. Written by program (tools/introws.py).
-/
import Derived.Test.YtabnghiphmongaaGrAsk
namespace Go.Proofs.Ytabnghiphmongaa
namespace Gr
open Go.ChangeShapes Go.WideShapes Go.ChangeAt Go.RowKit

/-- The marks of n rows from k on. -/
def marksAsk (k n : Nat) : List AskI := (List.range n).map fun i => ⟨((k + i * 6 : Nat) : Int), ((k + i * 6 + 1 : Nat) : Int), ((k + i * 6 + 2 : Nat) : Int), ((k + i * 6 + 3 : Nat) : Int), ((k + i * 6 + 4 : Nat) : Int), ((k + i * 6 + 5 : Nat) : Int)⟩

theorem marksAsk_length (k n : Nat) : (marksAsk k n).length = n := by simp [marksAsk]
theorem marksAsk_at (k n i : Nat) (h : i < (marksAsk k n).length) : (marksAsk k n)[i] = ⟨((k + i * 6 : Nat) : Int), ((k + i * 6 + 1 : Nat) : Int), ((k + i * 6 + 2 : Nat) : Int), ((k + i * 6 + 3 : Nat) : Int), ((k + i * 6 + 4 : Nat) : Int), ((k + i * 6 + 5 : Nat) : Int)⟩ := by simp [marksAsk]

end Gr
end Go.Proofs.Ytabnghiphmongaa
