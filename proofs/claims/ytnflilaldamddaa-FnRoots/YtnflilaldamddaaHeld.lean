/-
  The contracts of laws.heldStringS, markPutS and heldPutS.
-/
import Derived.Test.YtnflilaldamddaaMarks
import Derived.Deep.RegionHeld3
namespace Go.Proofs.Ytnflilaldamddaa
open Go.RowKit

/-- The marks of n puts from k on. -/
def marksQ (k n : Nat) : List (Int × ByteArray) := (List.range n).map fun i => (((k + i * 2 : Nat) : Int), markT (k + i * 2 + 1))

theorem marksQ_length (k n : Nat) : (marksQ k n).length = n := by simp [marksQ]
theorem marksQ_at (k n i : Nat) (h : i < (marksQ k n).length) : (marksQ k n)[i] = (((k + i * 2 : Nat) : Int), markT (k + i * 2 + 1)) := by simp [marksQ]

end Go.Proofs.Ytnflilaldamddaa
