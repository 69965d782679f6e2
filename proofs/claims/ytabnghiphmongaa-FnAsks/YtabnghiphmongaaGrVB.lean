/-
  The bytes of a number.
-/
import Derived.Test.YtabnghiphmongaaWVar
import Derived.Test.YtabnghiphmongaaGrBase
namespace Go.Proofs.Ytabnghiphmongaa
namespace Gr
open Go.RowKit

/-- The bytes of a number. -/
def vB (n : Int) : ByteArray := ⟨(varB 4 n.toNat).toArray⟩

theorem varB_length : ∀ (f n : Nat), (varB f n).length ≤ f + 1
  | 0, _ => by simp [varB]
  | f + 1, n => by
    simp only [varB]
    split
    · have := varB_length f (n / 128)
      rw [List.length_cons]
      omega
    · simp

theorem vB_size (n : Int) : (vB n).size ≤ 5 := by
  show (varB 4 n.toNat).toArray.size ≤ 5
  rw [List.size_toArray]
  exact varB_length 4 _

end Gr
end Go.Proofs.Ytabnghiphmongaa
