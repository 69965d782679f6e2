/-
  Texts of this claim, one behind the other: Rg7.
-/
import Derived.Test.YtjblkijicfmkgaaGreatDoorJ34
import Derived.Test.YtjblkijicfmkgaaGreatDoorJ35

/-
  The specification's contracts of chapter 13, in the form that a law's walk asks for.
-/
namespace Go.Proofs.YtjblkijicfmkgaaGreatDoor
namespace Gr
open Go.RowKit

/-- What Ids tells, and Active. -/
def idsAll (Q : List (ByteArray × ByteArray)) : List Int := if Rg.stateOk Q = true then Rg.idsP [] Q else []
def idsHere (Q : List (ByteArray × ByteArray)) : List Int := if Rg.stateOk Q = true then Rg.idsP [97] Q else []

theorem ids_len (u : List UInt8) (Q : List (ByteArray × ByteArray)) : (if Rg.stateOk Q = true then Rg.idsP u Q else []).length ≤ pasize Q := by
  split
  · rename_i h
    unfold Rg.stateOk at h
    simp only [Bool.and_eq_true, decide_eq_true_eq] at h
    have h1 := h.1.1
    have h2 := Rg.ids_short u Q
    unfold pasize
    omega
  · simp

theorem idsAll_len (Q : List (ByteArray × ByteArray)) : (idsAll Q).length ≤ pasize Q := ids_len [] Q
theorem idsHere_len (Q : List (ByteArray × ByteArray)) : (idsHere Q).length ≤ pasize Q := ids_len [97] Q

theorem specStateOk_gen (B : Nat) (v : Value) (Q : List (ByteArray × ByteArray)) (h1 : pasize Q ≤ 1048576) (w : World) (hB : B ≤ w.heap.size) (hv : PaAt w v B Q) :
    Calls Tryz.prog 27 #[v] w fun e w' => e = .returned (.bool (Rg.stateOk Q)) ∧ Below w.heap.size w w' := by
  obtain ⟨a, c, rfl, hQ, _⟩ := hv
  exact Rg.state_any a Q.length c B Q (pasize_le h1).1 w hB hQ

end Gr
end Go.Proofs.YtjblkijicfmkgaaGreatDoor
