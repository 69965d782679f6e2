/-
  The contracts of the specification's Sealed and Unsealed, for every text.
-/
import Derived.Test.YteaidpeifaeckaaFour
namespace Go.Proofs.Yteaidpeifaeckaa
open Go.RowKit

def sumB (s : ByteArray) : Nat := sumN 4294967295 s.data.toList
def fourB (x : Nat) : ByteArray := ⟨(four x).toArray⟩
/-- A text and its four bytes. -/
def sealB (s : ByteArray) : ByteArray := s ++ fourB (sumB s)

theorem sumB_lt (s : ByteArray) : sumB s < 4294967296 := sumN_lt _ (by omega)

theorem toList_inj {v f : ByteArray} (h : v.toList = f.toList) : v = f := by
  have h2 : v.data.toList = f.data.toList := by rw [← ByteArray.toList_eq, ← ByteArray.toList_eq]; exact h
  cases v; cases f; simp_all [Array.toList_inj]

/-- What Unsealed answers to a text of 4 to 8004 bytes. -/
def unOut (u v f : ByteArray) : Value := if v = f then .tuple #[.string u, .bool true] else .tuple #[.string ⟨#[]⟩, .bool false]
def unsealOut (s : ByteArray) : Value := unOut (s.extract 0 (s.size - 4)) (s.extract (s.size - 4) s.size) (fourB (sumB (s.extract 0 (s.size - 4))))

theorem unOut_yes {u v f : ByteArray} (h : v = f) : unOut u v f = .tuple #[.string u, .bool true] := if_pos h
theorem unOut_no {u v f : ByteArray} (h : v ≠ f) : unOut u v f = .tuple #[.string ⟨#[]⟩, .bool false] := if_neg h

/-- What Unsealed answers. -/
def unsealA (s : ByteArray) : Value := if 4 ≤ s.size ∧ s.size ≤ 8004 then unsealOut s else .tuple #[.string ⟨#[]⟩, .bool false]

/-- What Sealed answers. -/
def sealA (s : ByteArray) : Value := if s.size ≤ 8000 then .tuple #[.string (sealB s), .bool true] else .tuple #[.string ⟨#[]⟩, .bool false]

end Go.Proofs.Yteaidpeifaeckaa
