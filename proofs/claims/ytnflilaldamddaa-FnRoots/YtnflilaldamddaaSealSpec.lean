/-
  The contracts of the specification's Sealed and Unsealed, for every text.
-/
import Derived.Test.YtnflilaldamddaaFour
namespace Go.Proofs.Ytnflilaldamddaa
open Go.RowKit

def sumB (s : ByteArray) : Nat := sumN 4294967295 s.data.toList
def fourB (x : Nat) : ByteArray := ⟨(four x).toArray⟩
/-- A text and its four bytes. -/
def sealB (s : ByteArray) : ByteArray := s ++ fourB (sumB s)

theorem sumB_lt (s : ByteArray) : sumB s < 4294967296 := sumN_lt _ (by omega)

theorem specSealed_no (s : ByteArray) (h : (8000 : Int) < (s.size : Int)) (w : World) :
    Calls Try.prog 27 #[.string s] w fun e w' => e = .returned (.tuple #[.string ⟨#[]⟩, .bool false]) ∧ w' = w := by
  go_enter Try.func27, Try.ntmps27
  go_wp2
  go_ret2
  exact ⟨rfl, rfl⟩

set_option maxRecDepth 100000 in
set_option maxHeartbeats 1000000 in
theorem specSealed_yes (s : ByteArray) (h : s.size ≤ 8000) (w : World) :
    Calls Try.prog 27 #[.string s] w fun e w' => e = .returned (.tuple #[.string (sealB s), .bool true]) ∧ Below w.heap.size w w' := by
  have H1 := hide (fun w => specSumOf_any s (by omega) w)
  have H2 := hide (fun w => four_any (sumB s) (sumB_lt s) w)
  have hn : ¬ (8000 : Int) < (s.size : Int) := by omega
  have hl : (four (sumB s)).length = 4 := rfl
  go_enter Try.func27, Try.ntmps27
  go_wp2_with fail
  refine (unhide H1 _).mono ?_
  rintro e w1 ⟨rfl, rfl⟩
  go_wp2_with fail
  refine (unhide H2 _).mono ?_
  rintro e w2 ⟨rfl, hb⟩
  go_wp2
  go_ret2
  exact ⟨rfl, hb⟩

theorem toList_inj {v f : ByteArray} (h : v.toList = f.toList) : v = f := by
  have h2 : v.data.toList = f.data.toList := by rw [← ByteArray.toList_eq, ← ByteArray.toList_eq]; exact h
  cases v; cases f; simp_all [Array.toList_inj]

/-- What Unsealed answers to a text of 4 to 8004 bytes. -/
def unOut (u v f : ByteArray) : Value := if v = f then .tuple #[.string u, .bool true] else .tuple #[.string ⟨#[]⟩, .bool false]
def unsealOut (s : ByteArray) : Value := unOut (s.extract 0 (s.size - 4)) (s.extract (s.size - 4) s.size) (fourB (sumB (s.extract 0 (s.size - 4))))

theorem unOut_yes {u v f : ByteArray} (h : v = f) : unOut u v f = .tuple #[.string u, .bool true] := if_pos h
theorem unOut_no {u v f : ByteArray} (h : v ≠ f) : unOut u v f = .tuple #[.string ⟨#[]⟩, .bool false] := if_neg h

/-- What Unsealed answers. -/
def unsealA (s : ByteArray) : Value := if 4 ≤ s.size ∧ s.size ≤ 8004 then unsealOut s else .tuple #[.string ⟨#[]⟩, .bool false]

/-- What Sealed answers. -/
def sealA (s : ByteArray) : Value := if s.size ≤ 8000 then .tuple #[.string (sealB s), .bool true] else .tuple #[.string ⟨#[]⟩, .bool false]

theorem specSealed_any (s : ByteArray) (w : World) :
    Calls Try.prog 27 #[.string s] w fun e w' => e = .returned (sealA s) ∧ Below w.heap.size w w' := by
  unfold sealA
  split
  · rename_i h
    exact specSealed_yes s h w
  · rename_i h
    exact (specSealed_no s (by omega) w).mono fun e w' hw => ⟨hw.1, hw.2 ▸ Below.refl _ _⟩
end Go.Proofs.Ytnflilaldamddaa
