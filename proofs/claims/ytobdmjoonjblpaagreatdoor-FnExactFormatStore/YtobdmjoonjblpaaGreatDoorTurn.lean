/-
  A sealed text is Unsealed as it was; with one byte turned it is none. Without a program.
-/
import Derived.Test.YtobdmjoonjblpaaGreatDoorSealSpec
namespace Go.Proofs.YtobdmjoonjblpaaGreatDoor
open Go.RowKit

def ofL (l : List UInt8) : ByteArray := ⟨l.toArray⟩

theorem ofL_size (l : List UInt8) : (ofL l).size = l.length := by simp [ofL, ByteArray.size]

theorem ofL_inj {l m : List UInt8} (h : ofL l = ofL m) : l = m := by
  have := congrArg (fun x : ByteArray => x.data.toList) h
  simpa [ofL] using this

theorem ofL_data (s : ByteArray) : ofL s.data.toList = s := by cases s; simp [ofL]

theorem four_length (x : Nat) : (four x).length = 4 := rfl

theorem extract_head (A B : List UInt8) (hB : B.length = 4) : (ofL (A ++ B)).extract 0 ((ofL (A ++ B)).size - 4) = ofL A := by
  have e : (ofL (A ++ B)).size - 4 = A.length := by rw [ofL_size]; simp; omega
  rw [e]
  have h : ((ofL (A ++ B)).extract 0 A.length).data.toList = A := by simp [ofL]
  rw [← ofL_data ((ofL (A ++ B)).extract 0 A.length), h]

theorem extract_tail (A B : List UInt8) (hB : B.length = 4) : (ofL (A ++ B)).extract ((ofL (A ++ B)).size - 4) (ofL (A ++ B)).size = ofL B := by
  have e : (ofL (A ++ B)).size - 4 = A.length := by rw [ofL_size]; simp; omega
  rw [e]
  have h : ((ofL (A ++ B)).extract A.length (ofL (A ++ B)).size).data.toList = B := by rw [ofL_size]; simp [ofL]
  rw [← ofL_data ((ofL (A ++ B)).extract A.length (ofL (A ++ B)).size), h]

theorem unsealA_parts (A B : List UInt8) (hB : B.length = 4) (hA : A.length ≤ 8000) : unsealA (ofL (A ++ B)) = unOut (ofL A) (ofL B) (ofL (four (sumN 4294967295 A))) := by
  unfold unsealA
  rw [if_pos (by rw [ofL_size]; simp; omega)]
  unfold unsealOut
  rw [extract_head A B hB, extract_tail A B hB]
  simp [sumB, fourB, ofL]

theorem sealB_parts (s : ByteArray) : sealB s = ofL (s.data.toList ++ four (sumN 4294967295 s.data.toList)) := by
  have h : (sealB s).data.toList = s.data.toList ++ four (sumN 4294967295 s.data.toList) := by simp [sealB, fourB, sumB, ByteArray.data_append]
  rw [← ofL_data (sealB s), h]

theorem sealA_small (s : ByteArray) (h : s.size ≤ 8000) : sealA s = .tuple #[.string (sealB s), .bool true] := if_pos h

theorem sealB_size (s : ByteArray) : (sealB s).size = s.size + 4 := by
  rw [sealB_parts, ofL_size]
  simp [four_length]

theorem unsealA_back (s : ByteArray) (h : s.size ≤ 8000) : unsealA (sealB s) = .tuple #[.string s, .bool true] := by
  rw [sealB_parts, unsealA_parts _ _ (four_length _) (by simpa using h), unOut_yes rfl, ofL_data]

theorem set_parts {l : List UInt8} {i : Nat} (h : i < l.length) (c : UInt8) : l = l.take i ++ l[i] :: l.drop (i + 1) ∧ l.set i c = l.take i ++ c :: l.drop (i + 1) := by
  constructor
  · rw [List.getElem_cons_drop, List.take_append_drop]
  · rw [List.set_eq_take_append_cons_drop, if_pos h]

/-- One byte turned: not Unsealed. -/
theorem unsealA_turned (s : ByteArray) (h : s.size ≤ 8000) (i : Nat) (hi : i < (sealB s).data.toList.length) (c : UInt8) (hc : c ≠ (sealB s).data.toList[i]) :
    unsealA (ofL ((sealB s).data.toList.set i c)) = .tuple #[.string ⟨#[]⟩, .bool false] := by
  have hp : (sealB s).data.toList = s.data.toList ++ four (sumN 4294967295 s.data.toList) := by rw [sealB_parts]; simp [ofL]
  generalize hL : (sealB s).data.toList = L at hi hc hp ⊢
  subst hp
  have hl : s.data.toList.length = s.size := by simp
  generalize s.data.toList = A at hi hc hl ⊢
  by_cases hA : i < A.length
  · rw [List.set_append_left _ _ hA]
    rw [List.getElem_append_left hA] at hc
    rw [unsealA_parts _ _ (four_length _) (by simp; omega), unOut_no]
    intro e
    have h2 := four_inj (sumN_lt _ (by omega)) (sumN_lt _ (by omega)) (ofL_inj e)
    obtain ⟨h3, h4⟩ := set_parts hA c
    rw [h4] at h2
    conv at h2 => lhs; rw [h3]
    exact sumN_turned _ _ _ _ (by omega) (fun e => hc e.symm) h2
  · rw [List.set_append_right _ _ (by omega)]
    rw [List.getElem_append_right (by omega)] at hc
    rw [unsealA_parts _ _ (by simp [four_length]) (by omega), unOut_no]
    intro e
    have h2 := ofL_inj e
    have hj : i - A.length < (four (sumN 4294967295 A)).length := by simp at hi; simp [four_length] at hi ⊢; omega
    apply hc
    have h3 := List.getElem_set_self (l := four (sumN 4294967295 A)) (i := i - A.length) (a := c) (by simpa using hj)
    rw [← h3]
    congr 1

theorem xor_other (a x : UInt8) (hx : x ≠ 0) : a ^^^ x ≠ a := by
  intro e
  apply hx
  have h := congrArg (fun y => a ^^^ y) e
  simpa [← UInt8.xor_assoc] using h

theorem sum_more (s : ByteArray) : sumN (sumB s) [120] = sumB (s ++ ⟨#[120]⟩) := by
  unfold sumB
  rw [ByteArray.data_append, Array.toList_append, sumN_append]
end Go.Proofs.YtobdmjoonjblpaaGreatDoor
