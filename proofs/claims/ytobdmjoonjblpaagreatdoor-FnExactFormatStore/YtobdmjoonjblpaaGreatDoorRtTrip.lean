/-
  A right root comes back from its text; what a text tells as a root has just that text.
-/
import Derived.Test.YtobdmjoonjblpaaGreatDoorRtRead
namespace Go.Proofs.YtobdmjoonjblpaaGreatDoor
namespace Rt
open Go.RowKit

theorem byteI_list (x : ByteArray) (i : Nat) : byteI x i = ((x.data.toList)[i]?.map UInt8.toNat).getD 0 := by
  unfold byteI
  split
  · rename_i h
    have e : x.data.toList[i]? = some (x[i]'h) := by
      rw [Array.getElem?_toList]
      exact Array.getElem?_eq_getElem h
    rw [e]
    rfl
  · rename_i h
    have e : x.data.toList[i]? = none := by
      rw [Array.getElem?_toList]
      exact Array.getElem?_eq_none (by show x.size ≤ i; omega)
    rw [e]
    rfl

theorem big4_list (n : Nat) : (bigB 4 n).data.toList = [UInt8.ofNat (n / 256 / 256 / 256), UInt8.ofNat (n / 256 / 256), UInt8.ofNat (n / 256), UInt8.ofNat n] := by
  simp [bigB, bigG, byte1, ByteArray.data_append]

theorem big2_list (n : Nat) : (bigB 2 n).data.toList = [UInt8.ofNat (n / 256), UInt8.ofNat n] := by
  simp [bigB, bigG, byte1, ByteArray.data_append]

theorem root_list (s t : Int) : (rootB s t).data.toList = [82, UInt8.ofNat (s.toNat / 256 / 256 / 256), UInt8.ofNat (s.toNat / 256 / 256), UInt8.ofNat (s.toNat / 256), UInt8.ofNat s.toNat, UInt8.ofNat ((t + 1).toNat / 256), UInt8.ofNat (t + 1).toNat] := by
  unfold rootB
  rw [ByteArray.data_append, ByteArray.data_append, Array.toList_append, Array.toList_append, big4_list, big2_list]
  rfl

theorem seal_list (s t : Int) : ∃ r, (sealB (rootB s t)).data.toList = [82, UInt8.ofNat (s.toNat / 256 / 256 / 256), UInt8.ofNat (s.toNat / 256 / 256), UInt8.ofNat (s.toNat / 256), UInt8.ofNat s.toNat, UInt8.ofNat ((t + 1).toNat / 256), UInt8.ofNat (t + 1).toNat] ++ r ∧ r.length = 4 := by
  refine ⟨(fourB (sumB (rootB s t))).data.toList, ?_, ?_⟩
  · unfold sealB
    rw [ByteArray.data_append, Array.toList_append, root_list]
  · rfl

theorem rootA_back (s t : Int) (h : okR s t = true) : rootA (sealB (rootB s t)) = some (s, t) := by
  obtain ⟨r, hl, hr⟩ := seal_list s t
  have hb : 0 ≤ s ∧ s ≤ 1000000000 ∧ -1 ≤ t ∧ t ≤ 399 := by
    unfold okR at h
    simp at h
    omega
  have h1 : serN (sealB (rootB s t)) 4 = s.toNat := by
    simp only [serN, byteI_list, hl]
    simp [UInt8.toNat_ofNat']
    omega
  have h2 : treN (sealB (rootB s t)) = (t + 1).toNat := by
    simp only [treN, byteI_list, hl]
    simp [UInt8.toNat_ofNat']
    omega
  have hs : (sealB (rootB s t)).size = 11 := by
    show (sealB (rootB s t)).data.size = 11
    rw [← Array.length_toList, hl, List.length_append, hr]
    rfl
  have e1 : ((serN (sealB (rootB s t)) 4 : Nat) : Int) = s := by rw [h1]; omega
  have e2 : ((treN (sealB (rootB s t)) : Nat) : Int) - 1 = t := by rw [h2]; omega
  unfold rootA
  rw [e1, e2, if_pos ⟨hs, h, rfl⟩]

theorem rootA_text {x : ByteArray} {s t : Int} (h : rootA x = some (s, t)) : okR s t = true ∧ sealB (rootB s t) = x := by
  unfold rootA at h
  split at h
  · rename_i hc
    simp at h
    obtain ⟨rfl, rfl⟩ := h
    refine ⟨hc.2.1, ?_⟩
    exact toList_inj hc.2.2
  · cases h
end Rt
end Go.Proofs.YtobdmjoonjblpaaGreatDoor
