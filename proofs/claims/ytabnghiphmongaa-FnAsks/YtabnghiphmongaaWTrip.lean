/-
  A number that is written is read back. Without a program.
-/
import Derived.Test.YtabnghiphmongaaWMath
namespace Go.Proofs.Ytabnghiphmongaa
open Go.RowKit

theorem byteAt_list (s : ByteArray) (i : Nat) : byteAt s i = ((s.data.toList)[i]?.map UInt8.toNat).getD 0 := by
  unfold byteAt
  split
  · rename_i h
    have h2 : i < s.data.toList.length := by simpa using h
    rw [List.getElem?_eq_getElem h2]
    rfl
  · rename_i h
    have h2 : s.data.toList.length ≤ i := by simpa using h
    rw [List.getElem?_eq_none h2]
    rfl

theorem byteAt_mk (l : List UInt8) (i : Nat) (h : i < l.length) : byteAt ⟨l.toArray⟩ i = (l[i]'h).toNat := by
  rw [byteAt_list]
  simp [List.getElem?_eq_getElem h]

theorem mix (m sc acc : Nat) : acc + m % 128 * sc + m / 128 * (sc * 128) = acc + m * sc := by
  have h : m / 128 * (sc * 128) = 128 * (m / 128) * sc := by
    rw [Nat.mul_comm sc 128, ← Nat.mul_assoc, Nat.mul_comm (m / 128) 128]
  have e : m % 128 * sc + 128 * (m / 128) * sc = m * sc := by
    rw [← Nat.add_mul, Nat.mod_add_div]
  rw [h, Nat.add_assoc, e]

theorem readV_var {s : ByteArray} {a n : Nat} (hn : n ≤ 1000000000) : ∀ (g m i acc sc f : Nat), m < 128 ^ (g + 1) → g < f → acc + m * sc = n →
    (∀ j (hj : j < (varB g m).length), byteAt s (i + j) = ((varB g m)[j]'hj).toNat) → i + (varB g m).length ≤ s.size → varB 4 n = (s.extract a (i + (varB g m).length)).toList →
    readV s a f i acc sc = some (n, i + (varB g m).length) := by
  intro g
  induction g with
  | zero =>
    intro m i acc sc f hm hf hacc hb hi hq
    obtain ⟨f, rfl⟩ : ∃ f', f = f' + 1 := ⟨f - 1, by omega⟩
    have hm7 : m ≤ 127 := by simp at hm; omega
    rw [varB_last 0 m hm7] at hb hi hq ⊢
    have hb0 := hb 0 (by simp)
    simp only [List.getElem_cons_zero, Nat.add_zero] at hb0
    rw [toNat_ofNat_small m (by omega)] at hb0
    simp only [List.length_cons, List.length_nil, Nat.zero_add] at hi hq ⊢
    have e : acc + byteAt s i % 128 * sc = n := by rw [hb0, Nat.mod_eq_of_lt (by omega)]; exact hacc
    rw [readV_yes (by omega) (by omega) (by rw [e]; omega) (by rw [e]; exact hq), e]
  | succ g ih =>
    intro m i acc sc f hm hf hacc hb hi hq
    obtain ⟨f, rfl⟩ : ∃ f', f = f' + 1 := ⟨f - 1, by omega⟩
    by_cases hm7 : m ≤ 127
    · rw [varB_last (g + 1) m hm7] at hb hi hq ⊢
      have hb0 := hb 0 (by simp)
      simp only [List.getElem_cons_zero, Nat.add_zero] at hb0
      rw [toNat_ofNat_small m (by omega)] at hb0
      simp only [List.length_cons, List.length_nil, Nat.zero_add] at hi hq ⊢
      have e : acc + byteAt s i % 128 * sc = n := by rw [hb0, Nat.mod_eq_of_lt (by omega)]; exact hacc
      rw [readV_yes (by omega) (by omega) (by rw [e]; omega) (by rw [e]; exact hq), e]
    · rw [varB_more g m (by omega)] at hb hi hq ⊢
      have hb0 := hb 0 (by simp)
      simp only [List.getElem_cons_zero, Nat.add_zero] at hb0
      rw [toNat_ofNat_small _ (by omega)] at hb0
      simp only [List.length_cons] at hi hq ⊢
      rw [readV_more (by omega) (by omega), hb0, show (m % 128 + 128) % 128 = m % 128 by omega]
      have hle : i + ((varB g (m / 128)).length + 1) = i + 1 + (varB g (m / 128)).length := by omega
      rw [hle] at hi hq ⊢
      refine ih (m / 128) (i + 1) (acc + m % 128 * sc) (sc * 128) f ?_ (by omega) ?_ ?_ hi hq
      · rw [Nat.div_lt_iff_lt_mul (by omega)]; rw [Nat.pow_succ] at hm; exact hm
      · rw [mix]; exact hacc
      · intro j hj
        have := hb (j + 1) (by simp; omega)
        simp only [List.getElem_cons_succ] at this
        rw [← this]
        congr 1
        omega

theorem extract_mid (p q r : List UInt8) : ((ByteArray.mk (p ++ q ++ r).toArray).extract p.length (p.length + q.length)).toList = q := by
  rw [ByteArray.toList_eq]
  simp

/-- A number behind p, ahead of r, is read back. -/
theorem readA_var (p r : List UInt8) (n : Nat) (hn : n ≤ 1000000000) : readA ⟨(p ++ varB 4 n ++ r).toArray⟩ (p.length : Int) = some (n, p.length + (varB 4 n).length) := by
  have hsz : (ByteArray.mk (p ++ varB 4 n ++ r).toArray).size = p.length + (varB 4 n).length + r.length := by simp [ByteArray.size]; omega
  rw [readA, if_pos ⟨by omega, by omega⟩, Int.toNat_natCast]
  refine readV_var hn 4 n p.length 0 1 5 (by omega) (by omega) (by omega) ?_ (by omega) ?_
  · intro j hj
    rw [byteAt_mk _ _ (by simp; omega)]
    congr 1
    rw [List.getElem_append_left (by simp; omega), List.getElem_append_right (by omega)]
    simp
  · exact (extract_mid p (varB 4 n) r).symm
end Go.Proofs.Ytabnghiphmongaa
