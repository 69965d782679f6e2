/-
  What chapter 1's writers write, its readers read back: plain mathematics of the answers. No condition but the chapter's limits.
-/
import Derived.Test.YtbcefikjacjplaaDoorMath
import Derived.Lib.Strings
namespace Go.Proofs.YtbcefikjacjplaaDoor
open Go.RowKit

theorem byteAt_mk (l : List UInt8) (i : Nat) (h : i < l.length) : byteAt ⟨l.toArray⟩ i = (l[i]'h).toNat := by
  rw [byteAt_list]
  simp [List.getElem?_eq_getElem h]

theorem size_mk (l : List UInt8) : (ByteArray.mk l.toArray).size = l.length := by simp [ByteArray.size]

theorem mix (m sc acc : Nat) : acc + m % 128 * sc + m / 128 * (sc * 128) = acc + m * sc := by
  have h : m / 128 * (sc * 128) = 128 * (m / 128) * sc := by
    rw [Nat.mul_comm sc 128, ← Nat.mul_assoc, Nat.mul_comm (m / 128) 128]
  have e : m % 128 * sc + 128 * (m / 128) * sc = m * sc := by
    rw [← Nat.add_mul, Nat.mod_add_div]
  rw [h, Nat.add_assoc, e]

theorem readV_var {s : ByteArray} {a n : Nat} (hn : n ≤ 1000000000) : ∀ (g m i acc sc f : Nat), m < 128 ^ (g + 1) → g < f → acc + m * sc = n →
    (∀ j (hj : j < (varB g m).length), byteAt s (i + j) = ((varB g m)[j]'hj).toNat) → i + (varB g m).length ≤ s.size → varB 4 n = (s.extract a (i + (varB g m).length)).toList →
    readV s a f i acc sc = some (n, i + (varB g m).length) := by
  intro g
  induction g with
  | zero =>
    intro m i acc sc f hm hf hacc hb hi hq
    obtain ⟨f, rfl⟩ : ∃ f', f = f' + 1 := ⟨f - 1, by omega⟩
    have hm7 : m ≤ 127 := by simp at hm; omega
    rw [varB_last 0 m hm7] at hb hi hq ⊢
    have hb0 := hb 0 (by simp)
    simp only [List.getElem_cons_zero, Nat.add_zero] at hb0
    rw [toNat_ofNat_small m (by omega)] at hb0
    simp only [List.length_cons, List.length_nil, Nat.zero_add] at hi hq ⊢
    have e : acc + byteAt s i % 128 * sc = n := by rw [hb0, Nat.mod_eq_of_lt (by omega)]; exact hacc
    rw [readV_yes (by omega) (by omega) (by rw [e]; omega) (by rw [e]; exact hq), e]
  | succ g ih =>
    intro m i acc sc f hm hf hacc hb hi hq
    obtain ⟨f, rfl⟩ : ∃ f', f = f' + 1 := ⟨f - 1, by omega⟩
    by_cases hm7 : m ≤ 127
    · rw [varB_last (g + 1) m hm7] at hb hi hq ⊢
      have hb0 := hb 0 (by simp)
      simp only [List.getElem_cons_zero, Nat.add_zero] at hb0
      rw [toNat_ofNat_small m (by omega)] at hb0
      simp only [List.length_cons, List.length_nil, Nat.zero_add] at hi hq ⊢
      have e : acc + byteAt s i % 128 * sc = n := by rw [hb0, Nat.mod_eq_of_lt (by omega)]; exact hacc
      rw [readV_yes (by omega) (by omega) (by rw [e]; omega) (by rw [e]; exact hq), e]
    · rw [varB_more g m (by omega)] at hb hi hq ⊢
      have hb0 := hb 0 (by simp)
      simp only [List.getElem_cons_zero, Nat.add_zero] at hb0
      rw [toNat_ofNat_small _ (by omega)] at hb0
      simp only [List.length_cons] at hi hq ⊢
      rw [readV_more (by omega) (by omega), hb0, show (m % 128 + 128) % 128 = m % 128 by omega]
      have hle : i + ((varB g (m / 128)).length + 1) = i + 1 + (varB g (m / 128)).length := by omega
      rw [hle] at hi hq ⊢
      refine ih (m / 128) (i + 1) (acc + m % 128 * sc) (sc * 128) f ?_ (by omega) ?_ ?_ hi hq
      · rw [Nat.div_lt_iff_lt_mul (by omega)]; rw [Nat.pow_succ] at hm; exact hm
      · rw [mix]; exact hacc
      · intro j hj
        have := hb (j + 1) (by simp; omega)
        simp only [List.getElem_cons_succ] at this
        rw [← this]
        congr 1
        omega

theorem extract_mid (p q r : List UInt8) : ((ByteArray.mk (p ++ q ++ r).toArray).extract p.length (p.length + q.length)).toList = q := by
  rw [Lib.toList_data, Lib.extract_data]
  simp

/-- A number behind p, ahead of r, is read back. -/
theorem readA_var (p r : List UInt8) (n : Nat) (hn : n ≤ 1000000000) : readA ⟨(p ++ varB 4 n ++ r).toArray⟩ (p.length : Int) = some (n, p.length + (varB 4 n).length) := by
  have hsz : (ByteArray.mk (p ++ varB 4 n ++ r).toArray).size = p.length + (varB 4 n).length + r.length := by simp [ByteArray.size]; omega
  rw [readA, if_pos ⟨by omega, by omega⟩, Int.toNat_natCast]
  refine readV_var hn 4 n p.length 0 1 5 (by omega) (by omega) (by omega) ?_ (by omega) ?_
  · intro j hj
    rw [byteAt_mk _ _ (by simp; omega)]
    congr 1
    rw [List.getElem_append_left (by simp; omega), List.getElem_append_right (by omega)]
    simp
  · exact (extract_mid p (varB 4 n) r).symm

theorem valI_figI (x : Int) (h0 : 0 ≤ x) (h1 : x < 16) : valI (figI x) = x := by
  unfold valI figI
  split
  · rw [if_pos (by omega)]; omega
  · rw [if_neg (by omega), if_pos (by omega)]; omega

theorem hexB_append (l m : List UInt8) : hexB (l ++ m) = hexB l ++ hexB m := by simp [hexB]

theorem hexB_at (l : List UInt8) (k : Nat) (h : k < l.length) :
    byteAt ⟨(hexB l).toArray⟩ (2 * k) = (fig ((l[k]'h).toNat / 16)).toNat ∧ byteAt ⟨(hexB l).toArray⟩ (2 * k + 1) = (fig ((l[k]'h).toNat % 16)).toNat := by
  have e : hexB l = hexB (l.take k) ++ (fig ((l[k]'h).toNat / 16) :: fig ((l[k]'h).toNat % 16) :: hexB (l.drop (k + 1))) := by
    have hl : l = l.take k ++ (l[k]'h :: l.drop (k + 1)) := by
      rw [← List.drop_eq_getElem_cons h, List.take_append_drop]
    conv => lhs; rw [hl]
    rw [hexB_append]
    rfl
  have hk : (hexB (l.take k)).length = 2 * k := by rw [hexB_length, List.length_take]; omega
  rw [byteAt_list, byteAt_list, e]
  constructor
  · rw [List.getElem?_append_right (by omega), hk]
    simp
  · rw [List.getElem?_append_right (by omega), hk]
    simp

theorem unhex_hex (l : List UInt8) : ∀ (f k : Nat), f + k = l.length → unhexF ⟨(hexB l).toArray⟩ f (2 * k) (l.take k) = some l := by
  intro f
  induction f with
  | zero => intro k hk; simp only [unhexF]; rw [List.take_of_length_le (by omega)]
  | succ f ih =>
    intro k hk
    have hlt : k < l.length := by omega
    obtain ⟨e1, e2⟩ := hexB_at l k hlt
    have hb := UInt8.toNat_lt (l[k]'hlt)
    have v1 : valI (byteAt ⟨(hexB l).toArray⟩ (2 * k)) = (((l[k]'hlt).toNat / 16 : Nat) : Int) := by
      rw [e1, fig_toNat _ (by omega), valI_figI _ (by omega) (by omega)]
    have v2 : valI (byteAt ⟨(hexB l).toArray⟩ (2 * k + 1)) = (((l[k]'hlt).toNat % 16 : Nat) : Int) := by
      rw [e2, fig_toNat _ (by omega), valI_figI _ (by omega) (by omega)]
    rw [unhexF_yes (by rw [v1, v2]; omega), v1, v2]
    have hc : UInt8.ofNat (16 * (((l[k]'hlt).toNat / 16 : Nat) : Int) + (((l[k]'hlt).toNat % 16 : Nat) : Int)).toNat = l[k]'hlt := by
      have : (16 * (((l[k]'hlt).toNat / 16 : Nat) : Int) + (((l[k]'hlt).toNat % 16 : Nat) : Int)).toNat = (l[k]'hlt).toNat := by omega
      rw [this]
      simp
    rw [hc, ← List.take_succ_eq_append_getElem hlt, show 2 * k + 2 = 2 * (k + 1) by omega]
    exact ih (k + 1) (by omega)

def dval (l : List UInt8) (n : Nat) : Nat := l.foldl (fun n c => n * 10 + (c.toNat - 48)) n

theorem rf10_fold (s : ByteArray) : ∀ (l : List UInt8) (i n : Nat), (∀ j (hj : j < l.length), byteAt s (i + j) = (l[j]'hj).toNat) → (∀ c ∈ l, 48 ≤ c.toNat ∧ c.toNat ≤ 57) → rf10 s l.length i n = some (dval l n) := by
  intro l
  induction l with
  | nil => intro i n _ _; rfl
  | cons c l ih =>
    intro i n hb hd
    have h0 := hb 0 (by simp)
    simp only [List.getElem_cons_zero, Nat.add_zero] at h0
    obtain ⟨d1, d2⟩ := hd c (by simp)
    have e : decI (byteAt s i) = (c.toNat : Int) - 48 := by rw [h0, decI, if_pos ⟨by omega, by omega⟩]
    simp only [List.length_cons]
    rw [rf10_yes (by rw [e]; omega), e, show ((c.toNat : Int) - 48).toNat = c.toNat - 48 by omega]
    rw [ih (i + 1) _ ?_ (fun x hx => hd x (List.mem_cons_of_mem _ hx))]
    · rfl
    · intro j hj
      have := hb (j + 1) (by simp; omega)
      simp only [List.getElem_cons_succ] at this
      rw [← this]
      congr 1
      omega

theorem decDigits_ok (u : Nat) : (∀ c ∈ Lib.decDigits u, 48 ≤ c.toNat ∧ c.toNat ≤ 57) ∧ dval (Lib.decDigits u) 0 = u := by
  induction u using Nat.strongRecOn with
  | _ u ih =>
    rw [Lib.decDigits]
    by_cases h : u < 10
    · rw [dif_pos h]
      refine ⟨fun c hc => ?_, ?_⟩
      · simp only [List.mem_singleton] at hc
        subst hc
        rw [toNat_ofNat_small _ (by omega)]
        omega
      · simp only [dval, List.foldl_cons, List.foldl_nil]
        rw [toNat_ofNat_small _ (by omega)]
        omega
    · rw [dif_neg h]
      obtain ⟨i1, i2⟩ := ih (u / 10) (by omega)
      refine ⟨fun c hc => ?_, ?_⟩
      · rcases List.mem_append.1 hc with hc | hc
        · exact i1 c hc
        · simp only [List.mem_singleton] at hc
          subst hc
          rw [toNat_ofNat_small _ (by omega)]
          omega
      · unfold dval at i2 ⊢
        rw [List.foldl_append, i2]
        simp only [List.foldl_cons, List.foldl_nil]
        rw [toNat_ofNat_small _ (by omega)]
        omega

theorem decDigits_short : ∀ (k u : Nat), u < 10 ^ (k + 1) → (Lib.decDigits u).length ≤ k + 1 := by
  intro k
  induction k with
  | zero => intro u h; rw [Lib.decDigits_one (by simpa using h)]; simp
  | succ k ih =>
    intro u h
    rw [Lib.decDigits]
    by_cases h10 : u < 10
    · rw [dif_pos h10]; simp
    · rw [dif_neg h10, List.length_append]
      have := ih (u / 10) (by rw [Nat.div_lt_iff_lt_mul (by omega)]; rw [Nat.pow_succ] at h; exact h)
      simp
      omega

/-- A number's numeral is read back. -/
theorem readDec_dec (n : Nat) (hn : n ≤ 1000000000) : (ByteArray.mk (Lib.itoa (n : Int)).toArray).size ≤ 10 ∧
    rdOut ⟨(Lib.itoa (n : Int)).toArray⟩ (rf10 ⟨(Lib.itoa (n : Int)).toArray⟩ (ByteArray.mk (Lib.itoa (n : Int)).toArray).size 0 0) = .tuple #[.int .i64 (n : Int), .bool true] := by
  have e : Lib.itoa (n : Int) = Lib.decDigits n := Lib.itoa_nonneg n
  obtain ⟨d1, d2⟩ := decDigits_ok n
  refine ⟨by rw [size_mk, e]; exact decDigits_short 9 n (by omega), ?_⟩
  rw [size_mk, rf10_fold _ (Lib.itoa (n : Int)) 0 0 (fun j hj => by rw [Nat.zero_add, byteAt_mk _ _ hj]) (by rw [e]; exact d1)]
  have e2 : dval (Lib.itoa (n : Int)) 0 = n := by rw [e]; exact d2
  rw [e2]
  exact if_pos ⟨hn, by simp⟩
end Go.Proofs.YtbcefikjacjplaaDoor
