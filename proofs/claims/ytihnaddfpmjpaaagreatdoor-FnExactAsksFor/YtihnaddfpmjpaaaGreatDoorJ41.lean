/-
 Rh3.
-/
import Derived.Test.YtihnaddfpmjpaaaGreatDoorJ40
namespace Go.Proofs.YtihnaddfpmjpaaaGreatDoor
namespace Rg
open Go.RowKit
theorem rCount_len : ∀ (Q : PL), rCount Q = (Q.filter fun p => decide (byteAt p.1 0 = 114)).length
  | [] => rfl
  | p :: Q => by
    rw [rCount, rCount_len Q]
    by_cases h : byteAt p.1 0 = 114
    · rw [if_pos h, List.filter_cons_of_pos (by simp [h]), List.length_cons]; omega
    · rw [if_neg h, List.filter_cons_of_neg (by simp [h])]; omega
def askedF (Q : PL) : Nat → Nat → List (List UInt8)
  | 0, _ => []
  | f + 1, r => ((List.range (Gr.partsT (textP Q r)).length).map fun i => (k2 114 r i).toList) ++ askedF Q f (r + 1)
theorem asked_len (Q : PL) : ∀ (f r : Nat), (askedF Q f r).length = partsSum Q f r
  | 0, r => rfl
  | f + 1, r => by rw [askedF, partsSum, List.length_append, asked_len Q f (r + 1)]; simp
theorem asked_mem (Q : PL) : ∀ (f r : Nat) (x : List UInt8), x ∈ askedF Q f r ↔ ∃ a i, r ≤ a ∧ a < r + f ∧ i < (Gr.partsT (textP Q a)).length ∧ x = (k2 114 a i).toList
  | 0, r, x => by simp [askedF]; intro a i h1 h2; omega
  | f + 1, r, x => by
    rw [askedF, List.mem_append, asked_mem Q f (r + 1) x]
    constructor
    · rintro (h | ⟨a, i, h1, h2, h3, h4⟩)
      · obtain ⟨i, hi, rfl⟩ := List.mem_map.1 h
        exact ⟨r, i, Nat.le_refl _, by omega, by simpa using hi, rfl⟩
      · exact ⟨a, i, by omega, by omega, h3, h4⟩
    · rintro ⟨a, i, h1, h2, h3, h4⟩
      rcases Nat.eq_or_lt_of_le h1 with h | h
      · subst h
        exact Or.inl (List.mem_map.2 ⟨i, by simpa using h3, h4.symm⟩)
      · exact Or.inr ⟨a, i, by omega, by omega, h3, h4⟩
theorem asked_nodup (Q : PL) : ∀ (f r : Nat), r + f ≤ 99 → (∀ a, r ≤ a → a < r + f → (Gr.partsT (textP Q a)).length ≤ 100) → (askedF Q f r).Nodup
  | 0, r, _, _ => by simp [askedF]
  | f + 1, r, h, hl => by
    rw [askedF, List.nodup_append]
    refine ⟨?_, asked_nodup Q f (r + 1) (by omega) (fun a h1 h2 => hl a (by omega) (by omega)), ?_⟩
    · unfold List.Nodup
      rw [List.pairwise_map]
      refine List.Pairwise.imp_of_mem ?_ (List.nodup_range (n := (Gr.partsT (textP Q r)).length))
      intro a b ha hb hab e
      have h1 := List.mem_range.1 ha
      have h2 := List.mem_range.1 hb
      have h3 := hl r (Nat.le_refl _) (by omega)
      exact hab (k2_inj (by omega) (by omega) (by omega) (by omega) e).2
    · intro x hx y hy e
      obtain ⟨i, hi, rfl⟩ := List.mem_map.1 hx
      obtain ⟨a, j, h1, h2, h3, h4⟩ := (asked_mem Q f (r + 1) y).1 hy
      have h5 := hl r (Nat.le_refl _) (by omega)
      have h6 := hl a (by omega) (by omega)
      have h7 := List.mem_range.1 hi
      rw [h4] at e
      have := (k2_inj (by omega) (by omega) (by omega) (by omega) e).1
      omega
theorem part_below {Q : PL} (hn : rnds Q ≤ 6) (hr : ∀ i, i < rnds Q → roundOk Q i = true) (hc : rCount Q = partsSum Q (rnds Q) 0) {a b : Nat} (h99 : a ≤ 99) (hb : b ≤ 99) (hg : (getP Q (k2 114 a b)).isSome = true) : b < (Gr.partsT (textP Q a)).length := by
  have hpo : ∀ r, r < rnds Q → ∀ i (h : i < (Gr.partsT (textP Q r)).length), i ≤ 99 ∧ getP Q (rk r i) = some (Gr.partsT (textP Q r))[i] := fun r hrn => by
    have h1 := hr r hrn
    unfold roundOk at h1
    simp only [Bool.and_eq_true] at h1
    have h2 := (parts_iff Q r _ 0).1 h1.2.2.1
    intro i hi
    have := h2 i hi
    rwa [Nat.zero_add] at this
  have hl : ∀ r, 0 ≤ r → r < 0 + rnds Q → (Gr.partsT (textP Q r)).length ≤ 100 := fun r _ hrn => by
    rcases Nat.lt_or_ge 100 (Gr.partsT (textP Q r)).length with h | h
    · have := (hpo r (by omega) 100 h).1; omega
    · exact h
  have hnd := asked_nodup Q (rnds Q) 0 (by omega) hl
  by_cases hin : (k2 114 a b).toList ∈ askedF Q (rnds Q) 0
  · obtain ⟨a', i, _, h2, h3, h4⟩ := (asked_mem Q _ 0 _).1 hin
    have h5 := hl a' (Nat.zero_le _) h2
    obtain ⟨rfl, rfl⟩ := k2_inj h99 hb (by omega) (by omega) h4
    exact h3
  · exfalso
    have hsub : ∀ x ∈ (k2 114 a b).toList :: askedF Q (rnds Q) 0, x ∈ (Q.filter fun p => decide (byteAt p.1 0 = 114)).map fun p => p.1.toList := by
      have hmem : ∀ c d, c ≤ 99 → d ≤ 99 → (getP Q (k2 114 c d)).isSome = true → (k2 114 c d).toList ∈ (Q.filter fun p => decide (byteAt p.1 0 = 114)).map fun p => p.1.toList := fun c d hc hd hs => by
        obtain ⟨v, hv⟩ := Option.isSome_iff_exists.1 hs
        obtain ⟨p, hp, h1, _⟩ := get_pair Q _ v hv
        refine List.mem_map.2 ⟨p, List.mem_filter.2 ⟨hp, ?_⟩, by rw [h1]⟩
        rw [h1, k2_byte _ c d hc hd]
        rfl
      intro x hx
      rcases List.mem_cons.1 hx with rfl | hx
      · exact hmem a b h99 hb hg
      · obtain ⟨a', i, _, h2, h3, rfl⟩ := (asked_mem Q _ 0 _).1 hx
        have h5 := hpo a' (by omega) i h3
        exact hmem a' i (by omega) h5.1 (by show (getP Q (rk a' i)).isSome = true; rw [h5.2]; rfl)
    have hle := nodup_le _ _ (List.nodup_cons.2 ⟨hin, hnd⟩) hsub
    rw [List.length_cons, asked_len, ← hc, List.length_map, ← rCount_len] at hle
    omega
theorem fold_some {Q : PL} (hst : stateOk Q = true) : ∀ (L P : PL) (R : Rgs), Inv P R → P ++ L = Q → ∃ R', regFold R L = some R'
  | [], P, R, _, _ => ⟨R, rfl⟩
  | q :: L, P, R, I, hQ => by
    have hst2 := hst
    unfold stateOk at hst2
    simp only [Bool.and_eq_true, decide_eq_true_eq] at hst2
    obtain ⟨hM, h6, hk, hro, hcount⟩ := hst2
    have hasc := map_asc hM
    have hall := keys_all Q _ Q hk
    have hro := (rounds_iff Q _ 0).1 hro
    simp only [Nat.zero_add] at hro
    have hq : q ∈ Q := by rw [← hQ]; simp
    have hkq := hall q hq
    have hasc' : Asc (P ++ q :: L) := by rw [hQ]; exact hasc
    have hnew := asc_new hasc'
    have hahead : ∀ k, (getP Q k).isSome = true → Op.bytesLess k.toList q.1.toList = true → (getP P k).isSome = true := fun k hs hl => by
      obtain ⟨v, hv⟩ := Option.isSome_iff_exists.1 hs
      obtain ⟨p, hp, h1, _⟩ := get_pair Q k v hv
      have hp' : p ∈ P ++ q :: L := by rw [hQ]; exact hp
      have := asc_ahead hasc' hp' (by rw [h1]; exact hl)
      rw [← h1]
      exact getP_some this
    have hdup : (getP P q.1).isSome = true → False := fun hs => by
      obtain ⟨v, hv⟩ := Option.isSome_iff_exists.1 hs
      obtain ⟨p, hp, h1, _⟩ := get_pair P q.1 v hv
      exact hnew p hp (by rw [h1])
    have hrd : ∀ m, m ≤ 99 → m = R.rds.length → (getP P (k1 113 m)).isSome = true → False := fun m hm he hs => by
      have := I.q m hm
      rw [List.getElem?_eq_none (by omega)] at this
      cases hg : getP P (k1 113 m) with
      | none => rw [hg] at hs; cases hs
      | some v => rw [hg] at this; cases this
    have htake : ∃ R1, takeP R q.1 q.2 = some R1 := by
      obtain ⟨k, v⟩ := q
      simp only at *
      by_cases h3 : k.size = 3
      · rw [takeP_1 R k v h3]
        have hkq' := hkq
        unfold keyOk at hkq'
        rw [if_pos h3] at hkq'
        cases hn : numP (k.extract 1 k.size) with
        | none =>
          rw [hn] at hkq'
          split at hkq'
          · cases hkq'
          · split at hkq' <;> cases hkq'
        | some a =>
          obtain ⟨h99, hka⟩ := key1_is h3 hn
          rw [hn] at hkq'
          simp only [take1]
          split at hkq'
          · rename_i hb
            rw [hb, if_neg (by omega), if_pos rfl]
            rw [vOk_stand] at hkq'
            simp only [Bool.and_eq_true, decide_eq_true_eq] at hkq'
            unfold takeV
            rw [if_pos hkq'.1]
            cases hs : standV v with
            | none => rw [hs] at hkq'; cases hkq'.2
            | some s => exact ⟨_, rfl⟩
          · split at hkq'
            · rename_i hb
              rw [hb, if_pos rfl]
              rw [hb] at hka
              have han : a < rnds Q := of_decide_eq_true hkq'
              unfold takeQ
              have : a = R.rds.length := by
                rcases Nat.lt_trichotomy a R.rds.length with h | h | h
                · exfalso
                  have := I.q a h99
                  rw [List.getElem?_eq_getElem h] at this
                  refine hdup ?_
                  rw [hka]
                  cases hg : getP P (k1 113 a) with
                  | none => change _ = (getP P (k1 113 a)).map bytesI at this; rw [hg] at this; cases this
                  | some v => rfl
                · exact h
                · exfalso
                  refine hrd R.rds.length (by omega) rfl (hahead _ (rnds_some Q _ (by omega)) ?_)
                  rw [hka]
                  exact k1_less h h99
              rw [if_pos this]
              exact ⟨_, rfl⟩
            · cases hkq'
      · by_cases h5 : k.size = 5
        · rw [takeP_2 R k v h5]
          have hkq' := hkq
          unfold keyOk at hkq'
          rw [if_neg h3, if_pos h5] at hkq'
          cases hn : numP (k.extract 1 3) with
          | none =>
            rw [hn] at hkq'
            split at hkq'
            · cases hkq'
            · split at hkq' <;> cases hkq'
          | some a =>
            cases hm : numP (k.extract 3 k.size) with
            | none =>
              rw [hn, hm] at hkq'
              split at hkq'
              · cases hkq'
              · split at hkq' <;> cases hkq'
            | some b =>
              obtain ⟨h99, hb99, hka⟩ := key2_is h5 hn hm
              simp only [take2]
              split at hkq'
              · rename_i hb
                rw [hb, if_pos rfl]
                rw [hb] at hka
                have hke := hkq
                rw [hka] at hke
                change keyOk Q (rnds Q) (k2 101 a b) v = true at hke
                rw [keyOk_e Q _ a b v h99 hb99] at hke
                simp only [eOk] at hke
                split at hke
                · cases hke
                · split at hke
                  · cases hke
                  · rename_i h1 h2
                    simp only [Bool.and_eq_true] at hke
                    have hvb := hke.2.1
                    obtain ⟨u, hu⟩ := Option.isSome_iff_exists.1 hvb
                    obtain ⟨p, hp, hp1, hp2⟩ := get_pair Q _ u hu
                    have hkp := hall p hp
                    rw [hp1, keyOk_v Q _ b _ hb99, vOk_stand] at hkp
                    simp only [Bool.and_eq_true, decide_eq_true_eq] at hkp
                    unfold takeE
                    rw [if_pos ⟨hkp.1, by omega, by omega⟩]
                    exact ⟨_, rfl⟩
              · split at hkq'
                · rename_i hb
                  rw [hb, if_neg (by omega), if_pos rfl]
                  rw [hb] at hka
                  change k = k2 114 a b at hka
                  have han : a < rnds Q := by
                    rw [hka, keyOk_r Q _ a b v h99 hb99] at hkq
                    exact of_decide_eq_true hkq
                  have hal : a < R.rds.length := by
                    rcases Nat.lt_or_ge a R.rds.length with h | h
                    · exact h
                    · exfalso
                      refine hrd R.rds.length (by omega) rfl (hahead _ (rnds_some Q _ (by omega)) ?_)
                      rw [hka, k2_list _ a b h99 hb99]
                      show Op.bytesLess (k1 113 R.rds.length).toList _ = true
                      rw [k1_list _ _ (by omega)]
                      exact less_lt (by decide) _ _
                  have hgk : (getP Q (k2 114 a b)).isSome = true := by
                    have := getP_some hq
                    simp only at this
                    rwa [hka] at this
                  have hbl := part_below h6 hro hcount h99 hb99 hgk
                  unfold takeR
                  rw [List.getElem?_eq_getElem hal]
                  simp only
                  have hrr : ∀ i, i ≤ 99 → getP P (k2 114 a i) = R.rds[a].2[i]? := fun i hi => by
                    have := I.r a i h99 hi
                    rw [List.getElem?_eq_getElem hal] at this
                    exact this.symm
                  have : b = R.rds[a].2.length := by
                    rcases Nat.lt_trichotomy b R.rds[a].2.length with h | h | h
                    · exfalso
                      refine hdup ?_
                      rw [hka, hrr b hb99, List.getElem?_eq_getElem h]
                      rfl
                    · exact h
                    · exfalso
                      have h1 : (getP P (k2 114 a R.rds[a].2.length)).isSome = true := by
                        refine hahead _ ?_ ?_
                        · have h2 := hro a han
                          unfold roundOk at h2
                          simp only [Bool.and_eq_true] at h2
                          have h3 := ((parts_iff Q a _ 0).1 h2.2.2.1 R.rds[a].2.length (by omega)).2
                          rw [Nat.zero_add] at h3
                          show (getP Q (rk a R.rds[a].2.length)).isSome = true
                          rw [h3]
                          rfl
                        · rw [hka]
                          exact k2_less h99 h hb99
                      rw [hrr _ (by omega), List.getElem?_eq_none (Nat.le_refl _)] at h1
                      cases h1
                  rw [if_pos this]
                  exact ⟨_, rfl⟩
                · cases hkq'
        · exfalso
          unfold keyOk at hkq
          rw [if_neg h3, if_neg h5] at hkq
          cases hkq
    obtain ⟨R1, h1⟩ := htake
    rw [regFold, h1]
    exact fold_some hst L (P ++ [q]) R1 (inv_step I hnew h1) (by simpa using hQ)
theorem reg_is (Q : PL) : regOk Q = stateOk Q := by
  unfold regOk
  by_cases hM : Tr.MapR Q
  · have ha := map_asc hM
    cases hf : regFold R0 Q with
    | none =>
      rw [Bool.and_false]
      cases hs : stateOk Q with
      | false => rfl
      | true =>
        obtain ⟨R', h⟩ := fold_some hs Q [] R0 inv_nil rfl
        rw [hf] at h
        cases h
    | some R =>
      have I := inv_fold Q [] R0 R inv_nil (by simpa using ha) hf
      rw [List.nil_append] at I
      simp only
      rw [checks_iff I ha]
      rfl
  · unfold stateOk
    rw [decide_eq_false hM, Bool.false_and, Bool.false_and]
theorem reg_inv {Q : PL} (h : stateOk Q = true) : ∃ R, regFold R0 Q = some R ∧ Inv Q R ∧ Asc Q ∧ checks R = true ∧ rnds Q = R.rds.length := by
  have h2 := h
  rw [← reg_is] at h2
  unfold regOk at h2
  simp only [Bool.and_eq_true, decide_eq_true_eq] at h2
  have ha := map_asc h2.1
  cases hf : regFold R0 Q with
  | none => rw [hf] at h2; cases h2.2
  | some R =>
    rw [hf] at h2
    have I := inv_fold Q [] R0 R inv_nil (by simpa using ha) hf
    rw [List.nil_append] at I
    have hc : checks R = true := h2.2
    refine ⟨R, rfl, I, ha, hc, (inv_rnds I).2 ?_⟩
    unfold checks roundsR at hc
    simp only [Bool.and_eq_true, decide_eq_true_eq] at hc
    exact hc.2.1.2
end Rg
end Go.Proofs.YtihnaddfpmjpaaaGreatDoor
