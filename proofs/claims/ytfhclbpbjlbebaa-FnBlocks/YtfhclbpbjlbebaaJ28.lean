/-
  Texts of this claim, one behind the other: LkTB2.
-/
import Derived.Test.YtfhclbpbjlbebaaJ19
import Derived.Test.YtfhclbpbjlbebaaJ25
import Derived.Test.YtfhclbpbjlbebaaJ23
import Derived.Test.YtfhclbpbjlbebaaJ27

/-
  Pairings of a right graph as turns of its vertices and back; the best set meets the most couples, and no other tells fewer. Mathematics, without a program.
-/
namespace Go.Proofs.Ytfhclbpbjlbebaa
namespace Lk
open Gr (EdgeI CoupleI SumsI graphOk hit atFrom matchOk mFrom best best_is best_of_all better_iff sums sums_cons edgeN edgeN_at match_pm match_few pm_from nodup_len addS)

theorem countP_below (f : Nat → Bool) (n : Nat) : ∀ k, (List.range (n + k)).countP (fun w => decide (w < n) && f w) = (List.range n).countP f
  | 0 => List.countP_congr (fun v hv => by have := List.mem_range.1 hv; simp at this; simp [this])
  | k + 1 => by
    rw [show n + (k + 1) = (n + k) + 1 from rfl, List.range_succ, List.countP_append, countP_below f n k]
    have h0 : decide (n + k < n) = false := decide_eq_false (by omega)
    simp [h0]

theorem setTo_cnt (f : Nat → Bool) (n : Nat) (hn : n ≤ 9) : (setTo f n).length = cnt (fun w => decide (w < n) && f w) := by
  obtain ⟨k, e⟩ : ∃ k, 9 = n + k := ⟨9 - n, by omega⟩
  unfold cnt setTo
  rw [e, countP_below f n k, List.length_map, List.countP_eq_length_filter]

theorem odd_cnt (Ps : List (Nat → Bool)) : oddN Ps = oddC Ps := by
  unfold oddN oddC
  congr 1
  refine List.map_congr_left (fun p _ => ?_)
  unfold setTo cnt
  rw [List.length_map, List.countP_eq_length_filter]

theorem cnt_below (n : Nat) (hn : n ≤ 9) : cnt (fun v => decide (v < n)) = n := by
  have h := setTo_cnt (fun _ => true) n hn
  have e1 : (setTo (fun _ => true) n).length = n := by
    unfold setTo
    rw [List.length_map, List.filter_eq_self.2 (fun _ _ => rfl), List.length_range]
  have e2 : cnt (fun w => decide (w < n) && true) = cnt (fun v => decide (v < n)) := cnt_eq (fun j _ => by simp)
  have h' : (setTo (fun _ => true) n).length = cnt (fun w => decide (w < n) && true) := h
  omega

/-! ### Every edge worth one -/

theorem atFrom_plain (a b : Int) : ∀ (Q : List EdgeI) (k : Nat), atFrom a b k (plainQ Q) = atFrom a b k Q
  | [], _ => rfl
  | e :: r, k => by
    have ih := atFrom_plain a b r (k + 1)
    show atFrom a b k (plainE e :: plainQ r) = _
    unfold atFrom
    rw [ih]
    rfl

theorem mFrom_plain (Q : List EdgeI) : ∀ (M : List CoupleI) (p : Option CoupleI) (U : List Int), mFrom (plainQ Q) p U M = mFrom Q p U M
  | [], _, _ => by unfold mFrom; rfl
  | x :: r, p, U => by
    unfold mFrom
    rw [atFrom_plain, mFrom_plain Q r]

theorem match_plain {s : Int} {Q : List EdgeI} (hg : graphOk s Q = true) (M : List CoupleI) : matchOk s (plainQ Q) M = matchOk s Q M := by
  unfold matchOk
  rw [plain_ok hg, hg, mFrom_plain]

theorem sums_plain (Q : List EdgeI) : ∀ (M : List CoupleI), (∀ x ∈ M, 0 ≤ atFrom x.A x.B 0 (plainQ Q)) → (sums (plainQ Q) M).W1 = (M.length : Int)
  | [], _ => rfl
  | x :: r, h => by
    have ih := sums_plain Q r (fun y hy => h y (List.mem_cons_of_mem _ hy))
    rw [sums_cons]
    obtain ⟨i, hi, _, e, _⟩ := edgeN_at (h x List.mem_cons_self)
    rw [e]
    have e1 : (plainQ Q)[i].W1 = 1 := by simp [plainQ, plainE]
    show (sums (plainQ Q) r).W1 + (plainQ Q)[i].W1 = _
    rw [ih, e1, List.length_cons]
    omega

section
variable {s : Int} {Q : List EdgeI}

theorem most_top (hg : graphOk s Q = true) {M : List CoupleI} (hm : matchOk s Q M = true) : (M.length : Int) ≤ mostC s Q := by
  have hp : matchOk s (plainQ Q) M = true := by rw [match_plain hg]; exact hm
  have h1 := (best_of_all hp).1
  have hpm := hp
  unfold matchOk at hpm
  simp only [Bool.and_eq_true] at hpm
  obtain ⟨h2, _, _⟩ := match_pm hpm.1 M none [] hpm.2.2
  have h3 := sums_plain Q M (fun x hx => (h2 x hx).2.2.2.1)
  unfold mostC
  rw [if_pos hg]
  have h4 : ¬ ((best (plainQ Q) s s.toNat []).1.W1 < (sums (plainQ Q) M).W1) := fun h5 => by
    have := (better_iff (sums (plainQ Q) M) (best (plainQ Q) s s.toNat []).1).2 (.inl h5)
    rw [h1] at this
    cases this
  omega

theorem most_has (hg : graphOk s Q = true) : ∃ M, matchOk s Q M = true ∧ (M.length : Int) = mostC s Q := by
  obtain ⟨M, hM, hs⟩ := best_is (plain_ok hg)
  have hpm := hM
  unfold matchOk at hpm
  simp only [Bool.and_eq_true] at hpm
  obtain ⟨h2, _, _⟩ := match_pm hpm.1 M none [] hpm.2.2
  refine ⟨M, by rw [← match_plain hg]; exact hM, ?_⟩
  unfold mostC
  rw [if_pos hg, ← hs, sums_plain Q M (fun x hx => (h2 x hx).2.2.2.1)]

/-! ### Pairings as turns -/

/-- The turn of couples. -/
def turnC : List CoupleI → Nat → Nat
  | [] => fun v => v
  | x :: r => joinU (turnC r) x.A.toNat x.B.toNat

theorem turnC_out : ∀ (M : List CoupleI) (v : Nat), (∀ x ∈ M, v ≠ x.A.toNat ∧ v ≠ x.B.toNat) → turnC M v = v
  | [], _, _ => rfl
  | x :: r, v, h => by
    have h1 := h x List.mem_cons_self
    show joinU (turnC r) x.A.toNat x.B.toNat v = v
    unfold joinU
    rw [if_neg h1.1, if_neg h1.2]
    exact turnC_out r v (fun y hy => h y (List.mem_cons_of_mem _ hy))

/-- The first n vertices. -/
def lowF (n : Nat) : Nat → Bool := fun v => decide (v < n)

theorem edge_of (hg : graphOk s Q = true) {a b : Int} (ha : 0 ≤ a) (hb : 0 ≤ b) : lnkF Q a.toNat b.toNat = true ↔ 0 ≤ atFrom a b 0 Q := by
  rw [lnkF_any (apart_of hg), Int.toNat_of_nonneg ha, Int.toNat_of_nonneg hb]
  constructor
  · intro h
    have key : ∀ (L : List EdgeI) (k : Nat), L.any (hit a b) = true → 0 ≤ atFrom a b k L := by
      intro L
      induction L with
      | nil => intro k h; cases h
      | cons e r ih =>
        intro k h
        unfold atFrom
        by_cases he : hit a b e = true
        · rw [if_pos he]; omega
        · rw [if_neg he]
          rw [List.any_cons] at h
          simp only [he, Bool.false_or] at h
          exact ih (k + 1) h
    exact key Q 0 h
  · intro h
    obtain ⟨i, hi, _, _, hh⟩ := edgeN_at h
    exact List.any_eq_true.2 ⟨Q[i], List.getElem_mem hi, hh⟩

theorem turnC_mt (hg : graphOk s Q = true) : ∀ (M : List CoupleI), (∀ x ∈ M, 0 ≤ x.A ∧ x.A < x.B ∧ x.B < s ∧ 0 ≤ atFrom x.A x.B 0 Q) → M.Pairwise (fun x y => x.A < y.A ∧ y.A ≠ x.B ∧ y.B ≠ x.B) →
    Mt (lnkF Q) (lowF s.toNat) (turnC M) ∧ dfc (lowF s.toNat) (turnC M) + 2 * M.length = s.toNat
  | [], _, _ => by
    obtain ⟨s0, s9⟩ := ok_size hg
    refine ⟨mt_id _ _, ?_⟩
    have h : dfc (lowF s.toNat) (turnC []) = cnt (fun v => decide (v < s.toNat)) := cnt_eq (fun j _ => by simp [freeQ, lowF, turnC])
    rw [h, cnt_below _ (by omega)]
    rfl
  | x :: r, h, hp => by
    obtain ⟨s0, s9⟩ := ok_size hg
    rw [List.pairwise_cons] at hp
    obtain ⟨hm, hd⟩ := turnC_mt hg r (fun y hy => h y (List.mem_cons_of_mem _ hy)) hp.2
    obtain ⟨a0, ab, bs, hE⟩ := h x List.mem_cons_self
    have oA : turnC r x.A.toNat = x.A.toNat := turnC_out r _ (fun y hy => by
      have h1 := hp.1 y hy
      obtain ⟨b0, b1, _⟩ := h y (List.mem_cons_of_mem _ hy)
      omega)
    have oB : turnC r x.B.toNat = x.B.toNat := turnC_out r _ (fun y hy => by
      have h1 := hp.1 y hy
      obtain ⟨b0, b1, _⟩ := h y (List.mem_cons_of_mem _ hy)
      omega)
    have hne : x.A.toNat ≠ x.B.toNat := by omega
    have fA : lowF s.toNat x.A.toNat = true := by unfold lowF; exact decide_eq_true (by omega)
    have fB : lowF s.toNat x.B.toNat = true := by unfold lowF; exact decide_eq_true (by omega)
    refine ⟨joinU_mt (lnkF_swap (apart_of hg)) hm oA oB hne ((edge_of hg a0 (by omega)).2 hE) fA fB, ?_⟩
    have u1 := cnt_upd (freeQ (lowF s.toNat) (turnC r)) x.A.toNat (by omega) false
    have u2 := cnt_upd (fun v => if v = x.A.toNat then false else freeQ (lowF s.toNat) (turnC r) v) x.B.toNat (by omega) false
    have q1 : freeQ (lowF s.toNat) (turnC r) x.A.toNat = true := by unfold freeQ; rw [fA, oA]; simp
    have q2 : freeQ (lowF s.toNat) (turnC r) x.B.toNat = true := by unfold freeQ; rw [fB, oB]; simp
    simp only [q1, q2, if_neg hne.symm, Bool.toNat_true, Bool.toNat_false] at u1 u2
    have e : dfc (lowF s.toNat) (turnC (x :: r)) = cnt (fun v => if v = x.B.toNat then false else if v = x.A.toNat then false else freeQ (lowF s.toNat) (turnC r) v) := cnt_eq (fun j _ => by
      show (lowF s.toNat j && decide (joinU (turnC r) x.A.toNat x.B.toNat j = j)) = _
      unfold joinU
      by_cases e1 : j = x.A.toNat
      · subst e1; simp [hne, hne.symm]
      · by_cases e2 : j = x.B.toNat
        · subst e2; simp [e1, Ne.symm e1]
        · rw [if_neg e1, if_neg e2, if_neg e2, if_neg e1]; rfl)
    rw [e, List.length_cons]
    unfold dfc at hd
    omega

/-- The couples of a turn. -/
def coupT (n : Nat) (μ : Nat → Nat) : List CoupleI := ((List.range n).filter fun v => decide (v < μ v)).map fun (v : Nat) => ⟨(v : Int), (μ v : Int)⟩

theorem coupT_ok (hg : graphOk s Q = true) {μ : Nat → Nat} (hm : Mt (lnkF Q) (lowF s.toNat) μ) : matchOk s Q (coupT s.toNat μ) = true ∧ s.toNat ≤ 2 * (coupT s.toNat μ).length + dfc (lowF s.toNat) μ := by
  obtain ⟨s0, s9⟩ := ok_size hg
  have low : ∀ v, μ v ≠ v → v < s.toNat ∧ μ v < s.toNat := fun v hv => by
    obtain ⟨h1, h2⟩ := hm.flag hv
    unfold lowF at h1 h2
    exact ⟨of_decide_eq_true h1, of_decide_eq_true h2⟩
  have hx : ∀ x ∈ coupT s.toNat μ, s - (s.toNat : Int) ≤ x.A ∧ x.A < x.B ∧ x.B < s ∧ 0 ≤ atFrom x.A x.B 0 Q ∧ inK [] x.A = false ∧ inK [] x.B = false := fun x hx => by
    unfold coupT at hx
    obtain ⟨v, hv, rfl⟩ := List.mem_map.1 hx
    obtain ⟨h1, h2⟩ := List.mem_filter.1 hv
    have h2 : v < μ v := of_decide_eq_true h2
    have h3 := low v (by omega)
    have h4 := hm.edge v (by omega)
    refine ⟨by show s - (s.toNat : Int) ≤ (v : Int); omega, by show (v : Int) < (μ v : Int); omega, by show (μ v : Int) < s; omega, ?_, rfl, rfl⟩
    exact (edge_of (a := (v : Int)) (b := (μ v : Int)) hg (by omega) (by omega)).1 (by simpa using h4)
  have hp : (coupT s.toNat μ).Pairwise (fun x y => x.A < y.A ∧ y.A ≠ x.B ∧ y.B ≠ x.B) := by
    unfold coupT
    rw [List.pairwise_map]
    have h1 : ((List.range s.toNat).filter fun v => decide (v < μ v)).Pairwise (fun a b => a < b ∧ a < μ a ∧ b < μ b) := by
      have h2 : ((List.range s.toNat).filter fun v => decide (v < μ v)).Pairwise (fun a b => a < b) := List.Pairwise.filter _ List.pairwise_lt_range
      refine List.Pairwise.imp_of_mem ?_ h2
      intro a b ha hb hab
      exact ⟨hab, of_decide_eq_true (List.mem_filter.1 ha).2, of_decide_eq_true (List.mem_filter.1 hb).2⟩
    refine h1.imp ?_
    rintro a b ⟨h2, h3, h4⟩
    refine ⟨by show (a : Int) < (b : Int); omega, fun e => ?_, fun e => ?_⟩
    · have e : (b : Int) = (μ a : Int) := e
      have e' : b = μ a := by omega
      rw [e', hm.inv] at h4
      omega
    · have e : (μ b : Int) = (μ a : Int) := e
      have := hm.inj (show μ b = μ a by omega)
      omega
  refine ⟨?_, ?_⟩
  · have hf := Gr.pm_few (Q := Q) (s := s) (n := s.toNat) (U := []) ⟨hx, hp⟩ s9 (by omega)
    unfold matchOk
    rw [hg, decide_eq_true (by omega : (coupT s.toNat μ).length ≤ 9), pm_from Q _ none [] (fun x h => by
      obtain ⟨_, a2, _, a4, a5, a6⟩ := hx x h
      exact ⟨a2, a4, a5, a6⟩) hp (fun q hq => by cases hq)]
    rfl
  · -- as many vertices below their fellow as above
    have hl : (coupT s.toNat μ).length = ((List.range s.toNat).filter fun v => decide (v < μ v)).length := by simp [coupT]
    have hb : (((List.range s.toNat).filter fun v => decide (μ v < v)).map μ).length ≤ ((List.range s.toNat).filter fun v => decide (v < μ v)).length := by
      refine nodup_len _ _ ?_ (fun x hx => ?_)
      · rw [List.nodup_iff_pairwise_ne, List.pairwise_map]
        have h2 : ((List.range s.toNat).filter fun v => decide (μ v < v)).Nodup := List.nodup_range.filter _
        exact (List.nodup_iff_pairwise_ne.1 h2).imp (fun h e => h (hm.inj e))
      · obtain ⟨v, hv, rfl⟩ := List.mem_map.1 hx
        have h2 : μ v < v := of_decide_eq_true (List.mem_filter.1 hv).2
        have h3 := low v (by omega)
        exact List.mem_filter.2 ⟨List.mem_range.2 h3.2, decide_eq_true (by rw [hm.inv]; exact h2)⟩
    rw [List.length_map] at hb
    have h3 : ∀ n, n ≤ ((List.range n).filter fun v => decide (v < μ v)).length + ((List.range n).filter fun v => decide (μ v < v)).length + (List.range n).countP (fun v => decide (μ v = v)) := by
      intro n
      induction n with
      | zero => simp
      | succ n ih =>
        rw [List.range_succ, List.filter_append, List.filter_append, List.countP_append]
        simp only [List.length_append]
        rcases Nat.lt_trichotomy n (μ n) with h | h | h
        · simp [h]; omega
        · simp [← h]; omega
        · simp [h]; omega
    have h4 := h3 s.toNat
    have h5 : dfc (lowF s.toNat) μ = (List.range s.toNat).countP (fun v => decide (μ v = v)) := by
      obtain ⟨k, e⟩ : ∃ k, 9 = s.toNat + k := ⟨9 - s.toNat, by omega⟩
      unfold dfc cnt
      rw [e]
      exact countP_below (fun v => decide (μ v = v)) s.toNat k
    omega

/-- No set tells fewer than the most couples. -/
theorem val_low (hg : graphOk s Q = true) (f : Nat → Bool) : 2 * mostC s Q ≤ s + valB (lnkF Q) s.toNat f := by
  obtain ⟨s0, s9⟩ := ok_size hg
  obtain ⟨M, hM, hl⟩ := most_has hg
  have hpm := hM
  unfold matchOk at hpm
  simp only [Bool.and_eq_true] at hpm
  obtain ⟨h2, h3, _⟩ := match_pm hpm.1 M none [] hpm.2.2
  obtain ⟨hm, hd⟩ := turnC_mt hg M (fun x hx => by obtain ⟨a, b, c, d, _⟩ := h2 x hx; exact ⟨a, b, c, d⟩) h3
  have hq := apart_of hg
  have h9 : ∀ v ∈ List.range' 0 9, v < 9 := fun v hv => by have := List.mem_range'_1.1 hv; omega
  have w := weak_dfc (S := f) (fun v hv => by unfold lowF at hv; have := of_decide_eq_true hv; omega) hm (prts (lnkF Q) (List.range' 0 9) (fun v => decide (v < s.toNat) && !f v))
    (fun p hp u hu => by
      have := prts_mem (lnkF Q) (List.range' 0 9) _ h9 p hp u hu
      simpa [lowF] using this)
    (fun p hp u w hu hF hw hS => prts_closed (lnkF Q) (lnkF_swap hq) (List.range' 0 9) _ h9 (fun x hx => by simp at hx; omega) p hp u w hu hF (by unfold lowF at hw; simp [hS]; simpa using hw))
    (prts_apart (lnkF Q) (List.range' 0 9) _ h9)
  unfold valB
  rw [setTo_cnt f _ (by omega), odd_cnt]
  have e : cnt (fun w => lowF s.toNat w && f w) = cnt (fun w => decide (w < s.toNat) && f w) := rfl
  rw [e] at w
  omega

/-- The best set meets them. -/
theorem val_best (hg : graphOk s Q = true) {b : Nat → Bool} (hb : Opt (lnkF Q) s.toNat b) : s + valB (lnkF Q) s.toNat b = 2 * mostC s Q := by
  obtain ⟨s0, s9⟩ := ok_size hg
  have hlow := val_low hg b
  obtain ⟨μ, S, hm, hS, hd⟩ := tutte_berge (lnkF_swap (apart_of hg)) 9 (lowF s.toNat) (fun v hv => by unfold lowF at hv; have := of_decide_eq_true hv; omega) (cnt_le9 _)
  obtain ⟨hM, hl⟩ := coupT_ok hg hm
  have htop := most_top hg hM
  have hv : valB (lnkF Q) s.toNat S = (cnt S : Int) - (oddC (prts (lnkF Q) (List.range' 0 9) (fun v => lowF s.toNat v && !S v)) : Int) := by
    unfold valB
    rw [setTo_cnt S _ (by omega), odd_cnt]
    have e : cnt (fun w => decide (w < s.toNat) && S w) = cnt S := cnt_eq (fun j _ => by
      cases h : S j
      · simp
      · have := hS j h
        unfold lowF at this
        rw [this]; rfl)
    rw [e]
    rfl
  have hbet := hb S
  have hle : ¬ (valB (lnkF Q) s.toNat S < valB (lnkF Q) s.toNat b) := fun h => by
    have := (bet_iff (lnkF Q) s.toNat S b).2 (.inl h)
    rw [hbet] at this
    cases this
  omega

end

/-- In the program's words: the best set. -/
theorem blocks_meet {s : Int} {Q : List EdgeI} (hg : graphOk s Q = true) : s + ((blocksR s Q).length : Int) - oddR s Q (blocksR s Q) = 2 * mostC s Q := by
  have h := val_best hg (blkX_opt (lnkF Q) s.toNat)
  unfold blocksR oddR partsR
  rw [if_pos hg, if_pos hg, left_setTo]
  unfold valB at h
  omega

/-- .. and any other. -/
theorem blocks_less {s : Int} {Q : List EdgeI} (hg : graphOk s Q = true) (f : Nat → Bool) : 2 * mostC s Q ≤ s + ((setTo f s.toNat).length : Int) - oddR s Q (setTo f s.toNat) := by
  have h := val_low hg f
  unfold oddR partsR
  rw [if_pos hg, left_setTo]
  unfold valB at h
  omega

end Lk
end Go.Proofs.Ytfhclbpbjlbebaa
