/-
  The parts of a graph: apart from one another, closed under edges, all that is left; what marks that are laid into a row tell. Mathematics.
-/
import Derived.Test.YtkidkfopnghghaaLkY
namespace Go.Proofs.Ytkidkfopnghghaa
namespace Lk
open Gr (EdgeI graphOk hit)

theorem prts_apart (F : Nat → Nat → Bool) : ∀ (L : List Nat) (f : Nat → Bool), (∀ v ∈ L, v < 9) → (prts F L f).Pairwise fun p q => ∀ u, p u = true → q u = false
  | [], _, _ => List.Pairwise.nil
  | v :: r, f, hL => by
    have hr := fun x hx => hL x (List.mem_cons_of_mem v hx)
    cases h : f v
    · rw [prts_out h]; exact prts_apart F r f hr
    · rw [prts_in h]
      refine List.Pairwise.cons (fun q hq u hu => ?_) (prts_apart F r _ hr)
      cases hqu : q u
      · rfl
      · have := prts_mem F r _ hr q hq u hqu
        rw [hu] at this
        simp at this

theorem prts_closed (F : Nat → Nat → Bool) (hs : ∀ u w, F u w = F w u) : ∀ (L : List Nat) (f : Nat → Bool), (∀ v ∈ L, v < 9) → (∀ u, f u = true → u < 9) → ∀ p ∈ prts F L f, ∀ u w, p u = true → F u w = true → f w = true → p w = true
  | [], _, _, _, p, hp, _, _, _, _, _ => by cases hp
  | v :: r, f, hL, hf, p, hp, u, w, hu, hF, hw => by
    have hr := fun x hx => hL x (List.mem_cons_of_mem v hx)
    have hv := hL v List.mem_cons_self
    cases h : f v
    · rw [prts_out h] at hp; exact prts_closed F hs r f hr hf p hp u w hu hF hw
    · rw [prts_in h] at hp
      rcases List.mem_cons.1 hp with rfl | hp
      · exact rch_step hv hu (rch_lt hv hu) (hf w hw) hF hw
      · have hu2 := prts_mem F r _ hr p hp u hu
        have hu3 : f u = true ∧ rch F f v u = false := by simpa using hu2
        have hw2 : rch F f v w = false := by
          cases hq : rch F f v w
          · rfl
          · have := rch_step hv hq (hf w hw) (hf u hu3.1) (by rw [hs]; exact hF) hu3.1
            rw [hu3.2] at this
            cases this
        exact prts_closed F hs r _ hr (fun x hx => hf x (by simp at hx; exact hx.1)) p hp u w hu hF (by simp [hw, hw2])

theorem prts_cover (F : Nat → Nat → Bool) : ∀ (L : List Nat) (f : Nat → Bool) (u : Nat), u ∈ L → f u = true → ∃ p ∈ prts F L f, p u = true
  | [], _, _, h, _ => by cases h
  | v :: r, f, u, hu, hf => by
    cases h : f v
    · rw [prts_out h]
      rcases List.mem_cons.1 hu with rfl | hu
      · rw [h] at hf; cases hf
      · exact prts_cover F r f u hu hf
    · rw [prts_in h]
      by_cases hr : rch F f v u = true
      · exact ⟨_, List.mem_cons_self, hr⟩
      · have hr0 : rch F f v u = false := by simpa using hr
        rcases List.mem_cons.1 hu with rfl | hu
        · exact absurd (rch_here F f u) hr
        · obtain ⟨p, hp, hpu⟩ := prts_cover F r (fun j => f j && !rch F f v j) u hu (by simp [hf, hr0])
          exact ⟨p, List.mem_cons_of_mem _ hp, hpu⟩

/-- Parts as a function. -/
def nth (Ps : List (Nat → Bool)) (j : Nat) : Nat → Bool := Ps.getD j (fun _ => false)

theorem nth_at (Ps : List (Nat → Bool)) (j : Nat) (h : j < Ps.length) : nth Ps j = Ps[j] := by simp [nth, h]

/-- What is known of parts: n vertices, those left are f, edges F. -/
structure Pts (n len : Nat) (F : Nat → Nat → Bool) (f : Nat → Bool) (P : Nat → Nat → Bool) : Prop where
  few : len ≤ 9
  low : ∀ u, f u = true → u < n
  here : ∀ j u, P j u = true → f u = true
  apart : ∀ i j u, i < len → j < len → P i u = true → P j u = true → i = j
  shut : ∀ j u w, j < len → P j u = true → F u w = true → f w = true → P j w = true
  all : ∀ u, f u = true → ∃ j, j < len ∧ P j u = true

theorem pts_of {s : Int} {Q : List EdgeI} (hg : graphOk s Q = true) (K : List Int) : Pts s.toNat (partsR s Q K).length (lnkF Q) (leftF s.toNat K) (nth (partsR s Q K)) := by
  obtain ⟨s0, s9⟩ := ok_size hg
  have hq := apart_of hg
  have h9 : ∀ v ∈ List.range' 0 9, v < 9 := fun v hv => by have := List.mem_range'_1.1 hv; omega
  have hap := prts_apart (lnkF Q) (List.range' 0 9) (leftF s.toNat K) h9
  have hcl := prts_closed (lnkF Q) (lnkF_swap hq) (List.range' 0 9) (leftF s.toNat K) h9 (fun u hu => by have := left_lt hu; omega)
  have hme := prts_mem (lnkF Q) (List.range' 0 9) (leftF s.toNat K) h9
  have hco := prts_cover (lnkF Q) (List.range' 0 9) (leftF s.toNat K)
  have hfe := prts_length (lnkF Q) (List.range' 0 9) (leftF s.toNat K)
  have hout : ∀ j, ¬ j < (partsR s Q K).length → nth (partsR s Q K) j = fun _ => false := fun j hj => by unfold nth; rw [List.getD_eq_getElem?_getD, List.getElem?_eq_none (by omega)]; rfl
  refine ⟨by unfold partsR; simpa using hfe, fun u hu => left_lt hu, fun j u hj => ?_, fun i j u hi hj h1 h2 => ?_, fun j u w hj hu hF hf => ?_, fun u hu => ?_⟩
  · by_cases h : j < (partsR s Q K).length
    · rw [nth_at _ j h] at hj
      exact hme _ (List.getElem_mem h) u hj
    · rw [hout j h] at hj
      cases hj
  · rw [nth_at _ i hi] at h1
    rw [nth_at _ j hj] at h2
    have hp := List.pairwise_iff_getElem.1 hap
    rcases Nat.lt_trichotomy i j with h | h | h
    · have := hp i j hi hj h u h1
      have e : (partsR s Q K)[j] u = false := this
      rw [h2] at e
      cases e
    · exact h
    · have := hp j i hj hi h u h2
      have e : (partsR s Q K)[i] u = false := this
      rw [h1] at e
      cases e
  · rw [nth_at _ j hj] at hu ⊢
    exact hcl _ (List.getElem_mem hj) u w hu hF hf
  · obtain ⟨p, hp, hpu⟩ := hco u (List.mem_range'_1.2 (by have := left_lt hu; omega)) hu
    obtain ⟨j, hj, rfl⟩ := List.mem_iff_getElem.1 hp
    have hj' : j < (partsR s Q K).length := hj
    exact ⟨j, hj', by rw [nth_at _ j hj']; exact hpu⟩

theorem mem_setTo (p : Nat → Bool) (k v : Nat) : ((v : Int) ∈ setTo p k) ↔ v < k ∧ p v = true := by
  unfold setTo
  rw [List.mem_map]
  constructor
  · rintro ⟨a, ha, e⟩
    obtain ⟨h1, h2⟩ := List.mem_filter.1 ha
    obtain rfl : a = v := by omega
    exact ⟨List.mem_range.1 h1, h2⟩
  · rintro ⟨h1, h2⟩
    exact ⟨v, List.mem_filter.2 ⟨List.mem_range.2 h1, h2⟩, rfl⟩

theorem setTo_range (f : Nat → Bool) (k : Nat) : ∀ x ∈ setTo f k, 0 ≤ x ∧ x < (k : Int) := fun x hx => by
  unfold setTo at hx
  obtain ⟨j, hj, rfl⟩ := List.mem_map.1 hx
  have := List.mem_range.1 (List.mem_filter.1 hj).1
  omega

theorem setTo_nodup (p : Nat → Bool) (k : Nat) : (setTo p k).Nodup := by
  unfold setTo
  rw [List.nodup_iff_pairwise_ne, List.pairwise_map]
  have h : ((List.range k).filter p).Nodup := (List.nodup_range).filter _
  exact (List.nodup_iff_pairwise_ne.1 h).imp (fun h => by omega)

/-- The row of marks. -/
def rowM (n : Nat) (m : Nat → Int) : List Int := (List.range n).map m

theorem rowM_length (n : Nat) (m : Nat → Int) : (rowM n m).length = n := by simp [rowM]
theorem rowM_at (n : Nat) (m : Nat → Int) (v : Nat) (h : v < n) : (rowM n m)[v]? = some (m v) := by simp [rowM, h]

def setM (m : Nat → Int) (v : Nat) (x : Int) : Nat → Int := fun u => if u = v then x else m u

theorem rowM_set (n : Nat) (m : Nat → Int) (v : Nat) (x : Int) : (rowM n m).set v x = rowM n (setM m v x) := by
  apply List.ext_getElem?
  intro i
  rw [List.getElem?_set]
  by_cases hi : i < n
  · rw [rowM_at n _ i hi, rowM_at n _ i hi]
    unfold setM
    by_cases e : v = i
    · subst e
      simp [rowM_length, hi]
    · rw [if_neg e, if_neg (fun h => e h.symm)]
  · have h1 : (rowM n m)[i]? = none := List.getElem?_eq_none (by rw [rowM_length]; omega)
    have h2 : (rowM n (setM m v x))[i]? = none := List.getElem?_eq_none (by rw [rowM_length]; omega)
    rw [h1, h2]
    by_cases e : v = i
    · subst e; simp [rowM_length]; omega
    · simp [e]

theorem countP_set : ∀ (n : Nat) (m : Nat → Int) (v : Nat) (x : Int), v < n → m v = 0 → x ≠ 0 → (List.range n).countP (fun u => decide (setM m v x u ≠ 0)) = (List.range n).countP (fun u => decide (m u ≠ 0)) + 1
  | 0, _, _, _, h, _, _ => absurd h (by omega)
  | n + 1, m, v, x, h, h0, hx => by
    rw [List.range_succ, List.countP_append, List.countP_append]
    by_cases e : v = n
    · subst e
      have h1 : (List.range v).countP (fun u => decide (setM m v x u ≠ 0)) = (List.range v).countP (fun u => decide (m u ≠ 0)) := by
        refine List.countP_congr (fun u hu => ?_)
        have := List.mem_range.1 hu
        unfold setM
        rw [if_neg (by omega)]
      rw [h1]
      simp [setM, h0, hx]
    · rw [countP_set n m v x (by omega) h0 hx]
      have e2 : setM m v x n = m n := by unfold setM; rw [if_neg (fun h => e h.symm)]
      simp only [List.countP_singleton, e2]
      omega

/-- What the marks tell while they are laid: i parts whole, of the next one k vertices. -/
structure PM (n len : Nat) (P : Nat → Nat → Bool) (i k : Nat) (m : Nat → Int) (c : Nat) : Prop where
  val : ∀ v, v < n → m v = 0 ∨ ∃ j, j < len ∧ m v = (j : Int) + 1 ∧ P j v = true
  zero : ∀ v, v < n → (m v = 0 ↔ (∀ j, j < i → P j v = false) ∧ ¬ (v : Int) ∈ (setTo (P i) 9).take k)
  cnt : c = (List.range n).countP (fun u => decide (m u ≠ 0))

theorem pm0 (n len : Nat) (P : Nat → Nat → Bool) : PM n len P 0 0 (fun _ => 0) 0 where
  val := fun v _ => .inl rfl
  zero := fun v _ => by simp
  cnt := by simp

theorem pm_step {n len : Nat} {F : Nat → Nat → Bool} {f : Nat → Bool} {P : Nat → Nat → Bool} (hP : Pts n len F f P) {i k : Nat} {m : Nat → Int} {c : Nat} (h : PM n len P i k m c) (hi : i < len) (v : Nat) (hk : (setTo (P i) 9)[k]? = some (v : Int)) :
    v < n ∧ f v = true ∧ m v = 0 ∧ PM n len P i (k + 1) (setM m v ((i : Int) + 1)) (c + 1) := by
  have hmem : (v : Int) ∈ setTo (P i) 9 := List.mem_of_getElem? hk
  obtain ⟨_, hpv⟩ := (mem_setTo _ _ _).1 hmem
  have hfv := hP.here i v hpv
  have hvn := hP.low v hfv
  have hkl : k < (setTo (P i) 9).length := (List.getElem?_eq_some_iff.1 hk).1
  have hkg : (setTo (P i) 9)[k] = (v : Int) := (List.getElem?_eq_some_iff.1 hk).2
  have hnt : ¬ (v : Int) ∈ (setTo (P i) 9).take k := fun hm => by
    obtain ⟨a, ha, hav⟩ := List.mem_iff_getElem.1 hm
    have hak : a < k := by simp at ha; omega
    rw [List.getElem_take] at hav
    have hn := List.pairwise_iff_getElem.1 (List.nodup_iff_pairwise_ne.1 (setTo_nodup (P i) 9)) a k (by omega) hkl hak
    exact hn (by rw [hav, hkg])
  have hm0 : m v = 0 := (h.zero v hvn).2 ⟨fun j hj => by
    cases hq : P j v
    · rfl
    · have := hP.apart j i v (by omega) hi hq hpv; omega, hnt⟩
  have htk : (setTo (P i) 9).take (k + 1) = (setTo (P i) 9).take k ++ [(v : Int)] := by rw [List.take_succ_eq_append_getElem hkl, hkg]
  refine ⟨hvn, hfv, hm0, ?_, ?_, ?_⟩
  · intro u hu
    unfold setM
    by_cases e : u = v
    · subst e
      rw [if_pos rfl]
      exact .inr ⟨i, hi, rfl, hpv⟩
    · rw [if_neg e]
      exact h.val u hu
  · intro u hu
    unfold setM
    rw [htk]
    by_cases e : u = v
    · subst e
      rw [if_pos rfl]
      constructor
      · intro h0; omega
      · intro h0; exact absurd (by simp) h0.2
    · rw [if_neg e, h.zero u hu]
      have : ¬ (u : Int) = (v : Int) := by omega
      simp [this]
  · rw [countP_set n m v _ hvn hm0 (by omega), ← h.cnt]

theorem pm_row {n len : Nat} {P : Nat → Nat → Bool} (hn : n ≤ 9) {i : Nat} {m : Nat → Int} {c : Nat} (h : PM n len P i (setTo (P i) 9).length m c) : PM n len P (i + 1) 0 m c where
  val := h.val
  zero := fun v hv => by
    rw [h.zero v hv, List.take_length, mem_setTo]
    constructor
    · rintro ⟨h1, h2⟩
      refine ⟨fun j hj => ?_, by simp⟩
      by_cases e : j = i
      · subst e
        cases hq : P j v
        · rfl
        · exact absurd ⟨by omega, hq⟩ h2
      · exact h1 j (by omega)
    · rintro ⟨h1, _⟩
      exact ⟨fun j hj => h1 j (by omega), fun h2 => by rw [h1 i (by omega)] at h2; cases h2.2⟩
  cnt := h.cnt

theorem countP_not : ∀ (L : List Nat) (q : Nat → Bool), L.countP (fun u => !q u) + L.countP q = L.length
  | [], _ => rfl
  | x :: r, q => by
    have := countP_not r q
    rw [List.countP_cons, List.countP_cons, List.length_cons]
    cases q x <;> simp <;> omega

/-- All marks laid: as many as are left, and two ends of an edge bear one mark. -/
theorem pm_count {n len : Nat} {F : Nat → Nat → Bool} {q : Nat → Bool} {P : Nat → Nat → Bool} (hP : Pts n len F (leftF n (setTo q n)) P) {m : Nat → Int} {c : Nat} (h : PM n len P len 0 m c) : c + (setTo q n).length = n := by
  have h1 : c = (List.range n).countP (fun u => !q u) := by
    rw [h.cnt]
    refine List.countP_congr (fun u hu => ?_)
    have hun := List.mem_range.1 hu
    have hl : leftF n (setTo q n) u = !q u := by
      rw [left_is hun, inK_setTo, decide_eq_true hun, Bool.true_and]
    have hz := h.zero u hun
    simp only [List.take_zero, List.not_mem_nil, not_false_eq_true, and_true] at hz
    have key : m u = 0 ↔ leftF n (setTo q n) u = false := by
      rw [hz]
      constructor
      · intro h0
        cases hq : leftF n (setTo q n) u
        · rfl
        · obtain ⟨j, hj, hp⟩ := hP.all u hq
          rw [h0 j hj] at hp
          cases hp
      · intro h0 j _
        cases hq : P j u
        · rfl
        · have := hP.here j u hq
          rw [h0] at this
          cases this
    rw [hl] at key
    cases hq : q u
    · rw [hq] at key
      simp at key
      simp [key]
    · rw [hq] at key
      simp at key
      simp [key]
  have h2 : (setTo q n).length = (List.range n).countP q := by
    unfold setTo
    rw [List.length_map, List.countP_eq_length_filter]
  have := countP_not (List.range n) q
  rw [List.length_range] at this
  omega

theorem pm_edge {n len : Nat} {F : Nat → Nat → Bool} {f : Nat → Bool} {P : Nat → Nat → Bool} (hP : Pts n len F f P) {m : Nat → Int} {i k c : Nat} (h : PM n len P i k m c) {u w : Nat} (hu : u < n) (hw : w < n) (hF : F u w = true) (h1 : 0 < m u) (h2 : 0 < m w) : m u = m w := by
  rcases h.val u hu with e | ⟨j, hj, e, hp⟩
  · omega
  · rcases h.val w hw with e2 | ⟨j', hj', e2, hp'⟩
    · omega
    · have h3 := hP.shut j u w hj hp hF (hP.here j' w hp')
      have := hP.apart j j' w hj hj' h3 hp'
      omega

theorem edge_link {s : Int} {Q : List EdgeI} (hg : graphOk s Q = true) (e : EdgeI) (he : e ∈ Q) (a b : Nat) (ha : e.A = (a : Int)) (hb : e.B = (b : Int)) : lnkF Q a b = true := by
  rw [lnkF_any (apart_of hg), List.any_eq_true]
  exact ⟨e, he, by unfold hit; simp [ha, hb]⟩

/-- Nobody is beside itself. -/
theorem nbrs_few {n : Nat} {Q : List EdgeI} (v : Nat) (hv : v < n) : (nbrs (n : Int) Q (v : Int)).length < n := by
  unfold nbrs
  split
  · rw [Int.toNat_natCast]
    unfold nextTo
    rw [List.length_map]
    have h1 : ((List.range n).filter (nb Q (v : Int))).length < (List.range n).length := by
      refine List.length_filter_lt_length_iff_exists.2 ⟨v, List.mem_range.2 hv, ?_⟩
      unfold nb
      simp
    simpa using h1
  · simp; omega

end Lk
end Go.Proofs.Ytkidkfopnghghaa
