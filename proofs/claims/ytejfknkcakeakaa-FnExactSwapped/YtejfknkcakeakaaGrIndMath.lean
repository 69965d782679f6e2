/-
  What the induced graph of a right one is: right itself, with just the edges between its vertices, with their worths.
-/
import Derived.Test.YtejfknkcakeakaaGrInd
import Derived.Test.YtejfknkcakeakaaGrOkMath
namespace Go.Proofs.Ytejfknkcakeakaa
namespace Gr
open Go.RowKit

theorem asc_of (s : Int) : ∀ (K : List Int) (p : Option Int), K.Pairwise (· < ·) → (∀ x ∈ K, 0 ≤ x ∧ x ≤ s - 1) → (∀ q, p = some q → ∀ x ∈ K, q < x) → ascFrom s p K = true
  | [], _, _, _, _ => rfl
  | y :: r, p, h1, h2, h3 => by
    rw [List.pairwise_cons] at h1
    have hy := h2 y List.mem_cons_self
    have hr := asc_of s r (some y) h1.2 (fun x hx => h2 x (List.mem_cons_of_mem _ hx)) (fun q hq x hx => by obtain rfl := Option.some.inj hq; exact h1.1 x hx)
    unfold ascFrom
    rw [hr, decide_eq_true hy.1, decide_eq_true hy.2]
    cases p with
    | none => rfl
    | some q => simp; exact h3 q rfl y List.mem_cons_self

theorem place_mem (x : Int) : ∀ (K : List Int) (k : Nat), x ∈ K → ∃ i, K[i]? = some x ∧ placeFrom x k K = ((k + i : Nat) : Int)
  | [], _, h => by simp at h
  | y :: r, k, h => by
    unfold placeFrom
    by_cases e : (y == x) = true
    · rw [if_pos e]
      exact ⟨0, by simpa using e, rfl⟩
    · rw [if_neg e]
      have hx : x ∈ r := by
        rcases List.mem_cons.1 h with rfl | h
        · simp at e
        · exact h
      obtain ⟨i, h1, h2⟩ := place_mem x r (k + 1) hx
      exact ⟨i + 1, by simpa using h1, by rw [h2]; omega⟩

theorem place_not (x : Int) : ∀ (K : List Int) (k : Nat), x ∉ K → placeFrom x k K = -1
  | [], _, _ => rfl
  | y :: r, k, h => by
    unfold placeFrom
    rw [List.mem_cons, not_or] at h
    rw [if_neg (by simp; exact fun e => h.1 e.symm)]
    exact place_not x r (k + 1) h.2

/-- Where a number stands on a list that ascends. -/
theorem place_iff {K : List Int} (h : K.Pairwise (· < ·)) (x : Int) (i : Nat) : placeOf K x = (i : Int) ↔ K[i]? = some x := by
  constructor
  · intro e
    by_cases hx : x ∈ K
    · obtain ⟨j, h1, h2⟩ := place_mem x K 0 hx
      have : j = i := by
        unfold placeOf at e
        rw [h2] at e
        omega
      rw [← this]
      exact h1
    · unfold placeOf at e
      rw [place_not x K 0 hx] at e
      omega
  · intro e
    obtain ⟨j, h1, h2⟩ := place_mem x K 0 (List.mem_of_getElem? e)
    have : i = j := ((mono_at h e h1).2).2 rfl
    unfold placeOf
    rw [h2, this]
    omega

theorem place_nonneg {K : List Int} {x : Int} (h : 0 ≤ placeOf K x) : ∃ i : Nat, K[i]? = some x ∧ placeOf K x = (i : Int) := by
  by_cases hx : x ∈ K
  · obtain ⟨i, h1, h2⟩ := place_mem x K 0 hx
    exact ⟨i, h1, by unfold placeOf; rw [h2]; omega⟩
  · unfold placeOf at h
    rw [place_not x K 0 hx] at h
    omega

theorem indE_some {K : List Int} {e x : EdgeI} (h : indE K e = some x) : ∃ i j : Nat, K[i]? = some e.A ∧ K[j]? = some e.B ∧ x = ⟨(i : Int), (j : Int), e.W1, e.W2, e.W3⟩ := by
  unfold indE at h
  split at h
  · rename_i hp
    obtain ⟨i, hi, ei⟩ := place_nonneg hp.1
    obtain ⟨j, hj, ej⟩ := place_nonneg hp.2
    refine ⟨i, j, hi, hj, ?_⟩
    rw [ei, ej] at h
    exact (Option.some.inj h).symm
  · cases h

theorem indE_of {K : List Int} (hK : K.Pairwise (· < ·)) {e : EdgeI} {i j : Nat} (hi : K[i]? = some e.A) (hj : K[j]? = some e.B) : indE K e = some ⟨(i : Int), (j : Int), e.W1, e.W2, e.W3⟩ := by
  unfold indE
  rw [(place_iff hK e.A i).2 hi, (place_iff hK e.B j).2 hj, if_pos (by omega)]

theorem ind_ok {s : Int} {Q : List EdgeI} {K : List Int} (hg : graphOk s Q = true) (hK : K.Pairwise (· < ·)) (hl : (K.length : Int) ≤ s) : graphOk (K.length : Int) (indL K Q) = true := by
  obtain ⟨h0, h1, h2, h3⟩ := graph_sound hg
  refine graph_of (by omega) (by omega) (fun x hx => ?_) ?_
  · obtain ⟨e, he, hex⟩ := List.mem_filterMap.1 hx
    obtain ⟨i, j, hi, hj, rfl⟩ := indE_some hex
    have hee := (edgeOk_iff s e).1 (h2 e he)
    have hij := ((mono_at hK hi hj).1).2 hee.2.1
    have hjl := lt_of_at hj
    rw [edgeOk_iff]
    refine ⟨?_, ?_, ?_, hee.2.2.2⟩
    · show (0 : Int) ≤ (i : Int); omega
    · show (i : Int) < (j : Int); omega
    · show (j : Int) < (K.length : Int); omega
  · unfold indL
    rw [List.pairwise_filterMap]
    refine h3.imp (fun {p e} hpe x hx y hy => ?_)
    obtain ⟨i, j, hi, hj, rfl⟩ := indE_some hx
    obtain ⟨i', j', hi', hj', rfl⟩ := indE_some hy
    rw [ahead_iff] at hpe ⊢
    have m1 := mono_at hK hi hi'
    have m2 := mono_at hK hj hj'
    rcases hpe with h | ⟨h, h'⟩
    · left
      have := m1.1.2 h
      show (i : Int) < (i' : Int)
      omega
    · right
      have := m1.2.2 h
      have := m2.1.2 h'
      refine ⟨?_, ?_⟩
      · show (i : Int) = (i' : Int); omega
      · show (j : Int) < (j' : Int); omega

/-- What EdgeAt tells of two vertices in a graph, and of their places in the induced one. -/
theorem pair_fact {s : Int} {Q : List EdgeI} {K : List Int} (hg : graphOk s Q = true) (hK : K.Pairwise (· < ·)) (hl : (K.length : Int) ≤ s) {a b : Nat} {x y : Int} (hab : a < b) (hx : K[a]? = some x) (hy : K[b]? = some y) :
    (∃ (i j : Nat) (p e : EdgeI), Q[i]? = some p ∧ (indL K Q)[j]? = some e ∧ edgeAtV s x y Q = (i : Int) ∧ edgeAtV (K.length : Int) (b : Int) (a : Int) (indL K Q) = (j : Int) ∧ scal p = scal e ∧ e.A = (a : Int) ∧ e.B = (b : Int)) ∨
    (edgeAtV s x y Q = -1 ∧ edgeAtV (K.length : Int) (b : Int) (a : Int) (indL K Q) = -1 ∧ ∀ e ∈ indL K Q, ¬ (e.A = (a : Int) ∧ e.B = (b : Int))) := by
  obtain ⟨h0, h1, h2, h3⟩ := graph_sound hg
  have hi := ind_ok hg hK hl
  obtain ⟨_, _, i2, i3⟩ := graph_sound hi
  have hxy := ((mono_at hK hx hy).1).1 hab
  have habI : (a : Int) < (b : Int) := by omega
  unfold edgeAtV
  rw [hg, hi, if_pos rfl, if_pos rfl]
  by_cases hex : ∃ p ∈ Q, p.A = x ∧ p.B = y
  · left
    obtain ⟨p, hp, hpA, hpB⟩ := hex
    obtain ⟨i, p', q1, q2, q3⟩ := at_some x y Q 0 ⟨p, hp, ((hit_iff (h2 p hp) hxy).1).2 ⟨hpA, hpB⟩⟩
    have hp' := List.mem_of_getElem? q1
    obtain ⟨r1, r2⟩ := ((hit_iff (h2 p' hp') hxy).1).1 q2
    have hie : indE K p' = some ⟨(a : Int), (b : Int), p'.W1, p'.W2, p'.W3⟩ := indE_of hK (by rw [r1]; exact hx) (by rw [r2]; exact hy)
    have hm : (⟨(a : Int), (b : Int), p'.W1, p'.W2, p'.W3⟩ : EdgeI) ∈ indL K Q := List.mem_filterMap.2 ⟨p', hp', hie⟩
    obtain ⟨j, e, t1, t2, t3⟩ := at_some (b : Int) (a : Int) (indL K Q) 0 ⟨_, hm, ((hit_iff (i2 _ hm) habI).2).2 ⟨rfl, rfl⟩⟩
    have he := List.mem_of_getElem? t1
    obtain ⟨v1, v2⟩ := ((hit_iff (i2 e he) habI).2).1 t2
    have hee := same_edge i3 he hm v1 v2
    refine ⟨i, j, p', e, q1, t1, by rw [q3]; simp, by rw [t3]; simp, ?_, v1, v2⟩
    rw [hee]
    rfl
  · right
    have hno : ∀ e ∈ indL K Q, ¬ (e.A = (a : Int) ∧ e.B = (b : Int)) := by
      rintro e he ⟨hA, hB⟩
      obtain ⟨p, hp, hpe⟩ := List.mem_filterMap.1 he
      obtain ⟨i, j, hi', hj', rfl⟩ := indE_some hpe
      have ea : i = a := by have : (i : Int) = (a : Int) := hA; omega
      have eb : j = b := by have : (j : Int) = (b : Int) := hB; omega
      subst ea eb
      rw [hx] at hi'
      rw [hy] at hj'
      exact hex ⟨p, hp, (Option.some.inj hi').symm, (Option.some.inj hj').symm⟩
    refine ⟨at_none x y Q 0 (fun e he hh => hex ⟨e, he, ((hit_iff (h2 e he) hxy).1).1 hh⟩), at_none _ _ _ 0 (fun e he hh => hno e he (((hit_iff (i2 e he) habI).2).1 hh)), hno⟩

/-- How many edges stand ahead of (a, b). -/
def cnt (H : List EdgeI) (a b : Int) : Nat := H.countP (fun e => decide (e.A < a ∨ e.A = a ∧ e.B < b))

theorem cnt_miss {H : List EdgeI} {a b : Int} (h : ∀ e ∈ H, ¬ (e.A = a ∧ e.B = b)) : cnt H a (b + 1) = cnt H a b := by
  unfold cnt
  refine List.countP_congr (fun e he => ?_)
  have := h e he
  simp only [decide_eq_true_eq]
  omega

theorem cnt_hit : ∀ {H : List EdgeI} {a b : Int}, H.Pairwise (fun p e => ahead p e = true) → (∃ e ∈ H, e.A = a ∧ e.B = b) → cnt H a (b + 1) = cnt H a b + 1
  | [], _, _, _, h => by simp at h
  | q :: r, a, b, hp, h => by
    rw [List.pairwise_cons] at hp
    unfold cnt
    rw [List.countP_cons, List.countP_cons]
    by_cases hq : q.A = a ∧ q.B = b
    · have hm : cnt r a (b + 1) = cnt r a b := cnt_miss (fun e he hh => by have := (ahead_iff _ _).1 (hp.1 e he); omega)
      unfold cnt at hm
      rw [hm, if_pos (by simp; omega), if_neg (by simp; omega)]
    · have hr : ∃ e ∈ r, e.A = a ∧ e.B = b := by
        obtain ⟨e, he, hh⟩ := h
        rcases List.mem_cons.1 he with rfl | he
        · exact absurd hh hq
        · exact ⟨e, he, hh⟩
      have hi := cnt_hit hp.2 hr
      unfold cnt at hi
      rw [hi]
      have e1 : decide (q.A < a ∨ q.A = a ∧ q.B < b + 1) = decide (q.A < a ∨ q.A = a ∧ q.B < b) := by
        rw [decide_eq_decide]
        omega
      rw [e1]
      omega

theorem cnt_row {H : List EdgeI} {n a : Int} (h : ∀ e ∈ H, edgeOk n e = true) : cnt H a n = cnt H (a + 1) (a + 1 + 1) := by
  unfold cnt
  refine List.countP_congr (fun e he => ?_)
  have := (edgeOk_iff n e).1 (h e he)
  simp only [decide_eq_true_eq]
  omega

theorem cnt_start {H : List EdgeI} {n : Int} (h : ∀ e ∈ H, edgeOk n e = true) : cnt H 0 1 = 0 := by
  unfold cnt
  rw [List.countP_eq_zero]
  intro e he
  have := (edgeOk_iff n e).1 (h e he)
  simp only [decide_eq_true_eq]
  omega

theorem cnt_end {H : List EdgeI} {n : Int} (h : ∀ e ∈ H, edgeOk n e = true) : cnt H n (n + 1) = H.length := by
  unfold cnt
  rw [List.countP_eq_length]
  intro e he
  have := (edgeOk_iff n e).1 (h e he)
  simp only [decide_eq_true_eq]
  omega

end Gr
end Go.Proofs.Ytejfknkcakeakaa
