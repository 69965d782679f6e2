/-
  What is swapped, as mathematics: the table of couples that two pairings turn; parts of one vertex alone fall away.
-/
import Derived.Test.YtejfknkcakeakaaLkL
import Derived.Test.YtejfknkcakeakaaLkY
namespace Go.Proofs.Ytejfknkcakeakaa
namespace Lk
open Gr (EdgeI CoupleI hit atFrom graphOk graph_sound graph_of edgeOk_iff ahead ahead_iff at_some at_none matchOk match_sound match_pm)

/-- Is a couple one of a list? -/
def hasC (M : List CoupleI) (x : CoupleI) : Bool := M.any fun y => decide (y = x)

theorem hasC_iff (M : List CoupleI) (x : CoupleI) : hasC M x = true ↔ x ∈ M := by
  unfold hasC
  simp

/-- The edges that are a couple of one of two lists alone. -/
def swapQ (Q : List EdgeI) (M N : List CoupleI) : List EdgeI := Q.filter fun e => hasC M ⟨e.A, e.B⟩ != hasC N ⟨e.A, e.B⟩

theorem swap_ok {s : Int} {Q : List EdgeI} (h : graphOk s Q = true) (M N : List CoupleI) : graphOk s (swapQ Q M N) = true := by
  obtain ⟨h0, h9, he, hp⟩ := graph_sound h
  refine graph_of h0 h9 (fun e hm => he e (List.mem_filter.1 hm).1) (hp.sublist (List.filter_sublist))

/-- The table turned by the first couples of a list. -/
def cpl (F0 : Nat → Nat → Bool) (M : List CoupleI) (k : Nat) : Nat → Nat → Bool := (M.take k).foldl (fun F x => turnF F x.A.toNat x.B.toNat) F0

theorem cpl_zero (F0 : Nat → Nat → Bool) (M : List CoupleI) : cpl F0 M 0 = F0 := by unfold cpl; rw [List.take_zero]; rfl

theorem cpl_next (F0 : Nat → Nat → Bool) (M : List CoupleI) (k : Nat) (h : k < M.length) : cpl F0 M (k + 1) = turnF (cpl F0 M k) M[k].A.toNat M[k].B.toNat := by
  unfold cpl
  rw [List.take_succ_eq_append_getElem h, List.foldl_append]
  rfl

/-- A couple between two vertices, whichever is named first. -/
def hitC (a b : Int) (x : CoupleI) : Bool := ((x.A == a) && (x.B == b)) || ((x.A == b) && (x.B == a))

/-- Couples of which no two are between the same vertices. -/
def ApartC (M : List CoupleI) : Prop := (∀ x ∈ M, 0 ≤ x.A ∧ x.A < x.B ∧ x.B < 9) ∧ ∀ i j (hi : i < M.length) (hj : j < M.length), i < j → M[i].A < M[j].A

theorem apartC_of {s : Int} {Q : List EdgeI} {M : List CoupleI} (h : matchOk s Q M = true) : ApartC M := by
  obtain ⟨hg, _, hm⟩ := match_sound h
  obtain ⟨s0, s9⟩ := ok_size hg
  obtain ⟨h1, h2, _⟩ := match_pm hg M none [] hm
  refine ⟨fun x hx => ?_, fun i j hi hj hij => ?_⟩
  · have := h1 x hx
    exact ⟨this.1, this.2.1, by have := this.2.2.1; omega⟩
  · exact (List.pairwise_iff_getElem.1 h2 i j hi hj hij).1

theorem cpl_any {M : List CoupleI} (hM : ApartC M) (F0 : Nat → Nat → Bool) (a b : Nat) : ∀ k, k ≤ M.length → cpl F0 M k a b = (F0 a b != (M.take k).any (hitC (a : Int) (b : Int)))
  | 0, _ => by rw [cpl_zero]; simp
  | k + 1, h => by
    have hk : k < M.length := by omega
    have ih := cpl_any hM F0 a b k (by omega)
    rw [cpl_next F0 M k hk, List.take_succ_eq_append_getElem hk, List.any_append]
    have hr := hM.1 _ (List.getElem_mem hk)
    unfold turnF
    by_cases hh : hitC (a : Int) (b : Int) M[k] = true
    · have h2 := hh
      unfold hitC at h2
      simp only [Bool.or_eq_true, Bool.and_eq_true, beq_iff_eq] at h2
      have hno : (M.take k).any (hitC (a : Int) (b : Int)) = false := by
        rw [List.any_eq_false]
        intro x hx h3
        obtain ⟨i, hi, rfl⟩ := List.mem_iff_getElem.1 hx
        have hil : i < k := by simp at hi; omega
        rw [List.getElem_take] at h3
        have hr2 := hM.1 _ (List.getElem_mem (show i < M.length by omega))
        unfold hitC at h3
        simp only [Bool.or_eq_true, Bool.and_eq_true, beq_iff_eq] at h3
        have := hM.2 i k (by omega) hk hil
        omega
      rw [if_pos (by omega), ih, hno]
      simp [hh]
    · have h2 := hh
      unfold hitC at h2
      simp only [Bool.or_eq_true, Bool.and_eq_true, beq_iff_eq] at h2
      rw [if_neg (by omega), ih]
      simp [hh]

/-- The table of both. -/
def swpF (M N : List CoupleI) : Nat → Nat → Bool := cpl (cpl (fun _ _ => false) M M.length) N N.length

theorem swp_is {s : Int} {Q : List EdgeI} {M N : List CoupleI} (hM : matchOk s Q M = true) (hN : matchOk s Q N = true) : swpF M N = lnkF (swapQ Q M N) := by
  funext a b
  have hg := (match_sound hM).1
  have aM := apartC_of hM
  have aN := apartC_of hN
  unfold swpF
  rw [cpl_any aN _ a b _ (Nat.le_refl _), cpl_any aM _ a b _ (Nat.le_refl _), List.take_length, List.take_length, lnkF_any (apart_of (swap_ok hg M N))]
  obtain ⟨_, _, he, _⟩ := graph_sound hg
  have key : ∀ (L : List CoupleI), ApartC L → ∀ e : EdgeI, e.A < e.B → hit (a : Int) (b : Int) e = true → L.any (hitC (a : Int) (b : Int)) = hasC L ⟨e.A, e.B⟩ := fun L aL e hAB hh => by
    rw [Bool.eq_iff_iff, hasC_iff, List.any_eq_true]
    unfold hit at hh
    simp only [Bool.or_eq_true, Bool.and_eq_true, beq_iff_eq] at hh
    constructor
    · rintro ⟨x, hx, h3⟩
      have hr := aL.1 x hx
      unfold hitC at h3
      simp only [Bool.or_eq_true, Bool.and_eq_true, beq_iff_eq] at h3
      have ex : x = ⟨e.A, e.B⟩ := by
        cases x
        simp only [CoupleI.mk.injEq] at h3 hr ⊢
        omega
      rw [← ex]
      exact hx
    · intro hx
      exact ⟨_, hx, by unfold hitC; simp only [Bool.or_eq_true, Bool.and_eq_true, beq_iff_eq]; exact hh⟩
  cases hs : (swapQ Q M N).any (hit (a : Int) (b : Int))
  · -- no swapped edge
    rw [List.any_eq_false] at hs
    have none_of : ∀ (L L' : List CoupleI), matchOk s Q L = true → (L.any (hitC (a : Int) (b : Int)) = true) → ∃ e ∈ Q, e.A < e.B ∧ hit (a : Int) (b : Int) e = true := fun L _ hL h => by
      obtain ⟨x, hx, h3⟩ := List.any_eq_true.1 h
      obtain ⟨hg', _, hm⟩ := match_sound hL
      have h1 := (match_pm hg' L none [] hm).1 x hx
      have h2 := at_iff x.A x.B Q
      rw [decide_eq_true h1.2.2.2.1] at h2
      obtain ⟨e, hem, heh⟩ := List.any_eq_true.1 h2.symm
      have hAB := ((edgeOk_iff s e).1 (he e hem)).2.1
      refine ⟨e, hem, hAB, ?_⟩
      unfold hit at heh ⊢
      unfold hitC at h3
      simp only [Bool.or_eq_true, Bool.and_eq_true, beq_iff_eq] at heh h3 ⊢
      omega
    have same : ∀ e ∈ Q, hit (a : Int) (b : Int) e = true → e.A < e.B → (M.any (hitC (a : Int) (b : Int)) = N.any (hitC (a : Int) (b : Int))) := fun e hem hh hAB => by
      rw [key M aM e hAB hh, key N aN e hAB hh]
      have h4 : ¬ (hasC M ⟨e.A, e.B⟩ != hasC N ⟨e.A, e.B⟩) = true := fun h5 => hs e (List.mem_filter.2 ⟨hem, h5⟩) hh
      simpa using h4
    cases hm : M.any (hitC (a : Int) (b : Int)) <;> cases hn : N.any (hitC (a : Int) (b : Int))
    · rfl
    · obtain ⟨e, hem, hAB, hh⟩ := none_of N M hN hn
      have := same e hem hh hAB
      rw [hm, hn] at this
      cases this
    · obtain ⟨e, hem, hAB, hh⟩ := none_of M N hM hm
      have := same e hem hh hAB
      rw [hm, hn] at this
      cases this
    · rfl
  · obtain ⟨e, hem, hh⟩ := List.any_eq_true.1 hs
    obtain ⟨heq, hx⟩ := List.mem_filter.1 hem
    have hAB := ((edgeOk_iff s e).1 (he e heq)).2.1
    rw [key M aM e hAB hh, key N aN e hAB hh]
    cases h1 : hasC M ⟨e.A, e.B⟩ <;> cases h2 : hasC N ⟨e.A, e.B⟩ <;> rw [h1, h2] at hx <;> first | rfl | cases hx

/-- Who has an edge. -/
def endF (F : Nat → Nat → Bool) : Nat → Bool := fun v => (List.range 9).any fun u => F v u

theorem endF_iff (F : Nat → Nat → Bool) (v : Nat) : endF F v = true ↔ ∃ u, u < 9 ∧ F v u = true := by
  unfold endF
  simp

/-- What is reached is reached through ends alone. -/
theorem rch_ends {F : Nat → Nat → Bool} (hs : ∀ u w, F u w = F w u) (f : Nat → Bool) {v : Nat} (hv : v < 9) : rch F (fun j => f j && endF F j) v = rch F f v := by
  funext x
  have h1 : rch F (fun j => f j && endF F j) v x = true → rch F f v x = true := fun h => (rch_iff hv x).2 (((rch_iff hv x).1 h).mono (fun j hj => by simp at hj; exact hj.1))
  have h2 : rch F f v x = true → rch F (fun j => f j && endF F j) v x = true := fun h => by
    have h3 := (rch_iff hv x).1 h
    refine (rch_iff hv x).2 ?_
    clear h h1
    induction h3 with
    | here => exact .here
    | @step u w _ hu hw hF hf ih =>
      refine ih.step hu hw hF ?_
      have : endF F w = true := (endF_iff F w).2 ⟨u, hu, by rw [hs]; exact hF⟩
      simp [hf, this]
  cases h : rch F f v x
  · cases h' : rch F (fun j => f j && endF F j) v x
    · rfl
    · rw [h1 h'] at h; cases h
  · exact h2 h

theorem rch_alone {F : Nat → Nat → Bool} (f : Nat → Bool) {v : Nat} (hv : v < 9) (h : endF F v = false) : rch F f v = fun j => j == v := by
  funext x
  have hno : ∀ u, u < 9 → F v u = false := fun u hu => by
    cases hq : F v u
    · rfl
    · rw [(endF_iff F v).2 ⟨u, hu, hq⟩] at h; cases h
  cases hx : (x == v)
  · cases hr : rch F f v x
    · rfl
    · have h1 := (rch_iff hv x).1 hr
      have h2 : x = v := by
        clear hr hx
        induction h1 with
        | here => rfl
        | @step u w _ hu hw hF hf ih =>
          subst ih
          rw [hno w hw] at hF
          cases hF
      rw [h2] at hx
      simp at hx
  · have : x = v := by simpa using hx
    subst this
    exact rch_here F f x

theorem setTo_alone {v : Nat} (hv : v < 9) : (setTo (fun j => j == v) 9).length = 1 := by
  have h : ∀ n, (setTo (fun j => j == v) n).length = if v < n then 1 else 0 := fun n => by
    induction n with
    | zero => rfl
    | succ n ih =>
      by_cases e : n = v
      · rw [setTo_in (by simp [e]), List.length_append, ih]
        subst e
        simp
      · rw [setTo_out (by simp [e]), ih]
        by_cases h1 : v < n
        · rw [if_pos h1, if_pos (by omega)]
        · rw [if_neg h1, if_neg (by omega)]
  rw [h 9, if_pos hv]

theorem setTo_two {p : Nat → Bool} {a b : Nat} (ha : a < 9) (hb : b < 9) (hne : a ≠ b) (h1 : p a = true) (h2 : p b = true) : 1 < (setTo p 9).length := by
  have m1 : (a : Int) ∈ setTo p 9 := by unfold setTo; exact List.mem_map.2 ⟨a, List.mem_filter.2 ⟨List.mem_range.2 ha, h1⟩, rfl⟩
  have m2 : (b : Int) ∈ setTo p 9 := by unfold setTo; exact List.mem_map.2 ⟨b, List.mem_filter.2 ⟨List.mem_range.2 hb, h2⟩, rfl⟩
  match hs : setTo p 9 with
  | [] => rw [hs] at m1; cases m1
  | [x] =>
    rw [hs] at m1 m2
    have e1 : (a : Int) = x := by simpa using m1
    have e2 : (b : Int) = x := by simpa using m2
    omega
  | x :: y :: r => simp

/-- The parts of more than one vertex are the parts of the ends. -/
theorem prts_ends {F : Nat → Nat → Bool} (hs : ∀ u w, F u w = F w u) (hir : ∀ u, F u u = false) (h9 : ∀ u w, F u w = true → u < 9) : ∀ (L : List Nat) (f : Nat → Bool), (∀ v ∈ L, v < 9) → (∀ u w, F u w = true → f u = true → w < 9 → f w = true) →
    ((prts F L f).map fun p => setTo p 9).filter (fun r => decide (1 < r.length)) = (prts F L (fun j => f j && endF F j)).map fun p => setTo p 9
  | [], _, _, _ => rfl
  | v :: r, f, hL, hf => by
    have hr := fun x hx => hL x (List.mem_cons_of_mem v hx)
    have hv := hL v List.mem_cons_self
    cases hfv : f v
    · rw [prts_out hfv, prts_out (by simp [hfv])]
      exact prts_ends hs hir h9 r f hr hf
    · have hcl : ∀ u w, F u w = true → (f u && !rch F f v u) = true → w < 9 → (f w && !rch F f v w) = true := fun u w hF hu hw => by
        simp at hu
        have hw2 := hf u w hF hu.1 hw
        cases hq : rch F f v w
        · simp [hw2]
        · have := rch_step hv hq hw (h9 u w hF) (by rw [hs]; exact hF) hu.1
          rw [hu.2] at this
          cases this
      rw [prts_in hfv, List.map_cons, List.filter_cons]
      cases he : endF F v
      · rw [rch_alone f hv he, prts_out (by simp [he]), if_neg (by rw [setTo_alone hv]; simp)]
        rw [rch_alone f hv he] at hcl
        rw [prts_ends hs hir h9 r _ hr hcl]
        congr 2
        funext j
        show (f j && !(j == v) && endF F j) = (f j && endF F j)
        by_cases e : j = v
        · subst e; rw [he]; simp
        · have e2 : (j == v) = false := by simpa using e
          rw [e2]; simp
      · obtain ⟨u, hu, hF⟩ := (endF_iff F v).1 he
        have hfu := hf v u hF hfv hu
        have huv : v ≠ u := fun e => by subst e; rw [hir] at hF; cases hF
        have hru : rch F f v u = true := rch_step hv (rch_here F f v) hv hu hF hfu
        rw [prts_in (by simp [hfv, he]), List.map_cons, rch_ends hs f hv, if_pos (by simpa using setTo_two hv hu huv (rch_here F f v) hru)]
        congr 1
        rw [prts_ends hs hir h9 r _ hr hcl]
        congr 2
        funext j
        cases f j <;> cases endF F j <;> cases rch F f v j <;> rfl

end Lk
end Go.Proofs.Ytejfknkcakeakaa
