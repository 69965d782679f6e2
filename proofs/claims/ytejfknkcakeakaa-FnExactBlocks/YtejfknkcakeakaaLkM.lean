/-
  Who can be reached, as mathematics: sets of nine vertices as flags, what one can go to from a vertex through some others, the parts of a graph one behind the other.
-/
import Derived.Test.YtejfknkcakeakaaGrBase
namespace Go.Proofs.Ytejfknkcakeakaa
namespace Lk

/-- How many of the nine are flagged. -/
def cnt (p : Nat → Bool) : Nat := (List.range 9).countP p

theorem cntL_le : ∀ (L : List Nat) (p q : Nat → Bool), (∀ j ∈ L, p j = true → q j = true) → L.countP p ≤ L.countP q
  | [], _, _, _ => by simp
  | x :: r, p, q, h => by
    have h1 := cntL_le r p q (fun j hj => h j (List.mem_cons_of_mem _ hj))
    have h2 := h x List.mem_cons_self
    rw [List.countP_cons, List.countP_cons]
    cases hp : p x
    · simp; omega
    · rw [h2 hp]; simp; omega

theorem cntL_lt : ∀ (L : List Nat) (p q : Nat → Bool), (∀ j ∈ L, p j = true → q j = true) → (∃ j ∈ L, q j = true ∧ p j = false) → L.countP p < L.countP q
  | [], _, _, _, h => by obtain ⟨j, hj, _⟩ := h; cases hj
  | x :: r, p, q, h, ⟨j, hj, hq, hp⟩ => by
    have h0 := cntL_le r p q (fun j hj => h j (List.mem_cons_of_mem _ hj))
    rw [List.countP_cons, List.countP_cons]
    rcases List.mem_cons.1 hj with rfl | hj
    · rw [hq, hp]; simp; omega
    · have h1 := cntL_lt r p q (fun j hj => h j (List.mem_cons_of_mem _ hj)) ⟨j, hj, hq, hp⟩
      have h2 := h x List.mem_cons_self
      cases hp : p x
      · simp; omega
      · rw [h2 hp]; simp; omega

theorem cnt_le9 (p : Nat → Bool) : cnt p ≤ 9 := by
  unfold cnt
  have := List.countP_le_length (p := p) (l := List.range 9)
  simpa using this

theorem cnt_lt {p q : Nat → Bool} (h : ∀ j, j < 9 → p j = true → q j = true) {j : Nat} (hj : j < 9) (hq : q j = true) (hp : p j = false) : cnt p < cnt q :=
  cntL_lt _ p q (fun j hj => h j (List.mem_range.1 hj)) ⟨j, List.mem_range.2 hj, hq, hp⟩

/-- Whom one reaches from v by k steps at most, each into a flagged vertex. -/
def rchN (F : Nat → Nat → Bool) (f : Nat → Bool) (v : Nat) : Nat → Nat → Bool
  | 0, w => w == v
  | k + 1, w => rchN F f v k w || (decide (w < 9) && (f w && (List.range 9).any fun u => rchN F f v k u && F u w))

/-- Whom one reaches from v. -/
def rch (F : Nat → Nat → Bool) (f : Nat → Bool) (v w : Nat) : Bool := rchN F f v 9 w

inductive Rch (F : Nat → Nat → Bool) (f : Nat → Bool) (v : Nat) : Nat → Prop
  | here : Rch F f v v
  | step {u w : Nat} : Rch F f v u → u < 9 → w < 9 → F u w = true → f w = true → Rch F f v w

theorem rchN_up (F : Nat → Nat → Bool) (f : Nat → Bool) (v k w : Nat) (h : rchN F f v k w = true) : rchN F f v (k + 1) w = true := by
  simp only [rchN, h, Bool.true_or]

theorem rchN_sound (F : Nat → Nat → Bool) (f : Nat → Bool) (v : Nat) : ∀ k w, rchN F f v k w = true → Rch F f v w
  | 0, w, h => by
    have : w = v := by simpa [rchN] using h
    subst this
    exact .here
  | k + 1, w, h => by
    simp only [rchN, Bool.or_eq_true, Bool.and_eq_true, decide_eq_true_eq, List.any_eq_true, List.mem_range] at h
    rcases h with h | ⟨h9, hf, u, hu, hr, hF⟩
    · exact rchN_sound F f v k w h
    · exact .step (rchN_sound F f v k u hr) hu h9 hF hf

/-- Nothing comes in by the next step. -/
def Still (F : Nat → Nat → Bool) (f : Nat → Bool) (v k : Nat) : Prop := ∀ w, rchN F f v (k + 1) w = rchN F f v k w

theorem still_next {F : Nat → Nat → Bool} {f : Nat → Bool} {v k : Nat} (h : Still F f v k) : Still F f v (k + 1) := fun w => by
  have e : rchN F f v (k + 1) = rchN F f v k := funext h
  show (rchN F f v (k + 1) w || _) = _
  conv => lhs; rw [e]
  rfl

theorem still_one (F : Nat → Nat → Bool) (f : Nat → Bool) (v k : Nat) (hk : k + 1 ≤ cnt (rchN F f v k)) : Still F f v k ∨ k + 2 ≤ cnt (rchN F f v (k + 1)) := by
  by_cases hs : Still F f v k
  · exact .inl hs
  · right
    have hex : ∃ w, ¬ rchN F f v (k + 1) w = rchN F f v k w := by
      apply Classical.byContradiction
      intro hn
      exact hs (fun w => Classical.byContradiction fun h => hn ⟨w, h⟩)
    obtain ⟨w, hw⟩ := hex
    have hw0 : rchN F f v k w = false := by
      cases h : rchN F f v k w
      · rfl
      · rw [h, rchN_up F f v k w h] at hw; simp at hw
    have hw1 : rchN F f v (k + 1) w = true := by
      cases h : rchN F f v (k + 1) w
      · rw [h, hw0] at hw; simp at hw
      · rfl
    have h9 : w < 9 := by
      have h := hw1
      simp only [rchN, hw0, Bool.false_or, Bool.and_eq_true, decide_eq_true_eq] at h
      exact h.1
    have := cnt_lt (p := rchN F f v k) (q := rchN F f v (k + 1)) (fun j _ h => rchN_up F f v k j h) h9 hw1 hw0
    omega

theorem still_or (F : Nat → Nat → Bool) (f : Nat → Bool) (v : Nat) (hv : v < 9) (k : Nat) : Still F f v k ∨ k + 2 ≤ cnt (rchN F f v (k + 1)) := by
  induction k with
  | zero => exact still_one F f v 0 (by
      have h0 : cnt (fun _ => false) < cnt (rchN F f v 0) := cnt_lt (fun j _ h => by simp at h) hv (by simp [rchN]) rfl
      omega)
  | succ k ih =>
    rcases ih with h | h
    · exact .inl (still_next h)
    · exact still_one F f v (k + 1) (by omega)

theorem still9 (F : Nat → Nat → Bool) (f : Nat → Bool) (v : Nat) (hv : v < 9) : Still F f v 9 := by
  rcases still_or F f v hv 9 with h | h
  · exact h
  · have := cnt_le9 (rchN F f v (9 + 1))
    omega

theorem rch_here (F : Nat → Nat → Bool) (f : Nat → Bool) (v : Nat) : rch F f v v = true := by
  have h : ∀ k, rchN F f v k v = true := fun k => by
    induction k with
    | zero => simp [rchN]
    | succ k ih => exact rchN_up F f v k v ih
  exact h 9

theorem rch_step {F : Nat → Nat → Bool} {f : Nat → Bool} {v : Nat} (hv : v < 9) {u w : Nat} (h : rch F f v u = true) (hu : u < 9) (hw : w < 9) (hF : F u w = true) (hf : f w = true) : rch F f v w = true := by
  have h1 : rchN F f v (9 + 1) w = true := by
    have h2 : ((List.range 9).any fun u => rchN F f v 9 u && F u w) = true := by
      rw [List.any_eq_true]
      exact ⟨u, List.mem_range.2 hu, by rw [hF, Bool.and_true]; exact h⟩
    show (rchN F f v 9 w || (decide (w < 9) && (f w && (List.range 9).any fun u => rchN F f v 9 u && F u w))) = true
    rw [h2, hf, decide_eq_true hw]
    simp
  rw [still9 F f v hv w] at h1
  exact h1

theorem rch_iff {F : Nat → Nat → Bool} {f : Nat → Bool} {v : Nat} (hv : v < 9) (w : Nat) : rch F f v w = true ↔ Rch F f v w := by
  constructor
  · exact rchN_sound F f v 9 w
  · intro h
    induction h with
    | here => exact rch_here F f v
    | step _ hu hw hF hf ih => exact rch_step hv ih hu hw hF hf

theorem rch_lt {F : Nat → Nat → Bool} {f : Nat → Bool} {v : Nat} (hv : v < 9) {w : Nat} (h : rch F f v w = true) : w < 9 := by
  have h := (rch_iff hv w).1 h
  cases h with
  | here => exact hv
  | step _ _ h9 _ _ => exact h9

theorem rch_flag {F : Nat → Nat → Bool} {f : Nat → Bool} {v : Nat} (hv : v < 9) {w : Nat} (h : rch F f v w = true) (hne : w ≠ v) : f w = true := by
  have h := (rch_iff hv w).1 h
  cases h with
  | here => exact absurd rfl hne
  | step _ _ _ _ hf => exact hf

theorem Rch.trans {F : Nat → Nat → Bool} {f : Nat → Bool} {v u w : Nat} (h : Rch F f v u) (k : Rch F f u w) : Rch F f v w := by
  induction k with
  | here => exact h
  | step _ hu hw hF hf ih => exact ih.step hu hw hF hf

theorem Rch.mono {F : Nat → Nat → Bool} {f g : Nat → Bool} (hfg : ∀ j, f j = true → g j = true) {v w : Nat} (h : Rch F f v w) : Rch F g v w := by
  induction h with
  | here => exact .here
  | step _ hu hw hF hf ih => exact ih.step hu hw hF (hfg _ hf)

/-- What has been gathered from v, its neighbours below k gone through. -/
structure Gat (F : Nat → Nat → Bool) (f : Nat → Bool) (v k : Nat) (D : Nat → Bool) : Prop where
  own : D v = true
  some : ∀ j, D j = true → rch F f v j = true
  full : ∀ u, D u = true → u ≠ v → ∀ w, w < 9 → F u w = true → f w = true → D w = true
  next : ∀ w, w < k → w < 9 → F v w = true → f w = true → D w = true

theorem gat0 (F : Nat → Nat → Bool) (f : Nat → Bool) (v : Nat) : Gat F f v 0 (fun j => j == v) where
  own := by simp
  some := fun j h => by
    have : j = v := by simpa using h
    subst this
    exact rch_here _ _ _
  full := fun u h hne => absurd (by simpa using h) hne
  next := fun w h => absurd h (by omega)

theorem gat_skip {F : Nat → Nat → Bool} {f : Nat → Bool} {v k : Nat} {D : Nat → Bool} (h : Gat F f v k D) (hs : F v k = false ∨ (f k && !D k) = false) : Gat F f v (k + 1) D where
  own := h.own
  some := h.some
  full := h.full
  next := fun w hw h9 hF hf => by
    by_cases e : w = k
    · subst e
      rcases hs with hs | hs
      · rw [hs] at hF; cases hF
      · rw [hf] at hs
        cases hd : D w
        · rw [hd] at hs; cases hs
        · rfl
    · exact h.next w (by omega) h9 hF hf

theorem gat_go {F : Nat → Nat → Bool} {f : Nat → Bool} {v k : Nat} {D : Nat → Bool} (hv : v < 9) (hk : k < 9) (h : Gat F f v k D) (hF : F v k = true) (hf : (f k && !D k) = true) :
    Gat F f v (k + 1) (fun j => D j || rch F (fun i => f i && !D i) k j) := by
  have hfk : f k = true := by simp at hf; exact hf.1
  have sub : ∀ j, rch F (fun i => f i && !D i) k j = true → rch F f v j = true := fun j hj => by
    have h1 := (rch_iff hk j).1 hj
    have h2 : Rch F f k j := h1.mono (fun i hi => by simp at hi; exact hi.1)
    exact (rch_iff hv j).2 ((Rch.here.step hv hk hF hfk).trans h2)
  refine ⟨by simp [h.own], fun j hj => ?_, fun u hu hne w h9 hFu hfw => ?_, fun w hw h9 hFw hfw => ?_⟩
  · simp only [Bool.or_eq_true] at hj
    rcases hj with hj | hj
    · exact h.some j hj
    · exact sub j hj
  · simp only [Bool.or_eq_true] at hu ⊢
    rcases hu with hu | hu
    · exact .inl (h.full u hu hne w h9 hFu hfw)
    · cases hd : D w
      · exact .inr (rch_step hk hu (rch_lt hk hu) h9 hFu (by simp [hfw, hd]))
      · exact .inl rfl
  · simp only [Bool.or_eq_true]
    by_cases e : w = k
    · subst e; exact .inr (rch_here _ _ _)
    · exact .inl (h.next w (by omega) h9 hFw hfw)

theorem gat_end {F : Nat → Nat → Bool} {f : Nat → Bool} {v : Nat} {D : Nat → Bool} (hv : v < 9) (h : Gat F f v 9 D) : D = rch F f v := by
  funext j
  cases hr : rch F f v j
  · cases hd : D j
    · rfl
    · rw [h.some j hd] at hr; cases hr
  · have h1 := (rch_iff hv j).1 hr
    clear hr
    induction h1 with
    | here => exact h.own
    | @step u w _ hu hw hF hf ih =>
      by_cases e : u = v
      · subst e; exact h.next w hw hw hF hf
      · exact h.full u ih e w hw hF hf

/-- Fewer are left. -/
theorem gat_fewer {F : Nat → Nat → Bool} {f : Nat → Bool} {v k : Nat} {D : Nat → Bool} (hv : v < 9) (hf : f v = true) (h : Gat F f v k D) : cnt (fun i => f i && !D i) < cnt f :=
  cnt_lt (fun j _ hj => by simp at hj; exact hj.1) hv hf (by simp [h.own])

/-- The parts of what is left, the vertices of a list gone through. -/
def prts (F : Nat → Nat → Bool) : List Nat → (Nat → Bool) → List (Nat → Bool)
  | [], _ => []
  | v :: r, f => if f v = true then rch F f v :: prts F r (fun j => f j && !rch F f v j) else prts F r f

theorem prts_in {F : Nat → Nat → Bool} {v : Nat} {r : List Nat} {f : Nat → Bool} (h : f v = true) : prts F (v :: r) f = rch F f v :: prts F r (fun j => f j && !rch F f v j) := by
  simp [prts, h]
theorem prts_out {F : Nat → Nat → Bool} {v : Nat} {r : List Nat} {f : Nat → Bool} (h : f v = false) : prts F (v :: r) f = prts F r f := by
  simp [prts, h]

/-- A set as a list. -/
def setL (f : Nat → Bool) : List Int := ((List.range 9).filter f).map fun j => ((j : Nat) : Int)

/-- Its first ones. -/
def setTo (f : Nat → Bool) (k : Nat) : List Int := ((List.range k).filter f).map fun j => ((j : Nat) : Int)

theorem setTo_in {f : Nat → Bool} {k : Nat} (h : f k = true) : setTo f (k + 1) = setTo f k ++ [(k : Int)] := by
  unfold setTo
  rw [List.range_succ, List.filter_append]
  simp [h]
theorem setTo_out {f : Nat → Bool} {k : Nat} (h : f k = false) : setTo f (k + 1) = setTo f k := by
  unfold setTo
  rw [List.range_succ, List.filter_append]
  simp [h]
theorem setTo_length (f : Nat → Bool) (k : Nat) : (setTo f k).length ≤ k := by
  unfold setTo
  rw [List.length_map]
  have := List.length_filter_le f (List.range k)
  simpa using this

end Lk
end Go.Proofs.Ytejfknkcakeakaa
