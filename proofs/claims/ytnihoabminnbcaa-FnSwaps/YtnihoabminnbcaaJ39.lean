/-
 SvE0.
-/
import Derived.Test.YtnihoabminnbcaaJ37
import Derived.Test.YtnihoabminnbcaaJ25
namespace Go.Proofs.Ytnihoabminnbcaa
namespace Sv
open Gr
/-- All links are of a kind. -/
structure LT (T : Lk → Prop) (N : List Nd) (M : List Lk) : Prop where
  mates : ∀ x ∈ M, T x
  links : ∀ k, ∀ x ∈ (nd N k).links, T x
/-- The links of labels are of a kind. -/
def AT (T : Lk → Prop) (t : Tp) : Prop := ∀ x, lab t x ≠ 0 → rt t x ≠ x → T (ahd t x)
section
variable {s : Nat} {N : List Nd} {M : List Lk} {t : Tp} {rk : Nat → Nat} {T : Lk → Prop} {j : Nat}
theorem lt_inner (h : LT T N M) (R : RingOk s N j) (hpos : 0 < (nd N j).ring.length) : ∀ x ∈ innerOf N M j, T x := by
  intro x hx
  unfold innerOf at hx
  obtain ⟨k, _, rfl⟩ := List.mem_map.1 hx
  have hl := R.len
  have hi : (atOf N M j + (2 * k + 1)) % (nd N j).ring.length < (nd N j).links.length := by rw [hl]; exact Nat.mod_lt _ hpos
  rw [getD_at _ _ _ hi]
  exact h.links j _ (List.getElem_mem hi)
theorem lt_open (h : LT T N M) (I : Inv s N M) (hs : s ≤ j) (hj : j < N.length) (ha : (nd N j).gone = false) : LT T (openN N j) (openM N M j) := by
  have R := I.rings j hs hj ha
  have hpos : 0 < (nd N j).ring.length := by have := R.odd; omega
  refine ⟨fun x hx => ?_, fun k x hx => ?_⟩
  · unfold openM at hx
    rcases List.mem_append.1 hx with hx | hx
    · exact h.mates x hx
    · exact lt_inner h R hpos x hx
  · rw [open_nd hj (fun v hv => (R.mem v hv).1)] at hx
    by_cases e : k = j
    · rw [if_pos e] at hx; exact h.links j x hx
    · rw [if_neg e] at hx
      by_cases e2 : k ∈ (nd N j).ring
      · rw [if_pos e2] at hx; exact h.links k x hx
      · rw [if_neg e2] at hx; exact h.links k x hx
theorem lt_openAll : ∀ (f : Nat) (N : List Nd) (M : List Lk), Inv s N M → LT T N M → LT T (openAll s f N M).1 (openAll s f N M).2
  | 0, N, M, _, h => h
  | f + 1, N, M, I, h => by
    rw [openAll]
    by_cases h0 : 0 ≤ firstOf s N []
    · rw [if_pos h0]
      obtain ⟨j, e, h1, h2, h3, h4⟩ := first_ring h0
      rw [e, Int.toNat_natCast]
      exact lt_openAll f _ _ (open_inv I h1 h2 h3 h4) (lt_open h I h1 h2 h3)
    · rw [if_neg h0]; exact h
theorem lt_alike {N' : List Nd} (h : LT T N M) (a : Alike N N') : LT T N' M :=
  ⟨h.mates, fun k x hx => h.links k x (by rw [← (a.2 k).2.1]; exact hx)⟩
/-- On a way, all but its end are no roots. -/
theorem way_nonroot {x : Nat} {W : List Nat} (hW : IsWay N t rk x W) (i : Nat) (hi : i + 1 < W.length) : rt t W[i] ≠ W[i] := (hW.st i hi).2.1
theorem lt_ring {eA eB i k x0 : Nat} {a0 b0 : Nat} {A B : List Nat} (hf : ∀ x, T x → T x.flip) (h : LT T N M) (hat : AT T t) (F : For s N M t rk) (he : T ⟨eA, eB⟩) (la : lab t a0 = 1) (lb : lab t b0 = 1) (wA : IsWay N t rk a0 A) (wB : IsWay N t rk b0 B) (hi : i < A.length) (hk : k < B.length) :
    LT T (shrinkN N (ringOf A B i k) (newRing N M t ⟨eA, eB⟩ A B i k x0)) (keepM N (ringOf A B i k) M) := by
  have hnz : ∀ {x W} (_ : IsWay N t rk x W) (_ : lab t x = 1) (p : Nat) (hp : p < W.length), lab t W[p] ≠ 0 := fun {x W} hW hx p hp => by
    rw [hW.lb p hp, hx]; split <;> omega
  have hin : ∀ v ∈ ringOf A B i k, v < N.length := fun v hv => by
    unfold ringOf at hv
    rcases List.mem_append.1 hv with hv | hv
    · obtain ⟨p, hp, _, rfl⟩ := mem_take_iff.1 (List.mem_reverse.1 hv)
      exact (F.tp _ (hnz wA la p hp)).1
    · obtain ⟨p, hp, _, rfl⟩ := mem_take_iff.1 hv
      exact (F.tp _ (hnz wB lb p hp)).1
  refine ⟨fun x hx => ?_, fun q x hx => ?_⟩
  · unfold keepM at hx
    exact h.mates x (List.mem_filter.1 hx).1
  · rw [shrink_nd hin] at hx
    by_cases e : q = N.length
    · rw [if_pos e] at hx
      have hx' : x ∈ linksOf t ⟨eA, eB⟩ A B i k := hx
      unfold linksOf at hx'
      rcases List.mem_append.1 hx' with hx' | hx'
      · obtain ⟨v, hv, rfl⟩ := List.mem_map.1 hx'
        obtain ⟨p, hp, hpi, rfl⟩ := mem_take_iff.1 (List.mem_reverse.1 hv)
        exact hat _ (hnz wA la p hp) (way_nonroot wA p (by omega))
      · rcases List.mem_cons.1 hx' with rfl | hx'
        · exact he
        · obtain ⟨v, hv, rfl⟩ := List.mem_map.1 hx'
          obtain ⟨p, hp, hpk, rfl⟩ := mem_take_iff.1 hv
          exact hf _ (hat _ (hnz wB lb p hp) (way_nonroot wB p (by omega)))
    · rw [if_neg e] at hx
      by_cases e2 : q ∈ ringOf A B i k
      · rw [if_pos e2] at hx; exact h.links q x hx
      · rw [if_neg e2] at hx; exact h.links q x hx
theorem lt_shrunk {eA eB : Nat} (hf : ∀ x, T x → T x.flip) (h : LT T N M) (hat : AT T t) (F : For s N M t rk) (he : T ⟨eA, eB⟩) (la : lab t (top N eA) = 1) (lb : lab t (top N eB) = 1) (hr : rt t (top N eA) = rt t (top N eB)) : LT T (shrunk N M t eA eB).1 (shrunk N M t eA eB).2 := by
  have wA := way_of F (show lab t (top N eA) ≠ 0 by omega)
  have wB := way_of F (show lab t (top N eB) ≠ 0 by omega)
  unfold shrunk
  dsimp only
  generalize wayOf N t (top N eA) = A at wA
  generalize wayOf N t (top N eB) = B at wB
  obtain ⟨hi, hm, hfst⟩ := fstIn_spec B A (ways_meet wA wB hr)
  have e1 : A.getD (fstIn B A) 0 = A[fstIn B A] := getD_at _ _ _ hi
  rw [e1]
  obtain ⟨hk, hk2⟩ := plcOf_spec _ B hm
  exact lt_ring hf h hat F he la lb wA wB hi hk
theorem lt_augmented {eA eB : Nat} (I : Inv s N M) (h : LT T N M) (hat : AT T t) (F : For s N M t rk) (hA : eA < s) (hB : eB < s) (he : T ⟨eA, eB⟩) (la : lab t (top N eA) = 1) (lb : lab t (top N eB) = 1) (hr : rt t (top N eA) ≠ rt t (top N eB)) : LT T (augmented s N M t eA eB).1 (augmented s N M t eA eB).2 := by
  have wA := way_of F (show lab t (top N eA) ≠ 0 by omega)
  have wB := way_of F (show lab t (top N eB) ≠ 0 by omega)
  have I' := augment_inv (e := ⟨eA, eB⟩) I F wA wB la lb hr rfl rfl hA hB
  unfold augmented
  refine lt_openAll _ _ _ I' ⟨fun x hx => ?_, h.links⟩
  have hodd : ∀ (L : List Nat), ∀ x ∈ oddLinks t L, T x := fun L x hx => by
    unfold oddLinks at hx
    obtain ⟨v, hv, rfl⟩ := List.mem_map.1 hx
    have h2 : lab t v = 2 := by simpa using (List.mem_filter.1 hv).2
    exact hat v (by omega) (F.odd v h2).1.2.2.1
  unfold augM at hx
  rcases List.mem_append.1 hx with hx | hx
  · rw [without_all, without_all] at hx
    exact h.mates x (List.mem_filter.1 (List.mem_filter.1 hx).1).1
  · rcases List.mem_cons.1 hx with rfl | hx
    · exact he
    · rcases List.mem_append.1 hx with hx | hx
      · exact hodd _ x hx
      · exact hodd _ x hx
theorem lt_adjusted {Q : List EdgeI} {y : List Int} {dn : Bool} (I : Inv s N M) (h : LT T N M) : LT T (adjusted s Q y N M t dn).2.1 (adjusted s Q y N M t dn).2.2.1 := by
  unfold adjusted
  have hz : Alike N (adjZ t (stepD s Q y N t) (List.range' s (N.length - s)) N) := adjZ_alike _ _ _ _ (fun i hi => by rw [List.mem_range'_1] at hi; have := I.ge; omega)
  have I' := I.alike hz
  have h' := lt_alike h hz
  split
  · exact h
  · split
    · exact h'
    · split
      · rename_i h0
        obtain ⟨j, e, h1, h2, h3, h4⟩ := first_ring h0
        rw [e, Int.toNat_natCast]
        exact lt_open h' I' h1 h2 h3
      · exact h'
theorem at0 (N : List Nd) (M : List Lk) : AT T (label0 N M) := fun x hx hr => by
  rcases lab0_iff (N := N) (M := M) x with ⟨_, h4, _⟩ | ⟨h3, _⟩
  · exact absurd h4 hr
  · exact absurd h3 hx
theorem at_grow {a b c : Nat} {link mate : Lk} (F : For s N M t rk) (hb : b < N.length) (hc : c < N.length) (h : AT T t) (h1 : T link) (h2 : T mate) : AT T (grow t a b c link mate) := fun x hx hr => by
  rw [lab_grow F hb hc] at hx
  rw [rt_grow F hb hc] at hr
  rw [ahd_grow F hb hc]
  by_cases e : x = c
  · rw [if_pos e]; exact h2
  · rw [if_neg e] at hx hr ⊢
    by_cases e2 : x = b
    · rw [if_pos e2]; exact h1
    · rw [if_neg e2] at hx hr ⊢
      exact h x hx hr
theorem mate_T (hf : ∀ x, T x → T x.flip) (h : LT T N M) {p : Nat} {m : Lk} (hm : mateOf N M p = some m) : T m := by
  rcases (mate_some hm).2 with h1 | h1
  · exact h.mates m h1
  · exact hf _ (h.mates _ h1)
theorem at_growE {y : List Int} {e : EdgeI} (hf : ∀ x, T x → T x.flip) (I : Inv s N M) (F : For s N M t rk) (h : LT T N M) (hat : AT T t) (he : T ⟨e.A.toNat, e.B.toNat⟩) (hA : e.A.toNat < s) (hB : e.B.toNat < s) (hg : good s y N t e = true) (hb : both N t e = false) : AT T (growE N M t e) := by
  unfold good at hg
  unfold both at hb
  simp only [Bool.not_eq_true', Bool.or_eq_false_iff, Bool.and_eq_false_iff, beq_eq_false_iff_ne, bne_eq_false_iff_eq, ne_eq] at hg hb
  obtain ⟨_, _, h1, h2, h3⟩ := hg
  have ta := top_is I hA
  have tb := top_is I hB
  have za := F.two (top N e.A.toNat)
  have zb := F.two (top N e.B.toNat)
  have hge := I.ge
  have hgt : ∀ {p m}, mateOf N M p = some m → top N m.t < N.length := fun {p m} hm => by
    have h1 : m.t ∈ ends M := by
      rcases (mate_some hm).2 with h1 | h1
      · exact mem_ends.2 ⟨m, h1, .inr rfl⟩
      · exact mem_ends.2 ⟨_, h1, .inl rfl⟩
    exact (top_spec I.ups _ (by have := I.fin _ h1; omega)).1
  unfold growE
  by_cases la : lab t (top N e.A.toNat) = 1
  · rw [if_pos la]
    have lb : lab t (top N e.B.toNat) = 0 := by
      rcases hb with hb | hb
      · exact absurd la hb
      · omega
    obtain ⟨m, hm⟩ := bare_mate F tb lb
    have e1 : mateD N M (top N e.B.toNat) = m := by unfold mateD; rw [hm]; rfl
    rw [e1]
    exact at_grow F tb.1 (hgt hm) hat he (mate_T hf h hm)
  · rw [if_neg la]
    have lb : lab t (top N e.B.toNat) = 1 := by
      rcases h1 with h1 | h1
      · exact absurd h1 la
      · exact h1
    have la0 : lab t (top N e.A.toNat) = 0 := by omega
    obtain ⟨m, hm⟩ := bare_mate F ta la0
    have e1 : mateD N M (top N e.A.toNat) = m := by unfold mateD; rw [hm]; rfl
    rw [e1]
    exact at_grow F ta.1 (hgt hm) hat (hf _ he) (mate_T hf h hm)
theorem at_labF {Q : List EdgeI} {y : List Int} (hf : ∀ x, T x → T x.flip) (I : Inv s N M) (h : LT T N M) (hQ : ∀ e ∈ Q, e.A.toNat < s ∧ e.B.toNat < s) (hT : ∀ e ∈ Q, T ⟨e.A.toNat, e.B.toNat⟩) : ∀ (f : Nat) (t : Tp) (rk : Nat → Nat), For s N M t rk → AT T t → AT T (labF s Q y N M f t).1 := by
  intro f
  induction f with
  | zero => intro t rk _ hat; exact hat
  | succ f ih =>
    intro t rk F hat
    rw [labF]
    cases hp : pick s y N t Q 0 with
    | none => exact hat
    | some x =>
      obtain ⟨i, e⟩ := x
      obtain ⟨_, ⟨h2, h3⟩, h4⟩ := pick_spec hp
      simp only
      by_cases hb : both N t e = true
      · rw [if_pos hb]; exact hat
      · rw [if_neg hb]
        have he : e ∈ Q := by rw [← h3]; exact List.getElem_mem _
        obtain ⟨⟨rk', F'⟩, _⟩ := growE_for (y := y) I F (hQ e he).1 (hQ e he).2 h4 (by simpa using hb)
        exact ih _ rk' F' (at_growE hf I F h hat (hT e he) (hQ e he).1 (hQ e he).2 h4 (by simpa using hb))
theorem lt_rounded {Q : List EdgeI} {y : List Int} {dn : Bool} (hf : ∀ x, T x → T x.flip) (I : Inv s N M) (h : LT T N M) (hQ : ∀ e ∈ Q, e.A.toNat < s ∧ e.B.toNat < s) (hT : ∀ e ∈ Q, T ⟨e.A.toNat, e.B.toNat⟩) : LT T (rounded s Q y N M dn).2.1 (rounded s Q y N M dn).2.2.1 := by
  have hat := at_labF (y := y) hf I h hQ hT (N.length + 1) _ _ (for0 s N M) (at0 N M)
  obtain ⟨⟨rk, F⟩, _, h2⟩ := labels_spec (y := y) I hQ
  unfold labels at F h2
  unfold rounded labels
  generalize labF s Q y N M (N.length + 1) (label0 N M) = L at F h2 hat
  obtain ⟨t, at'⟩ := L
  cases at' with
  | none => exact lt_adjusted I h
  | some x =>
    obtain ⟨i, e⟩ := x
    obtain ⟨⟨hi, he⟩, _, hb⟩ := h2 i e rfl
    have hm : e ∈ Q := by rw [← he]; exact List.getElem_mem _
    unfold both at hb
    simp only [Bool.and_eq_true, beq_iff_eq] at hb F hat
    simp only
    split
    · rename_i hr
      exact lt_shrunk hf h hat F (hT e hm) hb.1 hb.2 hr
    · rename_i hr
      exact lt_augmented I h hat F (hQ e hm).1 (hQ e hm).2 (hT e hm) hb.1 hb.2 hr
theorem lt_runF {Q : List EdgeI} (hf : ∀ x, T x → T x.flip) (hQ : ∀ e ∈ Q, e.A.toNat < s ∧ e.B.toNat < s) (hT : ∀ e ∈ Q, T ⟨e.A.toNat, e.B.toNat⟩) : ∀ (f k : Nat) (x : St), Inv s x.2.1 x.2.2.1 → LT T x.2.1 x.2.2.1 → LT T (runF s Q f k x).2.2.1 (runF s Q f k x).2.2.2.1
  | 0, _, _, _, h => h
  | f + 1, k, x, I, h => by
    by_cases hd : x.2.2.2 = true
    · rw [runF_done s Q _ k x hd]; exact h
    · rw [runF_next s Q f k x (by simpa using hd)]
      exact lt_runF hf hQ hT f (k + 1) _ (rounded_inv (y := x.1) (dn := x.2.2.2) I hQ).1 (lt_rounded hf I h hQ hT)
theorem lt_solved {Q : List EdgeI} (hf : ∀ x, T x → T x.flip) (hQ : ∀ e ∈ Q, e.A.toNat < s ∧ e.B.toNat < s) (hT : ∀ e ∈ Q, T ⟨e.A.toNat, e.B.toNat⟩) : LT T (solved s Q).2.2.1 (solved s Q).2.2.2.1 := by
  refine lt_runF hf hQ hT 20000 0 (startS s Q) (inv0 s) ⟨fun x hx => (by cases hx), fun k x hx => ?_⟩
  have hx' : x ∈ (nd (nodes0 s) k).links := hx
  rw [nodes0_nd] at hx'
  split at hx' <;> cases hx'
theorem lt_openRow : ∀ (L : List Nat) (x : List Nd × List Lk), Inv s x.1 x.2 → LT T x.1 x.2 → (∀ i ∈ L, s ≤ i ∧ i < x.1.length) → LT T (openRow L x).1 (openRow L x).2
  | [], _, _, h, _ => h
  | i :: r, x, I, h, hL => by
    obtain ⟨a, b⟩ := openStep_inv I (hL i (by simp)).1 (hL i (by simp)).2
    rw [openRow]
    refine lt_openRow r _ a ?_ (fun j hj => by rw [b]; exact hL j (by simp [hj]))
    by_cases ht : isTopB x.1 i = true
    · simp only [if_pos ht]
      unfold isTopB at ht
      simp only [Bool.and_eq_true, Bool.not_eq_true', decide_eq_true_eq] at ht
      exact lt_open h I (hL i (by simp)).1 (hL i (by simp)).2 ht.1
    · simp only [if_neg ht]
      exact h
theorem lt_openK {n : Nat} : ∀ (k : Nat) (x : List Nd × List Lk), Inv s x.1 x.2 → LT T x.1 x.2 → x.1.length = n → LT T (openK s n k x).1 (openK s n k x).2
  | 0, _, _, h, _ => h
  | k + 1, x, I, h, e => by
    rw [openK]
    obtain ⟨a, b⟩ := openRow_inv (List.range' s (n - s)) x I (fun i hi => by rw [List.mem_range'_1] at hi; omega)
    exact lt_openK k _ a (lt_openRow _ x I h (fun i hi => by rw [List.mem_range'_1] at hi; omega)) (by rw [b, e])
end
/-! ### The couples -/
theorem mem_cplTo {M : List Lk} {n : Nat} {c : Lk} : c ∈ cplTo n M ↔ c.f < n ∧ c.f < c.t ∧ (c ∈ M ∨ c.flip ∈ M) := by
  unfold cplTo cplRow
  rw [List.mem_flatMap]
  constructor
  · rintro ⟨v, hv, hc⟩
    rw [List.mem_flatMap] at hc
    obtain ⟨x, hx, hc⟩ := hc
    unfold cplAt at hc
    have hvn := List.mem_range.1 hv
    rcases List.mem_append.1 hc with hc | hc
    · split at hc
      · rename_i h
        obtain rfl : c = ⟨v, x.t⟩ := by simpa using hc
        refine ⟨hvn, h.2, .inl ?_⟩
        rw [← h.1]; exact hx
      · cases hc
    · split at hc
      · rename_i h
        obtain rfl : c = ⟨v, x.f⟩ := by simpa using hc
        refine ⟨hvn, h.2, .inr ?_⟩
        show (⟨x.f, v⟩ : Lk) ∈ M
        rw [← h.1]; exact hx
      · cases hc
  · rintro ⟨h1, h2, h3⟩
    refine ⟨c.f, List.mem_range.2 h1, ?_⟩
    rw [List.mem_flatMap]
    rcases h3 with h3 | h3
    · refine ⟨c, h3, ?_⟩
      unfold cplAt
      rw [if_pos ⟨rfl, h2⟩]
      exact List.mem_append_left _ (by simp)
    · refine ⟨c.flip, h3, ?_⟩
      unfold cplAt
      have e : c.flip.t = c.f ∧ c.f < c.flip.f := ⟨rfl, h2⟩
      rw [if_pos e]
      exact List.mem_append_right _ (by simp [Lk.flip])
/-- An end belongs to one link alone. -/
theorem one_link {M : List Lk} (hn : (ends M).Nodup) : ∀ {x y : Lk}, x ∈ M → y ∈ M → ∀ {v : Nat}, (v = x.f ∨ v = x.t) → (v = y.f ∨ v = y.t) → x = y := by
  induction M with
  | nil => intro x y hx; cases hx
  | cons z r ih =>
    rw [ends_cons, List.nodup_cons, List.nodup_cons] at hn
    obtain ⟨h1, h2, h3⟩ := hn
    have hr : ∀ {y : Lk} {v : Nat}, y ∈ r → (v = z.f ∨ v = z.t) → (v = y.f ∨ v = y.t) → False := fun {y v} hy hz hv => by
      have he : v ∈ ends r := mem_ends.2 ⟨y, hy, hv⟩
      rcases hz with rfl | rfl
      · exact h1 (List.mem_cons_of_mem _ he)
      · exact h2 he
    intro x y hx hy v hv hw
    have hx' := List.mem_cons.1 hx
    have hy' := List.mem_cons.1 hy
    clear hx hy
    rcases hx' with ex | hx'
    · rcases hy' with ey | hy'
      · rw [ex, ey]
      · exact (hr hy' (by rw [← ex]; exact hv) hw).elim
    · rcases hy' with ey | hy'
      · exact (hr hx' (by rw [← ey]; exact hw) hv).elim
      · exact ih h3 hx' hy' hv hw
theorem cplRow_few {M : List Lk} (hn : (ends M).Nodup) (v : Nat) : (cplRow v M).length ≤ 1 := by
  induction M with
  | nil => simp [cplRow]
  | cons z r ih =>
    have hn0 := hn
    rw [ends_cons, List.nodup_cons, List.nodup_cons] at hn
    obtain ⟨h1, h2, h3⟩ := hn
    have ih := ih h3
    unfold cplRow at ih ⊢
    rw [List.flatMap_cons, List.length_append]
    by_cases hz : v = z.f ∨ v = z.t
    · have h0 : r.flatMap (cplAt v) = [] := by
        rw [List.flatMap_eq_nil_iff]
        intro x hx
        have hne : ¬ (v = x.f ∨ v = x.t) := fun hv => by
          have := one_link hn0 List.mem_cons_self (List.mem_cons_of_mem z hx) hz hv
          subst this
          have he : z.f ∈ ends r := mem_ends.2 ⟨z, hx, .inl rfl⟩
          exact h1 (List.mem_cons_of_mem _ he)
        unfold cplAt
        rw [if_neg (fun h => hne (.inl h.1.symm)), if_neg (fun h => hne (.inr h.1.symm))]
        rfl
      rw [h0]
      unfold cplAt
      split <;> split <;> simp
      omega
    · have h0 : cplAt v z = [] := by
        unfold cplAt
        rw [if_neg (fun h => hz (.inl h.1.symm)), if_neg (fun h => hz (.inr h.1.symm))]
        rfl
      rw [h0]
      simpa using ih
/-- The couples stand in order, and share no vertex. -/
theorem cplTo_order {M : List Lk} (hn : (ends M).Nodup) : ∀ n, (cplTo n M).Pairwise (fun x y => x.f < y.f ∧ y.f ≠ x.t ∧ y.t ≠ x.t)
  | 0 => by simp [cplTo]
  | n + 1 => by
    rw [cplTo_next, List.pairwise_append]
    refine ⟨cplTo_order hn n, ?_, fun x hx y hy => ?_⟩
    · have h1 := cplRow_few hn n
      match hc : cplRow n M with
      | [] => exact List.Pairwise.nil
      | [a] => exact List.pairwise_singleton _ _
      | a :: b :: r => rw [hc] at h1; simp at h1
    · obtain ⟨x1, x2, x3⟩ := mem_cplTo.1 hx
      have hy' : y ∈ cplTo (n + 1) M := by rw [cplTo_next]; exact List.mem_append_right _ hy
      obtain ⟨y1, y2, y3⟩ := mem_cplTo.1 hy'
      have hyn : y.f = n := by
        unfold cplRow at hy
        obtain ⟨z, _, hz⟩ := List.mem_flatMap.1 hy
        unfold cplAt at hz
        rcases List.mem_append.1 hz with hz | hz
        · split at hz
          · obtain rfl : y = ⟨n, z.t⟩ := by simpa using hz
            rfl
          · cases hz
        · split at hz
          · obtain rfl : y = ⟨n, z.f⟩ := by simpa using hz
            rfl
          · cases hz
      have key : ∀ v, (v = x.f ∨ v = x.t) → (v = y.f ∨ v = y.t) → False := fun v hv hw => by
        rcases x3 with x3 | x3
        · rcases y3 with y3 | y3
          · have e := one_link hn x3 y3 hv hw
            rw [e] at x1; omega
          · have e := one_link hn x3 y3 hv (by rcases hw with h | h; exact .inr h; exact .inl h)
            have e1 : x.f = y.t := by rw [e]; rfl
            have e2 : x.t = y.f := by rw [e]; rfl
            omega
        · rcases y3 with y3 | y3
          · have e := one_link hn x3 y3 (by rcases hv with h | h; exact .inr h; exact .inl h) hw
            have e1 : x.f = y.t := by rw [← e]; rfl
            have e2 : x.t = y.f := by rw [← e]; rfl
            omega
          · have e := one_link hn x3 y3 (by rcases hv with h | h; exact .inr h; exact .inl h) (by rcases hw with h | h; exact .inr h; exact .inl h)
            have e1 : x.f = y.f := congrArg Lk.t e
            omega
      refine ⟨by omega, fun e => key x.t (.inr rfl) (.inl e.symm), fun e => key x.t (.inr rfl) (.inr e.symm)⟩
theorem nodup_of_map' {α β : Type} {f : α → β} : ∀ {l : List α}, (l.map f).Nodup → l.Nodup
  | [], _ => List.nodup_nil
  | a :: l, h => by
    rw [List.map_cons, List.nodup_cons] at h
    exact List.nodup_cons.2 ⟨fun hm => h.1 (List.mem_map_of_mem hm), nodup_of_map' h.2⟩
end Sv
end Go.Proofs.Ytnihoabminnbcaa
