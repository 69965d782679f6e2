/-
 SvE0, SvC0, SvC1, SvC2, SvC3, SvV0, SvV1.
-/
import Derived.Test.YtkjclkelnheheaaJ23
import Derived.Test.YtkjclkelnheheaaJ17
import Derived.Test.YtkjclkelnheheaaJ21
namespace Go.Proofs.Ytkjclkelnheheaa
namespace Sv
open Gr
/-- All links are of a kind. -/
structure LT (T : Lk → Prop) (N : List Nd) (M : List Lk) : Prop where
  mates : ∀ x ∈ M, T x
  links : ∀ k, ∀ x ∈ (nd N k).links, T x
def AT (T : Lk → Prop) (t : Tp) : Prop := ∀ x, lab t x ≠ 0 → rt t x ≠ x → T (ahd t x)
section
variable {s : Nat} {N : List Nd} {M : List Lk} {t : Tp} {rk : Nat → Nat} {T : Lk → Prop} {j : Nat}
theorem lt_inner (h : LT T N M) (R : RingOk s N j) (hpos : 0 < (nd N j).ring.length) : ∀ x ∈ innerOf N M j, T x := by
  intro x hx
  unfold innerOf at hx
  obtain ⟨k, _, rfl⟩ := List.mem_map.1 hx
  have hl := R.len
  have hi : (atOf N M j + (2 * k + 1)) % (nd N j).ring.length < (nd N j).links.length := by rw [hl]; exact Nat.mod_lt _ hpos
  rw [getD_at _ _ _ hi]
  exact h.links j _ (List.getElem_mem hi)
theorem lt_open (h : LT T N M) (I : Inv s N M) (hs : s ≤ j) (hj : j < N.length) (ha : (nd N j).gone = false) : LT T (openN N j) (openM N M j) := by
  have R := I.rings j hs hj ha
  have hpos : 0 < (nd N j).ring.length := by have := R.odd; omega
  refine ⟨fun x hx => ?_, fun k x hx => ?_⟩
  · unfold openM at hx
    rcases List.mem_append.1 hx with hx | hx
    · exact h.mates x hx
    · exact lt_inner h R hpos x hx
  · rw [open_nd hj (fun v hv => (R.mem v hv).1)] at hx
    by_cases e : k = j
    · rw [if_pos e] at hx; exact h.links j x hx
    · rw [if_neg e] at hx
      by_cases e2 : k ∈ (nd N j).ring
      · rw [if_pos e2] at hx; exact h.links k x hx
      · rw [if_neg e2] at hx; exact h.links k x hx
theorem lt_openAll : ∀ (f : Nat) (N : List Nd) (M : List Lk), Inv s N M → LT T N M → LT T (openAll s f N M).1 (openAll s f N M).2
  | 0, N, M, _, h => h
  | f + 1, N, M, I, h => by
    rw [openAll]
    by_cases h0 : 0 ≤ firstOf s N []
    · rw [if_pos h0]
      obtain ⟨j, e, h1, h2, h3, h4⟩ := first_ring h0
      rw [e, Int.toNat_natCast]
      exact lt_openAll f _ _ (open_inv I h1 h2 h3 h4) (lt_open h I h1 h2 h3)
    · rw [if_neg h0]; exact h
theorem lt_alike {N' : List Nd} (h : LT T N M) (a : Alike N N') : LT T N' M :=
  ⟨h.mates, fun k x hx => h.links k x (by rw [← (a.2 k).2.1]; exact hx)⟩
theorem way_nonroot {x : Nat} {W : List Nat} (hW : IsWay N t rk x W) (i : Nat) (hi : i + 1 < W.length) : rt t W[i] ≠ W[i] := (hW.st i hi).2.1
theorem lt_ring {eA eB i k x0 : Nat} {a0 b0 : Nat} {A B : List Nat} (hf : ∀ x, T x → T x.flip) (h : LT T N M) (hat : AT T t) (F : For s N M t rk) (he : T ⟨eA, eB⟩) (la : lab t a0 = 1) (lb : lab t b0 = 1) (wA : IsWay N t rk a0 A) (wB : IsWay N t rk b0 B) (hi : i < A.length) (hk : k < B.length) :
    LT T (shrinkN N (ringOf A B i k) (newRing N M t ⟨eA, eB⟩ A B i k x0)) (keepM N (ringOf A B i k) M) := by
  have hnz : ∀ {x W} (_ : IsWay N t rk x W) (_ : lab t x = 1) (p : Nat) (hp : p < W.length), lab t W[p] ≠ 0 := fun {x W} hW hx p hp => by
    rw [hW.lb p hp, hx]; split <;> omega
  have hin : ∀ v ∈ ringOf A B i k, v < N.length := fun v hv => by
    unfold ringOf at hv
    rcases List.mem_append.1 hv with hv | hv
    · obtain ⟨p, hp, _, rfl⟩ := mem_take_iff.1 (List.mem_reverse.1 hv)
      exact (F.tp _ (hnz wA la p hp)).1
    · obtain ⟨p, hp, _, rfl⟩ := mem_take_iff.1 hv
      exact (F.tp _ (hnz wB lb p hp)).1
  refine ⟨fun x hx => ?_, fun q x hx => ?_⟩
  · unfold keepM at hx
    exact h.mates x (List.mem_filter.1 hx).1
  · rw [shrink_nd hin] at hx
    by_cases e : q = N.length
    · rw [if_pos e] at hx
      have hx' : x ∈ linksOf t ⟨eA, eB⟩ A B i k := hx
      unfold linksOf at hx'
      rcases List.mem_append.1 hx' with hx' | hx'
      · obtain ⟨v, hv, rfl⟩ := List.mem_map.1 hx'
        obtain ⟨p, hp, hpi, rfl⟩ := mem_take_iff.1 (List.mem_reverse.1 hv)
        exact hat _ (hnz wA la p hp) (way_nonroot wA p (by omega))
      · rcases List.mem_cons.1 hx' with rfl | hx'
        · exact he
        · obtain ⟨v, hv, rfl⟩ := List.mem_map.1 hx'
          obtain ⟨p, hp, hpk, rfl⟩ := mem_take_iff.1 hv
          exact hf _ (hat _ (hnz wB lb p hp) (way_nonroot wB p (by omega)))
    · rw [if_neg e] at hx
      by_cases e2 : q ∈ ringOf A B i k
      · rw [if_pos e2] at hx; exact h.links q x hx
      · rw [if_neg e2] at hx; exact h.links q x hx
theorem lt_shrunk {eA eB : Nat} (hf : ∀ x, T x → T x.flip) (h : LT T N M) (hat : AT T t) (F : For s N M t rk) (he : T ⟨eA, eB⟩) (la : lab t (top N eA) = 1) (lb : lab t (top N eB) = 1) (hr : rt t (top N eA) = rt t (top N eB)) : LT T (shrunk N M t eA eB).1 (shrunk N M t eA eB).2 := by
  have wA := way_of F (show lab t (top N eA) ≠ 0 by omega)
  have wB := way_of F (show lab t (top N eB) ≠ 0 by omega)
  unfold shrunk
  dsimp only
  generalize wayOf N t (top N eA) = A at wA
  generalize wayOf N t (top N eB) = B at wB
  obtain ⟨hi, hm, hfst⟩ := fstIn_spec B A (ways_meet wA wB hr)
  have e1 : A.getD (fstIn B A) 0 = A[fstIn B A] := getD_at _ _ _ hi
  rw [e1]
  obtain ⟨hk, hk2⟩ := plcOf_spec _ B hm
  exact lt_ring hf h hat F he la lb wA wB hi hk
theorem lt_augmented {eA eB : Nat} (I : Inv s N M) (h : LT T N M) (hat : AT T t) (F : For s N M t rk) (hA : eA < s) (hB : eB < s) (he : T ⟨eA, eB⟩) (la : lab t (top N eA) = 1) (lb : lab t (top N eB) = 1) (hr : rt t (top N eA) ≠ rt t (top N eB)) : LT T (augmented s N M t eA eB).1 (augmented s N M t eA eB).2 := by
  have wA := way_of F (show lab t (top N eA) ≠ 0 by omega)
  have wB := way_of F (show lab t (top N eB) ≠ 0 by omega)
  have I' := augment_inv (e := ⟨eA, eB⟩) I F wA wB la lb hr rfl rfl hA hB
  unfold augmented
  refine lt_openAll _ _ _ I' ⟨fun x hx => ?_, h.links⟩
  have hodd : ∀ (L : List Nat), ∀ x ∈ oddLinks t L, T x := fun L x hx => by
    unfold oddLinks at hx
    obtain ⟨v, hv, rfl⟩ := List.mem_map.1 hx
    have h2 : lab t v = 2 := by simpa using (List.mem_filter.1 hv).2
    exact hat v (by omega) (F.odd v h2).1.2.2.1
  unfold augM at hx
  rcases List.mem_append.1 hx with hx | hx
  · rw [without_all, without_all] at hx
    exact h.mates x (List.mem_filter.1 (List.mem_filter.1 hx).1).1
  · rcases List.mem_cons.1 hx with rfl | hx
    · exact he
    · rcases List.mem_append.1 hx with hx | hx
      · exact hodd _ x hx
      · exact hodd _ x hx
theorem lt_adjusted {Q : List EdgeI} {y : List Int} {dn : Bool} (I : Inv s N M) (h : LT T N M) : LT T (adjusted s Q y N M t dn).2.1 (adjusted s Q y N M t dn).2.2.1 := by
  unfold adjusted
  have hz : Alike N (adjZ t (stepD s Q y N t) (List.range' s (N.length - s)) N) := adjZ_alike _ _ _ _ (fun i hi => by rw [List.mem_range'_1] at hi; have := I.ge; omega)
  have I' := I.alike hz
  have h' := lt_alike h hz
  split
  · exact h
  · split
    · exact h'
    · split
      · rename_i h0
        obtain ⟨j, e, h1, h2, h3, h4⟩ := first_ring h0
        rw [e, Int.toNat_natCast]
        exact lt_open h' I' h1 h2 h3
      · exact h'
theorem at0 (N : List Nd) (M : List Lk) : AT T (label0 N M) := fun x hx hr => by
  rcases lab0_iff (N := N) (M := M) x with ⟨_, h4, _⟩ | ⟨h3, _⟩
  · exact absurd h4 hr
  · exact absurd h3 hx
theorem at_grow {a b c : Nat} {link mate : Lk} (F : For s N M t rk) (hb : b < N.length) (hc : c < N.length) (h : AT T t) (h1 : T link) (h2 : T mate) : AT T (grow t a b c link mate) := fun x hx hr => by
  rw [lab_grow F hb hc] at hx
  rw [rt_grow F hb hc] at hr
  rw [ahd_grow F hb hc]
  by_cases e : x = c
  · rw [if_pos e]; exact h2
  · rw [if_neg e] at hx hr ⊢
    by_cases e2 : x = b
    · rw [if_pos e2]; exact h1
    · rw [if_neg e2] at hx hr ⊢
      exact h x hx hr
theorem mate_T (hf : ∀ x, T x → T x.flip) (h : LT T N M) {p : Nat} {m : Lk} (hm : mateOf N M p = some m) : T m := by
  rcases (mate_some hm).2 with h1 | h1
  · exact h.mates m h1
  · exact hf _ (h.mates _ h1)
theorem at_growE {y : List Int} {e : EdgeI} (hf : ∀ x, T x → T x.flip) (I : Inv s N M) (F : For s N M t rk) (h : LT T N M) (hat : AT T t) (he : T ⟨e.A.toNat, e.B.toNat⟩) (hA : e.A.toNat < s) (hB : e.B.toNat < s) (hg : good s y N t e = true) (hb : both N t e = false) : AT T (growE N M t e) := by
  unfold good at hg
  unfold both at hb
  simp only [Bool.not_eq_true', Bool.or_eq_false_iff, Bool.and_eq_false_iff, beq_eq_false_iff_ne, bne_eq_false_iff_eq, ne_eq] at hg hb
  obtain ⟨_, _, h1, h2, h3⟩ := hg
  have ta := top_is I hA
  have tb := top_is I hB
  have za := F.two (top N e.A.toNat)
  have zb := F.two (top N e.B.toNat)
  have hge := I.ge
  have hgt : ∀ {p m}, mateOf N M p = some m → top N m.t < N.length := fun {p m} hm => by
    have h1 : m.t ∈ ends M := by
      rcases (mate_some hm).2 with h1 | h1
      · exact mem_ends.2 ⟨m, h1, .inr rfl⟩
      · exact mem_ends.2 ⟨_, h1, .inl rfl⟩
    exact (top_spec I.ups _ (by have := I.fin _ h1; omega)).1
  unfold growE
  by_cases la : lab t (top N e.A.toNat) = 1
  · rw [if_pos la]
    have lb : lab t (top N e.B.toNat) = 0 := by
      rcases hb with hb | hb
      · exact absurd la hb
      · omega
    obtain ⟨m, hm⟩ := bare_mate F tb lb
    have e1 : mateD N M (top N e.B.toNat) = m := by unfold mateD; rw [hm]; rfl
    rw [e1]
    exact at_grow F tb.1 (hgt hm) hat he (mate_T hf h hm)
  · rw [if_neg la]
    have lb : lab t (top N e.B.toNat) = 1 := by
      rcases h1 with h1 | h1
      · exact absurd h1 la
      · exact h1
    have la0 : lab t (top N e.A.toNat) = 0 := by omega
    obtain ⟨m, hm⟩ := bare_mate F ta la0
    have e1 : mateD N M (top N e.A.toNat) = m := by unfold mateD; rw [hm]; rfl
    rw [e1]
    exact at_grow F ta.1 (hgt hm) hat (hf _ he) (mate_T hf h hm)
theorem at_labF {Q : List EdgeI} {y : List Int} (hf : ∀ x, T x → T x.flip) (I : Inv s N M) (h : LT T N M) (hQ : ∀ e ∈ Q, e.A.toNat < s ∧ e.B.toNat < s) (hT : ∀ e ∈ Q, T ⟨e.A.toNat, e.B.toNat⟩) : ∀ (f : Nat) (t : Tp) (rk : Nat → Nat), For s N M t rk → AT T t → AT T (labF s Q y N M f t).1 := by
  intro f
  induction f with
  | zero => intro t rk _ hat; exact hat
  | succ f ih =>
    intro t rk F hat
    rw [labF]
    cases hp : pick s y N t Q 0 with
    | none => exact hat
    | some x =>
      obtain ⟨i, e⟩ := x
      obtain ⟨_, ⟨h2, h3⟩, h4⟩ := pick_spec hp
      simp only
      by_cases hb : both N t e = true
      · rw [if_pos hb]; exact hat
      · rw [if_neg hb]
        have he : e ∈ Q := by rw [← h3]; exact List.getElem_mem _
        obtain ⟨⟨rk', F'⟩, _⟩ := growE_for (y := y) I F (hQ e he).1 (hQ e he).2 h4 (by simpa using hb)
        exact ih _ rk' F' (at_growE hf I F h hat (hT e he) (hQ e he).1 (hQ e he).2 h4 (by simpa using hb))
theorem lt_rounded {Q : List EdgeI} {y : List Int} {dn : Bool} (hf : ∀ x, T x → T x.flip) (I : Inv s N M) (h : LT T N M) (hQ : ∀ e ∈ Q, e.A.toNat < s ∧ e.B.toNat < s) (hT : ∀ e ∈ Q, T ⟨e.A.toNat, e.B.toNat⟩) : LT T (rounded s Q y N M dn).2.1 (rounded s Q y N M dn).2.2.1 := by
  have hat := at_labF (y := y) hf I h hQ hT (N.length + 1) _ _ (for0 s N M) (at0 N M)
  obtain ⟨⟨rk, F⟩, _, h2⟩ := labels_spec (y := y) I hQ
  unfold labels at F h2
  unfold rounded labels
  generalize labF s Q y N M (N.length + 1) (label0 N M) = L at F h2 hat
  obtain ⟨t, at'⟩ := L
  cases at' with
  | none => exact lt_adjusted I h
  | some x =>
    obtain ⟨i, e⟩ := x
    obtain ⟨⟨hi, he⟩, _, hb⟩ := h2 i e rfl
    have hm : e ∈ Q := by rw [← he]; exact List.getElem_mem _
    unfold both at hb
    simp only [Bool.and_eq_true, beq_iff_eq] at hb F hat
    simp only
    split
    · rename_i hr
      exact lt_shrunk hf h hat F (hT e hm) hb.1 hb.2 hr
    · rename_i hr
      exact lt_augmented I h hat F (hQ e hm).1 (hQ e hm).2 (hT e hm) hb.1 hb.2 hr
theorem lt_runF {Q : List EdgeI} (hf : ∀ x, T x → T x.flip) (hQ : ∀ e ∈ Q, e.A.toNat < s ∧ e.B.toNat < s) (hT : ∀ e ∈ Q, T ⟨e.A.toNat, e.B.toNat⟩) : ∀ (f k : Nat) (x : St), Inv s x.2.1 x.2.2.1 → LT T x.2.1 x.2.2.1 → LT T (runF s Q f k x).2.2.1 (runF s Q f k x).2.2.2.1
  | 0, _, _, _, h => h
  | f + 1, k, x, I, h => by
    by_cases hd : x.2.2.2 = true
    · rw [runF_done s Q _ k x hd]; exact h
    · rw [runF_next s Q f k x (by simpa using hd)]
      exact lt_runF hf hQ hT f (k + 1) _ (rounded_inv (y := x.1) (dn := x.2.2.2) I hQ).1 (lt_rounded hf I h hQ hT)
theorem lt_solved {Q : List EdgeI} (hf : ∀ x, T x → T x.flip) (hQ : ∀ e ∈ Q, e.A.toNat < s ∧ e.B.toNat < s) (hT : ∀ e ∈ Q, T ⟨e.A.toNat, e.B.toNat⟩) : LT T (solved s Q).2.2.1 (solved s Q).2.2.2.1 := by
  refine lt_runF hf hQ hT 20000 0 (startS s Q) (inv0 s) ⟨fun x hx => (by cases hx), fun k x hx => ?_⟩
  have hx' : x ∈ (nd (nodes0 s) k).links := hx
  rw [nodes0_nd] at hx'
  split at hx' <;> cases hx'
theorem lt_openRow : ∀ (L : List Nat) (x : List Nd × List Lk), Inv s x.1 x.2 → LT T x.1 x.2 → (∀ i ∈ L, s ≤ i ∧ i < x.1.length) → LT T (openRow L x).1 (openRow L x).2
  | [], _, _, h, _ => h
  | i :: r, x, I, h, hL => by
    obtain ⟨a, b⟩ := openStep_inv I (hL i (by simp)).1 (hL i (by simp)).2
    rw [openRow]
    refine lt_openRow r _ a ?_ (fun j hj => by rw [b]; exact hL j (by simp [hj]))
    by_cases ht : isTopB x.1 i = true
    · simp only [if_pos ht]
      unfold isTopB at ht
      simp only [Bool.and_eq_true, Bool.not_eq_true', decide_eq_true_eq] at ht
      exact lt_open h I (hL i (by simp)).1 (hL i (by simp)).2 ht.1
    · simp only [if_neg ht]
      exact h
theorem lt_openK {n : Nat} : ∀ (k : Nat) (x : List Nd × List Lk), Inv s x.1 x.2 → LT T x.1 x.2 → x.1.length = n → LT T (openK s n k x).1 (openK s n k x).2
  | 0, _, _, h, _ => h
  | k + 1, x, I, h, e => by
    rw [openK]
    obtain ⟨a, b⟩ := openRow_inv (List.range' s (n - s)) x I (fun i hi => by rw [List.mem_range'_1] at hi; omega)
    exact lt_openK k _ a (lt_openRow _ x I h (fun i hi => by rw [List.mem_range'_1] at hi; omega)) (by rw [b, e])
end
theorem mem_cplTo {M : List Lk} {n : Nat} {c : Lk} : c ∈ cplTo n M ↔ c.f < n ∧ c.f < c.t ∧ (c ∈ M ∨ c.flip ∈ M) := by
  unfold cplTo cplRow
  rw [List.mem_flatMap]
  constructor
  · rintro ⟨v, hv, hc⟩
    rw [List.mem_flatMap] at hc
    obtain ⟨x, hx, hc⟩ := hc
    unfold cplAt at hc
    have hvn := List.mem_range.1 hv
    rcases List.mem_append.1 hc with hc | hc
    · split at hc
      · rename_i h
        obtain rfl : c = ⟨v, x.t⟩ := by simpa using hc
        refine ⟨hvn, h.2, .inl ?_⟩
        rw [← h.1]; exact hx
      · cases hc
    · split at hc
      · rename_i h
        obtain rfl : c = ⟨v, x.f⟩ := by simpa using hc
        refine ⟨hvn, h.2, .inr ?_⟩
        show (⟨x.f, v⟩ : Lk) ∈ M
        rw [← h.1]; exact hx
      · cases hc
  · rintro ⟨h1, h2, h3⟩
    refine ⟨c.f, List.mem_range.2 h1, ?_⟩
    rw [List.mem_flatMap]
    rcases h3 with h3 | h3
    · refine ⟨c, h3, ?_⟩
      unfold cplAt
      rw [if_pos ⟨rfl, h2⟩]
      exact List.mem_append_left _ (by simp)
    · refine ⟨c.flip, h3, ?_⟩
      unfold cplAt
      have e : c.flip.t = c.f ∧ c.f < c.flip.f := ⟨rfl, h2⟩
      rw [if_pos e]
      exact List.mem_append_right _ (by simp [Lk.flip])
theorem one_link {M : List Lk} (hn : (ends M).Nodup) : ∀ {x y : Lk}, x ∈ M → y ∈ M → ∀ {v : Nat}, (v = x.f ∨ v = x.t) → (v = y.f ∨ v = y.t) → x = y := by
  induction M with
  | nil => intro x y hx; cases hx
  | cons z r ih =>
    rw [ends_cons, List.nodup_cons, List.nodup_cons] at hn
    obtain ⟨h1, h2, h3⟩ := hn
    have hr : ∀ {y : Lk} {v : Nat}, y ∈ r → (v = z.f ∨ v = z.t) → (v = y.f ∨ v = y.t) → False := fun {y v} hy hz hv => by
      have he : v ∈ ends r := mem_ends.2 ⟨y, hy, hv⟩
      rcases hz with rfl | rfl
      · exact h1 (List.mem_cons_of_mem _ he)
      · exact h2 he
    intro x y hx hy v hv hw
    have hx' := List.mem_cons.1 hx
    have hy' := List.mem_cons.1 hy
    clear hx hy
    rcases hx' with ex | hx'
    · rcases hy' with ey | hy'
      · rw [ex, ey]
      · exact (hr hy' (by rw [← ex]; exact hv) hw).elim
    · rcases hy' with ey | hy'
      · exact (hr hx' (by rw [← ey]; exact hw) hv).elim
      · exact ih h3 hx' hy' hv hw
theorem cplRow_few {M : List Lk} (hn : (ends M).Nodup) (v : Nat) : (cplRow v M).length ≤ 1 := by
  induction M with
  | nil => simp [cplRow]
  | cons z r ih =>
    have hn0 := hn
    rw [ends_cons, List.nodup_cons, List.nodup_cons] at hn
    obtain ⟨h1, h2, h3⟩ := hn
    have ih := ih h3
    unfold cplRow at ih ⊢
    rw [List.flatMap_cons, List.length_append]
    by_cases hz : v = z.f ∨ v = z.t
    · have h0 : r.flatMap (cplAt v) = [] := by
        rw [List.flatMap_eq_nil_iff]
        intro x hx
        have hne : ¬ (v = x.f ∨ v = x.t) := fun hv => by
          have := one_link hn0 List.mem_cons_self (List.mem_cons_of_mem z hx) hz hv
          subst this
          have he : z.f ∈ ends r := mem_ends.2 ⟨z, hx, .inl rfl⟩
          exact h1 (List.mem_cons_of_mem _ he)
        unfold cplAt
        rw [if_neg (fun h => hne (.inl h.1.symm)), if_neg (fun h => hne (.inr h.1.symm))]
        rfl
      rw [h0]
      unfold cplAt
      split <;> split <;> simp
      omega
    · have h0 : cplAt v z = [] := by
        unfold cplAt
        rw [if_neg (fun h => hz (.inl h.1.symm)), if_neg (fun h => hz (.inr h.1.symm))]
        rfl
      rw [h0]
      simpa using ih
theorem cplTo_order {M : List Lk} (hn : (ends M).Nodup) : ∀ n, (cplTo n M).Pairwise (fun x y => x.f < y.f ∧ y.f ≠ x.t ∧ y.t ≠ x.t)
  | 0 => by simp [cplTo]
  | n + 1 => by
    rw [cplTo_next, List.pairwise_append]
    refine ⟨cplTo_order hn n, ?_, fun x hx y hy => ?_⟩
    · have h1 := cplRow_few hn n
      match hc : cplRow n M with
      | [] => exact List.Pairwise.nil
      | [a] => exact List.pairwise_singleton _ _
      | a :: b :: r => rw [hc] at h1; simp at h1
    · obtain ⟨x1, x2, x3⟩ := mem_cplTo.1 hx
      have hy' : y ∈ cplTo (n + 1) M := by rw [cplTo_next]; exact List.mem_append_right _ hy
      obtain ⟨y1, y2, y3⟩ := mem_cplTo.1 hy'
      have hyn : y.f = n := by
        unfold cplRow at hy
        obtain ⟨z, _, hz⟩ := List.mem_flatMap.1 hy
        unfold cplAt at hz
        rcases List.mem_append.1 hz with hz | hz
        · split at hz
          · obtain rfl : y = ⟨n, z.t⟩ := by simpa using hz
            rfl
          · cases hz
        · split at hz
          · obtain rfl : y = ⟨n, z.f⟩ := by simpa using hz
            rfl
          · cases hz
      have key : ∀ v, (v = x.f ∨ v = x.t) → (v = y.f ∨ v = y.t) → False := fun v hv hw => by
        rcases x3 with x3 | x3
        · rcases y3 with y3 | y3
          · have e := one_link hn x3 y3 hv hw
            rw [e] at x1; omega
          · have e := one_link hn x3 y3 hv (by rcases hw with h | h; exact .inr h; exact .inl h)
            have e1 : x.f = y.t := by rw [e]; rfl
            have e2 : x.t = y.f := by rw [e]; rfl
            omega
        · rcases y3 with y3 | y3
          · have e := one_link hn x3 y3 (by rcases hv with h | h; exact .inr h; exact .inl h) hw
            have e1 : x.f = y.t := by rw [← e]; rfl
            have e2 : x.t = y.f := by rw [← e]; rfl
            omega
          · have e := one_link hn x3 y3 (by rcases hv with h | h; exact .inr h; exact .inl h) (by rcases hw with h | h; exact .inr h; exact .inl h)
            have e1 : x.f = y.f := congrArg Lk.t e
            omega
      refine ⟨by omega, fun e => key x.t (.inr rfl) (.inl e.symm), fun e => key x.t (.inr rfl) (.inr e.symm)⟩
theorem nodup_of_map' {α β : Type} {f : α → β} : ∀ {l : List α}, (l.map f).Nodup → l.Nodup
  | [], _ => List.nodup_nil
  | a :: l, h => by
    rw [List.map_cons, List.nodup_cons] at h
    exact List.nodup_cons.2 ⟨fun hm => h.1 (List.mem_map_of_mem hm), nodup_of_map' h.2⟩
def pl (p0 : Nat) (m : Nat → Lk) : Nat → Nat
  | 0 => p0
  | i + 1 => (m i).t
/-- An alternating way from a free top: tight links and mate edges in turn; a mate edge's ends may have come into one ring, made behind the place r. -/
structure Cert (T : Lk → Prop) (s : Nat) (N : List Nd) (M : List Lk) (r p0 k : Nat) (l m : Nat → Lk) : Prop where
  free : mateOf N M (top N p0) = none
  low : p0 < s
  st : ∀ i, i < k → top N (l i).f = top N (pl p0 m i) ∧ top N (l i).t = top N (m i).f ∧ T (l i)
  mm : ∀ i, i < k → (top N (m i).f = top N (m i).t ∧ r < top N (m i).f) ∨ mateOf N M (top N (m i).f) = some (m i)
  ds : ∀ i j, i < j → j < k → (m j).f ≠ (m i).t
  sz : ∀ i, i < k → (l i).f < s ∧ (l i).t < s ∧ (m i).f < s ∧ (m i).t < s
theorem Cert.plow {T : Lk → Prop} {s : Nat} {N : List Nd} {M : List Lk} {r p0 k : Nat} {l m : Nat → Lk} (C : Cert T s N M r p0 k l m) : ∀ i, i ≤ k → pl p0 m i < s
  | 0, _ => C.low
  | i + 1, h => (C.sz i (by omega)).2.2.2
def HasC (T : Lk → Prop) (s : Nat) (N : List Nd) (M : List Lk) (r v : Nat) : Prop := ∃ p0 k l m, Cert T s N M r p0 k l m ∧ top N (pl p0 m k) = top N v
def Full (T : Lk → Prop) (s : Nat) (N : List Nd) (t : Tp) : Prop := ∀ x : Lk, T x → x.f < s → x.t < s → lab t (top N x.f) = 1 → top N x.f ≠ top N x.t → lab t (top N x.t) = 2
theorem least_of {P : Nat → Prop} : ∀ n, P n → ∃ j, j ≤ n ∧ P j ∧ ∀ i, i < j → ¬ P i := by
  intro n
  induction n using Nat.strongRecOn with
  | _ n ih =>
    intro h
    by_cases hl : ∃ i, i < n ∧ P i
    · obtain ⟨i, hi, hp⟩ := hl
      obtain ⟨j, h1, h2, h3⟩ := ih i hi hp
      exact ⟨j, by omega, h2, h3⟩
    · exact ⟨n, Nat.le_refl _, h, fun i hi hp => hl ⟨i, hi, hp⟩⟩
section
variable {T : Lk → Prop} {s : Nat} {N : List Nd} {M : List Lk} {t : Tp} {rk : Nat → Nat} {r p0 k : Nat} {l m : Nat → Lk}
theorem cert_even (I : Inv s N M) (F : For s N M t rk) (hT : Full T s N t) (hQ : ∀ R, r < R → lab t R ≠ 2) (C : Cert T s N M r p0 k l m) : ∀ i, i ≤ k → lab t (top N (pl p0 m i)) = 1 := by
  intro i
  induction i using Nat.strongRecOn with
  | _ i ih =>
    intro hik
    cases i with
    | zero => exact F.fre _ (top_is I C.low) C.free
    | succ i =>
      have hi : i < k := by omega
      have hA := ih i (by omega) (by omega)
      obtain ⟨s1, s2, s3⟩ := C.st i hi
      obtain ⟨z1, z2, z3, z4⟩ := C.sz i hi
      show lab t (top N (m i).t) = 1
      by_cases hV : top N (m i).f = top N (pl p0 m i)
      · rcases C.mm i hi with ⟨h1, _⟩ | h1
        · rw [← h1, hV]; exact hA
        · exfalso
          obtain ⟨j, hj, hp, hmin⟩ := least_of (P := fun j => top N (pl p0 m j) = top N (pl p0 m i)) i rfl
          cases j with
          | zero =>
            have hp : top N p0 = top N (pl p0 m i) := hp
            rw [hV, ← hp, C.free] at h1
            cases h1
          | succ j =>
            have hp : top N (m j).t = top N (pl p0 m i) := hp
            have hj' : j < k := by omega
            obtain ⟨g1, g2, g3⟩ := C.st j hj'
            obtain ⟨y1, y2, y3, y4⟩ := C.sz j hj'
            rcases C.mm j hj' with ⟨h2, _⟩ | h2
            · have hne : top N (l j).f ≠ top N (l j).t := by
                rw [g1, g2, h2, hp]
                exact hmin j (by omega)
              have h3 := hT (l j) g3 y1 y2 (by rw [g1]; exact ih j (by omega) (by omega)) hne
              rw [g2, h2, hp, hA] at h3
              cases h3
            · have h3 := mate_flip I.mat h2
              rw [hp, ← hV, h1] at h3
              have h4 := Option.some.inj h3
              exact C.ds j i (by omega) hi (by rw [h4]; rfl)
      · have h2 : lab t (top N (m i).f) = 2 := by
          rw [← s2]
          refine hT (l i) s3 z1 z2 (by rw [s1]; exact hA) ?_
          rw [s1, s2]; exact fun e => hV e.symm
        rcases C.mm i hi with ⟨_, h1⟩ | h1
        · exact absurd h2 (hQ _ h1)
        · obtain ⟨_, m', h3, h4⟩ := F.odd _ h2
          rw [h1] at h3
          obtain rfl := Option.some.inj h3
          exact h4
theorem rings_even (I : Inv s N M) (F : For s N M t rk) (hT : Full T s N t) (n1 : Nat) (hH : ∀ R, n1 ≤ R → isTop N R → ∃ p0 k l m, Cert T s N M R p0 k l m ∧ top N (pl p0 m k) = R) : ∀ R, n1 ≤ R → lab t R ≠ 2 := by
  have key : ∀ d R, N.length - R ≤ d → n1 ≤ R → lab t R ≠ 2 := by
    intro d
    induction d with
    | zero =>
      intro R hd _ h2
      have := (F.tp R (by omega)).1
      omega
    | succ d ih =>
      intro R hd hR h2
      have htp := F.tp R (by omega)
      obtain ⟨p0, k, l, m, C, e⟩ := hH R hR htp
      have h1 := cert_even I F hT (fun R' hR' => ih R' (by have := htp.1; omega) (by omega)) C k (Nat.le_refl _)
      rw [e] at h1
      omega
  exact fun R hR => key _ R (Nat.le_refl _) hR
theorem has_even (I : Inv s N M) (F : For s N M t rk) (hT : Full T s N t) (n1 : Nat) (hn : 1 ≤ n1) (hH : ∀ R, n1 ≤ R → isTop N R → ∃ p0 k l m, Cert T s N M R p0 k l m ∧ top N (pl p0 m k) = R) {v : Nat} (h : HasC T s N M (n1 - 1) v) : lab t (top N v) = 1 := by
  obtain ⟨p0, k, l, m, C, e⟩ := h
  rw [← e]
  exact cert_even I F hT (fun R hR => rings_even I F hT n1 hH R (by omega)) C k (Nat.le_refl _)
theorem Cert.more (C : Cert T s N M r p0 k l m) (lk mk : Lk) (h1 : top N lk.f = top N (pl p0 m k)) (h2 : top N lk.t = top N mk.f) (h3 : T lk) (h4 : mateOf N M (top N mk.f) = some mk) (h5 : ∀ i, i < k → mk.f ≠ (m i).t) (h6 : lk.f < s ∧ lk.t < s ∧ mk.f < s ∧ mk.t < s) :
    Cert T s N M r p0 (k + 1) (fun i => if i = k then lk else l i) (fun i => if i = k then mk else m i) ∧ (∀ i, i ≤ k → pl p0 (fun i => if i = k then mk else m i) i = pl p0 m i) ∧ pl p0 (fun i => if i = k then mk else m i) (k + 1) = mk.t := by
  have hp : ∀ i, i ≤ k → pl p0 (fun i => if i = k then mk else m i) i = pl p0 m i := fun i hi => by
    cases i with
    | zero => rfl
    | succ i => show (if i = k then mk else m i).t = _; rw [if_neg (by omega)]; rfl
  refine ⟨⟨C.free, C.low, fun i hi => ?_, fun i hi => ?_, fun i j hij hj => ?_, fun i hi => ?_⟩, hp, by show (if k = k then mk else m k).t = _; rw [if_pos rfl]⟩
  · rw [hp i (by omega)]
    by_cases e : i = k
    · subst e; rw [if_pos rfl, if_pos rfl]; exact ⟨h1, h2, h3⟩
    · rw [if_neg e, if_neg e]; exact C.st i (by omega)
  · by_cases e : i = k
    · rw [if_pos e]; exact .inr h4
    · rw [if_neg e]; exact C.mm i (by omega)
  · by_cases e : j = k
    · rw [if_pos e, if_neg (by omega)]; exact h5 i (by omega)
    · rw [if_neg e, if_neg (by omega)]; exact C.ds i j hij (by omega)
  · by_cases e : i = k
    · rw [if_pos e, if_pos e]; exact h6
    · rw [if_neg e, if_neg e]; exact C.sz i (by omega)
theorem cert_of_even (I : Inv s N M) (F : For s N M t rk) (hA : AT T t) (r : Nat) : ∀ x, lab t x = 1 → ∃ p0 k l m, Cert T s N M r p0 k l m ∧ top N (pl p0 m k) = x ∧ (∀ i, i ≤ k → lab t (top N (pl p0 m i)) = 1 ∧ rk (top N (pl p0 m i)) ≤ rk x ∧ (i < k → rk (top N (pl p0 m i)) < rk x)) ∧ ∀ i, i < k → mateOf N M (top N (m i).f) = some (m i) ∧ lab t (top N (m i).f) = 2 ∧ rk (top N (m i).f) < rk x := by
  have key : ∀ d x, rk x ≤ d → lab t x = 1 → ∃ p0 k l m, Cert T s N M r p0 k l m ∧ top N (pl p0 m k) = x ∧ (∀ i, i ≤ k → lab t (top N (pl p0 m i)) = 1 ∧ rk (top N (pl p0 m i)) ≤ rk x ∧ (i < k → rk (top N (pl p0 m i)) < rk x)) ∧ ∀ i, i < k → mateOf N M (top N (m i).f) = some (m i) ∧ lab t (top N (m i).f) = 2 ∧ rk (top N (m i).f) < rk x := by
    intro d
    induction d using Nat.strongRecOn with
    | _ d ih =>
      intro x hd hx
      have htx := F.tp x (by omega)
      have hge := I.ge
      by_cases hr : rt t x = x
      · obtain ⟨v, hv, hw⟩ := has_vertex I x x (Nat.le_refl _) htx.1 htx.2.1
        have hv' : top N v = x := win_is_top I.ups (by omega) htx.2.2 hw
        refine ⟨v, 0, fun _ => ⟨0, 0⟩, fun _ => ⟨0, 0⟩, ⟨by rw [hv']; exact F.rot x hx hr, hv, fun i hi => by omega, fun i hi => by omega, fun i j _ hj => by omega, fun i hi => by omega⟩, hv', fun i hi => ?_, fun i hi => by omega⟩
        have : i = 0 := by omega
        subst this
        show lab t (top N v) = 1 ∧ rk (top N v) ≤ rk x ∧ _
        rw [hv']
        exact ⟨hx, Nat.le_refl _, fun h => by omega⟩
      · obtain ⟨g1, g2, g3, g4, g5, g6, g7⟩ := F.evn x hx hr
        obtain ⟨⟨q1, q2, q3, q4, q5, q6, q7⟩, _⟩ := F.odd _ g1
        obtain ⟨p0, k, l, m, C, e, hl, hm⟩ := ih (rk (par N t (par N t x))) (by omega) _ (Nat.le_refl _) q1
        have hpar : top N (ahd t x).f = par N t x := rfl
        have hpar2 : top N (ahd t (par N t x)).f = par N t (par N t x) := rfl
        have hd2 : ∀ i, i < k → (ahd t x).f ≠ (m i).t := fun i hi e2 => by
          have h1 := (hl (i + 1) (by omega)).1
          have h2 : top N (pl p0 m (i + 1)) = par N t x := by show top N (m i).t = _; rw [← e2]; exact hpar
          rw [h2] at h1
          omega
        obtain ⟨C', hp, hp1⟩ := C.more (ahd t (par N t x)) (ahd t x) (by rw [hpar2, e]) (by rw [q5, hpar]) (hA _ (by omega) q3) (by rw [hpar]; exact g4) hd2 ⟨q6, q7, g6, g7⟩
        refine ⟨p0, k + 1, _, _, C', by rw [hp1]; exact g5, fun i hi => ?_, fun i hi => ?_⟩
        · by_cases hik : i = k + 1
          · subst hik
            rw [hp1, g5]
            exact ⟨hx, Nat.le_refl _, fun h => by omega⟩
          · rw [hp i (by omega)]
            obtain ⟨a1, a2, _⟩ := hl i (by omega)
            exact ⟨a1, by omega, fun _ => by omega⟩
        · by_cases hik : i = k
          · subst hik
            rw [if_pos rfl, hpar]
            exact ⟨g4, g1, g3⟩
          · rw [if_neg hik]
            obtain ⟨a1, a2, a3⟩ := hm i (by omega)
            exact ⟨a1, a2, by omega⟩
  exact fun x hx => key _ x (Nat.le_refl _) hx
end
/-- What a new ring is made of. -/
structure RingS (N : List Nd) (M : List Lk) (t : Tp) (rk : Nat → Nat) (L : List Nat) (b : Nat) : Prop where
  nd : L.Nodup
  tp : ∀ p ∈ L, isTop N p
  mem : b ∈ L
  ev : lab t b = 1
  mt : ∀ p ∈ L, p ≠ b → ∃ m, mateOf N M p = some m ∧ top N m.t ∈ L
  out : ∀ m, mateOf N M b = some m → top N m.t ∉ L
  rkb : ∀ p ∈ L, rk b ≤ rk p
  big : 3 ≤ L.length
theorem even_mate_par {s : Nat} {N : List Nd} {M : List Lk} {t : Tp} {rk : Nat → Nat} (I : Inv s N M) (F : For s N M t rk) {b : Nat} (hb : lab t b = 1) {m : Lk} (hm : mateOf N M b = some m) : rk (top N m.t) < rk b ∧ lab t (top N m.t) = 2 ∧ m = (ahd t b).flip ∧ rt t b ≠ b := by
  have hr : rt t b ≠ b := fun h => by rw [F.rot b hb h] at hm; cases hm
  obtain ⟨g1, g2, g3, g4, g5, _⟩ := F.evn b hb hr
  have h := mate_flip I.mat g4
  rw [g5, hm] at h
  have e := Option.some.inj h
  subst e
  exact ⟨g3, g1, rfl, hr⟩
theorem ringS_of {s : Nat} {N : List Nd} {M : List Lk} {t : Tp} {rk : Nat → Nat} {a0 b0 i k : Nat} {A B : List Nat} (I : Inv s N M) (F : For s N M t rk) (wA : IsWay N t rk a0 A) (wB : IsWay N t rk b0 B) (la : lab t a0 = 1) (lb : lab t b0 = 1) (hne : a0 ≠ b0) (hi : i < A.length) (hk : k < B.length) (hk2 : B[k] = A[i]) (hf : ∀ j (h : j < i), A[j] ∉ B) : RingS N M t rk (ringOf A B i k) A[i] := by
  obtain ⟨hie, hke⟩ := meet_even I F wA wB la lb hi hk hk2.symm hf
  have hRM := ring_mates I F wA wB la lb hi hk hk2.symm hie hke
  have hbl : lab t A[i] = 1 := by rw [wA.lb i hi, if_pos hie, la]
  have inA : ∀ j (h : j < A.length), j ≤ i → A[j] ∈ ringOf A B i k := fun j h hj => by
    unfold ringOf
    rw [List.mem_append, List.mem_reverse]
    exact .inl (mem_take_iff.2 ⟨j, h, by omega, rfl⟩)
  have hcase : ∀ p ∈ ringOf A B i k, (∃ j, ∃ h : j < A.length, j ≤ i ∧ A[j] = p) ∨ ∃ j, ∃ h : j < B.length, j < k ∧ B[j] = p := fun p hp => by
    unfold ringOf at hp
    rw [List.mem_append, List.mem_reverse] at hp
    rcases hp with hp | hp
    · obtain ⟨j, hj, hji, e⟩ := mem_take_iff.1 hp
      exact .inl ⟨j, hj, by omega, e⟩
    · obtain ⟨j, hj, hjk, e⟩ := mem_take_iff.1 hp
      exact .inr ⟨j, hj, hjk, e⟩
  have hrank : ∀ p ∈ ringOf A B i k, rk A[i] ≤ rk p := fun p hp => by
    rcases hcase p hp with ⟨j, hj, hji, rfl⟩ | ⟨j, hj, hjk, rfl⟩
    · by_cases e : j = i
      · subst e; exact Nat.le_refl _
      · exact Nat.le_of_lt (wA.rank j i (by omega) hi)
    · rw [← hk2]
      exact Nat.le_of_lt (wB.rank j k hjk hk)
  refine ⟨?_, ?_, inA i hi (Nat.le_refl _), hbl, ?_, ?_, hrank, ?_⟩
  · unfold ringOf
    rw [List.nodup_append]
    refine ⟨(List.reverse_perm _).nodup_iff.2 (wA.nodup.sublist (List.take_sublist _ _)), wB.nodup.sublist (List.take_sublist _ _), ?_⟩
    intro x hx y hy e
    subst e
    rw [List.mem_reverse] at hx
    obtain ⟨j, hj, hji, rfl⟩ := mem_take_iff.1 hx
    obtain ⟨l, hl, hlk, e⟩ := mem_take_iff.1 hy
    by_cases h : j < i
    · exact hf j h (by rw [← e]; exact List.getElem_mem _)
    · have : j = i := by omega
      subst this
      rw [← hk2] at e
      have := getElem_inj_of_nodup wB.nodup hl hk e
      omega
  · intro p hp
    rcases hcase p hp with ⟨j, hj, _, rfl⟩ | ⟨j, hj, _, rfl⟩
    · exact way_top F wA la j hj
    · exact way_top F wB lb j hj
  · intro p hp hpb
    have hex : ∃ m, mateOf N M p = some m := by
      rcases hcase p hp with ⟨j, hj, hji, rfl⟩ | ⟨j, hj, hjk, rfl⟩
      · have hji' : j < i := by
          rcases Nat.lt_or_ge j i with h | h
          · exact h
          · exact absurd (by congr 1; omega) hpb
        by_cases h : j % 2 = 0
        · obtain ⟨m, h1, _⟩ := (way_mates I F wA la j (by omega)).1 h
          exact ⟨m, h1⟩
        · obtain ⟨j', rfl⟩ : ∃ j', j = j' + 1 := ⟨j - 1, by omega⟩
          obtain ⟨m, h1, _⟩ := (way_mates I F wA la j' (by omega)).2 (by omega)
          exact ⟨m, h1⟩
      · by_cases h : j % 2 = 0
        · obtain ⟨m, h1, _⟩ := (way_mates I F wB lb j (by omega)).1 h
          exact ⟨m, h1⟩
        · obtain ⟨j', rfl⟩ : ∃ j', j = j' + 1 := ⟨j - 1, by omega⟩
          obtain ⟨m, h1, _⟩ := (way_mates I F wB lb j' (by omega)).2 (by omega)
          exact ⟨m, h1⟩
    obtain ⟨m, h1⟩ := hex
    exact ⟨m, h1, hRM p hp hpb h1⟩
  · intro m h1 h2
    have h3 := (even_mate_par I F hbl h1).1
    have h4 := hrank _ h2
    omega
  · rw [ring_length hi hk]
    have A0 : A[0]'(by omega) = a0 := wA.hd
    have B0 : B[0]'(by omega) = b0 := wB.hd
    rcases Nat.lt_or_ge (i + k) 2 with h | h
    · exfalso
      have hi0 : i = 0 := by omega
      have hk0 : k = 0 := by omega
      subst hi0 hk0
      exact hne (by rw [← A0, ← B0, hk2])
    · omega
theorem shrunk_is {s : Nat} {N : List Nd} {M : List Lk} {t : Tp} {rk : Nat → Nat} {eA eB : Nat} (I : Inv s N M) (F : For s N M t rk) (la : lab t (top N eA) = 1) (lb : lab t (top N eB) = 1) (hr : rt t (top N eA) = rt t (top N eB)) (hne : top N eA ≠ top N eB) :
    ∃ L x b, shrunk N M t eA eB = (shrinkN N L x, keepM N L M) ∧ x.up = -1 ∧ x.gone = false ∧ x.z = 0 ∧ x.ring = L ∧ x.base = baseOf N M b ∧ RingS N M t rk L b ∧ ∀ T : Lk → Prop, (∀ l, T l → T l.flip) → AT T t → T ⟨eA, eB⟩ → ∀ l ∈ x.links, T l := by
  have wA := way_of F (show lab t (top N eA) ≠ 0 by omega)
  have wB := way_of F (show lab t (top N eB) ≠ 0 by omega)
  unfold shrunk
  dsimp only
  generalize wayOf N t (top N eA) = A at wA
  generalize wayOf N t (top N eB) = B at wB
  obtain ⟨hi, hm, hf⟩ := fstIn_spec B A (ways_meet wA wB hr)
  have e1 : A.getD (fstIn B A) 0 = A[fstIn B A] := getD_at _ _ _ hi
  rw [e1]
  obtain ⟨hk, hk2⟩ := plcOf_spec _ B hm
  refine ⟨_, _, _, rfl, rfl, rfl, rfl, rfl, rfl, ringS_of I F wA wB la lb hne hi hk hk2 hf, fun T hfl hat he x hx => ?_⟩
  have hnz : ∀ {x W} (_ : IsWay N t rk x W) (_ : lab t x = 1) (p : Nat) (hp : p < W.length), lab t W[p] ≠ 0 := fun {x W} hW hx p hp => by
    rw [hW.lb p hp, hx]; split <;> omega
  have hx' : x ∈ linksOf t ⟨eA, eB⟩ A B (fstIn B A) (plcOf A[fstIn B A] B) := hx
  unfold linksOf at hx'
  rcases List.mem_append.1 hx' with hx' | hx'
  · obtain ⟨v, hv, rfl⟩ := List.mem_map.1 hx'
    obtain ⟨p, hp, hpi, rfl⟩ := mem_take_iff.1 (List.mem_reverse.1 hv)
    exact hat _ (hnz wA la p hp) (way_nonroot wA p (by omega))
  · rcases List.mem_cons.1 hx' with rfl | hx'
    · exact he
    · obtain ⟨v, hv, rfl⟩ := List.mem_map.1 hx'
      obtain ⟨p, hp, hpk, rfl⟩ := mem_take_iff.1 hv
      exact hfl _ (hat _ (hnz wB lb p hp) (way_nonroot wB p (by omega)))
section
variable {T : Lk → Prop} {s : Nat} {N : List Nd} {M : List Lk} {t : Tp} {rk : Nat → Nat} {L : List Nat} {b : Nat} {x : Nd}
theorem RingS.tops' (R : RingS N M t rk L b) : ∀ v ∈ L, v < N.length ∧ upA N v < 0 := fun v hv => ⟨(R.tp v hv).1, (R.tp v hv).2.2⟩
theorem sh_top (I : Inv s N M) (R : RingS N M t rk L b) (hx : x.up = -1) (v : Nat) (hv : v < s) : top (shrinkN N L x) v = if top N v ∈ L then N.length else top N v :=
  shrink_top I.ups R.tops' hx v (by have := I.ge; omega)
theorem sh_mate (I' : Inv s (shrinkN N L x) (keepM N L M)) {m : Lk} (h : mateOf N M (top N m.f) = some m) (ho : ¬ (top N m.f ∈ L ∧ top N m.t ∈ L)) : mateOf (shrinkN N L x) (keepM N L M) (top (shrinkN N L x) m.f) = some m := by
  refine mate_of I'.mat ?_
  unfold keepM
  rcases (mate_some h).2 with h1 | h1
  · refine .inl (List.mem_filter.2 ⟨h1, ?_⟩)
    rw [Bool.not_eq_true', ← Bool.not_eq_true, Bool.and_eq_true, decide_eq_true_eq, decide_eq_true_eq]
    exact ho
  · refine .inr (List.mem_filter.2 ⟨h1, ?_⟩)
    rw [Bool.not_eq_true', ← Bool.not_eq_true, Bool.and_eq_true, decide_eq_true_eq, decide_eq_true_eq]
    exact fun h => ho ⟨h.2, h.1⟩
theorem sh_kept {m : Lk} (h : m ∈ keepM N L M ∨ m.flip ∈ keepM N L M) : (m ∈ M ∨ m.flip ∈ M) ∧ ¬ (top N m.f ∈ L ∧ top N m.t ∈ L) := by
  unfold keepM at h
  rcases h with h | h
  · obtain ⟨h1, h2⟩ := List.mem_filter.1 h
    rw [Bool.not_eq_true', ← Bool.not_eq_true, Bool.and_eq_true, decide_eq_true_eq, decide_eq_true_eq] at h2
    exact ⟨.inl h1, h2⟩
  · obtain ⟨h1, h2⟩ := List.mem_filter.1 h
    rw [Bool.not_eq_true', ← Bool.not_eq_true, Bool.and_eq_true, decide_eq_true_eq, decide_eq_true_eq] at h2
    exact ⟨.inr h1, fun h => h2 ⟨h.2, h.1⟩⟩
theorem kept_low (I : Inv s N M) {m : Lk} (h : m ∈ M ∨ m.flip ∈ M) : m.f < s ∧ m.t < s := by
  constructor
  · exact I.fin _ (mem_ends.2 (h.elim (fun h => ⟨m, h, .inl rfl⟩) (fun h => ⟨_, h, .inr rfl⟩)))
  · exact I.fin _ (mem_ends.2 (h.elim (fun h => ⟨m, h, .inr rfl⟩) (fun h => ⟨_, h, .inl rfl⟩)))
theorem sh_free (I : Inv s N M) (R : RingS N M t rk L b) (hx : x.up = -1) {v : Nat} (hv : v < s) (h : mateOf N M (top N v) = none) : mateOf (shrinkN N L x) (keepM N L M) (top (shrinkN N L x) v) = none := by
  cases hm : mateOf (shrinkN N L x) (keepM N L M) (top (shrinkN N L x) v) with
  | none => rfl
  | some m =>
    exfalso
    obtain ⟨h1, h2⟩ := mate_some hm
    obtain ⟨h3, h4⟩ := sh_kept h2
    obtain ⟨f1, f2⟩ := kept_low I h3
    have h5 := mate_of I.mat h3
    rw [sh_top I R hx v hv, sh_top I R hx m.f f1] at h1
    have hge := I.ge
    have tv := (top_spec I.ups v (by omega)).1
    have tm := (top_spec I.ups m.f (by omega)).1
    by_cases hvL : top N v ∈ L
    · have hvb : top N v = b := Classical.byContradiction fun hne => by
        obtain ⟨m', g, _⟩ := R.mt _ hvL hne
        rw [h] at g; cases g
      rw [if_pos hvL] at h1
      by_cases hmL : top N m.f ∈ L
      · by_cases hmb : top N m.f = b
        · rw [hmb, ← hvb, h] at h5; cases h5
        · obtain ⟨m', g1, g2⟩ := R.mt _ hmL hmb
          rw [h5] at g1
          obtain rfl := Option.some.inj g1
          exact h4 ⟨hmL, g2⟩
      · rw [if_neg hmL] at h1; omega
    · rw [if_neg hvL] at h1
      by_cases hmL : top N m.f ∈ L
      · rw [if_pos hmL] at h1; omega
      · rw [if_neg hmL] at h1
        rw [h1, h] at h5; cases h5
theorem sh_eq (I : Inv s N M) (R : RingS N M t rk L b) (hx : x.up = -1) {v w : Nat} (hv : v < s) (hw : w < s) (h : top N v = top N w) : top (shrinkN N L x) v = top (shrinkN N L x) w := by
  rw [sh_top I R hx v hv, sh_top I R hx w hw, h]
theorem sh_le (I : Inv s N M) (R : RingS N M t rk L b) (hx : x.up = -1) {v : Nat} (hv : v < s) : top N v ≤ top (shrinkN N L x) v := by
  rw [sh_top I R hx v hv]
  have := (top_spec I.ups v (by have := I.ge; omega)).1
  split <;> omega
theorem cert_shrink (I : Inv s N M) (R : RingS N M t rk L b) (hx : x.up = -1) (I' : Inv s (shrinkN N L x) (keepM N L M)) {r p0 k : Nat} {l m : Nat → Lk} (C : Cert T s N M r p0 k l m) (hr : r < N.length) : Cert T s (shrinkN N L x) (keepM N L M) r p0 k l m := by
  refine ⟨sh_free I R hx C.low C.free, C.low, fun i hi => ?_, fun i hi => ?_, C.ds, C.sz⟩
  · obtain ⟨h1, h2, h3⟩ := C.st i hi
    obtain ⟨z1, z2, z3, z4⟩ := C.sz i hi
    exact ⟨sh_eq I R hx z1 (C.plow i (by omega)) h1, sh_eq I R hx z2 z3 h2, h3⟩
  · obtain ⟨z1, z2, z3, z4⟩ := C.sz i hi
    rcases C.mm i hi with ⟨h1, h2⟩ | h1
    · have h3 := sh_le I R hx (x := x) z3
      exact .inl ⟨sh_eq I R hx z3 z4 h1, by omega⟩
    · by_cases ho : top N (m i).f ∈ L ∧ top N (m i).t ∈ L
      · refine .inl ⟨?_, ?_⟩
        · rw [sh_top I R hx _ z3, sh_top I R hx _ z4, if_pos ho.1, if_pos ho.2]
        · rw [sh_top I R hx _ z3, if_pos ho.1]; exact hr
      · exact .inr (sh_mate I' h1 ho)
theorem cert_shrink_out (I : Inv s N M) (R : RingS N M t rk L b) (hx : x.up = -1) (I' : Inv s (shrinkN N L x) (keepM N L M)) {r r' p0 k : Nat} {l m : Nat → Lk} (C : Cert T s N M r p0 k l m) (ho : ∀ i, i < k → mateOf N M (top N (m i).f) = some (m i) ∧ top N (m i).f ∉ L) : Cert T s (shrinkN N L x) (keepM N L M) r' p0 k l m := by
  refine ⟨sh_free I R hx C.low C.free, C.low, fun i hi => ?_, fun i hi => ?_, C.ds, C.sz⟩
  · obtain ⟨h1, h2, h3⟩ := C.st i hi
    obtain ⟨z1, z2, z3, z4⟩ := C.sz i hi
    exact ⟨sh_eq I R hx z1 (C.plow i (by omega)) h1, sh_eq I R hx z2 z3 h2, h3⟩
  · exact .inr (sh_mate I' (ho i hi).1 (fun h => (ho i hi).2 h.1))
theorem has_shrink (I : Inv s N M) (R : RingS N M t rk L b) (hx : x.up = -1) (I' : Inv s (shrinkN N L x) (keepM N L M)) {r v : Nat} (hv : v < s) (hr : r < N.length) (h : HasC T s N M r v) : HasC T s (shrinkN N L x) (keepM N L M) r v := by
  obtain ⟨p0, k, l, m, C, e⟩ := h
  exact ⟨p0, k, l, m, cert_shrink I R hx I' C hr, sh_eq I R hx (C.plow k (Nat.le_refl _)) hv e⟩
theorem sh_isTop (hL' : ∀ v ∈ L, v < N.length) {p : Nat} (h : isTop (shrinkN N L x) p) : p = N.length ∨ (p ∉ L ∧ isTop N p) := by
  obtain ⟨h1, h2, h3⟩ := h
  rw [shrink_length] at h1
  by_cases e : p = N.length
  · exact .inl e
  · rw [shrink_up hL', if_neg e] at h3
    have hp : p ∉ L := fun hm => by rw [if_pos hm] at h3; omega
    rw [if_neg hp] at h3
    rw [shrink_nd hL', if_neg e, if_neg hp] at h2
    exact .inr ⟨hp, by omega, h2, h3⟩
theorem hist_shrink (I : Inv s N M) (F : For s N M t rk) (hA : AT T t) (R : RingS N M t rk L b) (hx : x.up = -1) (I' : Inv s (shrinkN N L x) (keepM N L M)) {n1 : Nat}
    (hH : ∀ q, n1 ≤ q → isTop N q → ∃ p0 k l m, Cert T s N M q p0 k l m ∧ top N (pl p0 m k) = q) : ∀ q, n1 ≤ q → isTop (shrinkN N L x) q → ∃ p0 k l m, Cert T s (shrinkN N L x) (keepM N L M) q p0 k l m ∧ top (shrinkN N L x) (pl p0 m k) = q := by
  intro q hq ht
  rcases sh_isTop (fun v hv => (R.tops' v hv).1) ht with e | ⟨hqL, htq⟩
  · subst e
    obtain ⟨p0, k, l, m, C, e, _, hm⟩ := cert_of_even I F hA 0 b R.ev
    refine ⟨p0, k, l, m, cert_shrink_out I R hx I' C (fun i hi => ⟨(hm i hi).1, fun hin => ?_⟩), ?_⟩
    · have h1 := R.rkb _ hin
      have h2 := (hm i hi).2.2
      omega
    · rw [sh_top I R hx _ (C.plow k (Nat.le_refl _)), e, if_pos R.mem]
  · obtain ⟨p0, k, l, m, C, e⟩ := hH q hq htq
    refine ⟨p0, k, l, m, cert_shrink I R hx I' C htq.1, ?_⟩
    rw [sh_top I R hx _ (C.plow k (Nat.le_refl _)), e, if_neg hqL]
theorem sh_two (I : Inv s N M) (R : RingS N M t rk L b) (hx : x.up = -1) {v w : Nat} (hv : v < s) (hw : w < s) (fv : mateOf N M (top N v) = none) (fw : mateOf N M (top N w) = none) (h : top N v ≠ top N w) : top (shrinkN N L x) v ≠ top (shrinkN N L x) w := by
  have hge := I.ge
  have tv := (top_spec I.ups v (by omega)).1
  have tw := (top_spec I.ups w (by omega)).1
  have key : ∀ p, p ∈ L → mateOf N M p = none → p = b := fun p hp hf => Classical.byContradiction fun hne => by
    obtain ⟨m, g, _⟩ := R.mt p hp hne
    rw [hf] at g; cases g
  rw [sh_top I R hx v hv, sh_top I R hx w hw]
  by_cases h1 : top N v ∈ L
  · rw [if_pos h1]
    by_cases h2 : top N w ∈ L
    · exact absurd (by rw [key _ h1 fv, key _ h2 fw]) h
    · rw [if_neg h2]; omega
  · rw [if_neg h1]
    by_cases h2 : top N w ∈ L
    · rw [if_pos h2]; omega
    · rw [if_neg h2]; exact h
end
def topsL (N : List Nd) : List Nat := (List.range N.length).filter (isTopB N)
def freeL (N : List Nd) (M : List Lk) : List Nat := (topsL N).filter fun p => (mateOf N M p).isNone
theorem isTopB_iff {N : List Nd} {p : Nat} : isTopB N p = true ↔ (nd N p).gone = false ∧ upA N p < 0 := by
  unfold isTopB
  simp only [Bool.and_eq_true, Bool.not_eq_true', decide_eq_true_eq]
theorem mem_topsL {N : List Nd} {p : Nat} : p ∈ topsL N ↔ isTop N p := by
  unfold topsL isTop
  rw [List.mem_filter, List.mem_range, isTopB_iff]
theorem topsL_nodup (N : List Nd) : (topsL N).Nodup := List.nodup_range.filter _
theorem mem_freeL {N : List Nd} {M : List Lk} {p : Nat} : p ∈ freeL N M ↔ isTop N p ∧ mateOf N M p = none := by
  unfold freeL
  rw [List.mem_filter, mem_topsL, Option.isNone_iff_eq_none]
theorem freeL_nodup (N : List Nd) (M : List Lk) : (freeL N M).Nodup := (topsL_nodup N).filter _
theorem len_of_map {L K : List Nat} (f : Nat → Nat) (hn : L.Nodup) (hf : ∀ a ∈ L, ∀ b ∈ L, f a = f b → a = b) (hm : ∀ a ∈ L, f a ∈ K) : L.length ≤ K.length := by
  have h1 := nodup_map_of hn hf
  have h2 := len_of_sub _ K h1 (fun y hy => by obtain ⟨a, ha, rfl⟩ := List.mem_map.1 hy; exact hm a ha)
  rwa [List.length_map] at h2
section
variable {s : Nat} {N : List Nd} {M : List Lk} {t : Tp} {rk : Nat → Nat} {L : List Nat} {b : Nat} {x : Nd}
theorem topsL_shrink (R : RingS N M t rk L b) : (topsL (shrinkN N L x)).length + 2 ≤ (topsL N).length := by
  have h0 : ((topsL N).filter (fun p => !decide (p ∈ L)) ++ L).length ≤ (topsL N).length := by
    refine len_of_sub _ _ ?_ (fun y hy => ?_)
    · rw [List.nodup_append]
      refine ⟨(topsL_nodup N).filter _, R.nd, fun a ha c hc e => ?_⟩
      subst e
      have := (List.mem_filter.1 ha).2
      simp [hc] at this
    · rcases List.mem_append.1 hy with h | h
      · exact (List.mem_filter.1 h).1
      · exact mem_topsL.2 (R.tp y h)
  rw [List.length_append] at h0
  have h1 : (topsL (shrinkN N L x)).length ≤ (N.length :: (topsL N).filter (fun p => !decide (p ∈ L))).length := by
    refine len_of_sub _ _ (topsL_nodup _) (fun y hy => ?_)
    rcases sh_isTop (fun v hv => (R.tops' v hv).1) (mem_topsL.1 hy) with e | ⟨h2, h3⟩
    · rw [e]; exact List.mem_cons_self
    · exact List.mem_cons_of_mem _ (List.mem_filter.2 ⟨mem_topsL.2 h3, by simp [h2]⟩)
  rw [List.length_cons] at h1
  have := R.big
  omega
theorem topsL_few (I : Inv s N M) : (topsL N).length ≤ s := by
  have h : ∀ p, isTop N p → ∃ v, v < s ∧ top N v = p := fun p hp => by
    obtain ⟨v, hv, hw⟩ := has_vertex I p p (Nat.le_refl _) hp.1 hp.2.1
    exact ⟨v, hv, win_is_top I.ups (by have := I.ge; omega) hp.2.2 hw⟩
  have h2 : ∃ f : Nat → Nat, ∀ p, isTop N p → f p < s ∧ top N (f p) = p := by
    refine ⟨fun p => Classical.epsilon (fun v => v < s ∧ top N v = p), fun p hp => ?_⟩
    exact Classical.epsilon_spec (p := fun v => v < s ∧ top N v = p) (h p hp)
  obtain ⟨f, hf⟩ := h2
  have := len_of_map (K := List.range s) f (topsL_nodup N) (fun a ha c hc e => by
    have h1 := hf a (mem_topsL.1 ha)
    have h2 := hf c (mem_topsL.1 hc)
    rw [← h1.2, e, h2.2]) (fun a ha => List.mem_range.2 (hf a (mem_topsL.1 ha)).1)
  rwa [List.length_range] at this
theorem freeL_few (I : Inv s N M) : (freeL N M).length ≤ s := Nat.le_trans (List.length_filter_le _ _) (topsL_few I)
theorem freeL_shrink (I : Inv s N M) (R : RingS N M t rk L b) (hx : x.up = -1) (I' : Inv s (shrinkN N L x) (keepM N L M)) : (freeL (shrinkN N L x) (keepM N L M)).length ≤ (freeL N M).length := by
  have hge := I.ge
  have hL' : ∀ v ∈ L, v < N.length := fun v hv => (R.tops' v hv).1
  refine len_of_map (fun p => if p = N.length then b else p) (freeL_nodup _ _) (fun a ha c hc e => ?_) (fun a ha => ?_)
  · have key : ∀ q, isTop (shrinkN N L x) q → q ≠ N.length → q ∉ L := fun q hq hne => by
      rcases sh_isTop hL' hq with h | h
      · exact absurd h hne
      · exact h.1
    have ta := (mem_freeL.1 ha).1
    have tc := (mem_freeL.1 hc).1
    by_cases h1 : a = N.length
    · by_cases h2 : c = N.length
      · omega
      · simp only [if_pos h1, if_neg h2] at e
        exact absurd (by rw [← e]; exact R.mem) (key c tc h2)
    · by_cases h2 : c = N.length
      · simp only [if_pos h2, if_neg h1] at e
        exact absurd (by rw [e]; exact R.mem) (key a ta h1)
      · simp only [if_neg h1, if_neg h2] at e
        exact e
  · obtain ⟨ta, fa⟩ := mem_freeL.1 ha
    refine mem_freeL.2 ?_
    by_cases h1 : a = N.length
    · simp only [if_pos h1]
      refine ⟨R.tp b R.mem, ?_⟩
      cases hm : mateOf N M b with
      | none => rfl
      | some m =>
        exfalso
        have ho := R.out m hm
        obtain ⟨h2, h3⟩ := mate_some hm
        have h4 := sh_mate I' (m := m) (by rw [h2]; exact hm) (fun h => ho h.2)
        rw [sh_top I R hx _ (kept_low I h3).1, h2, if_pos R.mem, ← h1, fa] at h4
        cases h4
    · simp only [if_neg h1]
      rcases sh_isTop hL' ta with h | ⟨hL, tN⟩
      · exact absurd h h1
      · refine ⟨tN, ?_⟩
        cases hm : mateOf N M a with
        | none => rfl
        | some m =>
          exfalso
          obtain ⟨h2, h3⟩ := mate_some hm
          have h4 := sh_mate I' (m := m) (by rw [h2]; exact hm) (fun h => hL (by rw [← h2]; exact h.1))
          rw [sh_top I R hx _ (kept_low I h3).1, h2, if_neg hL, fa] at h4
          cases h4
end
open Classical in
noncomputable def outB (s : Nat) (N : List Nd) (Ev : Nat → Prop) (k : Nat) : Bool := decide (s ≤ k) && (!(nd N k).gone && decide (∃ v, v < s ∧ win N v k = true ∧ ¬ Ev v))
noncomputable def rho (s : Nat) (N : List Nd) (Ev : Nat → Prop) (n1 : Nat) : Nat := ((List.range n1).filter (outB s N Ev)).length
theorem outB_iff {s : Nat} {N : List Nd} {Ev : Nat → Prop} {k : Nat} : outB s N Ev k = true ↔ s ≤ k ∧ (nd N k).gone = false ∧ ∃ v, v < s ∧ win N v k = true ∧ ¬ Ev v := by
  unfold outB
  simp only [Bool.and_eq_true, Bool.not_eq_true', decide_eq_true_eq]
theorem rho_le {s : Nat} {N N' : List Nd} {Ev Ev' : Nat → Prop} {n n' : Nat} (h : ∀ k, k < n' → outB s N' Ev' k = true → k < n ∧ outB s N Ev k = true) : rho s N' Ev' n' ≤ rho s N Ev n := by
  unfold rho
  refine len_of_sub _ _ (List.nodup_range.filter _) (fun y hy => ?_)
  obtain ⟨h1, h2⟩ := List.mem_filter.1 hy
  obtain ⟨h3, h4⟩ := h y (List.mem_range.1 h1) h2
  exact List.mem_filter.2 ⟨List.mem_range.2 h3, h4⟩
theorem rho_lt {s : Nat} {N N' : List Nd} {Ev Ev' : Nat → Prop} {n n' j : Nat} (h : ∀ k, k < n' → outB s N' Ev' k = true → k ≠ j ∧ k < n ∧ outB s N Ev k = true) (hj : j < n ∧ outB s N Ev j = true) : rho s N' Ev' n' + 1 ≤ rho s N Ev n := by
  unfold rho
  have := len_of_sub (j :: (List.range n').filter (outB s N' Ev')) ((List.range n).filter (outB s N Ev)) (List.nodup_cons.2 ⟨fun hm => ?_, List.nodup_range.filter _⟩) (fun y hy => ?_)
  · rw [List.length_cons] at this; exact this
  · obtain ⟨h1, h2⟩ := List.mem_filter.1 hm
    exact (h j (List.mem_range.1 h1) h2).1 rfl
  · rcases List.mem_cons.1 hy with rfl | hy
    · exact List.mem_filter.2 ⟨List.mem_range.2 hj.1, hj.2⟩
    · obtain ⟨h1, h2⟩ := List.mem_filter.1 hy
      obtain ⟨_, h3, h4⟩ := h y (List.mem_range.1 h1) h2
      exact List.mem_filter.2 ⟨List.mem_range.2 h3, h4⟩
def Big (s : Nat) (N : List Nd) : Prop := ∀ k, s ≤ k → k < N.length → (nd N k).gone = false → 3 ≤ (nd N k).ring.length
theorem rings_few {s : Nat} {N : List Nd} {M : List Lk} (I : Inv s N M) (hB : Big s N) : 2 * ((List.range N.length).filter fun k => decide (s ≤ k) && !(nd N k).gone).length ≤ s := by
  obtain ⟨K, hK⟩ : ∃ K, K = (List.range N.length).filter fun k => decide (s ≤ k) && !(nd N k).gone := ⟨_, rfl⟩
  rw [← hK]
  have hKn : K.Nodup := by rw [hK]; exact List.nodup_range.filter _
  have hKm : ∀ k ∈ K, s ≤ k ∧ k < N.length ∧ (nd N k).gone = false := fun k hk => by
    rw [hK] at hk
    obtain ⟨h1, h2⟩ := List.mem_filter.1 hk
    simp only [Bool.and_eq_true, decide_eq_true_eq, Bool.not_eq_true'] at h2
    exact ⟨h2.1, List.mem_range.1 h1, h2.2⟩
  have hall : ∀ L : List Nat, L.Nodup → (∀ k ∈ L, k ∈ K) → (L.flatMap fun k => (nd N k).ring).Nodup ∧ 3 * L.length ≤ (L.flatMap fun k => (nd N k).ring).length ∧ ∀ y ∈ L.flatMap (fun k => (nd N k).ring), ∃ k ∈ L, upA N y = (k : Int) ∧ y < k := by
    intro L
    induction L with
    | nil => intro _ _; simp
    | cons k r ih =>
      intro hn hm
      rw [List.nodup_cons] at hn
      obtain ⟨a1, a2, a3⟩ := ih hn.2 (fun q hq => hm q (List.mem_cons_of_mem _ hq))
      obtain ⟨g1, g2, g3⟩ := hKm k (hm k List.mem_cons_self)
      have R := I.rings k g1 g2 g3
      have h3 := hB k g1 g2 g3
      rw [List.flatMap_cons]
      refine ⟨?_, by rw [List.length_append, List.length_cons]; omega, fun y hy => ?_⟩
      · rw [List.nodup_append]
        refine ⟨R.nodup, a1, fun a ha c hc e => ?_⟩
        subst e
        obtain ⟨q, hq, e2, _⟩ := a3 a hc
        have e3 := (R.mem a ha).2
        rw [e3] at e2
        have : k = q := by omega
        subst this
        exact hn.1 hq
      · rcases List.mem_append.1 hy with h | h
        · exact ⟨k, List.mem_cons_self, (R.mem y h).2, (R.mem y h).1⟩
        · obtain ⟨q, hq, h2⟩ := a3 y h
          exact ⟨q, List.mem_cons_of_mem _ hq, h2⟩
  obtain ⟨b1, b2, b3⟩ := hall K hKn (fun k hk => hk)
  have hsub := len_of_sub (K.flatMap fun k => (nd N k).ring) (List.range s ++ K) b1 (fun y hy => by
    obtain ⟨k, hk, h1, h2⟩ := b3 y hy
    obtain ⟨g1, g2, g3⟩ := hKm k hk
    by_cases hs : y < s
    · exact List.mem_append.2 (.inl (List.mem_range.2 hs))
    · refine List.mem_append.2 (.inr ?_)
      rw [hK]
      refine List.mem_filter.2 ⟨List.mem_range.2 (by omega), ?_⟩
      have hg : (nd N y).gone = false := by
        cases hgo : (nd N y).gone with
        | false => rfl
        | true => have := I.gon y (by omega) hgo; omega
      simp only [hg, Bool.not_false, Bool.and_true, decide_eq_true_eq]
      omega)
  rw [List.length_append, List.length_range] at hsub
  omega
theorem rho_few {s : Nat} {N : List Nd} {M : List Lk} (I : Inv s N M) (hB : Big s N) (Ev : Nat → Prop) (n1 : Nat) (hn : n1 ≤ N.length) : 2 * rho s N Ev n1 ≤ s := by
  have h1 := rings_few I hB
  have h2 : rho s N Ev n1 ≤ ((List.range N.length).filter fun k => decide (s ≤ k) && !(nd N k).gone).length := by
    unfold rho
    refine len_of_sub _ _ (List.nodup_range.filter _) (fun y hy => ?_)
    obtain ⟨g1, g2⟩ := List.mem_filter.1 hy
    obtain ⟨g3, g4, _⟩ := outB_iff.1 g2
    refine List.mem_filter.2 ⟨List.mem_range.2 (by have := List.mem_range.1 g1; omega), ?_⟩
    simp only [g4, Bool.not_false, Bool.and_true, decide_eq_true_eq]
    exact g3
  omega
def CertQ (T : Lk → Prop) (s : Nat) (N : List Nd) (M : List Lk) (r : Nat) (Q : Nat → Prop) (p : Nat) : Prop := ∃ p0 k l m, Cert T s N M r p0 k l m ∧ top N (pl p0 m k) = p ∧ ∀ i, i < k → Q (top N (m i).t)
theorem CertQ.imp {T : Lk → Prop} {s : Nat} {N : List Nd} {M : List Lk} {r p : Nat} {Q Q' : Nat → Prop} (h : CertQ T s N M r Q p) (hq : ∀ q, Q q → Q' q) : CertQ T s N M r Q' p := by
  obtain ⟨p0, k, l, m, C, e, g⟩ := h
  exact ⟨p0, k, l, m, C, e, fun i hi => hq _ (g i hi)⟩
theorem CertQ.more {T : Lk → Prop} {s : Nat} {N : List Nd} {M : List Lk} {r p : Nat} {Q Q' : Nat → Prop} (h : CertQ T s N M r Q p) (lk mk : Lk) (h1 : top N lk.f = p) (h2 : top N lk.t = top N mk.f) (h3 : T lk) (h4 : mateOf N M (top N mk.f) = some mk) (h5 : ¬ Q (top N mk.f)) (h6 : lk.f < s ∧ lk.t < s ∧ mk.f < s ∧ mk.t < s) (hq : ∀ q, Q q → Q' q) (h7 : Q' (top N mk.t)) : CertQ T s N M r Q' (top N mk.t) := by
  obtain ⟨p0, k, l, m, C, e, g⟩ := h
  obtain ⟨C', hp, hp1⟩ := C.more lk mk (by rw [h1, e]) h2 h3 h4 (fun i hi e2 => h5 (by rw [e2]; exact g i hi)) h6
  refine ⟨p0, k + 1, _, _, C', by rw [hp1], fun i hi => ?_⟩
  by_cases hik : i = k
  · rw [if_pos hik]; exact h7
  · rw [if_neg hik]; exact hq _ (g i (by omega))
section
variable {T : Lk → Prop} {s : Nat} {N : List Nd} {M : List Lk} {t : Tp} {rk : Nat → Nat} {j : Nat}
def rgA (N : List Nd) (M : List Lk) (j i : Nat) : Nat := (nd N j).ring.getD ((atOf N M j + i) % (nd N j).ring.length) 0
def lkA' (N : List Nd) (M : List Lk) (j i : Nat) : Lk := (nd N j).links.getD ((atOf N M j + i) % (nd N j).ring.length) ⟨0, 0⟩
theorem open_link (h : Inv s N M) (hs : s ≤ j) (hj : j < N.length) (ha : (nd N j).gone = false) (hjt : upA N j < 0) (i : Nat) :
    top (openN N j) (lkA' N M j i).f = rgA N M j i ∧ top (openN N j) (lkA' N M j i).t = rgA N M j (i + 1) ∧ (lkA' N M j i).f < s ∧ (lkA' N M j i).t < s ∧ lkA' N M j i ∈ (nd N j).links := by
  have R := h.rings j hs hj ha
  have hge := h.ge
  have hpos : 0 < (nd N j).ring.length := by have := R.odd; omega
  unfold lkA' rgA
  generalize hn : (nd N j).ring.length = n at *
  generalize atOf N M j = a at *
  have h1 : (a + i) % n < n := Nat.mod_lt _ hpos
  have h2 : ((a + i) % n + 1) % n < n := Nat.mod_lt _ hpos
  have hl : (a + i) % n < (nd N j).links.length := by rw [R.len, hn]; exact h1
  have e2 : ((a + i) % n + 1) % n = (a + (i + 1)) % n := by rw [Nat.mod_add_mod, Nat.add_assoc]
  obtain ⟨w1, w2, f1, f2⟩ := R.lk _ hl (by omega) (by rw [hn]; exact h2)
  have g1 : (nd N j).links.getD ((a + i) % n) ⟨0, 0⟩ = (nd N j).links[(a + i) % n] := getD_at _ _ _ hl
  have g2 : (nd N j).ring.getD ((a + i) % n) 0 = (nd N j).ring[(a + i) % n]'(by omega) := getD_at _ _ _ _
  have g3 : (nd N j).ring.getD ((a + (i + 1)) % n) 0 = (nd N j).ring[((a + i) % n + 1) % n]'(by omega) := by rw [← e2]; exact getD_at _ _ _ _
  rw [g1, g2, g3]
  refine ⟨open_top_of h.ups hj hjt R.mem (List.getElem_mem _) (by omega) w1, ?_, f1, f2, List.getElem_mem _⟩
  refine open_top_of h.ups hj hjt R.mem (List.getElem_mem _) (by omega) ?_
  simpa only [hn] using w2
theorem rgA_mem (h : Inv s N M) (hs : s ≤ j) (hj : j < N.length) (ha : (nd N j).gone = false) (i : Nat) : rgA N M j i ∈ (nd N j).ring := by
  have R := h.rings j hs hj ha
  have hpos : 0 < (nd N j).ring.length := by have := R.odd; omega
  unfold rgA
  rw [getD_at _ _ _ (Nat.mod_lt _ hpos)]
  exact List.getElem_mem _
theorem rgA_inj (h : Inv s N M) (hs : s ≤ j) (hj : j < N.length) (ha : (nd N j).gone = false) {i k : Nat} (hi : i < (nd N j).ring.length) (hk : k < (nd N j).ring.length) (e : rgA N M j i = rgA N M j k) : i = k := by
  have R := h.rings j hs hj ha
  have hpos : 0 < (nd N j).ring.length := by omega
  unfold rgA at e
  rw [getD_at _ _ _ (Nat.mod_lt _ hpos), getD_at _ _ _ (Nat.mod_lt _ hpos)] at e
  exact mod_inj hi hk (getElem_inj_of_nodup R.nodup _ _ e)
theorem rgA_all (h : Inv s N M) (hs : s ≤ j) (hj : j < N.length) (ha : (nd N j).gone = false) (hat : atOf N M j < (nd N j).ring.length) {q : Nat} (hq : q ∈ (nd N j).ring) : ∃ e, e < (nd N j).ring.length ∧ rgA N M j e = q := by
  have _ := h
  have _ := hs
  have _ := hj
  have _ := ha
  obtain ⟨p, hp, rfl⟩ := List.getElem_of_mem hq
  unfold rgA
  generalize atOf N M j = a at *
  by_cases hle : a ≤ p
  · refine ⟨p - a, by omega, ?_⟩
    have e : (a + (p - a)) % (nd N j).ring.length = p := by rw [show a + (p - a) = p by omega]; exact Nat.mod_eq_of_lt hp
    rw [e]; exact getD_at _ _ _ hp
  · refine ⟨p + (nd N j).ring.length - a, by omega, ?_⟩
    have e : (a + (p + (nd N j).ring.length - a)) % (nd N j).ring.length = p := by
      rw [show a + (p + (nd N j).ring.length - a) = p + (nd N j).ring.length by omega, Nat.add_mod_right]
      exact Nat.mod_eq_of_lt hp
    rw [e]; exact getD_at _ _ _ hp
theorem base_at (h : Inv s N M) (hs : s ≤ j) (hj : j < N.length) (ha : (nd N j).gone = false) (hjt : upA N j < 0) (hb : win N (baseOf N M j) j = true) (hbs : baseOf N M j < s) : atOf N M j < (nd N j).ring.length ∧ top (openN N j) (baseOf N M j) = rgA N M j 0 := by
  have hge := h.ge
  have R := h.rings j hs hj ha
  obtain ⟨q, hq, hw⟩ := member_of h (by omega) hb (by omega)
  have hsp := lastAt_spec (fun x => win N (baseOf N M j) x) (nd N j).ring 0 0
  have hat : atOf N M j = lastAt (fun x => win N (baseOf N M j) x) (nd N j).ring 0 0 := rfl
  rw [← hat] at hsp
  rcases hsp with ⟨_, h2⟩ | ⟨k, hk, h1, h2⟩
  · have := h2 q hq
    rw [hw] at this; cases this
  · refine ⟨by omega, ?_⟩
    have h3 : (nd N j).ring[k] ∈ (nd N j).ring := List.getElem_mem _
    rw [open_top_of h.ups hj hjt R.mem h3 (by omega) h2]
    unfold rgA
    have e : (atOf N M j + 0) % (nd N j).ring.length = k := by rw [h1, Nat.add_zero, Nat.zero_add]; exact Nat.mod_eq_of_lt hk
    rw [e]; exact (getD_at _ _ _ hk).symm
theorem inner_mate (I1 : Inv s (openN N j) (openM N M j)) (h : Inv s N M) (hs : s ≤ j) (hj : j < N.length) (ha : (nd N j).gone = false) (hjt : upA N j < 0) {i : Nat} (hi : i % 2 = 1) (hn : i < (nd N j).ring.length) :
    mateOf (openN N j) (openM N M j) (rgA N M j i) = some (lkA' N M j i) ∧ mateOf (openN N j) (openM N M j) (rgA N M j (i + 1)) = some (lkA' N M j i).flip := by
  have R := h.rings j hs hj ha
  obtain ⟨g1, g2, _⟩ := open_link h hs hj ha hjt i
  have hm : lkA' N M j i ∈ openM N M j := by
    unfold openM innerOf
    refine List.mem_append.2 (.inr (List.mem_map.2 ⟨i / 2, List.mem_range.2 (by have := R.odd; omega), ?_⟩))
    unfold lkA'
    rw [show 2 * (i / 2) + 1 = i by omega]
  have h1 := mate_of I1.mat (.inl hm)
  have h2 := mate_of (m := (lkA' N M j i).flip) I1.mat (.inr hm)
  rw [g1] at h1
  exact ⟨h1, by rw [← g2]; exact h2⟩
theorem open_out (h : Inv s N M) (hs : s ≤ j) (hj : j < N.length) (ha : (nd N j).gone = false) (hjt : upA N j < 0) {v : Nat} (hv : v < s) (hne : top N v ≠ j) : top (openN N j) v = top N v :=
  (open_top h.ups h.inr hj hjt (h.rings j hs hj ha).mem v (by have := h.ge; omega)).2 hne
theorem open_mate (I1 : Inv s (openN N j) (openM N M j)) (h : Inv s N M) (hs : s ≤ j) (hj : j < N.length) (ha : (nd N j).gone = false) (hjt : upA N j < 0) {q : Nat} {m : Lk} (hm : mateOf N M q = some m) (hq : q ≠ j) : mateOf (openN N j) (openM N M j) q = some m := by
  obtain ⟨h1, h2⟩ := mate_some hm
  have h3 : m ∈ openM N M j ∨ m.flip ∈ openM N M j := h2.imp (fun h => List.mem_append.2 (.inl h)) (fun h => List.mem_append.2 (.inl h))
  have h4 := mate_of I1.mat h3
  rwa [open_out h hs hj ha hjt (kept_low h h2).1 (by rw [h1]; exact hq), h1] at h4
theorem open_free (h : Inv s N M) (hs : s ≤ j) (hj : j < N.length) (ha : (nd N j).gone = false) (hjt : upA N j < 0) {v : Nat} (hv : v < s) (hne : top N v ≠ j) (hf : mateOf N M (top N v) = none) : mateOf (openN N j) (openM N M j) (top (openN N j) v) = none := by
  rw [open_out h hs hj ha hjt hv hne]
  have hge := h.ge
  have R := h.rings j hs hj ha
  have hpos : 0 < (nd N j).ring.length := by have := R.odd; omega
  have ht := top_spec h.ups v (by omega)
  have hnr : top N v ∉ (nd N j).ring := fun hm => by have := (R.mem _ hm).2; omega
  cases hm : mateOf (openN N j) (openM N M j) (top N v) with
  | none => rfl
  | some m =>
    exfalso
    obtain ⟨h1, h2⟩ := mate_some hm
    have hin : ∀ x : Lk, x ∈ innerOf N M j → top (openN N j) x.f ∈ (nd N j).ring ∧ top (openN N j) x.t ∈ (nd N j).ring := fun x hx => by
      unfold innerOf at hx
      obtain ⟨k, _, rfl⟩ := List.mem_map.1 hx
      obtain ⟨g1, g2, _⟩ := open_link h hs hj ha hjt (2 * k + 1)
      unfold lkA' at g1 g2
      rw [g1, g2]
      exact ⟨rgA_mem h hs hj ha _, rgA_mem h hs hj ha _⟩
    have hout : m ∈ M ∨ m.flip ∈ M := by
      unfold openM at h2
      rcases h2 with h2 | h2
      · rcases List.mem_append.1 h2 with h3 | h3
        · exact .inl h3
        · exact absurd (by rw [← h1]; exact (hin _ h3).1) hnr
      · rcases List.mem_append.1 h2 with h3 | h3
        · exact .inr h3
        · exact absurd (by rw [← h1]; exact (hin _ h3).2) hnr
    have h5 := mate_of h.mat hout
    by_cases hmj : top N m.f = j
    · have h6 := (open_top h.ups h.inr hj hjt R.mem m.f (by have := (kept_low h hout).1; omega)).1 hmj (by have := (kept_low h hout).1; omega)
      rw [h1] at h6
      exact hnr h6.1
    · rw [open_out h hs hj ha hjt (kept_low h hout).1 hmj] at h1
      rw [h1, hf] at h5; cases h5
theorem ring_up (I1 : Inv s (openN N j) (openM N M j)) (h : Inv s N M) (hs : s ≤ j) (hj : j < N.length) (ha : (nd N j).gone = false) (hjt : upA N j < 0) (hT : ∀ x ∈ (nd N j).links, T x) {r : Nat} {Q : Nat → Prop} (hQ : ∀ q ∈ (nd N j).ring, ¬ Q q) {m : Lk} (hm1 : top (openN N j) m.f = rgA N M j 0) (hm2 : mateOf (openN N j) (openM N M j) (rgA N M j 0) = some m) (hms : m.f < s ∧ m.t < s) (hmQ : Q (top (openN N j) m.t)) :
    ∀ d i, (nd N j).ring.length - i ≤ d → i % 2 = 0 → 2 ≤ i → i < (nd N j).ring.length → CertQ T s (openN N j) (openM N M j) r (fun q => Q q ∨ ∃ a, a % 2 = 0 ∧ 2 ≤ a ∧ a < (nd N j).ring.length ∧ q = rgA N M j a) (rgA N M j i) → CertQ T s (openN N j) (openM N M j) r (fun q => Q q ∨ q ∈ (nd N j).ring) (top (openN N j) m.t) := by
  have R := h.rings j hs hj ha
  have hodd := R.odd
  have hQn : ∀ i, i < (nd N j).ring.length → (i % 2 = 1 ∨ i < 2) → ¬ (Q (rgA N M j i) ∨ ∃ a, a % 2 = 0 ∧ 2 ≤ a ∧ a < (nd N j).ring.length ∧ rgA N M j i = rgA N M j a) := fun i hi hc hq => by
    rcases hq with hq | ⟨a, h1, h2, h3, e⟩
    · exact hQ _ (rgA_mem h hs hj ha i) hq
    · have := rgA_inj h hs hj ha hi h3 e
      omega
  intro d
  induction d with
  | zero => intro i hd _ _ hi; omega
  | succ d ih =>
    intro i hd hi2 hge hi C
    obtain ⟨g1, g2, g3, g4, g5⟩ := open_link h hs hj ha hjt i
    by_cases hlast : i + 1 = (nd N j).ring.length
    · have e0 : rgA N M j (i + 1) = rgA N M j 0 := by
        unfold rgA
        rw [hlast, Nat.add_mod_right, Nat.add_zero]
      rw [e0] at g2
      exact C.more (lkA' N M j i) m g1 (by rw [g2, hm1]) (hT _ g5) (by rw [hm1]; exact hm2) (by rw [hm1]; exact hQn 0 (by omega) (.inr (by omega))) ⟨g3, g4, hms.1, hms.2⟩ (fun q hq => by
        rcases hq with hq | ⟨a, _, _, _, rfl⟩
        · exact .inl hq
        · exact .inr (rgA_mem h hs hj ha a)) (.inl hmQ)
    · obtain ⟨k1, k2, k3, k4, k5⟩ := open_link h hs hj ha hjt (i + 1)
      obtain ⟨m1, _⟩ := inner_mate I1 h hs hj ha hjt (i := i + 1) (by omega) (by omega)
      have C2 := C.more (Q' := fun q => Q q ∨ ∃ a, a % 2 = 0 ∧ 2 ≤ a ∧ a < (nd N j).ring.length ∧ q = rgA N M j a) (lkA' N M j i) (lkA' N M j (i + 1)) g1 (by rw [g2, k1]) (hT _ g5) (by rw [k1]; exact m1) (by rw [k1]; exact hQn (i + 1) (by omega) (.inl (by omega))) ⟨g3, g4, k3, k4⟩ (fun q hq => hq) (.inr ⟨i + 2, by omega, by omega, by omega, k2⟩)
      rw [k2] at C2
      exact ih (i + 2) (by omega) (by omega) (by omega) (by omega) C2
theorem ring_down (I1 : Inv s (openN N j) (openM N M j)) (h : Inv s N M) (hs : s ≤ j) (hj : j < N.length) (ha : (nd N j).gone = false) (hjt : upA N j < 0) (hT : ∀ x ∈ (nd N j).links, T x) (hfl : ∀ x, T x → T x.flip) {r : Nat} {Q : Nat → Prop} (hQ : ∀ q ∈ (nd N j).ring, ¬ Q q) {m : Lk} (hm1 : top (openN N j) m.f = rgA N M j 0) (hm2 : mateOf (openN N j) (openM N M j) (rgA N M j 0) = some m) (hms : m.f < s ∧ m.t < s) (hmQ : Q (top (openN N j) m.t)) :
    ∀ d i, i ≤ d → i % 2 = 1 → i < (nd N j).ring.length → CertQ T s (openN N j) (openM N M j) r (fun q => Q q ∨ ∃ a, a % 2 = 1 ∧ a < (nd N j).ring.length ∧ q = rgA N M j a) (rgA N M j i) → CertQ T s (openN N j) (openM N M j) r (fun q => Q q ∨ q ∈ (nd N j).ring) (top (openN N j) m.t) := by
  have hQn : ∀ i, i < (nd N j).ring.length → i % 2 = 0 → ¬ (Q (rgA N M j i) ∨ ∃ a, a % 2 = 1 ∧ a < (nd N j).ring.length ∧ rgA N M j i = rgA N M j a) := fun i hi hc hq => by
    rcases hq with hq | ⟨a, h1, h3, e⟩
    · exact hQ _ (rgA_mem h hs hj ha i) hq
    · have := rgA_inj h hs hj ha hi h3 e
      omega
  intro d
  induction d with
  | zero => intro i hd h1 _; omega
  | succ d ih =>
    intro i hd hi2 hi C
    obtain ⟨i', rfl⟩ : ∃ i', i = i' + 1 := ⟨i - 1, by omega⟩
    obtain ⟨g1, g2, g3, g4, g5⟩ := open_link h hs hj ha hjt i'
    by_cases h0 : i' = 0
    · subst h0
      exact C.more (lkA' N M j 0).flip m g2 (by show top (openN N j) (lkA' N M j 0).f = _; rw [g1, hm1]) (hfl _ (hT _ g5)) (by rw [hm1]; exact hm2) (by rw [hm1]; exact hQn 0 (by omega) rfl) ⟨g4, g3, hms.1, hms.2⟩ (fun q hq => by
        rcases hq with hq | ⟨a, _, _, rfl⟩
        · exact .inl hq
        · exact .inr (rgA_mem h hs hj ha a)) (.inl hmQ)
    · obtain ⟨i'', rfl⟩ : ∃ i'', i' = i'' + 1 := ⟨i' - 1, by omega⟩
      obtain ⟨k1, k2, k3, k4, k5⟩ := open_link h hs hj ha hjt i''
      obtain ⟨_, m2⟩ := inner_mate I1 h hs hj ha hjt (i := i'') (by omega) (by omega)
      have e1 : top (openN N j) (lkA' N M j i'').flip.f = rgA N M j (i'' + 1) := k2
      have C2 := C.more (Q' := fun q => Q q ∨ ∃ a, a % 2 = 1 ∧ a < (nd N j).ring.length ∧ q = rgA N M j a) (lkA' N M j (i'' + 1)).flip (lkA' N M j i'').flip g2 (by show top (openN N j) (lkA' N M j (i'' + 1)).f = top (openN N j) (lkA' N M j i'').t; rw [g1, k2]) (hfl _ (hT _ g5)) (by show mateOf _ _ (top (openN N j) (lkA' N M j i'').t) = _; rw [k2]; exact m2) (by rw [e1]; exact hQn (i'' + 1) (by omega) (by omega)) ⟨g4, g3, k4, k3⟩ (fun q hq => hq) (.inr ⟨i'', by omega, by omega, k1⟩)
      have e : top (openN N j) (lkA' N M j i'').flip.t = rgA N M j i'' := k1
      rw [e] at C2
      exact ih i'' (by omega) (by omega) (by omega) C2
theorem cert_open (I1 : Inv s (openN N j) (openM N M j)) (h : Inv s N M) (F : For s N M t rk) (hA : AT T t) (hs : s ≤ j) (hj : j < N.length) (ha : (nd N j).gone = false) (hjt : upA N j < 0) (lj : lab t j = 2) (hT : ∀ x ∈ (nd N j).links, T x) (hfl : ∀ x, T x → T x.flip) (r : Nat) :
    ∀ x, lab t x = 1 → CertQ T s (openN N j) (openM N M j) r (fun q => lab t q = 1 ∨ (q ∈ (nd N j).ring ∧ rk j < rk x)) x := by
  have R := h.rings j hs hj ha
  have hge := h.ge
  have hnt : ∀ q ∈ (nd N j).ring, lab t q = 0 := fun q hq => by
    rcases Nat.eq_zero_or_pos (lab t q) with h0 | h0
    · exact h0
    · have h1 := (F.tp q (by omega)).2.2
      have h2 := (R.mem q hq).2
      omega
  have key : ∀ d x, rk x ≤ d → lab t x = 1 → CertQ T s (openN N j) (openM N M j) r (fun q => lab t q = 1 ∨ (q ∈ (nd N j).ring ∧ rk j < rk x)) x := by
    intro d
    induction d using Nat.strongRecOn with
    | _ d ih =>
      intro x hd hx
      have htx := F.tp x (by omega)
      have hxj : x ≠ j := fun e => by rw [e, lj] at hx; cases hx
      by_cases hr : rt t x = x
      · obtain ⟨v, hv, hw⟩ := has_vertex h x x (Nat.le_refl _) htx.1 htx.2.1
        have hv' : top N v = x := win_is_top h.ups (by omega) htx.2.2 hw
        have hv2 : top (openN N j) v = x := by rw [open_out h hs hj ha hjt hv (by rw [hv']; exact hxj), hv']
        exact ⟨v, 0, fun _ => ⟨0, 0⟩, fun _ => ⟨0, 0⟩, ⟨open_free h hs hj ha hjt hv (by rw [hv']; exact hxj) (by rw [hv']; exact F.rot x hx hr), hv, fun i hi => by omega, fun i hi => by omega, fun i j _ hj => by omega, fun i hi => by omega⟩, hv2, fun i hi => by omega⟩
      · obtain ⟨g1, g2, g3, g4, g5, g6, g7⟩ := F.evn x hx hr
        obtain ⟨⟨q1, q2, q3, q4, q5, q6, q7⟩, _⟩ := F.odd _ g1
        have C := ih (rk (par N t (par N t x))) (by omega) _ (Nat.le_refl _) q1
        have hpp : par N t (par N t x) ≠ j := fun e => by rw [e, lj] at q1; cases q1
        have t1 : top (openN N j) (ahd t (par N t x)).f = par N t (par N t x) := open_out h hs hj ha hjt q6 hpp
        have t4 : top (openN N j) (ahd t x).t = x := by rw [open_out h hs hj ha hjt g7 (by rw [g5]; exact hxj), g5]
        by_cases hq : par N t x = j
        · -- through the ring
          rw [hq] at C t1 g3 g4 q3 q4 q5 q6 q7
          have hb : baseOf N M j = (ahd t x).f := by unfold baseOf; rw [g4]
          have hbw : win N (baseOf N M j) j = true := by
            rw [hb]
            have := win_top h.ups (ahd t x).f (by omega)
            rwa [show top N (ahd t x).f = j from hq] at this
          obtain ⟨hat, hb0⟩ := base_at h hs hj ha hjt hbw (by rw [hb]; exact g6)
          rw [hb] at hb0
          have hmm : ahd t x ∈ openM N M j ∨ (ahd t x).flip ∈ openM N M j := (mate_some g4).2.imp (fun h => List.mem_append.2 (.inl h)) (fun h => List.mem_append.2 (.inl h))
          have hm2 := mate_of I1.mat hmm
          rw [hb0] at hm2
          have C0 : CertQ T s (openN N j) (openM N M j) r (fun q => lab t q = 1) (par N t j) := C.imp (fun q hq => by
            rcases hq with hq | ⟨_, hq⟩
            · exact hq
            · omega)
          have hTj := hA j (by omega) q3
          have hent := (open_top h.ups h.inr hj hjt R.mem (ahd t j).t (by omega)).1 q5 (by omega)
          obtain ⟨e, he, hre⟩ := rgA_all h hs hj ha hat hent.1
          have hQ : ∀ q ∈ (nd N j).ring, ¬ (lab t q = 1) := fun q hq h1 => by have := hnt q hq; omega
          have hmQ : lab t (top (openN N j) (ahd t x).t) = 1 := by rw [t4]; exact hx
          have hfin : CertQ T s (openN N j) (openM N M j) r (fun q => lab t q = 1 ∨ q ∈ (nd N j).ring) (top (openN N j) (ahd t x).t) := by
            by_cases h0 : e = 0
            · subst h0
              exact C0.more (ahd t j) (ahd t x) t1 (by rw [← hre, hb0]) hTj (by rw [hb0]; exact hm2) (by rw [hb0]; exact hQ _ (rgA_mem h hs hj ha 0)) ⟨q6, q7, g6, g7⟩ (fun q hq => .inl hq) (.inl hmQ)
            · by_cases h1 : e % 2 = 1
              · have hlt : e + 1 < (nd N j).ring.length := by have := R.odd; omega
                obtain ⟨k1, k2, k3, k4, k5⟩ := open_link h hs hj ha hjt e
                obtain ⟨m1, _⟩ := inner_mate I1 h hs hj ha hjt (i := e) h1 he
                have C2 := C0.more (Q' := fun q => lab t q = 1 ∨ ∃ a, a % 2 = 0 ∧ 2 ≤ a ∧ a < (nd N j).ring.length ∧ q = rgA N M j a) (ahd t j) (lkA' N M j e) t1 (by rw [← hre, k1]) hTj (by rw [k1]; exact m1) (by rw [k1]; exact hQ _ (rgA_mem h hs hj ha e)) ⟨q6, q7, k3, k4⟩ (fun q hq => .inl hq) (.inr ⟨e + 1, by omega, by omega, hlt, k2⟩)
                rw [k2] at C2
                exact ring_up I1 h hs hj ha hjt hT hQ hb0 hm2 ⟨g6, g7⟩ hmQ _ (e + 1) (Nat.le_refl _) (by omega) (by omega) hlt C2
              · obtain ⟨e', rfl⟩ : ∃ e', e = e' + 1 := ⟨e - 1, by omega⟩
                obtain ⟨k1, k2, k3, k4, k5⟩ := open_link h hs hj ha hjt e'
                obtain ⟨_, m2⟩ := inner_mate I1 h hs hj ha hjt (i := e') (by omega) (by omega)
                have C2 := C0.more (Q' := fun q => lab t q = 1 ∨ ∃ a, a % 2 = 1 ∧ a < (nd N j).ring.length ∧ q = rgA N M j a) (ahd t j) (lkA' N M j e').flip t1 (by show _ = top (openN N j) (lkA' N M j e').t; rw [← hre, k2]) hTj (by show mateOf _ _ (top (openN N j) (lkA' N M j e').t) = _; rw [k2]; exact m2) (by show ¬ (lab t (top (openN N j) (lkA' N M j e').t) = 1); rw [k2]; exact hQ _ (rgA_mem h hs hj ha _)) ⟨q6, q7, k4, k3⟩ (fun q hq => .inl hq) (.inr ⟨e', by omega, by omega, k1⟩)
                have ee : top (openN N j) (lkA' N M j e').flip.t = rgA N M j e' := k1
                rw [ee] at C2
                exact ring_down I1 h hs hj ha hjt hT hfl hQ hb0 hm2 ⟨g6, g7⟩ hmQ _ e' (Nat.le_refl _) (by omega) (by omega) C2
          rw [t4] at hfin
          exact hfin.imp (fun q hq => by
            rcases hq with hq | hq
            · exact .inl hq
            · exact .inr ⟨hq, g3⟩)
        · have t2 : top (openN N j) (ahd t (par N t x)).t = par N t x := by rw [open_out h hs hj ha hjt q7 (by rw [q5]; exact hq), q5]
          have t3 : top (openN N j) (ahd t x).f = par N t x := open_out h hs hj ha hjt g6 hq
          have hnr : par N t x ∉ (nd N j).ring := fun hm => by have := hnt _ hm; omega
          have C2 := C.more (Q' := fun q => lab t q = 1 ∨ (q ∈ (nd N j).ring ∧ rk j < rk x)) (ahd t (par N t x)) (ahd t x) t1 (by rw [t2, t3]) (hA _ (by omega) q3) (by rw [t3]; exact open_mate I1 h hs hj ha hjt g4 hq) (by
            rw [t3]
            rintro (h1 | ⟨h1, _⟩)
            · omega
            · exact hnr h1) ⟨q6, q7, g6, g7⟩ (fun q hq => by
            rcases hq with hq | ⟨h1, h2⟩
            · exact .inl hq
            · exact .inr ⟨h1, by omega⟩) (by rw [t4]; exact .inl hx)
          rw [t4] at C2
          exact C2
  exact fun x hx => key _ x (Nat.le_refl _) hx
end
end Sv
end Go.Proofs.Ytkjclkelnheheaa
namespace Go.Proofs.Ytkjclkelnheheaa
namespace Sv
open Go.RowKit Gr
theorem wr_in {x : Int} (h1 : -9223372036854775808 ≤ x) (h2 : x ≤ 9223372036854775807) : wrap64 x = x := by
  rw [wrap_mod]; omega
def zs (N : List Nd) (A B : Nat) : List Nat → Int
  | [] => 0
  | i :: r => (if (!(nd N i).gone && win N A i && win N B i) = true then (nd N i).z else 0) + zs N A B r
def ringsR (s : Nat) (N : List Nd) : List Nat := List.range' s (N.length - s)
def sl (s : Nat) (y : List Int) (N : List Nd) (e : EdgeI) : Int := y.getD e.A.toNat 0 + y.getD e.B.toNat 0 - 2 * scal e + zs N e.A.toNat e.B.toNat (ringsR s N)
theorem slackF_is {N : List Nd} {A B : Nat} : ∀ (L : List Nat) (acc : Int), (∀ i ∈ L, (nd N i).gone = false → 0 ≤ (nd N i).z ∧ (nd N i).z ≤ 20000000) → -1000000000000000 ≤ acc → acc + 20000000 * (L.length : Int) ≤ 1000000000000000 →
    slackF N A B L acc = acc + zs N A B L ∧ 0 ≤ zs N A B L ∧ zs N A B L ≤ 20000000 * (L.length : Int)
  | [], acc, _, _, _ => by simp [slackF, zs]
  | i :: r, acc, h, h1, h2 => by
    rw [List.length_cons] at h2
    rw [slackF, zs]
    by_cases hc : (!(nd N i).gone && win N A i && win N B i) = true
    · rw [if_pos hc, if_pos hc]
      have hg : (nd N i).gone = false := by simp only [Bool.and_eq_true, Bool.not_eq_true'] at hc; exact hc.1.1
      obtain ⟨z1, z2⟩ := h i List.mem_cons_self hg
      rw [wr_in (by omega) (by omega)]
      obtain ⟨a1, a2, a3⟩ := slackF_is r (acc + (nd N i).z) (fun k hk => h k (List.mem_cons_of_mem _ hk)) (by omega) (by omega)
      rw [a1, List.length_cons]
      refine ⟨by omega, by omega, by omega⟩
    · rw [if_neg hc, if_neg hc]
      obtain ⟨a1, a2, a3⟩ := slackF_is r acc (fun k hk => h k (List.mem_cons_of_mem _ hk)) h1 (by omega)
      rw [a1, List.length_cons]
      refine ⟨by omega, by omega, by omega⟩
/-- What the numbers are within. -/
structure Nums (s : Nat) (Q : List EdgeI) (y : List Int) (N : List Nd) : Prop where
  yb : ∀ v, v < s → 0 ≤ y.getD v 0 ∧ y.getD v 0 ≤ 20000000
  zb : ∀ k, s ≤ k → k < N.length → (nd N k).gone = false → 0 ≤ (nd N k).z ∧ (nd N k).z ≤ 20000000
  qb : ∀ e ∈ Q, (e.A.toNat < s ∧ e.B.toNat < s ∧ e.A.toNat ≠ e.B.toNat) ∧ 0 ≤ scal e ∧ scal e ≤ 5000000 ∧ 0 ≤ e.A ∧ 0 ≤ e.B
  nb : N.length ≤ 30000
theorem slack_is {s : Nat} {Q : List EdgeI} {y : List Int} {N : List Nd} (h : Nums s Q y N) {e : EdgeI} (he : e ∈ Q) : slack s y N e = sl s y N e := by
  obtain ⟨⟨hA, hB, _⟩, s0, s1, _⟩ := h.qb e he
  obtain ⟨a0, a1⟩ := h.yb _ hA
  obtain ⟨b0, b1⟩ := h.yb _ hB
  have hl : ((List.range' s (N.length - s)).length : Int) ≤ 30000 := by rw [List.length_range']; have := h.nb; omega
  have h0 : slack0 y e = y.getD e.A.toNat 0 + y.getD e.B.toNat 0 - 2 * scal e := by
    unfold slack0
    rw [wr_in (x := y.getD e.A.toNat 0 + y.getD e.B.toNat 0) (by omega) (by omega), wr_in (x := 2 * scal e) (by omega) (by omega), wr_in (by omega) (by omega)]
  unfold slack sl ringsR
  rw [h0]
  exact (slackF_is _ _ (fun i hi => h.zb i (by rw [List.mem_range'_1] at hi; omega) (by rw [List.mem_range'_1] at hi; omega)) (by omega) (by omega)).1
theorem zs_congr {N N' : List Nd} {A B : Nat} : ∀ (L : List Nat), (∀ i ∈ L, (if (!(nd N' i).gone && win N' A i && win N' B i) = true then (nd N' i).z else 0) = (if (!(nd N i).gone && win N A i && win N B i) = true then (nd N i).z else 0)) → zs N' A B L = zs N A B L
  | [], _ => rfl
  | i :: r, h => by rw [zs, zs, h i List.mem_cons_self, zs_congr r (fun k hk => h k (List.mem_cons_of_mem _ hk))]
theorem zs_append {N : List Nd} {A B : Nat} : ∀ (L K : List Nat), zs N A B (L ++ K) = zs N A B L + zs N A B K
  | [], K => by rw [zs, List.nil_append]; omega
  | i :: r, K => by rw [List.cons_append, zs, zs, zs_append r K]; omega
section
variable {s : Nat} {N : List Nd} {M : List Lk} {t : Tp} {rk : Nat → Nat} {L : List Nat} {b j : Nat} {x : Nd} {y : List Int}
theorem sl_shrink (I : Inv s N M) (R : RingS N M t rk L b) (hx : x.up = -1) (hz : x.z = 0) (e : EdgeI) (hA : e.A.toNat < s) (hB : e.B.toNat < s) : sl s y (shrinkN N L x) e = sl s y N e := by
  have hge := I.ge
  have hL' : ∀ v ∈ L, v < N.length := fun v hv => (R.tops' v hv).1
  unfold sl
  congr 1
  unfold ringsR
  rw [shrink_length, show N.length + 1 - s = (N.length - s) + 1 by omega, List.range'_concat, zs_append]
  have h1 : zs (shrinkN N L x) e.A.toNat e.B.toNat [s + 1 * (N.length - s)] = 0 := by
    rw [zs, zs, show s + 1 * (N.length - s) = N.length by omega]
    rw [shrink_nd hL', if_pos rfl, hz]
    split <;> rfl
  rw [h1, Int.add_zero]
  refine zs_congr _ (fun i hi => ?_)
  rw [List.mem_range'_1] at hi
  have hw : ∀ v, v < s → win (shrinkN N L x) v i = win N v i := fun v hv => shrink_win_eq I.ups R.tops' hx (by omega) v (by omega)
  have hn : (nd (shrinkN N L x) i).gone = (nd N i).gone ∧ (nd (shrinkN N L x) i).z = (nd N i).z := by
    rw [shrink_nd hL', if_neg (by omega)]
    split <;> exact ⟨rfl, rfl⟩
  rw [hw _ hA, hw _ hB, hn.1, hn.2]
theorem sl_open (I : Inv s N M) (hs : s ≤ j) (hj : j < N.length) (ha : (nd N j).gone = false) (hjt : upA N j < 0) (hz : (nd N j).z = 0) (e : EdgeI) (hA : e.A.toNat < s) (hB : e.B.toNat < s) : sl s y (openN N j) e = sl s y N e := by
  have hge := I.ge
  have R := I.rings j hs hj ha
  have hL' : ∀ v ∈ (nd N j).ring, v < j := fun v hv => (R.mem v hv).1
  unfold sl
  congr 1
  unfold ringsR
  rw [open_length]
  refine zs_congr _ (fun i hi => ?_)
  rw [List.mem_range'_1] at hi
  by_cases hij : i = j
  · subst hij
    rw [open_nd hj hL', if_pos rfl, hz]
    split <;> split <;> rfl
  · have hw : ∀ v, v < s → win (openN N j) v i = win N v i := fun v hv => open_win_eq I.ups hj hjt R.mem hij v (by omega)
    have hn : (nd (openN N j) i).gone = (nd N i).gone ∧ (nd (openN N j) i).z = (nd N i).z := by
      rw [open_nd hj hL', if_neg hij]
      split <;> exact ⟨rfl, rfl⟩
    rw [hw _ hA, hw _ hB, hn.1, hn.2]
end
def ep (t : Tp) (d : Int) (p : Nat) : Int := if lab t p = 1 then -d else if lab t p = 2 then d else 0
theorem getD_setI (l : List Int) (i k : Nat) (x : Int) (hi : i < l.length) : (l.set i x).getD k 0 = if k = i then x else l.getD k 0 := by
  by_cases h : k = i
  · subst h; simp [hi]
  · rw [if_neg h]; simp [Ne.symm h]
theorem adjY1_get (N : List Nd) (t : Tp) (d : Int) (v : Nat) (y : List Int) (hv : v < y.length) (hb : -1000000000 ≤ y.getD v 0 ∧ y.getD v 0 ≤ 1000000000) (hd : 0 ≤ d ∧ d ≤ 1000000000) (w : Nat) : (adjY1 N t d v y).getD w 0 = y.getD w 0 + (if w = v then ep t d (top N v) else 0) := by
  unfold adjY1 ep
  by_cases h1 : lab t (top N v) = 1
  · rw [if_pos (by simp [h1]), if_pos h1, getD_setI _ _ _ _ hv, wr_in (by omega) (by omega)]
    by_cases e : w = v
    · rw [if_pos e, if_pos e, e]; omega
    · rw [if_neg e, if_neg e]; omega
  · rw [if_neg (by simp [h1]), if_neg h1]
    by_cases h2 : lab t (top N v) = 2
    · rw [if_pos (by simp [h2]), if_pos h2, getD_setI _ _ _ _ hv, wr_in (by omega) (by omega)]
      by_cases e : w = v
      · rw [if_pos e, if_pos e, e]
      · rw [if_neg e, if_neg e]; omega
    · rw [if_neg (by simp [h2]), if_neg h2]
      split <;> omega
theorem adjY_get (N : List Nd) (t : Tp) (d : Int) (hd : 0 ≤ d ∧ d ≤ 1000000000) : ∀ (L : List Nat) (y : List Int), L.Nodup → (∀ v ∈ L, v < y.length ∧ -1000000000 ≤ y.getD v 0 ∧ y.getD v 0 ≤ 1000000000) → ∀ w, (adjY N t d L y).getD w 0 = y.getD w 0 + (if w ∈ L then ep t d (top N w) else 0)
  | [], y, _, _, w => by simp [adjY]
  | v :: r, y, hn, hb, w => by
    rw [List.nodup_cons] at hn
    have hv := hb v List.mem_cons_self
    show (adjY N t d r (adjY1 N t d v y)).getD w 0 = _
    have h1 := adjY1_get N t d v y hv.1 hv.2 hd
    rw [adjY_get N t d hd r _ hn.2 (fun u hu => by
      have h2 := hb u (List.mem_cons_of_mem _ hu)
      have h3 : u ≠ v := fun e => hn.1 (by rw [← e]; exact hu)
      rw [adjY1_length, h1, if_neg h3, Int.add_zero]
      exact h2) w, h1]
    by_cases e : w = v
    · subst e
      rw [if_pos rfl, if_neg hn.1, if_pos List.mem_cons_self]; omega
    · rw [if_neg e]
      by_cases hr : w ∈ r
      · rw [if_pos hr, if_pos (List.mem_cons_of_mem _ hr)]; omega
      · rw [if_neg hr, if_neg (by rw [List.mem_cons, not_or]; exact ⟨e, hr⟩)]; omega
theorem setZ_z (N : List Nd) (j : Nat) (u : Int) (hj : j < N.length) (k : Nat) : (nd (setZ N j u) k).z = if k = j then u else (nd N k).z := by
  unfold setZ
  rw [nd_set hj]
  split <;> rfl
theorem adjZ1_z (t : Tp) (d : Int) (i : Nat) (N : List Nd) (hi : i < N.length) (hb : (nd N i).gone = false → -1000000000 ≤ (nd N i).z ∧ (nd N i).z ≤ 1000000000) (hd : 0 ≤ d ∧ d ≤ 1000000000) (k : Nat) : (nd (adjZ1 t d i N) k).z = (nd N k).z + (if k = i ∧ isTopB N i = true then -2 * ep t d i else 0) := by
  unfold adjZ1 ep
  by_cases ht : isTopB N i = true
  · have hg := hb (isTopB_iff.1 ht).1
    have ht' : (!(nd N i).gone && decide (upA N i < 0)) = true := ht
    rw [if_pos ht', wr_in (x := 2 * d) (by omega) (by omega)]
    by_cases h1 : lab t i = 1
    · rw [if_pos (by simp [h1]), if_pos h1, setZ_z _ _ _ hi, wr_in (by omega) (by omega)]
      by_cases e : k = i
      · rw [if_pos e, if_pos ⟨e, ht⟩, e]; omega
      · rw [if_neg e, if_neg (fun h => e h.1)]; omega
    · rw [if_neg (by simp [h1]), if_neg h1]
      by_cases h2 : lab t i = 2
      · rw [if_pos (by simp [h2]), if_pos h2, setZ_z _ _ _ hi, wr_in (by omega) (by omega)]
        by_cases e : k = i
        · rw [if_pos e, if_pos ⟨e, ht⟩, e]; omega
        · rw [if_neg e, if_neg (fun h => e h.1)]; omega
      · rw [if_neg (by simp [h2]), if_neg h2]
        split <;> omega
  · have ht' : ¬ (!(nd N i).gone && decide (upA N i < 0)) = true := ht
    rw [if_neg ht', if_neg (fun h => ht h.2), Int.add_zero]
theorem isTopB_alike {N N' : List Nd} (h : Alike N N') (k : Nat) : isTopB N' k = isTopB N k := by
  unfold isTopB
  rw [(h.2 k).2.2.2.2, h.up]
theorem adjZ_z (t : Tp) (d : Int) (hd : 0 ≤ d ∧ d ≤ 1000000000) : ∀ (L : List Nat) (N : List Nd), L.Nodup → (∀ i ∈ L, i < N.length ∧ ((nd N i).gone = false → -1000000000 ≤ (nd N i).z ∧ (nd N i).z ≤ 1000000000)) → ∀ k, (nd (adjZ t d L N) k).z = (nd N k).z + (if k ∈ L ∧ isTopB N k = true then -2 * ep t d k else 0)
  | [], N, _, _, k => by simp [adjZ]
  | i :: r, N, hn, hb, k => by
    rw [List.nodup_cons] at hn
    have hi := hb i List.mem_cons_self
    have ha := adjZ1_alike t d i N hi.1
    have h1 := adjZ1_z t d i N hi.1 hi.2 hd
    show (nd (adjZ t d r (adjZ1 t d i N)) k).z = _
    rw [adjZ_z t d hd r _ hn.2 (fun u hu => by
      have h2 := hb u (List.mem_cons_of_mem _ hu)
      have h3 : u ≠ i := fun e => hn.1 (by rw [← e]; exact hu)
      rw [ha.1, (ha.2 u).2.2.2.2, h1, if_neg (fun h => h3 h.1), Int.add_zero]
      exact h2) k, h1, isTopB_alike ha]
    by_cases e : k = i
    · subst e
      by_cases ht : isTopB N k = true
      · rw [if_pos ⟨rfl, ht⟩, if_neg (fun h => hn.1 h.1), if_pos ⟨List.mem_cons_self, ht⟩]; omega
      · rw [if_neg (fun h => ht h.2), if_neg (fun h => ht h.2), if_neg (fun h => ht h.2)]; omega
    · rw [if_neg (fun h => e h.1)]
      by_cases hr : k ∈ r ∧ isTopB N k = true
      · rw [if_pos hr, if_pos ⟨List.mem_cons_of_mem _ hr.1, hr.2⟩]; omega
      · rw [if_neg hr, if_neg (fun h => hr ⟨by
          rcases List.mem_cons.1 h.1 with h2 | h2
          · exact absurd h2 e
          · exact h2, h.2⟩)]; omega
section
variable {s : Nat} {N : List Nd} {M : List Lk} {t : Tp} {rk : Nat → Nat} {y : List Int} {Q : List EdgeI} {d : Int}
def yAd (s : Nat) (y : List Int) (N : List Nd) (t : Tp) (d : Int) : List Int := adjY N t d (List.range' 0 (s - 0)) y
def nAd (s : Nat) (N : List Nd) (t : Tp) (d : Int) : List Nd := adjZ t d (List.range' s (N.length - s)) N
theorem nAd_alike (hge : s ≤ N.length) : Alike N (nAd s N t d) := adjZ_alike _ _ _ _ (fun i hi => by rw [List.mem_range'_1] at hi; omega)
theorem yAd_get (h : Nums s Q y N) (hl : y.length = s) (hd : 0 ≤ d ∧ d ≤ 20000000) (v : Nat) (hv : v < s) : (yAd s y N t d).getD v 0 = y.getD v 0 + ep t d (top N v) := by
  unfold yAd
  rw [adjY_get N t d ⟨hd.1, by omega⟩ _ _ (List.nodup_range' ..) (fun u hu => by
    rw [List.mem_range'_1] at hu
    have := h.yb u (by omega)
    exact ⟨by omega, by omega, by omega⟩) v, if_pos (by rw [List.mem_range'_1]; omega)]
theorem nAd_z (h : Nums s Q y N) (hd : 0 ≤ d ∧ d ≤ 20000000) (k : Nat) (hk : s ≤ k) (hk2 : k < N.length) : (nd (nAd s N t d) k).z = (nd N k).z + (if isTopB N k = true then -2 * ep t d k else 0) := by
  unfold nAd
  rw [adjZ_z t d ⟨hd.1, by omega⟩ _ _ (List.nodup_range' ..) (fun u hu => by
    rw [List.mem_range'_1] at hu
    exact ⟨by omega, fun hg => by have := h.zb u (by omega) (by omega) hg; omega⟩) k]
  by_cases ht : isTopB N k = true
  · rw [if_pos ⟨by rw [List.mem_range'_1]; omega, ht⟩, if_pos ht]
  · rw [if_neg (fun h => ht h.2), if_neg ht]
theorem zs_adj (I : Inv s N M) (h : Nums s Q y N) (hd : 0 ≤ d ∧ d ≤ 20000000) {A B : Nat} (hA : A < s) (hB : B < s) : ∀ (L : List Nat), L.Nodup → (∀ i ∈ L, s ≤ i ∧ i < N.length) → zs (nAd s N t d) A B L = zs N A B L + (if top N A = top N B ∧ top N A ∈ L then -2 * ep t d (top N A) else 0)
  | [], _, _ => by simp [zs]
  | i :: r, hn, hL => by
    rw [List.nodup_cons] at hn
    have hge := I.ge
    have hi := hL i List.mem_cons_self
    have ha := nAd_alike (t := t) (d := d) hge
    have ih := zs_adj I h hd hA hB r hn.2 (fun k hk => hL k (List.mem_cons_of_mem _ hk))
    have hw : ∀ v, win (nAd s N t d) v i = win N v i := win_same ha.1 ha.up i
    have tA := top_is I hA
    have tB := top_is I hB
    have wA := win_top I.ups A (by omega)
    have wB := win_top I.ups B (by omega)
    rw [zs, zs, ih, hw, hw, (ha.2 i).2.2.2.2, nAd_z h hd i hi.1 hi.2]
    have hone : (if top N A = top N B ∧ top N A ∈ i :: r then -2 * ep t d (top N A) else 0) = (if top N A = top N B ∧ top N A = i then -2 * ep t d (top N A) else 0) + (if top N A = top N B ∧ top N A ∈ r then -2 * ep t d (top N A) else 0) := by
      by_cases e1 : top N A = top N B
      · by_cases e2 : top N A = i
        · have e3 : top N A ∉ r := by rw [e2]; exact hn.1
          rw [if_pos ⟨e1, by rw [e2]; exact List.mem_cons_self⟩, if_pos ⟨e1, e2⟩, if_neg (fun h => e3 h.2)]; omega
        · by_cases e3 : top N A ∈ r
          · rw [if_pos ⟨e1, List.mem_cons_of_mem _ e3⟩, if_neg (fun h => e2 h.2), if_pos ⟨e1, e3⟩]; omega
          · rw [if_neg (fun h => by
              rcases List.mem_cons.1 h.2 with h2 | h2
              · exact e2 h2
              · exact e3 h2), if_neg (fun h => e2 h.2), if_neg (fun h => e3 h.2)]; omega
      · rw [if_neg (fun h => e1 h.1), if_neg (fun h => e1 h.1), if_neg (fun h => e1 h.1)]; omega
    rw [hone]
    generalize (if top N A = top N B ∧ top N A ∈ r then -2 * ep t d (top N A) else 0) = Zr
    by_cases hc : (!(nd N i).gone && win N A i && win N B i) = true
    · rw [if_pos hc, if_pos hc]
      simp only [Bool.and_eq_true, Bool.not_eq_true'] at hc
      obtain ⟨⟨hg, w1⟩, w2⟩ := hc
      by_cases ht : isTopB N i = true
      · have hu := (isTopB_iff.1 ht).2
        have e1 := win_is_top I.ups (by omega) hu w1
        have e2 := win_is_top I.ups (by omega) hu w2
        rw [if_pos ht, if_pos ⟨by rw [e1, e2], e1⟩, e1]; omega
      · rw [if_neg ht, if_neg (fun h => ht (by rw [← h.2]; exact isTopB_iff.2 ⟨tA.2.1, tA.2.2⟩))]; omega
    · rw [if_neg hc, if_neg hc, if_neg (fun h => hc (by
        have e2 : top N B = i := by rw [← h.1]; exact h.2
        rw [h.2] at wA tA
        rw [e2] at wB
        simp [wA, wB, tA.2.1]))]; omega
theorem sl_adj (I : Inv s N M) (h : Nums s Q y N) (hl : y.length = s) (hd : 0 ≤ d ∧ d ≤ 20000000) {e : EdgeI} (he : e ∈ Q) : sl s (yAd s y N t d) (nAd s N t d) e = sl s y N e + (if top N e.A.toNat = top N e.B.toNat then 0 else ep t d (top N e.A.toNat) + ep t d (top N e.B.toNat)) := by
  obtain ⟨⟨hA, hB, hne⟩, _⟩ := h.qb e he
  have hge := I.ge
  have ha := nAd_alike (t := t) (d := d) hge
  have er : ringsR s (nAd s N t d) = ringsR s N := by unfold ringsR; rw [ha.1]
  have tA := (top_spec I.ups e.A.toNat (by omega)).1
  have hz := zs_adj (t := t) I h hd hA hB (ringsR s N) (List.nodup_range' ..) (fun i hi => by unfold ringsR at hi; rw [List.mem_range'_1] at hi; omega)
  unfold sl
  rw [er, hz, yAd_get h hl hd _ hA, yAd_get h hl hd _ hB]
  by_cases e1 : top N e.A.toNat = top N e.B.toNat
  · have hs : s ≤ top N e.A.toNat := by
      rcases Nat.lt_or_ge (top N e.A.toNat) s with h1 | h1
      · exfalso
        have a1 := win_vertex I (v := e.A.toNat) (by omega) h1 (win_top I.ups _ (by omega))
        have a2 := win_vertex I (v := e.B.toNat) (by omega) h1 (by rw [e1]; exact win_top I.ups _ (by omega))
        omega
      · exact h1
    rw [if_pos e1, if_pos ⟨e1, by unfold ringsR; rw [List.mem_range'_1]; omega⟩, ← e1]; omega
  · rw [if_neg e1, if_neg (fun h => e1 h.1)]; omega
end
end Sv
end Go.Proofs.Ytkjclkelnheheaa
