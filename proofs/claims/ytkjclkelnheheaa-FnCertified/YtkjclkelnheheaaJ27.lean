/-
 SvF1, SvF2, SvF3.
-/
import Derived.Test.YtkjclkelnheheaaJ25
import Derived.Test.YtkjclkelnheheaaJ24
import Derived.Test.YtkjclkelnheheaaJ17
import Derived.Test.YtkjclkelnheheaaJ23
namespace Go.Proofs.Ytkjclkelnheheaa
namespace Sv
open Go.RowKit Gr
structure OP (T : Lk → Prop) (Z : Nat → Prop) (s : Nat) (N : List Nd) (M : List Lk) : Prop where
  inv : Inv s N M
  lv : LV T s N M
  fre : ∀ p, isTop N p → mateOf N M p = none → Z (nd N p).base ∧ FC s N p
section
variable {s : Nat} {N : List Nd} {M : List Lk} {j : Nat} {T : Lk → Prop} {Z : Nat → Prop}
theorem OP.opened (O : OP T Z s N M) (hs : s ≤ j) (hj : j < N.length) (ha : (nd N j).gone = false) (hjt : upA N j < 0) : OP T Z s (openN N j) (openM N M j) := by
  have I := O.inv
  have hge := I.ge
  have R := I.rings j hs hj ha
  have I1 := open_inv I hs hj ha hjt
  have hL' : ∀ v ∈ (nd N j).ring, v < j := fun v hv => (R.mem v hv).1
  have hpos : 0 < (nd N j).ring.length := by have := R.odd; omega
  have hn : ∀ i, i ≠ j → (nd (openN N j) i).ring = (nd N i).ring ∧ (nd (openN N j) i).base = (nd N i).base ∧ (nd (openN N j) i).gone = (nd N i).gone ∧ (nd (openN N j) i).links = (nd N i).links := fun i hi => by
    rw [open_nd hj hL', if_neg hi]
    split <;> exact ⟨rfl, rfl, rfl, rfl⟩
  have hjg : (nd (openN N j) j).gone = true := by rw [open_nd hj hL', if_pos rfl]
  have hne : ∀ k, (nd (openN N j) k).gone = false → k ≠ j := fun k hk e => by rw [e, hjg] at hk; cases hk
  refine ⟨I1, ⟨fun k hk => ?_, fun q h1 h2 h3 k hk => ?_⟩, fun p tp fp => ?_⟩
  · unfold openM at hk
    rcases List.mem_append.1 hk with hk | hk
    · exact O.lv.mates k hk
    · unfold innerOf at hk
      obtain ⟨i, _, rfl⟩ := List.mem_map.1 hk
      have hl := R.len
      have hi : (atOf N M j + (2 * i + 1)) % (nd N j).ring.length < (nd N j).links.length := by rw [hl]; exact Nat.mod_lt _ hpos
      rw [getD_at _ _ _ hi]
      exact O.lv.links j hs hj ha _ (List.getElem_mem hi)
  · obtain ⟨_, _, n3, n5⟩ := hn q (hne q h3)
    rw [open_length] at h2
    exact O.lv.links q h1 h2 (by rw [← n3]; exact h3) k (by rw [← n5]; exact hk)
  · have hpj := hne p tp.2.1
    obtain ⟨_, n2, n3, _⟩ := hn p hpj
    have hpl : p < N.length := by have := tp.1; rwa [open_length] at this
    by_cases hpr : p ∈ (nd N j).ring
    · have fj : mateOf N M j = none := by
        cases hm : mateOf N M j with
        | none => rfl
        | some mm =>
          exfalso
          obtain ⟨h2, h3⟩ := mate_some hm
          have hb : baseOf N M j = mm.f := by unfold baseOf; rw [hm]
          have hbw : win N (baseOf N M j) j = true := by
            rw [hb]
            have := win_top I.ups mm.f (by have := (kept_low I h3).1; omega)
            rwa [h2] at this
          obtain ⟨hat, hb0⟩ := base_at I hs hj ha hjt hbw (by rw [hb]; exact (kept_low I h3).1)
          obtain ⟨e, he, hre⟩ := rgA_all I hs hj ha hat hpr
          have hmm : mm ∈ openM N M j ∨ mm.flip ∈ openM N M j := h3.imp (fun h => List.mem_append.2 (.inl h)) (fun h => List.mem_append.2 (.inl h))
          have hm2 := mate_of I1.mat hmm
          rw [← hb, hb0] at hm2
          by_cases h0 : e = 0
          · rw [← hre, h0, hm2] at fp; cases fp
          · by_cases h1 : e % 2 = 1
            · rw [← hre, (inner_mate I1 I hs hj ha hjt h1 he).1] at fp; cases fp
            · obtain ⟨e', rfl⟩ : ∃ e', e = e' + 1 := ⟨e - 1, by omega⟩
              rw [← hre, (inner_mate I1 I hs hj ha hjt (i := e') (by omega) (by omega)).2] at fp; cases fp
      obtain ⟨g1, g2⟩ := O.fre j ⟨hj, ha, hjt⟩ fj
      have hb : baseOf N M j = (nd N j).base := by unfold baseOf; rw [fj]
      obtain ⟨w1, w2⟩ := fc_win I g2
      obtain ⟨hat, hb0⟩ := base_at I hs hj ha hjt (by rw [hb]; exact w1) (by rw [hb]; exact w2)
      rw [hb] at hb0
      obtain ⟨e, he, hre⟩ := rgA_all I hs hj ha hat hpr
      have h0 : e = 0 := by
        apply Classical.byContradiction
        intro h0
        by_cases h1 : e % 2 = 1
        · rw [← hre, (inner_mate I1 I hs hj ha hjt h1 he).1] at fp; cases fp
        · obtain ⟨e', rfl⟩ : ∃ e', e = e' + 1 := ⟨e - 1, by omega⟩
          rw [← hre, (inner_mate I1 I hs hj ha hjt (i := e') (by omega) (by omega)).2] at fp; cases fp
      subst h0
      cases g2 with
      | vtx _ hp' _ => omega
      | rng _ q _ _ _ hq hqb hqw hqc =>
        have hqp : q = p := by rw [← hre, ← hb0]; exact (open_top_of I.ups hj hjt R.mem hq (by omega) hqw).symm
        subst hqp
        rw [n2, hqb]
        exact ⟨g1, fc_open I hs hj ha hjt hqc hpj⟩
    · have hup : upA N p < 0 := by
        have := tp.2.2
        rwa [open_up hj hL', if_neg hpr] at this
      have tN : isTop N p := ⟨hpl, by rw [← n3]; exact tp.2.1, hup⟩
      have fN : mateOf N M p = none := by
        cases hm : mateOf N M p with
        | none => rfl
        | some mm => rw [open_mate I1 I hs hj ha hjt hm hpj] at fp; cases fp
      obtain ⟨g1, g2⟩ := O.fre p tN fN
      rw [n2]
      exact ⟨g1, fc_open I hs hj ha hjt g2 hpj⟩
def hasV (s : Nat) (N : List Nd) (V : Nat → Bool) (q : Nat) : Bool := (List.range s).any fun v => V v && (top N v == q)
theorem hasV_iff {V : Nat → Bool} {q : Nat} : hasV s N V q = true ↔ ∃ v, v < s ∧ V v = true ∧ top N v = q := by
  unfold hasV
  rw [List.any_eq_true]
  constructor
  · rintro ⟨v, h1, h2⟩
    rw [Bool.and_eq_true, beq_iff_eq] at h2
    exact ⟨v, List.mem_range.1 h1, h2.1, h2.2⟩
  · rintro ⟨v, h1, h2, h3⟩
    exact ⟨v, List.mem_range.2 h1, by rw [h2, h3]; simp⟩
def tV (s : Nat) (N : List Nd) (V : Nat → Bool) : List Nat := (topsL N).filter (hasV s N V)
def cV (M : List Lk) (V : Nat → Bool) : Nat := (M.filter fun x => V x.f && V x.t).length
/-- Some vertices that are those of tops, paired among each other but for one top. -/
structure KV (s : Nat) (N : List Nd) (M : List Lk) (V : Nat → Bool) : Prop where
  un : ∀ v w, v < s → w < s → top N v = top N w → V v = V w
  cnt : (tV s N V).length ≤ 2 * cV M V + 1
theorem cV_append (M K : List Lk) (V : Nat → Bool) : cV (M ++ K) V = cV M V + cV K V := by
  unfold cV
  rw [List.filter_append, List.length_append]
theorem open_tops (I : Inv s N M) (hs : s ≤ j) (hj : j < N.length) (ha : (nd N j).gone = false) (hjt : upA N j < 0) {v : Nat} (hv : v < s) : (top N v = j ∧ top (openN N j) v ∈ (nd N j).ring) ∨ (top N v ≠ j ∧ top (openN N j) v = top N v) := by
  have hge := I.ge
  have R := I.rings j hs hj ha
  obtain ⟨h1, h2⟩ := open_top I.ups I.inr hj hjt R.mem v (by omega)
  by_cases h : top N v = j
  · exact .inl ⟨h, (h1 h (by omega)).1⟩
  · exact .inr ⟨h, h2 h⟩
theorem KV.opened {V : Nat → Bool} (K : KV s N M V) (I : Inv s N M) (hs : s ≤ j) (hj : j < N.length) (ha : (nd N j).gone = false) (hjt : upA N j < 0) : KV s (openN N j) (openM N M j) V := by
  have hge := I.ge
  have R := I.rings j hs hj ha
  have hot := fun {v} (hv : v < s) => open_tops I hs hj ha hjt hv
  have hmt : ∀ q ∈ (nd N j).ring, ∀ v, v < s → top N v ≠ q := fun q hq v hv e => by
    have h1 := (top_spec I.ups v (by omega)).2.1
    rw [e, (R.mem q hq).2] at h1
    omega
  refine ⟨fun v w hv hw e => K.un v w hv hw ?_, ?_⟩
  · rcases hot hv with ⟨a1, a2⟩ | ⟨a1, a2⟩
    · rcases hot hw with ⟨b1, b2⟩ | ⟨b1, b2⟩
      · rw [a1, b1]
      · exact absurd (by rw [e, b2]) (hmt _ a2 w hw)
    · rcases hot hw with ⟨b1, b2⟩ | ⟨b1, b2⟩
      · exact absurd (by rw [← e, a2]) (hmt _ b2 v hv)
      · rw [← a2, ← b2, e]
  · have hK := K.cnt
    have hodd := R.odd
    have hpos : 0 < (nd N j).ring.length := by omega
    unfold openM
    rw [cV_append]
    have hmem : ∀ q ∈ tV s (openN N j) V, (q ∈ (nd N j).ring ∧ ∃ v, v < s ∧ V v = true ∧ top N v = j) ∨ (q ∈ tV s N V ∧ q ≠ j) := fun q hq => by
      obtain ⟨h1, h2⟩ := List.mem_filter.1 hq
      obtain ⟨v, v1, v2, v3⟩ := hasV_iff.1 h2
      rcases hot v1 with ⟨a1, a2⟩ | ⟨a1, a2⟩
      · exact .inl ⟨by rw [← v3]; exact a2, v, v1, v2, a1⟩
      · refine .inr ⟨List.mem_filter.2 ⟨mem_topsL.2 ?_, hasV_iff.2 ⟨v, v1, v2, by rw [← v3, a2]⟩⟩, by rw [← v3, a2]; exact a1⟩
        rw [← v3, a2]
        exact top_is I v1
    have hnd : (tV s (openN N j) V).Nodup := (topsL_nodup _).filter _
    by_cases hc : ∃ v, v < s ∧ V v = true ∧ top N v = j
    · have hjm : j ∈ tV s N V := List.mem_filter.2 ⟨mem_topsL.2 ⟨hj, ha, hjt⟩, hasV_iff.2 hc⟩
      obtain ⟨v0, v1, v2, v3⟩ := hc
      have hl : cV (innerOf N M j) V = (nd N j).ring.length / 2 := by
        unfold cV
        rw [List.filter_eq_self.2 (fun x hx => ?_)]
        · unfold innerOf; rw [List.length_map, List.length_range]
        · unfold innerOf at hx
          obtain ⟨k, _, rfl⟩ := List.mem_map.1 hx
          generalize atOf N M j + (2 * k + 1) = a
          have h1 : a % (nd N j).ring.length < (nd N j).ring.length := Nat.mod_lt _ hpos
          have h2 : (a % (nd N j).ring.length + 1) % (nd N j).ring.length < (nd N j).ring.length := Nat.mod_lt _ hpos
          have hll : a % (nd N j).ring.length < (nd N j).links.length := by rw [R.len]; exact h1
          obtain ⟨w1, w2, f1, f2⟩ := R.lk _ hll h1 h2
          rw [getD_at _ _ _ hll]
          have key : ∀ u q, u < s → q ∈ (nd N j).ring → win N u q = true → V u = true := fun u q hu hq hw => by
            obtain ⟨q1, q2⟩ := R.mem q hq
            have hwj := win_trans I.ups (win_of_up I.ups (by omega) q2) u (by omega) hw
            rw [K.un u v0 hu v1 (by rw [v3]; exact win_is_top I.ups (by omega) hjt hwj)]
            exact v2
          rw [key _ _ f1 (List.getElem_mem _) w1, key _ _ f2 (List.getElem_mem _) w2]
          rfl
      have h := len_of_sub _ ((nd N j).ring ++ (tV s N V).erase j) hnd (fun q hq => by
        rcases hmem q hq with h | h
        · exact List.mem_append.2 (.inl h.1)
        · exact List.mem_append.2 (.inr ((List.mem_erase_of_ne h.2).2 h.1)))
      rw [List.length_append, List.length_erase_of_mem hjm] at h
      have hp := List.length_pos_of_mem hjm
      rw [hl]
      omega
    · have h := len_of_sub _ (tV s N V) hnd (fun q hq => by
        rcases hmem q hq with h | h
        · exact absurd h.2 hc
        · exact h.1)
      omega
theorem kv_top (I : Inv s N M) (hjt : isTop N j) {V : Nat → Bool} (hV : ∀ v, v < s → V v = win N v j) : KV s N M V := by
  have hge := I.ge
  have hv : ∀ v, v < s → (V v = true ↔ top N v = j) := fun v h => by rw [hV v h]; exact win_iff_top I.ups (by omega) hjt.2.2
  refine ⟨fun v w h1 h2 e => ?_, ?_⟩
  · rw [Bool.eq_iff_iff, hv v h1, hv w h2, e]
  · have h := len_of_sub (tV s N V) [j] ((topsL_nodup _).filter _) (fun q hq => by
      obtain ⟨v, v1, v2, v3⟩ := hasV_iff.1 (List.mem_filter.1 hq).2
      rw [← v3, (hv v v1).1 v2]
      exact List.mem_singleton.2 rfl)
    rw [List.length_singleton] at h
    omega
def JV (s : Nat) (i : Nat) (V : Nat → Bool) (N : List Nd) (M : List Lk) : Prop := ((nd N i).gone = false ∧ ∀ v, v < s → V v = win N v i) ∨ KV s N M V
theorem JV.opened {i : Nat} {V : Nat → Bool} (J : JV s i V N M) (I : Inv s N M) (hs : s ≤ j) (hj : j < N.length) (ha : (nd N j).gone = false) (hjt : upA N j < 0) : JV s i V (openN N j) (openM N M j) := by
  have hge := I.ge
  have R := I.rings j hs hj ha
  have hL' : ∀ v ∈ (nd N j).ring, v < j := fun v hv => (R.mem v hv).1
  rcases J with ⟨h1, h2⟩ | h
  · by_cases e : i = j
    · subst e
      exact .inr ((kv_top I ⟨hj, ha, hjt⟩ h2).opened I hs hj ha hjt)
    · refine .inl ⟨?_, fun v hv => by rw [h2 v hv, open_win_eq I.ups hj hjt R.mem e v (by omega)]⟩
      rw [open_nd hj hL', if_neg e]
      split <;> exact h1
  · exact .inr (h.opened I hs hj ha hjt)
theorem openRow_keep {n : Nat} {P : List Nd → List Lk → Prop} (hI : ∀ N M, P N M → Inv s N M) (hP : ∀ N M j, P N M → s ≤ j → j < N.length → (nd N j).gone = false → upA N j < 0 → P (openN N j) (openM N M j)) : ∀ (L : List Nat) (x : List Nd × List Lk), P x.1 x.2 → x.1.length = n → (∀ i ∈ L, s ≤ i ∧ i < n) →
    P (openRow L x).1 (openRow L x).2 ∧ (openRow L x).1.length = n ∧ (∀ i, (nd x.1 i).gone = true → (nd (openRow L x).1 i).gone = true) ∧ ∀ i ∈ L, isTopB x.1 i = true → (nd (openRow L x).1 i).gone = true
  | [], x, h, e, _ => ⟨h, e, fun _ h => h, fun i hi => by cases hi⟩
  | i :: r, x, h, e, hL => by
    obtain ⟨h1, h2⟩ := hL i List.mem_cons_self
    have hr : ∀ k ∈ r, s ≤ k ∧ k < n := fun k hk => hL k (List.mem_cons_of_mem _ hk)
    rw [openRow]
    by_cases ht : isTopB x.1 i = true
    · rw [if_pos ht]
      obtain ⟨t1, t2⟩ := isTopB_iff.1 ht
      have R := (hI _ _ h).rings i h1 (by omega) t1
      have hL' : ∀ v ∈ (nd x.1 i).ring, v < i := fun v hv => (R.mem v hv).1
      have hn : ∀ k, (nd (openN x.1 i) k).gone = if k = i then true else (nd x.1 k).gone := fun k => by
        rw [open_nd (by omega) hL']
        split
        · rfl
        · split <;> rfl
      obtain ⟨a1, a2, a3, a4⟩ := openRow_keep hI hP r (openN x.1 i, openM x.1 x.2 i) (hP _ _ i h h1 (by omega) t1 t2) (by rw [open_length]; exact e) hr
      have hi : (nd (openRow r (openN x.1 i, openM x.1 x.2 i)).1 i).gone = true := a3 i (by rw [hn, if_pos rfl])
      refine ⟨a1, a2, fun k hk => a3 k (by rw [hn]; split <;> first | rfl | exact hk), fun k hk hkt => ?_⟩
      by_cases e2 : k = i
      · rw [e2]; exact hi
      · rcases List.mem_cons.1 hk with h | hk
        · exact absurd h e2
        · refine a4 k hk ?_
          obtain ⟨k1, k2⟩ := isTopB_iff.1 hkt
          refine isTopB_iff.2 ⟨by rw [hn, if_neg e2]; exact k1, ?_⟩
          rw [open_up (by omega) hL']
          split
          · decide
          · exact k2
    · rw [if_neg ht]
      obtain ⟨a1, a2, a3, a4⟩ := openRow_keep hI hP r x h e hr
      refine ⟨a1, a2, a3, fun k hk hkt => ?_⟩
      rcases List.mem_cons.1 hk with h | hk
      · rw [h] at hkt; exact absurd hkt ht
      · exact a4 k hk hkt
theorem openK_keep {n : Nat} {P : List Nd → List Lk → Prop} (hI : ∀ N M, P N M → Inv s N M) (hP : ∀ N M j, P N M → s ≤ j → j < N.length → (nd N j).gone = false → upA N j < 0 → P (openN N j) (openM N M j)) : ∀ (k a : Nat) (x : List Nd × List Lk), P x.1 x.2 → x.1.length = n → (∀ i, s ≤ i → i < n → n ≤ i + a → (nd x.1 i).gone = true) →
    P (openK s n k x).1 (openK s n k x).2 ∧ (openK s n k x).1.length = n ∧ ∀ i, s ≤ i → i < n → n ≤ i + (a + k) → (nd (openK s n k x).1 i).gone = true
  | 0, a, x, h, e, hg => ⟨h, e, hg⟩
  | k + 1, a, x, h, e, hg => by
    rw [openK]
    have I := hI _ _ h
    obtain ⟨a1, a2, a3, a4⟩ := openRow_keep hI hP (List.range' s (n - s)) x h e (fun i hi => by rw [List.mem_range'_1] at hi; omega)
    have hgg : ∀ i, s ≤ i → i < n → n ≤ i + (a + 1) → (nd (openRow (List.range' s (n - s)) x).1 i).gone = true := fun i h1 h2 h3 => by
      by_cases h4 : n ≤ i + a
      · exact a3 i (hg i h1 h2 h4)
      · cases hgo : (nd x.1 i).gone with
        | true => exact a3 i hgo
        | false =>
          refine a4 i (by rw [List.mem_range'_1]; omega) (isTopB_iff.2 ⟨hgo, ?_⟩)
          rcases I.ups i (by omega) with h5 | ⟨h5, h6⟩
          · omega
          · exfalso
            obtain ⟨g1, g2⟩ := I.ali i (by omega) (by omega)
            rw [hg (upA x.1 i).toNat g2 (by omega) (by omega)] at g1
            cases g1
    obtain ⟨b1, b2, b3⟩ := openK_keep hI hP k (a + 1) _ a1 a2 hgg
    exact ⟨b1, b2, fun i h1 h2 h3 => b3 i h1 h2 (by omega)⟩
end
def endS (n : Nat) (Q : List EdgeI) : List Nd × List Lk := openK n (solved n Q).2.2.1.length (solved n Q).2.2.1.length ((solved n Q).2.2.1, (solved n Q).2.2.2.1)
def liveR (n : Nat) (N : List Nd) (i : Nat) : Prop := n ≤ i ∧ i < N.length ∧ (nd N i).gone = false
def vl (n : Nat) (N : List Nd) (i : Nat) : List Nat := (List.range n).filter fun v => win N v i
theorem mem_vl {n : Nat} {N : List Nd} {i v : Nat} : v ∈ vl n N i ↔ v < n ∧ win N v i = true := by
  unfold vl
  rw [List.mem_filter, List.mem_range]
structure Ended (n : Nat) (Q : List EdgeI) (y : List Int) (N : List Nd) (K : List Lk) : Prop where
  nodup : (ends K).Nodup
  low : ∀ v ∈ ends K, v < n
  tight : ∀ c ∈ K, Tight n Q y N c
  alone : ∀ v, v < n → v ∉ ends K → y.getD v 0 = 0
  full : ∀ i, liveR n N i → (vl n N i).length ≤ 2 * cV K (fun v => win N v i) + 1
theorem solve_ended {n : Nat} {Q : List EdgeI} (hok : graphOk (n : Int) Q = true) (h1 : 1 ≤ n) : Ended n Q (solved n Q).2.1 (solved n Q).2.2.1 (endS n Q).2 := by
  obtain ⟨_, I, D, V, hfr⟩ := solved_fin hok h1
  unfold endS
  generalize (solved n Q).2 = x at *
  obtain ⟨y, N, M, dn⟩ := x
  simp only at I V hfr ⊢
  have hfre : ∀ p, isTop N p → mateOf N M p = none → y.getD (nd N p).base 0 = 0 ∧ FC n N p := fun p tp fp => by
    rcases hfr with h | h
    · have : p ∈ freeL N M := mem_freeL.2 ⟨tp, fp⟩
      rw [h] at this
      cases this
    · obtain ⟨a, b⟩ := V.fre p tp fp
      exact ⟨by omega, b⟩
  obtain ⟨⟨O, J⟩, hl, hg⟩ := openK_keep (s := n) (n := N.length) (P := fun N' M' => OP (Tight n Q y N) (fun b => y.getD b 0 = 0) n N' M' ∧ ∀ i, liveR n N i → JV n i (fun v => win N v i) N' M')
    (fun _ _ h => h.1.inv) (fun N' M' j h h1 h2 h3 h4 => ⟨h.1.opened h1 h2 h3 h4, fun i hi => (h.2 i hi).opened h.1.inv h1 h2 h3 h4⟩) N.length 0 (N, M)
    ⟨⟨I, V.lt, hfre⟩, fun i hi => .inl ⟨hi.2.2, fun _ _ => rfl⟩⟩ rfl (fun i h1 h2 h3 => by omega)
  generalize openK n N.length N.length (N, M) = z at O J hl hg
  obtain ⟨N2, M2⟩ := z
  simp only at O J hl hg ⊢
  have I2 := O.inv
  have hge := I2.ge
  have hgone : ∀ i, n ≤ i → i < N2.length → (nd N2 i).gone = true := fun i a b => hg i a (by omega) (by omega)
  have hup : ∀ v, v < n → upA N2 v < 0 := fun v hv => by
    apply Classical.byContradiction
    intro h
    obtain ⟨a, b⟩ := I2.ali v (by omega) (by omega)
    rcases I2.ups v (by omega) with h5 | ⟨h5, h6⟩
    · omega
    · rw [hgone _ b (by omega)] at a; cases a
  have htop : ∀ v, v < n → top N2 v = v := fun v hv => top_self (hup v hv)
  have htops : tops N2 M2 = ends M2 := by
    unfold tops
    have : (ends M2).map (top N2) = (ends M2).map id := List.map_congr_left (fun v hv => htop v (I2.fin v hv))
    rw [this, List.map_id]
  refine ⟨by rw [← htops]; exact I2.mat, I2.fin, O.lv.mates, fun v hv hne => ?_, fun i hi => ?_⟩
  · obtain ⟨a, b⟩ := O.fre v ⟨by omega, I2.ver v hv, hup v hv⟩ (mate_none.2 (by rw [htops]; exact hne))
    cases b with
    | vtx _ _ hb => rw [hb] at a; exact a
    | rng _ _ h _ _ _ _ _ _ => omega
  · rcases J i hi with ⟨h, _⟩ | K
    · rw [hgone i hi.1 (by have := hi.2.1; omega)] at h; cases h
    · have h := len_of_sub (vl n N i) (tV n N2 (fun v => win N v i)) (List.nodup_range.filter _) (fun v hv => by
        obtain ⟨a, b⟩ := mem_vl.1 hv
        exact List.mem_filter.2 ⟨mem_topsL.2 ⟨by omega, I2.ver v a, hup v a⟩, hasV_iff.2 ⟨v, a, b, htop v a⟩⟩)
      have := K.cnt
      omega
theorem link_ne : ∀ {K : List Lk}, (ends K).Nodup → ∀ x ∈ K, x.f ≠ x.t
  | [], _, x, hx => by cases hx
  | z :: r, hn, x, hx => by
    rw [ends_cons, List.nodup_cons, List.nodup_cons] at hn
    obtain ⟨h1, _, h3⟩ := hn
    rcases List.mem_cons.1 hx with rfl | hx
    · exact fun e => h1 (by rw [e]; exact List.mem_cons_self)
    · exact link_ne h3 x hx
theorem links_nodup : ∀ {K : List Lk}, (ends K).Nodup → K.Nodup
  | [], _ => List.nodup_nil
  | z :: r, hn => by
    rw [ends_cons, List.nodup_cons, List.nodup_cons] at hn
    obtain ⟨h1, _, h3⟩ := hn
    exact List.nodup_cons.2 ⟨fun h => h1 (List.mem_cons_of_mem _ (mem_ends.2 ⟨z, h, .inl rfl⟩)), links_nodup h3⟩
def loL (x : Lk) : Nat := if x.f < x.t then x.f else x.t
theorem cV_cpl {n : Nat} {K : List Lk} (hn : (ends K).Nodup) (hl : ∀ v ∈ ends K, v < n) (V : Nat → Bool) : cV K V ≤ ((cplTo n K).filter fun c => V c.f && V c.t).length := by
  unfold cV
  have hlo : ∀ x : Lk, loL x = x.f ∨ loL x = x.t := fun x => by unfold loL; split <;> simp
  have h := len_of_sub ((K.filter fun x => V x.f && V x.t).map loL) (((cplTo n K).filter fun c => V c.f && V c.t).map fun c => c.f)
    (nodup_map_of ((links_nodup hn).filter _) (fun a ha b hb e => one_link hn (List.mem_filter.1 ha).1 (List.mem_filter.1 hb).1 (hlo a) (by rw [e]; exact hlo b))) (fun v hv => by
      obtain ⟨x, hx, rfl⟩ := List.mem_map.1 hv
      obtain ⟨x1, x2⟩ := List.mem_filter.1 hx
      have hne := link_ne hn x x1
      have hf := hl x.f (mem_ends.2 ⟨x, x1, .inl rfl⟩)
      have ht := hl x.t (mem_ends.2 ⟨x, x1, .inr rfl⟩)
      unfold loL
      by_cases h : x.f < x.t
      · rw [if_pos h]
        exact List.mem_map.2 ⟨x, List.mem_filter.2 ⟨mem_cplTo.2 ⟨hf, h, .inl x1⟩, x2⟩, rfl⟩
      · rw [if_neg h]
        refine List.mem_map.2 ⟨x.flip, List.mem_filter.2 ⟨mem_cplTo.2 ⟨ht, ?_, .inr x1⟩, ?_⟩, rfl⟩
        · show x.t < x.f; omega
        · show (V x.t && V x.f) = true
          rw [Bool.and_comm]; exact x2)
  rwa [List.length_map, List.length_map] at h
theorem ends_cpl {n : Nat} {K : List Lk} (hn : (ends K).Nodup) (hl : ∀ v ∈ ends K, v < n) {v : Nat} (hv : v ∈ ends K) : ∃ c ∈ cplTo n K, v = c.f ∨ v = c.t := by
  obtain ⟨x, x1, hx⟩ := mem_ends.1 hv
  have hne := link_ne hn x x1
  have hf := hl x.f (mem_ends.2 ⟨x, x1, .inl rfl⟩)
  have ht := hl x.t (mem_ends.2 ⟨x, x1, .inr rfl⟩)
  by_cases h : x.f < x.t
  · exact ⟨x, mem_cplTo.2 ⟨hf, h, .inl x1⟩, hx⟩
  · exact ⟨x.flip, mem_cplTo.2 ⟨ht, by show x.t < x.f; omega, .inr x1⟩, hx.symm⟩
theorem yOk_of : ∀ (Y : List Int), (∀ x ∈ Y, 0 ≤ x ∧ x ≤ 1000000000) → yOk Y = true
  | [], _ => rfl
  | x :: r, h => by
    have hx := h x List.mem_cons_self
    unfold yOk
    rw [yOk_of r (fun z hz => h z (List.mem_cons_of_mem _ hz)), decide_eq_true hx.1, decide_eq_true hx.2]
    rfl
theorem slacks_of (Y : List Int) (G : List GrpI) : ∀ (Q : List EdgeI), (∀ e ∈ Q, 0 ≤ slackI Y G e) → slacksOk Y G Q = true
  | [], _ => rfl
  | e :: r, h => by
    unfold slacksOk
    rw [slacks_of Y G r (fun z hz => h z (List.mem_cons_of_mem _ hz)), decide_eq_true (h e List.mem_cons_self)]
    rfl
theorem memOk_of {s : Int} : ∀ (M : List Int) (p : Option Int), (∀ x ∈ M, 0 ≤ x ∧ x ≤ s - 1) → M.Pairwise (· < ·) → (∀ q, p = some q → ∀ x ∈ M, q < x) → memOk s p M = true
  | [], _, _, _, _ => rfl
  | x :: r, p, h, hp, hq => by
    rw [List.pairwise_cons] at hp
    have hx := h x List.mem_cons_self
    unfold memOk
    rw [memOk_of r (some x) (fun z hz => h z (List.mem_cons_of_mem _ hz)) hp.2 (fun q e z hz => by obtain rfl := Option.some.inj e; exact hp.1 z hz), decide_eq_true hx.1, decide_eq_true hx.2]
    cases p with
    | none => rfl
    | some q => simp [hq q rfl x List.mem_cons_self]
theorem nestAll_of (b : List Int) : ∀ (D : List GrpI), (∀ x ∈ D, nested x.M b = true) → nestAll b D = true
  | [], _ => rfl
  | x :: r, h => by
    unfold nestAll
    rw [h x List.mem_cons_self, nestAll_of b r (fun z hz => h z (List.mem_cons_of_mem _ hz))]
    rfl
theorem grpsOk_of {s : Int} {P : GrpI → Prop} (h1 : ∀ q, P q → grpHead s q = true ∧ memOk s none q.M = true) (h2 : ∀ x q, P x → P q → nested x.M q.M = true) : ∀ (G D : List GrpI), (∀ q ∈ D, P q) → (∀ q ∈ G, P q) → grpsOk s D G = true
  | [], _, _, _ => rfl
  | q :: r, D, hD, hG => by
    have hq := hG q List.mem_cons_self
    unfold grpsOk
    rw [(h1 q hq).1, (h1 q hq).2, nestAll_of q.M D (fun x hx => h2 x q (hD x hx) hq), grpsOk_of h1 h2 r (D ++ [q]) (fun x hx => by
      rcases List.mem_append.1 hx with hx | hx
      · exact hD x hx
      · rw [List.mem_singleton.1 hx]; exact hq) (fun x hx => hG x (List.mem_cons_of_mem _ hx))]
    rfl
theorem cntIn_is (b : List Int) : ∀ (a : List Int) (n : Nat), cntIn b n a = n + (a.filter (inK b)).length
  | [], n => rfl
  | x :: r, n => by
    unfold cntIn
    rw [cntIn_is b r]
    by_cases h : inK b x = true
    · rw [if_pos h, List.filter_cons_of_pos h, List.length_cons]; omega
    · rw [if_neg h, List.filter_cons_of_neg h]
theorem memTo_vl (N : List Nd) (i n : Nat) : memTo N i n = (vl n N i).map fun (u : Nat) => (u : Int) := rfl
theorem inK_memTo {N : List Nd} {i n v : Nat} (hv : v < n) : inK (memTo N i n) (v : Int) = win N v i := by
  rw [Bool.eq_iff_iff]
  unfold inK
  rw [List.contains_iff_mem, memTo_vl, List.mem_map]
  constructor
  · rintro ⟨u, hu, e⟩
    have : u = v := by omega
    rw [← this]; exact (mem_vl.1 hu).2
  · intro h
    exact ⟨v, mem_vl.2 ⟨hv, h⟩, rfl⟩
theorem memTo_filter (N : List Nd) (i k n : Nat) : ((memTo N i n).filter (inK (memTo N k n))).length = ((vl n N i).filter fun v => win N v k).length := by
  rw [memTo_vl N i n, List.filter_map, List.length_map]
  congr 1
  refine List.filter_congr (fun v hv => ?_)
  show inK (memTo N k n) (v : Int) = _
  exact inK_memTo (mem_vl.1 hv).1
theorem nested_rings {n : Nat} {N : List Nd} (hU : Ups N) (hn : n ≤ N.length) {i k : Nat} : nested (memTo N i n) (memTo N k n) = true := by
  unfold nested
  rw [cntIn_is, Nat.zero_add, memTo_filter]
  have li : (memTo N i n).length = (vl n N i).length := by rw [memTo_vl, List.length_map]
  have lk : (memTo N k n).length = (vl n N k).length := by rw [memTo_vl, List.length_map]
  rw [li, lk]
  simp only [Bool.or_eq_true, decide_eq_true_eq]
  by_cases h : ∃ v, v < n ∧ win N v i = true ∧ win N v k = true
  · obtain ⟨v, h1, h2, h3⟩ := h
    right
    rcases win_chain hU v (by omega) h2 h3 with h | h
    · left
      rw [List.filter_eq_self.2 (fun u hu => by
        obtain ⟨u1, u2⟩ := mem_vl.1 hu
        exact win_trans hU h u (by omega) u2)]
    · right
      have e : (vl n N i).filter (fun v => win N v k) = vl n N k := by
        unfold vl
        rw [List.filter_filter]
        refine List.filter_congr (fun u hu => ?_)
        have hu := List.mem_range.1 hu
        rw [Bool.eq_iff_iff, Bool.and_eq_true]
        exact ⟨fun g => by first | exact g.1 | exact g.2, fun g => by
          have := win_trans hU h u (by omega) g
          exact ⟨by assumption, by assumption⟩⟩
      rw [e]
  · left
    rw [List.length_eq_zero_iff, List.filter_eq_nil_iff]
    intro v hv hw
    obtain ⟨h1, h2⟩ := mem_vl.1 hv
    exact h ⟨v, h1, h2, hw⟩
theorem vl_odd {n : Nat} {N : List Nd} {M : List Lk} (I : Inv n N M) {p : Nat} (hp : p < N.length) (hg : (nd N p).gone = false) : (vl n N p).length % 2 = 1 := by
  have hge := I.ge
  obtain ⟨x, hx, hw⟩ := has_vertex I p p (Nat.le_refl _) hp hg
  obtain ⟨μ, K⟩ := node_pairs (T := fun _ _ => True) I (fun _ _ h => h) (fun _ _ _ _ _ _ => trivial) p p (Nat.le_refl _) hp hg x hx hw
  have hxm : x ∈ vl n N p := mem_vl.2 ⟨hx, hw⟩
  have hnd : (vl n N p).Nodup := List.nodup_range.filter _
  have hl := List.length_erase_of_mem hxm
  have hpos := List.length_pos_of_mem hxm
  have h := even_of_pairs μ ((vl n N p).erase x).length ((vl n N p).erase x) (Nat.le_refl _) (hnd.erase _) (fun v hv => by
    have hvne : v ≠ x := fun e => by subst e; exact hnd.not_mem_erase hv
    obtain ⟨v1, v2⟩ := mem_vl.1 (List.mem_of_mem_erase hv)
    obtain ⟨g1, g2, g3⟩ := K.tow v v1 v2
    refine ⟨(List.mem_erase_of_ne fun e => hvne ?_).2 (mem_vl.2 ⟨g1, g2⟩), g3, fun e => hvne ((K.fx v v1 v2).1 e)⟩
    rw [← g3, e]
    exact (K.fx x hx hw).2 rfl)
  omega
theorem vl_three {n : Nat} {N : List Nd} {M : List Lk} (I : Inv n N M) (hB : Big n N) {p : Nat} (hp : liveR n N p) : 3 ≤ (vl n N p).length := by
  have hge := I.ge
  obtain ⟨h1, h2, h3⟩ := hp
  have R := I.rings p h1 h2 h3
  have hb := hB p h1 h2 h3
  have hm : ∀ q ∈ (nd N p).ring, q < N.length ∧ (nd N q).gone = false ∧ win N q p = true := fun q hq => by
    obtain ⟨g1, g2⟩ := R.mem q hq
    have g3 : q < N.length := by omega
    have g4 := win_of_up I.ups g3 g2
    exact ⟨g3, live_up I h3 q g3 g4, g4⟩
  have q0 := List.getElem_mem (show 0 < (nd N p).ring.length by omega)
  have q1 := List.getElem_mem (show 1 < (nd N p).ring.length by omega)
  have hne : (nd N p).ring[0] ≠ (nd N p).ring[1] := fun e => by
    have := getElem_inj_of_nodup R.nodup (i := 0) (k := 1) (by omega) (by omega) e
    omega
  obtain ⟨v, v1, v2⟩ := has_vertex I _ _ (Nat.le_refl _) (hm _ q0).1 (hm _ q0).2.1
  obtain ⟨w, w1, w2⟩ := has_vertex I _ _ (Nat.le_refl _) (hm _ q1).1 (hm _ q1).2.1
  have hvw : v ≠ w := fun e => by
    subst e
    exact hne (win_apart I.ups (v := v) (by omega) (hm _ q0).1 (hm _ q1).1 (R.mem _ q0).2 (R.mem _ q1).2 v2 w2)
  have h := len_of_sub [v, w] (vl n N p) (by simp [hvw]) (fun u hu => by
    simp only [List.mem_cons, List.not_mem_nil, or_false] at hu
    rcases hu with rfl | rfl
    · exact mem_vl.2 ⟨v1, win_trans I.ups (hm _ q0).2.2 _ (by omega) v2⟩
    · exact mem_vl.2 ⟨w1, win_trans I.ups (hm _ q1).2.2 _ (by omega) w2⟩)
  have ho := vl_odd I h2 h3
  simp only [List.length_cons, List.length_nil] at h
  omega
theorem vl_few (n : Nat) (N : List Nd) (p : Nat) : (vl n N p).length ≤ n := by
  unfold vl
  exact Nat.le_trans (List.length_filter_le _ _) (by rw [List.length_range]; exact Nat.le_refl _)
theorem gAdd_append (x : CoupleI) : ∀ (a b : List GrpI), gAdd x (a ++ b) = gAdd x a + gAdd x b
  | [], b => by simp [gAdd]
  | q :: r, b => by
    rw [List.cons_append, gAdd, gAdd, gAdd_append x r b]
    omega
theorem gAdd_ins (x : CoupleI) (q : GrpI) (G : List GrpI) : gAdd x (insG q G) = (if (inK q.M x.A && inK q.M x.B) = true then q.Z else 0) + gAdd x G := by
  unfold insG
  have h := gAdd_append x (G.take (posF q.M G G.length)) (G.drop (posF q.M G G.length))
  rw [List.take_append_drop] at h
  rw [gAdd_append, gAdd_append, h]
  have : gAdd x [q] = (if (inK q.M x.A && inK q.M x.B) = true then q.Z else 0) := by
    rw [gAdd, gAdd]; omega
  rw [this]
  omega
theorem mem_ins {x q : GrpI} {G : List GrpI} (h : x ∈ insG q G) : x = q ∨ x ∈ G := by
  unfold insG at h
  rcases List.mem_append.1 h with h | h
  · rcases List.mem_append.1 h with h | h
    · exact .inr (List.mem_of_mem_take h)
    · exact .inl (List.mem_singleton.1 h)
  · exact .inr (List.mem_of_mem_drop h)
def zB (N : List Nd) (i : Nat) : Bool := !((nd N i).gone || decide ((nd N i).z ≤ 0))
theorem grF_zs {n : Nat} {N : List Nd} {a b : Nat} (ha : a < n) (hb : b < n) : ∀ (L : List Nat) (G : List GrpI), (∀ i ∈ L, (nd N i).gone = false → 0 ≤ (nd N i).z) → gAdd ⟨(a : Int), (b : Int)⟩ (grF n N L G) = gAdd ⟨(a : Int), (b : Int)⟩ G + zs N a b L
  | [], G, _ => by rw [grF, zs]; omega
  | i :: r, G, h => by
    rw [grF, zs, grF_zs ha hb r _ (fun k hk => h k (List.mem_cons_of_mem _ hk))]
    have hi := h i List.mem_cons_self
    by_cases hc : ((nd N i).gone || decide ((nd N i).z ≤ 0)) = true
    · rw [if_pos hc]
      have : (if (!(nd N i).gone && win N a i && win N b i) = true then (nd N i).z else 0) = 0 := by
        cases hg : (nd N i).gone with
        | true => simp
        | false =>
          rw [hg] at hc
          simp only [Bool.false_or, decide_eq_true_eq] at hc
          have := hi hg
          split <;> omega
      rw [this]; omega
    · rw [if_neg hc, gAdd_ins]
      simp only [inK_memTo ha, inK_memTo hb]
      have hg : (nd N i).gone = false := by
        cases hg : (nd N i).gone with
        | true => rw [hg] at hc; exact absurd rfl hc
        | false => rfl
      rw [hg]
      simp only [Bool.not_false, Bool.true_and]
      omega
theorem grF_len {n : Nat} {N : List Nd} : ∀ (L : List Nat) (G : List GrpI), (grF n N L G).length = G.length + (L.filter (zB N)).length
  | [], G => rfl
  | i :: r, G => by
    rw [grF, grF_len r]
    by_cases hc : ((nd N i).gone || decide ((nd N i).z ≤ 0)) = true
    · have hz : ¬ zB N i = true := by unfold zB; rw [hc]; decide
      rw [if_pos hc, List.filter_cons_of_neg hz]
    · have hz : zB N i = true := by unfold zB; simp only [Bool.not_eq_true'] ; simpa using hc
      rw [if_neg hc, List.filter_cons_of_pos hz, insG_len, List.length_cons]
      omega
theorem grF_mem {n : Nat} {N : List Nd} : ∀ (L : List Nat) (G : List GrpI) (q : GrpI), q ∈ grF n N L G → q ∈ G ∨ ∃ i ∈ L, zB N i = true ∧ q = ⟨memTo N i n, (nd N i).z⟩
  | [], G, q, h => .inl h
  | i :: r, G, q, h => by
    rw [grF] at h
    by_cases hc : ((nd N i).gone || decide ((nd N i).z ≤ 0)) = true
    · rw [if_pos hc] at h
      exact (grF_mem r G q h).imp_right (fun ⟨k, h1, h2⟩ => ⟨k, List.mem_cons_of_mem _ h1, h2⟩)
    · rw [if_neg hc] at h
      rcases grF_mem r _ q h with h | ⟨k, h1, h2⟩
      · rcases mem_ins h with h | h
        · exact .inr ⟨i, List.mem_cons_self, by unfold zB; simpa using hc, h⟩
        · exact .inl h
      · exact .inr ⟨k, List.mem_cons_of_mem _ h1, h2⟩
theorem zB_iff {N : List Nd} {i : Nat} : zB N i = true ↔ (nd N i).gone = false ∧ 0 < (nd N i).z := by
  unfold zB
  simp
section
variable {n : Nat} {Q : List EdgeI} {y : List Int} {N : List Nd} {M : List Lk} {D m : Int}
theorem group_of {q : GrpI} (h : q ∈ groupsF n N) : ∃ i, liveR n N i ∧ 0 < (nd N i).z ∧ q = ⟨memTo N i n, (nd N i).z⟩ := by
  unfold groupsF at h
  rcases grF_mem _ _ q h with h | ⟨i, h1, h2, h3⟩
  · cases h
  · obtain ⟨g1, g2⟩ := zB_iff.1 h2
    rw [List.mem_range'_1] at h1
    exact ⟨i, ⟨by omega, by omega, g1⟩, g2, h3⟩
theorem slackI_sl (V : VI n Q y N M D m) {e : EdgeI} (he : e ∈ Q) : slackI y (groupsF n N) e = sl n y N e := by
  obtain ⟨⟨h1, h2, _⟩, _, _, h3, h4⟩ := V.qb e he
  obtain ⟨a, ha⟩ := Int.eq_ofNat_of_zero_le h3
  obtain ⟨b, hb⟩ := Int.eq_ofNat_of_zero_le h4
  unfold slackI
  rw [slackG_add e ⟨(a : Int), (b : Int)⟩ ha hb]
  unfold groupsF
  rw [grF_zs (by omega) (by omega) _ _ (fun i hi hg => by rw [List.mem_range'_1] at hi; exact (V.z i (by omega) (by omega) hg).1)]
  unfold sl ringsR yAt
  rw [ha, hb, Int.toNat_natCast, Int.toNat_natCast]
  show _ + (0 + _) = _
  omega
theorem solve_proof (hok : graphOk (n : Int) Q = true) (I : Inv n N M) (V : VI n Q y N M D m) : proofOk (n : Int) Q y (groupsF n N) = true := by
  obtain ⟨_, h9, _, _⟩ := graph_sound hok
  have hge := I.ge
  have hmx := V.mx
  have hD0 := V.D0
  have hDm := V.Dm
  have hlen : (groupsF n N).length ≤ 8 := by
    unfold groupsF
    rw [grF_len]
    have h1 := rings_few I V.big
    have h2 := len_of_sub ((List.range' n (N.length - n)).filter (zB N)) ((List.range N.length).filter fun k => decide (n ≤ k) && !(nd N k).gone) (List.Pairwise.filter _ List.nodup_range') (fun i hi => by
      obtain ⟨g1, g2⟩ := List.mem_filter.1 hi
      rw [List.mem_range'_1] at g1
      refine List.mem_filter.2 ⟨List.mem_range.2 (by omega), ?_⟩
      rw [decide_eq_true (by omega : n ≤ i), (zB_iff.1 g2).1]
      rfl)
    show 0 + _ ≤ 8
    omega
  have hy : yOk y = true := yOk_of y (fun x hx => by
    obtain ⟨v, hv, rfl⟩ := List.getElem_of_mem hx
    have := V.lo v (by rw [← V.len]; exact hv)
    have e : y.getD v 0 = y[v] := getD_at _ _ _ hv
    omega)
  have hg : grpsOk (n : Int) [] (groupsF n N) = true := by
    refine grpsOk_of (P := fun q => ∃ i, liveR n N i ∧ 0 < (nd N i).z ∧ q = ⟨memTo N i n, (nd N i).z⟩) ?_ ?_ _ [] (fun q hq => by cases hq) (fun q hq => group_of hq)
    · rintro q ⟨i, hi, hz, rfl⟩
      have ho := vl_odd I hi.2.1 hi.2.2
      have h3 := vl_three I V.big hi
      have hf := vl_few n N i
      have hzz := V.z i hi.1 hi.2.1 hi.2.2
      have hl : (memTo N i n).length = (vl n N i).length := by rw [memTo_vl, List.length_map]
      constructor
      · rw [grpHead_iff]
        simp only [hl]
        omega
      · refine memOk_of _ _ (fun x hx => ?_) ?_ (fun q e => by cases e)
        · rw [memTo_vl] at hx
          obtain ⟨v, hv, rfl⟩ := List.mem_map.1 hx
          have := (mem_vl.1 hv).1
          omega
        · show (memTo N i n).Pairwise _
          rw [memTo_vl, List.pairwise_map]
          unfold vl
          exact (List.pairwise_lt_range.filter _).imp (fun h => by omega)
    · rintro x q ⟨i, _, _, rfl⟩ ⟨k, _, _, rfl⟩
      exact nested_rings I.ups hge
  unfold proofOk
  rw [hok, hy, hg, slacks_of _ _ _ (fun e he => by rw [slackI_sl V he]; exact V.edge e he), V.len, decide_eq_true rfl, decide_eq_true hlen]
  rfl
end
end Sv
end Go.Proofs.Ytkjclkelnheheaa
