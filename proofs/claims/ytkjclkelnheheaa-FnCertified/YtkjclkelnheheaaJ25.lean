/-
 SvV2, SvV3, SvV4, SvV5, SvV6, SvV7, SvV8, SvF0.
-/
import Derived.Test.YtkjclkelnheheaaJ24
import Derived.Test.YtkjclkelnheheaaJ23
import Derived.Test.YtkjclkelnheheaaJ16
namespace Go.Proofs.Ytkjclkelnheheaa
namespace Sv
open Go.RowKit Gr
def leastL {α : Type} (cand : α → Option Int) : List α → Int → Int
  | [], a => a
  | x :: r, a => leastL cand r (match cand x with | none => a | some c => least a c)
theorem leastL_spec {α : Type} (cand : α → Option Int) : ∀ (L : List α) (a : Int), (∀ x ∈ L, ∀ c, cand x = some c → 0 ≤ c) → 0 ≤ a →
    0 ≤ leastL cand L a ∧ leastL cand L a ≤ a ∧ (∀ x ∈ L, ∀ c, cand x = some c → leastL cand L a ≤ c) ∧ (leastL cand L a = a ∨ ∃ x ∈ L, cand x = some (leastL cand L a))
  | [], a, _, ha => ⟨ha, Int.le_refl _, fun x hx => (by cases hx), .inl rfl⟩
  | x :: r, a, hc, ha => by
    rw [leastL]
    have hr := fun y hy => hc y (List.mem_cons_of_mem x hy)
    cases hx : cand x with
    | none =>
      simp only
      obtain ⟨h1, h2, h3, h4⟩ := leastL_spec cand r a hr ha
      refine ⟨h1, h2, fun y hy c hyc => ?_, h4.imp_right (fun ⟨y, hy, e⟩ => ⟨y, List.mem_cons_of_mem _ hy, e⟩)⟩
      rcases List.mem_cons.1 hy with rfl | hy
      · rw [hx] at hyc; cases hyc
      · exact h3 y hy c hyc
    | some c0 =>
      simp only
      have h0 := hc x List.mem_cons_self c0 hx
      have hl : 0 ≤ least a c0 ∧ least a c0 ≤ a ∧ least a c0 ≤ c0 ∧ (least a c0 = a ∨ least a c0 = c0) := by
        unfold least
        split <;> omega
      obtain ⟨h1, h2, h3, h4⟩ := leastL_spec cand r (least a c0) hr hl.1
      refine ⟨h1, by omega, fun y hy c hyc => ?_, ?_⟩
      · rcases List.mem_cons.1 hy with rfl | hy
        · rw [hx] at hyc; cases hyc; omega
        · exact h3 y hy c hyc
      · rcases h4 with h4 | ⟨y, hy, e⟩
        · rcases hl.2.2.2 with h5 | h5
          · left; omega
          · right
            exact ⟨x, List.mem_cons_self, by rw [hx, h4, h5]⟩
        · exact .inr ⟨y, List.mem_cons_of_mem _ hy, e⟩
theorem leastL_first {α : Type} (cand : α → Option Int) : ∀ (L : List α), (∀ x ∈ L, ∀ c, cand x = some c → 0 ≤ c) →
    (leastL cand L (-1) = -1 ∧ ∀ x ∈ L, cand x = none) ∨ (0 ≤ leastL cand L (-1) ∧ (∀ x ∈ L, ∀ c, cand x = some c → leastL cand L (-1) ≤ c) ∧ ∃ x ∈ L, cand x = some (leastL cand L (-1)))
  | [], _ => .inl ⟨rfl, fun x hx => (by cases hx)⟩
  | x :: r, hc => by
    rw [leastL]
    have hr := fun y hy => hc y (List.mem_cons_of_mem x hy)
    cases hx : cand x with
    | none =>
      simp only
      rcases leastL_first cand r hr with ⟨h1, h2⟩ | ⟨h1, h2, y, hy, h3⟩
      · exact .inl ⟨h1, fun y hy => by
          rcases List.mem_cons.1 hy with rfl | hy
          · exact hx
          · exact h2 y hy⟩
      · refine .inr ⟨h1, fun y hy c hyc => ?_, y, List.mem_cons_of_mem _ hy, h3⟩
        rcases List.mem_cons.1 hy with rfl | hy
        · rw [hx] at hyc; cases hyc
        · exact h2 y hy c hyc
    | some c0 =>
      simp only
      have h0 := hc x List.mem_cons_self c0 hx
      have e : least (-1) c0 = c0 := by unfold least; rw [if_pos (.inl (by omega))]
      rw [e]
      obtain ⟨h1, h2, h3, h4⟩ := leastL_spec cand r c0 hr h0
      refine .inr ⟨h1, fun y hy c hyc => ?_, ?_⟩
      · rcases List.mem_cons.1 hy with rfl | hy
        · rw [hx] at hyc; cases hyc; omega
        · exact h3 y hy c hyc
      · rcases h4 with h4 | ⟨y, hy, e⟩
        · exact ⟨x, List.mem_cons_self, by rw [hx, h4]⟩
        · exact ⟨y, List.mem_cons_of_mem _ hy, e⟩
def Tight (s : Nat) (Q : List EdgeI) (y : List Int) (N : List Nd) (x : Lk) : Prop := ∃ e ∈ Q, hit (x.f : Int) (x.t : Int) e = true ∧ sl s y N e = 0
theorem tight_flip {s : Nat} {Q : List EdgeI} {y : List Int} {N : List Nd} (x : Lk) (h : Tight s Q y N x) : Tight s Q y N x.flip := by
  obtain ⟨e, he, h1, h2⟩ := h
  refine ⟨e, he, ?_, h2⟩
  unfold hit at h1 ⊢
  show ((e.A == (x.t : Int)) && (e.B == (x.f : Int)) || (e.A == (x.f : Int)) && (e.B == (x.t : Int))) = true
  rw [Bool.or_comm]; exact h1
theorem hit_ends {a b : Nat} {e : EdgeI} (h : hit (a : Int) (b : Int) e = true) : (e.A.toNat = a ∧ e.B.toNat = b) ∨ (e.A.toNat = b ∧ e.B.toNat = a) := by
  unfold hit at h
  simp only [Bool.or_eq_true, Bool.and_eq_true, beq_iff_eq] at h
  omega
/-- A base that was free all along. -/
inductive FC (s : Nat) (N : List Nd) : Nat → Prop
  | vtx (p : Nat) : p < s → (nd N p).base = p → FC s N p
  | rng (p x : Nat) : s ≤ p → p < N.length → (nd N p).gone = false → x ∈ (nd N p).ring → (nd N x).base = (nd N p).base → win N (nd N p).base x = true → FC s N x → FC s N p
def EdgesOk (s : Nat) (Q : List EdgeI) : Prop := ∀ e ∈ Q, (e.A.toNat < s ∧ e.B.toNat < s ∧ e.A.toNat ≠ e.B.toNat) ∧ 0 ≤ scal e ∧ scal e ≤ 5000000 ∧ 0 ≤ e.A ∧ 0 ≤ e.B
/-- All links of rings that stand, and all mate edges, are of a kind. -/
structure LV (T : Lk → Prop) (s : Nat) (N : List Nd) (M : List Lk) : Prop where
  mates : ∀ x ∈ M, T x
  links : ∀ k, s ≤ k → k < N.length → (nd N k).gone = false → ∀ x ∈ (nd N k).links, T x
structure VI (s : Nat) (Q : List EdgeI) (y : List Int) (N : List Nd) (M : List Lk) (D m : Int) : Prop where
  D0 : 0 ≤ D
  Dm : D ≤ m
  mx : m ≤ 5000000
  len : y.length = s
  lo : ∀ v, v < s → m - D ≤ y.getD v 0 ∧ y.getD v 0 ≤ m + D
  z : ∀ k, s ≤ k → k < N.length → (nd N k).gone = false → 0 ≤ (nd N k).z ∧ (nd N k).z ≤ 2 * D ∧ (nd N k).z % 2 = 0
  fre : ∀ p, isTop N p → mateOf N M p = none → y.getD (nd N p).base 0 = m - D ∧ FC s N p
  edge : ∀ e ∈ Q, 0 ≤ sl s y N e
  lt : LV (Tight s Q y N) s N M
  big : Big s N
  nl : N.length ≤ 30000
  qb : EdgesOk s Q
section
variable {s : Nat} {Q : List EdgeI} {y : List Int} {N : List Nd} {M : List Lk} {D m : Int} {t : Tp} {rk : Nat → Nat}
theorem VI.nums (V : VI s Q y N M D m) : Nums s Q y N :=
  ⟨fun v hv => by have := V.lo v hv; have := V.Dm; have := V.D0; have := V.mx; omega, fun k h1 h2 h3 => by have := V.z k h1 h2 h3; have := V.Dm; have := V.mx; omega, V.qb, V.nl⟩
theorem fc_win (I : Inv s N M) {p : Nat} (h : FC s N p) : win N (nd N p).base p = true ∧ (nd N p).base < s := by
  induction h with
  | vtx p hp hb => rw [hb]; exact ⟨win_self _ _, hp⟩
  | rng p x hp hpl hg hx hb hw _ ih =>
    have hge := I.ge
    rw [hb] at ih
    have R := I.rings p hp hpl hg
    obtain ⟨h1, h2⟩ := R.mem x hx
    exact ⟨win_trans I.ups (win_of_up I.ups (by omega) h2) _ (by omega) hw, ih.2⟩
theorem zs_even (N : List Nd) (A B : Nat) : ∀ (L : List Nat), (∀ i ∈ L, (nd N i).gone = false → (nd N i).z % 2 = 0) → zs N A B L % 2 = 0
  | [], _ => rfl
  | i :: r, h => by
    have ih := zs_even N A B r (fun k hk => h k (List.mem_cons_of_mem _ hk))
    rw [zs]
    by_cases hc : (!(nd N i).gone && win N A i && win N B i) = true
    · rw [if_pos hc]
      simp only [Bool.and_eq_true, Bool.not_eq_true'] at hc
      have := h i List.mem_cons_self hc.1.1
      omega
    · rw [if_neg hc]; omega
theorem VI.even (V : VI s Q y N M D m) (A B : Nat) : zs N A B (ringsR s N) % 2 = 0 :=
  zs_even N A B _ (fun i hi hg => (V.z i (by unfold ringsR at hi; rw [List.mem_range'_1] at hi; omega) (by unfold ringsR at hi; rw [List.mem_range'_1] at hi; omega) hg).2.2)
theorem tight_par (V : VI s Q y N M D m) {x : Lk} (h : Tight s Q y N x) : y.getD x.f 0 % 2 = y.getD x.t 0 % 2 := by
  obtain ⟨e, he, h1, h2⟩ := h
  have h3 := V.even e.A.toNat e.B.toNat
  unfold sl at h2
  rcases hit_ends h1 with ⟨a, b⟩ | ⟨a, b⟩
  · rw [a, b] at h2 h3; omega
  · rw [a, b] at h2 h3; omega
theorem node_par (I : Inv s N M) (V : VI s Q y N M D m) : ∀ k p, p ≤ k → p < N.length → (nd N p).gone = false → ∀ v w, v < s → w < s → win N v p = true → win N w p = true → y.getD v 0 % 2 = y.getD w 0 % 2 := by
  have hge := I.ge
  intro k
  induction k using Nat.strongRecOn with
  | _ k ih =>
    intro p hpk hp hg v w hv hw wv ww
    by_cases hs : p < s
    · rw [win_vertex I (by omega) hs wv, win_vertex I (by omega) hs ww]
    · have R := I.rings p (by omega) hp hg
      have hlive : ∀ q ∈ (nd N p).ring, q < p ∧ (nd N q).gone = false := fun q hq => by
        obtain ⟨h1, h2⟩ := R.mem q hq
        refine ⟨h1, ?_⟩
        cases hgo : (nd N q).gone with
        | false => rfl
        | true => have := I.gon q (by omega) hgo; omega
      have hpos : 0 < (nd N p).ring.length := by have := R.odd; omega
      have hmem : ∀ i (h : i < (nd N p).ring.length), ∀ a c, a < s → c < s → win N a (nd N p).ring[i] = true → win N c (nd N p).ring[0] = true → y.getD a 0 % 2 = y.getD c 0 % 2 := by
        intro i
        induction i with
        | zero =>
          intro h a c ha hc wa wc
          obtain ⟨h1, h2⟩ := hlive _ (List.getElem_mem h)
          exact ih _ (by omega) _ (Nat.le_refl _) (by omega) h2 a c ha hc wa wc
        | succ i ihi =>
          intro h a c ha hc wa wc
          have hl : i < (nd N p).links.length := by rw [R.len]; omega
          have hmod : (i + 1) % (nd N p).ring.length = i + 1 := Nat.mod_eq_of_lt h
          obtain ⟨w1, w2, f1, f2⟩ := R.lk i hl (by omega) (by rw [hmod]; exact h)
          simp only [hmod] at w2
          have h3 := tight_par V (V.lt.links p (by omega) hp hg _ (List.getElem_mem hl))
          have h4 := ihi (by omega) _ c f1 hc w1 wc
          obtain ⟨h1, h2⟩ := hlive _ (List.getElem_mem h)
          have h5 := ih _ (by omega) _ (Nat.le_refl _) (by omega) h2 a _ ha f2 wa w2
          omega
      obtain ⟨q1, hq1, e1⟩ := member_of I (by omega) wv (by omega)
      obtain ⟨q2, hq2, e2⟩ := member_of I (by omega) ww (by omega)
      obtain ⟨i1, hi1, rfl⟩ := List.getElem_of_mem hq1
      obtain ⟨i2, hi2, rfl⟩ := List.getElem_of_mem hq2
      obtain ⟨hl0, hg0⟩ := hlive _ (List.getElem_mem hpos)
      obtain ⟨c, hc, wc⟩ := has_vertex I _ _ (Nat.le_refl _) (by omega) hg0
      have a1 := hmem i1 hi1 v c hv hc e1 wc
      have a2 := hmem i2 hi2 w c hw hc e2 wc
      omega
theorem tree_par (I : Inv s N M) (V : VI s Q y N M D m) (F : For s N M t rk) (hA : AT (Tight s Q y N) t) : ∀ v, v < s → lab t (top N v) ≠ 0 → y.getD v 0 % 2 = (m - D) % 2 := by
  have hge := I.ge
  have key : ∀ d x, rk x ≤ d → lab t x ≠ 0 → ∀ v, v < s → top N v = x → y.getD v 0 % 2 = (m - D) % 2 := by
    intro d
    induction d using Nat.strongRecOn with
    | _ d ih =>
      intro x hd hx v hv hvx
      have htx := F.tp x hx
      have wv : win N v x = true := by rw [← hvx]; exact win_top I.ups v (by omega)
      by_cases hr : rt t x = x
      · have h1 : lab t x = 1 := by
          have := (F.root x hx).1
          rwa [hr] at this
        obtain ⟨hy, hfc⟩ := V.fre x htx (F.rot x h1 hr)
        obtain ⟨hw, hb⟩ := fc_win I hfc
        have := node_par I V x x (Nat.le_refl _) htx.1 htx.2.1 v _ hv hb wv hw
        omega
      · have hl : top N (ahd t x).t = x ∧ (ahd t x).f < s ∧ (ahd t x).t < s ∧ rk (par N t x) < rk x ∧ lab t (par N t x) ≠ 0 := by
          have h2 := F.two x
          by_cases h1 : lab t x = 1
          · obtain ⟨g1, _, g3, _, g5, g6, g7⟩ := F.evn x h1 hr
            exact ⟨g5, g6, g7, g3, by omega⟩
          · obtain ⟨⟨g1, _, _, g4, g5, g6, g7⟩, _⟩ := F.odd x (by omega)
            exact ⟨g5, g6, g7, g4, by omega⟩
        obtain ⟨l1, l2, l3, l4, l5⟩ := hl
        have h3 := ih _ (by omega) (par N t x) (Nat.le_refl _) l5 (ahd t x).f l2 rfl
        have h4 := tight_par V (hA x hx hr)
        have wt : win N (ahd t x).t x = true := by
          have := win_top I.ups (ahd t x).t (by omega)
          rwa [l1] at this
        have h5 := node_par I V x x (Nat.le_refl _) htx.1 htx.2.1 v _ hv l3 wv wt
        omega
  exact fun v hv hl => key _ _ (Nat.le_refl _) hl v hv rfl
end
section
variable {s : Nat} {Q : List EdgeI} {y : List Int} {N : List Nd} {M : List Lk} {D m : Int} {t : Tp} {rk : Nat → Nat} {L : List Nat} {b j : Nat} {x : Nd}
theorem tight_sl {N' : List Nd} (h : ∀ e ∈ Q, sl s y N' e = sl s y N e) (x : Lk) : Tight s Q y N' x ↔ Tight s Q y N x :=
  ⟨fun ⟨e, he, h1, h2⟩ => ⟨e, he, h1, by rw [← h e he]; exact h2⟩, fun ⟨e, he, h1, h2⟩ => ⟨e, he, h1, by rw [h e he]; exact h2⟩⟩
theorem fc_shrink (I : Inv s N M) (R : RingS N M t rk L b) (hx : x.up = -1) {p : Nat} (h : FC s N p) : FC s (shrinkN N L x) p := by
  have hge := I.ge
  have hL' : ∀ v ∈ L, v < N.length := fun v hv => (R.tops' v hv).1
  have hn : ∀ i, i < N.length → (nd (shrinkN N L x) i).ring = (nd N i).ring ∧ (nd (shrinkN N L x) i).base = (nd N i).base ∧ (nd (shrinkN N L x) i).gone = (nd N i).gone := fun i hi => by
    rw [shrink_nd hL', if_neg (by omega)]
    split <;> exact ⟨rfl, rfl, rfl⟩
  have key : ∀ p, FC s N p → p < N.length → FC s (shrinkN N L x) p := by
    intro p h
    induction h with
    | vtx p hp hb => intro hl; exact FC.vtx p hp (by rw [(hn p hl).2.1]; exact hb)
    | rng p q hp hpl hg hq hb hw hc ih =>
      intro hl
      have Rp := I.rings p hp hpl hg
      have hql : q < N.length := by have := (Rp.mem q hq).1; omega
      obtain ⟨n1, n2, n3⟩ := hn p hl
      refine FC.rng p q hp (by rw [shrink_length]; omega) (by rw [n3]; exact hg) (by rw [n1]; exact hq) (by rw [(hn q hql).2.1, n2]; exact hb) ?_ (ih hql)
      rw [n2]
      have hbs : (nd N p).base < s := by
        have := (fc_win I (FC.rng p q hp hpl hg hq hb hw hc)).2
        exact this
      exact shrink_win I.ups R.tops' hx _ (by omega) hw
  exact key p h (by
    cases h with
    | vtx _ hp _ => omega
    | rng _ _ _ hpl _ _ _ _ _ => exact hpl)
theorem VI.shrink (V : VI s Q y N M D m) (I : Inv s N M) (R : RingS N M t rk L b) (hx : x.up = -1) (hg : x.gone = false) (hz : x.z = 0) (hr : x.ring = L) (hb : x.base = baseOf N M b) (I' : Inv s (shrinkN N L x) (keepM N L M)) (hl : ∀ k ∈ x.links, Tight s Q y N k) (hN : N.length + 1 ≤ 30000) : VI s Q y (shrinkN N L x) (keepM N L M) D m := by
  have hge := I.ge
  have hL' : ∀ v ∈ L, v < N.length := fun v hv => (R.tops' v hv).1
  have hn : ∀ i, i ≠ N.length → (nd (shrinkN N L x) i).ring = (nd N i).ring ∧ (nd (shrinkN N L x) i).base = (nd N i).base ∧ (nd (shrinkN N L x) i).gone = (nd N i).gone ∧ (nd (shrinkN N L x) i).z = (nd N i).z ∧ (nd (shrinkN N L x) i).links = (nd N i).links := fun i hi => by
    rw [shrink_nd hL', if_neg hi]
    split <;> exact ⟨rfl, rfl, rfl, rfl, rfl⟩
  have hnew : nd (shrinkN N L x) N.length = x := by rw [shrink_nd hL', if_pos rfl]
  have hsl : ∀ e ∈ Q, sl s y (shrinkN N L x) e = sl s y N e := fun e he => sl_shrink I R hx hz e (V.qb e he).1.1 (V.qb e he).1.2.1
  refine ⟨V.D0, V.Dm, V.mx, V.len, V.lo, fun k h1 h2 h3 => ?_, fun p tp fp => ?_, fun e he => by rw [hsl e he]; exact V.edge e he, ⟨fun k hk => ?_, fun q h1 h2 h3 k hk => ?_⟩, fun k h1 h2 h3 => ?_, by rw [shrink_length]; exact hN, V.qb⟩
  · by_cases e : k = N.length
    · rw [e, hnew, hz]
      have := V.D0
      exact ⟨Int.le_refl _, by omega, rfl⟩
    · obtain ⟨_, _, n3, n4, _⟩ := hn k e
      rw [shrink_length] at h2
      rw [n4]
      exact V.z k h1 (by omega) (by rw [← n3]; exact h3)
  · by_cases e : p = N.length
    · have fb : mateOf N M b = none := by
        cases hm : mateOf N M b with
        | none => rfl
        | some mm =>
          exfalso
          have ho := R.out mm hm
          obtain ⟨h2, h3⟩ := mate_some hm
          have h4 := sh_mate I' (m := mm) (by rw [h2]; exact hm) (fun h => ho h.2)
          rw [sh_top I R hx _ (kept_low I h3).1, h2, if_pos R.mem, ← e, fp] at h4
          cases h4
      obtain ⟨g1, g2⟩ := V.fre b (R.tp b R.mem) fb
      have hxb : x.base = (nd N b).base := by rw [hb]; unfold baseOf; rw [fb]
      have hbl : b < N.length := hL' b R.mem
      rw [e, hnew, hxb]
      refine ⟨g1, FC.rng N.length b hge (by rw [shrink_length]; omega) (by rw [hnew]; exact hg) (by rw [hnew, hr]; exact R.mem) (by rw [hnew, (hn b (by omega)).2.1, hxb]) ?_ (fc_shrink I R hx g2)⟩
      rw [hnew, hxb]
      obtain ⟨w1, w2⟩ := fc_win I g2
      exact shrink_win I.ups R.tops' hx _ (by omega) w1
    · rcases sh_isTop hL' tp with h | ⟨hpL, tN⟩
      · exact absurd h e
      · have fN : mateOf N M p = none := by
          cases hm : mateOf N M p with
          | none => rfl
          | some mm =>
            exfalso
            obtain ⟨h2, h3⟩ := mate_some hm
            have h4 := sh_mate I' (m := mm) (by rw [h2]; exact hm) (fun h => hpL (by rw [← h2]; exact h.1))
            rw [sh_top I R hx _ (kept_low I h3).1, h2, if_neg hpL, fp] at h4
            cases h4
        obtain ⟨g1, g2⟩ := V.fre p tN fN
        rw [(hn p e).2.1]
        exact ⟨g1, fc_shrink I R hx g2⟩
  · exact (tight_sl hsl k).2 (V.lt.mates k (by unfold keepM at hk; exact (List.mem_filter.1 hk).1))
  · refine (tight_sl hsl k).2 ?_
    by_cases e : q = N.length
    · rw [e, hnew] at hk; exact hl k hk
    · obtain ⟨_, _, n3, _, n5⟩ := hn q e
      rw [shrink_length] at h2
      exact V.lt.links q h1 (by omega) (by rw [← n3]; exact h3) k (by rw [← n5]; exact hk)
  · by_cases e : k = N.length
    · rw [e, hnew, hr]; exact R.big
    · obtain ⟨n1, _, n3, _, _⟩ := hn k e
      rw [shrink_length] at h2
      rw [n1]
      exact V.big k h1 (by omega) (by rw [← n3]; exact h3)
theorem fc_open (I : Inv s N M) (hs : s ≤ j) (hj : j < N.length) (ha : (nd N j).gone = false) (hjt : upA N j < 0) {p : Nat} (h : FC s N p) (hp : p ≠ j) : FC s (openN N j) p := by
  have hge := I.ge
  have R := I.rings j hs hj ha
  have hL' : ∀ v ∈ (nd N j).ring, v < j := fun v hv => (R.mem v hv).1
  have hn : ∀ i, i ≠ j → (nd (openN N j) i).ring = (nd N i).ring ∧ (nd (openN N j) i).base = (nd N i).base ∧ (nd (openN N j) i).gone = (nd N i).gone := fun i hi => by
    rw [open_nd hj hL', if_neg hi]
    split <;> exact ⟨rfl, rfl, rfl⟩
  induction h with
  | vtx p hp' hb => exact FC.vtx p hp' (by rw [(hn p hp).2.1]; exact hb)
  | rng p q hp' hpl hg hq hb hw hc ih =>
    have Rp := I.rings p hp' hpl hg
    obtain ⟨m1, m2⟩ := Rp.mem q hq
    have hqj : q ≠ j := fun e => by rw [e] at m2; omega
    obtain ⟨n1, n2, n3⟩ := hn p hp
    refine FC.rng p q hp' (by rw [open_length]; exact hpl) (by rw [n3]; exact hg) (by rw [n1]; exact hq) (by rw [(hn q hqj).2.1, n2]; exact hb) ?_ (ih hqj)
    rw [n2]
    have hbs : (nd N p).base < s := (fc_win I (FC.rng p q hp' hpl hg hq hb hw hc)).2
    exact open_win I.ups hj hjt R.mem hqj _ (by omega) hw
theorem VI.opened (V : VI s Q y N M D m) (I : Inv s N M) (hs : s ≤ j) (hj : j < N.length) (ha : (nd N j).gone = false) (hjt : upA N j < 0) (hz : (nd N j).z = 0) : VI s Q y (openN N j) (openM N M j) D m := by
  have hge := I.ge
  have R := I.rings j hs hj ha
  have I1 := open_inv I hs hj ha hjt
  have hL' : ∀ v ∈ (nd N j).ring, v < j := fun v hv => (R.mem v hv).1
  have hpos : 0 < (nd N j).ring.length := by have := R.odd; omega
  have hn : ∀ i, i ≠ j → (nd (openN N j) i).ring = (nd N i).ring ∧ (nd (openN N j) i).base = (nd N i).base ∧ (nd (openN N j) i).gone = (nd N i).gone ∧ (nd (openN N j) i).z = (nd N i).z ∧ (nd (openN N j) i).links = (nd N i).links := fun i hi => by
    rw [open_nd hj hL', if_neg hi]
    split <;> exact ⟨rfl, rfl, rfl, rfl, rfl⟩
  have hjg : (nd (openN N j) j).gone = true := by rw [open_nd hj hL', if_pos rfl]
  have hsl : ∀ e ∈ Q, sl s y (openN N j) e = sl s y N e := fun e he => sl_open I hs hj ha hjt hz e (V.qb e he).1.1 (V.qb e he).1.2.1
  have hne : ∀ k, (nd (openN N j) k).gone = false → k ≠ j := fun k hk e => by rw [e, hjg] at hk; cases hk
  refine ⟨V.D0, V.Dm, V.mx, V.len, V.lo, fun k h1 h2 h3 => ?_, fun p tp fp => ?_, fun e he => by rw [hsl e he]; exact V.edge e he, ⟨fun k hk => ?_, fun q h1 h2 h3 k hk => ?_⟩, fun k h1 h2 h3 => ?_, by rw [open_length]; exact V.nl, V.qb⟩
  · obtain ⟨_, _, n3, n4, _⟩ := hn k (hne k h3)
    rw [open_length] at h2
    rw [n4]; exact V.z k h1 h2 (by rw [← n3]; exact h3)
  · have hpj := hne p tp.2.1
    obtain ⟨_, n2, n3, _, _⟩ := hn p hpj
    have hpl : p < N.length := by have := tp.1; rwa [open_length] at this
    by_cases hpr : p ∈ (nd N j).ring
    · -- a member: the ring was free, and it is the base's
      have fj : mateOf N M j = none := by
        cases hm : mateOf N M j with
        | none => rfl
        | some mm =>
          exfalso
          obtain ⟨h2, h3⟩ := mate_some hm
          have hb : baseOf N M j = mm.f := by unfold baseOf; rw [hm]
          have hbw : win N (baseOf N M j) j = true := by
            rw [hb]
            have := win_top I.ups mm.f (by have := (kept_low I h3).1; omega)
            rwa [h2] at this
          obtain ⟨hat, hb0⟩ := base_at I hs hj ha hjt hbw (by rw [hb]; exact (kept_low I h3).1)
          obtain ⟨e, he, hre⟩ := rgA_all I hs hj ha hat hpr
          have hmm : mm ∈ openM N M j ∨ mm.flip ∈ openM N M j := h3.imp (fun h => List.mem_append.2 (.inl h)) (fun h => List.mem_append.2 (.inl h))
          have hm2 := mate_of I1.mat hmm
          rw [← hb, hb0] at hm2
          by_cases h0 : e = 0
          · rw [← hre, h0, hm2] at fp; cases fp
          · by_cases h1 : e % 2 = 1
            · rw [← hre, (inner_mate I1 I hs hj ha hjt h1 he).1] at fp; cases fp
            · obtain ⟨e', rfl⟩ : ∃ e', e = e' + 1 := ⟨e - 1, by omega⟩
              rw [← hre, (inner_mate I1 I hs hj ha hjt (i := e') (by omega) (by omega)).2] at fp; cases fp
      obtain ⟨g1, g2⟩ := V.fre j ⟨hj, ha, hjt⟩ fj
      have hb : baseOf N M j = (nd N j).base := by unfold baseOf; rw [fj]
      obtain ⟨w1, w2⟩ := fc_win I g2
      obtain ⟨hat, hb0⟩ := base_at I hs hj ha hjt (by rw [hb]; exact w1) (by rw [hb]; exact w2)
      rw [hb] at hb0
      obtain ⟨e, he, hre⟩ := rgA_all I hs hj ha hat hpr
      have h0 : e = 0 := by
        apply Classical.byContradiction
        intro h0
        by_cases h1 : e % 2 = 1
        · rw [← hre, (inner_mate I1 I hs hj ha hjt h1 he).1] at fp; cases fp
        · obtain ⟨e', rfl⟩ : ∃ e', e = e' + 1 := ⟨e - 1, by omega⟩
          rw [← hre, (inner_mate I1 I hs hj ha hjt (i := e') (by omega) (by omega)).2] at fp; cases fp
      subst h0
      cases g2 with
      | vtx _ hp' _ => omega
      | rng _ q _ _ _ hq hqb hqw hqc =>
        have hqp : q = p := by rw [← hre, ← hb0]; exact (open_top_of I.ups hj hjt R.mem hq (by omega) hqw).symm
        subst hqp
        rw [n2, hqb]
        exact ⟨g1, fc_open I hs hj ha hjt hqc hpj⟩
    · have hup : upA N p < 0 := by
        have := tp.2.2
        rwa [open_up hj hL', if_neg hpr] at this
      have tN : isTop N p := ⟨hpl, by rw [← n3]; exact tp.2.1, hup⟩
      have fN : mateOf N M p = none := by
        cases hm : mateOf N M p with
        | none => rfl
        | some mm => rw [open_mate I1 I hs hj ha hjt hm hpj] at fp; cases fp
      obtain ⟨g1, g2⟩ := V.fre p tN fN
      rw [n2]
      exact ⟨g1, fc_open I hs hj ha hjt g2 hpj⟩
  · refine (tight_sl hsl k).2 ?_
    unfold openM at hk
    rcases List.mem_append.1 hk with hk | hk
    · exact V.lt.mates k hk
    · unfold innerOf at hk
      obtain ⟨i, _, rfl⟩ := List.mem_map.1 hk
      have hl := R.len
      have hi : (atOf N M j + (2 * i + 1)) % (nd N j).ring.length < (nd N j).links.length := by rw [hl]; exact Nat.mod_lt _ hpos
      rw [getD_at _ _ _ hi]
      exact V.lt.links j hs hj ha _ (List.getElem_mem hi)
  · obtain ⟨_, _, n3, _, n5⟩ := hn q (hne q h3)
    rw [open_length] at h2
    exact (tight_sl hsl k).2 (V.lt.links q h1 h2 (by rw [← n3]; exact h3) k (by rw [← n5]; exact hk))
  · obtain ⟨n1, _, n3, _, _⟩ := hn k (hne k h3)
    rw [open_length] at h2
    rw [n1]; exact V.big k h1 h2 (by rw [← n3]; exact h3)
theorem mate_V {T : Lk → Prop} (hf : ∀ x, T x → T x.flip) (h : ∀ x ∈ M, T x) {p : Nat} {mm : Lk} (hm : mateOf N M p = some mm) : T mm := by
  rcases (mate_some hm).2 with h1 | h1
  · exact h mm h1
  · exact hf _ (h _ h1)
theorem at_growV {T : Lk → Prop} {e : EdgeI} (hf : ∀ x, T x → T x.flip) (I : Inv s N M) (F : For s N M t rk) (h : ∀ x ∈ M, T x) (hat : AT T t) (he : T ⟨e.A.toNat, e.B.toNat⟩) (hA : e.A.toNat < s) (hB : e.B.toNat < s) (hg : good s y N t e = true) (hb : both N t e = false) : AT T (growE N M t e) := by
  unfold good at hg
  unfold both at hb
  simp only [Bool.not_eq_true', Bool.or_eq_false_iff, Bool.and_eq_false_iff, beq_eq_false_iff_ne, bne_eq_false_iff_eq, ne_eq] at hg hb
  obtain ⟨_, _, h1, h2, h3⟩ := hg
  have ta := top_is I hA
  have tb := top_is I hB
  have za := F.two (top N e.A.toNat)
  have zb := F.two (top N e.B.toNat)
  have hge := I.ge
  have hgt : ∀ {p mm}, mateOf N M p = some mm → top N mm.t < N.length := fun {p mm} hm => (top_spec I.ups _ (by have := (kept_low I (mate_some hm).2).2; omega)).1
  unfold growE
  by_cases la : lab t (top N e.A.toNat) = 1
  · rw [if_pos la]
    have lb : lab t (top N e.B.toNat) = 0 := by
      rcases hb with hb | hb
      · exact absurd la hb
      · omega
    obtain ⟨mm, hm⟩ := bare_mate F tb lb
    have e1 : mateD N M (top N e.B.toNat) = mm := by unfold mateD; rw [hm]; rfl
    rw [e1]
    exact at_grow F tb.1 (hgt hm) hat he (mate_V hf h hm)
  · rw [if_neg la]
    have lb : lab t (top N e.B.toNat) = 1 := by
      rcases h1 with h1 | h1
      · exact absurd h1 la
      · exact h1
    have la0 : lab t (top N e.A.toNat) = 0 := by omega
    obtain ⟨mm, hm⟩ := bare_mate F ta la0
    have e1 : mateD N M (top N e.A.toNat) = mm := by unfold mateD; rw [hm]; rfl
    rw [e1]
    exact at_grow F ta.1 (hgt hm) hat (hf _ he) (mate_V hf h hm)
theorem at_labV {T : Lk → Prop} (hf : ∀ x, T x → T x.flip) (I : Inv s N M) (h : ∀ x ∈ M, T x) (hQ : ∀ e ∈ Q, e.A.toNat < s ∧ e.B.toNat < s) (hT : ∀ e ∈ Q, slack s y N e = 0 → T ⟨e.A.toNat, e.B.toNat⟩) : ∀ (f : Nat) (t : Tp) (rk : Nat → Nat), For s N M t rk → AT T t → AT T (labF s Q y N M f t).1 := by
  intro f
  induction f with
  | zero => intro t rk _ hat; exact hat
  | succ f ih =>
    intro t rk F hat
    rw [labF]
    cases hp : pick s y N t Q 0 with
    | none => exact hat
    | some x =>
      obtain ⟨i, e⟩ := x
      obtain ⟨_, ⟨h2, h3⟩, h4⟩ := pick_spec hp
      simp only
      by_cases hb : both N t e = true
      · rw [if_pos hb]; exact hat
      · rw [if_neg hb]
        have he : e ∈ Q := by rw [← h3]; exact List.getElem_mem _
        have hz : slack s y N e = 0 := by
          have h5 := h4
          unfold good at h5
          simp only [Bool.not_eq_true', Bool.or_eq_false_iff, bne_eq_false_iff_eq] at h5
          exact h5.2.1
        obtain ⟨⟨rk', F'⟩, _⟩ := growE_for (y := y) I F (hQ e he).1 (hQ e he).2 h4 (by simpa using hb)
        exact ih _ rk' F' (at_growV hf I F h hat (hT e he hz) (hQ e he).1 (hQ e he).2 h4 (by simpa using hb))
theorem edge_tight (V : VI s Q y N M D m) {e : EdgeI} (he : e ∈ Q) (h : sl s y N e = 0) : Tight s Q y N ⟨e.A.toNat, e.B.toNat⟩ := by
  obtain ⟨_, _, _, h1, h2⟩ := V.qb e he
  refine ⟨e, he, ?_, h⟩
  unfold hit
  have e1 : ((e.A.toNat : Nat) : Int) = e.A := by omega
  have e2 : ((e.B.toNat : Nat) : Int) = e.B := by omega
  simp [e1, e2]
theorem labels_at (V : VI s Q y N M D m) (I : Inv s N M) : AT (Tight s Q y N) (labels s Q y N M).1 :=
  at_labV (fun x h => tight_flip x h) I V.lt.mates (fun e he => ⟨(V.qb e he).1.1, (V.qb e he).1.2.1⟩) (fun e he h => edge_tight V he (by rw [← slack_is V.nums he]; exact h)) _ _ _ (for0 s N M) (at0 N M)
theorem pick_none {y : List Int} {N : List Nd} {t : Tp} : ∀ {Q : List EdgeI} {k : Nat}, pick s y N t Q k = none → ∀ e ∈ Q, good s y N t e = false
  | [], _, _, e, he => by cases he
  | x :: r, k, h, e, he => by
    rw [pick] at h
    split at h
    · cases h
    · rename_i hg
      rcases List.mem_cons.1 he with rfl | he
      · simpa using hg
      · exact pick_none h e he
theorem labels_full (V : VI s Q y N M D m) (h : pick s y N t Q 0 = none) : Full (Tight s Q y N) s N t := by
  rintro x ⟨e, he, h1, h2⟩ _ _ hl hne
  have hg := pick_none h e he
  unfold good at hg
  rw [slack_is V.nums he, h2] at hg
  have hz : ((0 : Int) != 0) = false := rfl
  rw [hz, Bool.false_or] at hg
  rcases hit_ends h1 with ⟨a, c⟩ | ⟨a, c⟩
  · rw [a, c] at hg
    simp only [Bool.not_eq_false', Bool.or_eq_true, Bool.and_eq_true, beq_iff_eq, bne_iff_ne] at hg
    rcases hg with h | ⟨h, _⟩ | h | h
    · exact absurd h hne
    · exact absurd hl h
    · omega
    · exact h
  · rw [a, c] at hg
    simp only [Bool.not_eq_false', Bool.or_eq_true, Bool.and_eq_true, beq_iff_eq, bne_iff_ne] at hg
    rcases hg with h | ⟨_, h⟩ | h | h
    · exact absurd h.symm hne
    · exact absurd hl h
    · exact h
    · omega
end
theorem first_z {N : List Nd} {lb : List Nat} : ∀ {L : List Nat} {j : Nat}, firstF N lb L = (j : Int) → j ∈ L ∧ (nd N j).gone = false ∧ upA N j < 0 ∧ (nd N j).z = 0 ∧ (lb.length = 0 ∨ lb.getD j 0 = 2)
  | [], j, h => by
    have : (-1 : Int) = (j : Int) := h
    omega
  | i :: r, j, h => by
    rw [firstF] at h
    split at h
    · rename_i hc
      have e : i = j := by omega
      subst e
      simp only [Bool.and_eq_true, Bool.not_eq_true', decide_eq_true_eq, beq_iff_eq, Bool.or_eq_true] at hc
      exact ⟨List.mem_cons_self, hc.1.1.1, hc.1.1.2, hc.1.2, hc.2⟩
    · obtain ⟨h1, h2⟩ := first_z h
      exact ⟨List.mem_cons_of_mem _ h1, h2⟩
theorem first_none {N : List Nd} {lb : List Nat} : ∀ {L : List Nat}, ¬ (0 ≤ firstF N lb L) → ∀ j ∈ L, (nd N j).gone = false → upA N j < 0 → (nd N j).z = 0 → (lb.length = 0 ∨ lb.getD j 0 = 2) → False
  | [], _, j, hj, _, _, _, _ => by cases hj
  | i :: r, h, j, hj, h1, h2, h3, h4 => by
    rw [firstF] at h
    split at h
    · omega
    · rename_i hc
      rcases List.mem_cons.1 hj with rfl | hj
      · refine hc ?_
        simp only [Bool.and_eq_true, Bool.not_eq_true', decide_eq_true_eq, beq_iff_eq, Bool.or_eq_true]
        exact ⟨⟨⟨h1, h2⟩, h3⟩, h4⟩
      · exact first_none h j hj h1 h2 h3 h4
section
variable {s : Nat} {Q : List EdgeI} {y : List Int} {N : List Nd} {M : List Lk} {D m : Int} {t : Tp} {rk : Nat → Nat} {a0 b0 j : Nat} {A B : List Nat} {e : Lk}
theorem aug_perm (F : For s N M t rk) (hA : IsWay N t rk a0 A) (hB : IsWay N t rk b0 B) (la : lab t a0 = 1) (lb : lab t b0 = 1) (he1 : top N e.f = a0) (he2 : top N e.t = b0) : List.Perm ((ends (e :: (oddLinks t A ++ oddLinks t B))).map (top N)) (A ++ B) := by
  have hra := (F.root a0 (by omega)).1
  have hrb := (F.root b0 (by omega)).1
  obtain ⟨_, oa2, _⟩ := odd_tops F A a0 hA (by omega) hra
  obtain ⟨_, ob2, _⟩ := odd_tops F B b0 hB (by omega) hrb
  have hAc : A = a0 :: A.tail := by
    cases A with
    | nil => have := hA.pos; simp at this
    | cons x r => have : x = a0 := hA.hd; subst this; rfl
  have hBc : B = b0 :: B.tail := by
    cases B with
    | nil => have := hB.pos; simp at this
    | cons x r => have : x = b0 := hB.hd; subst this; rfl
  rw [ends_cons, ends_append]
  simp only [List.map_cons, List.map_append]
  rw [he1, he2]
  have p1 : List.Perm ((ends (oddLinks t A)).map (top N) ++ (ends (oddLinks t B)).map (top N)) (A.tail ++ B.tail) := (oa2 la).append (ob2 lb)
  have p2 : List.Perm (b0 :: (A.tail ++ B.tail)) (A.tail ++ B) := by
    conv => rhs; rw [hBc]
    exact List.perm_middle.symm
  have p3 := ((p1.cons b0).trans p2).cons a0
  refine p3.trans ?_
  conv => rhs; rw [hAc]
  exact List.Perm.refl _
theorem way_closed (I : Inv s N M) (F : For s N M t rk) (hA : IsWay N t rk a0 A) (la : lab t a0 = 1) {q : Nat} (hq : q ∈ A) {mm : Lk} (hm : mateOf N M q = some mm) : top N mm.t ∈ A := by
  obtain ⟨i, hi, rfl⟩ := List.getElem_of_mem hq
  by_cases h : i % 2 = 0
  · by_cases hl : i + 1 < A.length
    · obtain ⟨m', h1, h2⟩ := (way_mates I F hA la i hl).1 h
      rw [hm] at h1
      obtain rfl := Option.some.inj h1
      rw [h2]; exact List.getElem_mem _
    · exfalso
      have h1 : A[i] = rt t a0 := by rw [← hA.lst]; congr 1; omega
      have h2 := F.root a0 (by omega)
      rw [h1, F.rot _ h2.1 h2.2] at hm
      cases hm
  · obtain ⟨i', rfl⟩ : ∃ i', i = i' + 1 := ⟨i - 1, by omega⟩
    obtain ⟨m', h1, h2⟩ := (way_mates I F hA la i' hi).2 (by omega)
    rw [hm] at h1
    obtain rfl := Option.some.inj h1
    rw [h2]; exact List.getElem_mem _
theorem aug_tops (I : Inv s N M) (F : For s N M t rk) (hA : IsWay N t rk a0 A) (hB : IsWay N t rk b0 B) (la : lab t a0 = 1) (lb : lab t b0 = 1) (he1 : top N e.f = a0) (he2 : top N e.t = b0) : (∀ p ∈ A ++ B, p ∈ tops N (augM N M t e A B)) ∧ ∀ p ∈ tops N M, p ∈ tops N (augM N M t e A B) := by
  have hp := aug_perm F hA hB la lb he1 he2
  have h1 : ∀ p ∈ A ++ B, p ∈ tops N (augM N M t e A B) := fun p h => by
    unfold augM tops
    rw [ends_append, List.map_append]
    exact List.mem_append.2 (.inr (hp.mem_iff.2 h))
  refine ⟨h1, fun p hpm => ?_⟩
  by_cases hAB : p ∈ A ++ B
  · exact h1 p hAB
  · obtain ⟨mm, hm⟩ : ∃ mm, mateOf N M p = some mm := by
      cases hm : mateOf N M p with
      | none => exact absurd hpm (mate_none.1 hm)
      | some mm => exact ⟨mm, rfl⟩
    obtain ⟨g1, g2⟩ := mate_some hm
    have hout : top N mm.t ∉ A ++ B := fun hin => by
      have hfl := mate_flip I.mat hm
      rcases List.mem_append.1 hin with h | h
      · have := way_closed I F hA la h hfl
        exact hAB (List.mem_append.2 (.inl (by rw [← g1]; exact this)))
      · have := way_closed I F hB lb h hfl
        exact hAB (List.mem_append.2 (.inr (by rw [← g1]; exact this)))
    have hk : mm ∈ augM N M t e A B ∨ mm.flip ∈ augM N M t e A B := by
      unfold augM
      rw [without_all, without_all, List.filter_filter]
      rw [List.mem_append, not_or] at hout
      rw [List.mem_append, not_or, ← g1] at hAB
      rcases g2 with g2 | g2
      · refine .inl (List.mem_append.2 (.inl (List.mem_filter.2 ⟨g2, ?_⟩)))
        simp [hAB.1, hAB.2, hout.1, hout.2]
      · refine .inr (List.mem_append.2 (.inl (List.mem_filter.2 ⟨g2, ?_⟩)))
        show (decide (top N mm.t ∉ B) && decide (top N mm.f ∉ B) && (decide (top N mm.t ∉ A) && decide (top N mm.f ∉ A))) = true
        simp [hAB.1, hAB.2, hout.1, hout.2]
    rw [← g1]
    exact (mem_tops hk).1
theorem VI.aug (V : VI s Q y N M D m) (I : Inv s N M) (F : For s N M t rk) (hat : AT (Tight s Q y N) t) (hA : IsWay N t rk a0 A) (hB : IsWay N t rk b0 B) (la : lab t a0 = 1) (lb : lab t b0 = 1) (he1 : top N e.f = a0) (he2 : top N e.t = b0) (he : Tight s Q y N e) : VI s Q y N (augM N M t e A B) D m := by
  refine ⟨V.D0, V.Dm, V.mx, V.len, V.lo, V.z, fun p tp fp => V.fre p tp ?_, V.edge, ⟨fun x hx => ?_, V.lt.links⟩, V.big, V.nl, V.qb⟩
  · rw [mate_none] at fp ⊢
    exact fun h => fp ((aug_tops I F hA hB la lb he1 he2).2 p h)
  · have hodd : ∀ (L : List Nat), ∀ x ∈ oddLinks t L, Tight s Q y N x := fun L x hx => by
      unfold oddLinks at hx
      obtain ⟨v, hv, rfl⟩ := List.mem_map.1 hx
      have h2 : lab t v = 2 := by simpa using (List.mem_filter.1 hv).2
      exact hat v (by omega) (F.odd v h2).1.2.2.1
    unfold augM at hx
    rcases List.mem_append.1 hx with hx | hx
    · rw [without_all, without_all] at hx
      exact V.lt.mates x (List.mem_filter.1 (List.mem_filter.1 hx).1).1
    · rcases List.mem_cons.1 hx with rfl | hx
      · exact he
      · rcases List.mem_append.1 hx with hx | hx
        · exact hodd _ x hx
        · exact hodd _ x hx
theorem freeL_aug (I : Inv s N M) (F : For s N M t rk) (hA : IsWay N t rk a0 A) (hB : IsWay N t rk b0 B) (la : lab t a0 = 1) (lb : lab t b0 = 1) (he1 : top N e.f = a0) (he2 : top N e.t = b0) : (freeL N (augM N M t e A B)).length + 1 ≤ (freeL N M).length := by
  obtain ⟨h1, h2⟩ := aug_tops I F hA hB la lb he1 he2
  have hr := F.root a0 (by omega)
  have hrA : rt t a0 ∈ A := by rw [← hA.lst]; exact List.getElem_mem _
  have := len_of_sub (rt t a0 :: freeL N (augM N M t e A B)) (freeL N M) (List.nodup_cons.2 ⟨fun hm => ?_, freeL_nodup _ _⟩) (fun p hp => ?_)
  · rw [List.length_cons] at this; exact this
  · have := mate_none.1 (mem_freeL.1 hm).2
    exact this (h1 _ (List.mem_append.2 (.inl hrA)))
  · rcases List.mem_cons.1 hp with rfl | hp
    · exact mem_freeL.2 ⟨F.tp _ (by omega), F.rot _ hr.1 hr.2⟩
    · obtain ⟨g1, g2⟩ := mem_freeL.1 hp
      refine mem_freeL.2 ⟨g1, ?_⟩
      rw [mate_none] at g2 ⊢
      exact fun h => g2 (h2 p h)
theorem member_free (V : VI s Q y N M D m) (I : Inv s N M) (hs : s ≤ j) (hj : j < N.length) (ha : (nd N j).gone = false) (hjt : upA N j < 0) {p : Nat} (hpr : p ∈ (nd N j).ring) (fp : mateOf (openN N j) (openM N M j) p = none) : mateOf N M j = none ∧ p = rgA N M j 0 := by
  have hge := I.ge
  have I1 := open_inv I hs hj ha hjt
  have hbw : win N (baseOf N M j) j = true ∧ baseOf N M j < s := by
    cases hm : mateOf N M j with
    | none =>
      have hb : baseOf N M j = (nd N j).base := by unfold baseOf; rw [hm]
      rw [hb]
      exact fc_win I (V.fre j ⟨hj, ha, hjt⟩ hm).2
    | some mm =>
      obtain ⟨h2, h3⟩ := mate_some hm
      have hb : baseOf N M j = mm.f := by unfold baseOf; rw [hm]
      rw [hb]
      have := win_top I.ups mm.f (by have := (kept_low I h3).1; omega)
      rw [h2] at this
      exact ⟨this, (kept_low I h3).1⟩
  obtain ⟨hat, hb0⟩ := base_at I hs hj ha hjt hbw.1 hbw.2
  obtain ⟨e, he, hre⟩ := rgA_all I hs hj ha hat hpr
  have h0 : e = 0 := by
    apply Classical.byContradiction
    intro h0
    by_cases h1 : e % 2 = 1
    · rw [← hre, (inner_mate I1 I hs hj ha hjt h1 he).1] at fp; cases fp
    · obtain ⟨e', rfl⟩ : ∃ e', e = e' + 1 := ⟨e - 1, by omega⟩
      rw [← hre, (inner_mate I1 I hs hj ha hjt (i := e') (by omega) (by omega)).2] at fp; cases fp
  subst h0
  refine ⟨?_, hre.symm⟩
  cases hm : mateOf N M j with
  | none => rfl
  | some mm =>
    exfalso
    obtain ⟨h2, h3⟩ := mate_some hm
    have hb : baseOf N M j = mm.f := by unfold baseOf; rw [hm]
    have hmm : mm ∈ openM N M j ∨ mm.flip ∈ openM N M j := h3.imp (fun h => List.mem_append.2 (.inl h)) (fun h => List.mem_append.2 (.inl h))
    have hm2 := mate_of I1.mat hmm
    rw [← hb, hb0, hre, fp] at hm2
    cases hm2
theorem freeL_open (V : VI s Q y N M D m) (I : Inv s N M) (hs : s ≤ j) (hj : j < N.length) (ha : (nd N j).gone = false) (hjt : upA N j < 0) : (freeL (openN N j) (openM N M j)).length ≤ (freeL N M).length := by
  have hge := I.ge
  have R := I.rings j hs hj ha
  have I1 := open_inv I hs hj ha hjt
  have hL' : ∀ v ∈ (nd N j).ring, v < j := fun v hv => (R.mem v hv).1
  have hjg : (nd (openN N j) j).gone = true := by rw [open_nd hj hL', if_pos rfl]
  have hjr : j ∉ (nd N j).ring := fun h1 => by have := hL' j h1; omega
  have hpj : ∀ p, isTop (openN N j) p → p ≠ j := fun p hp e => by have := hp.2.1; rw [e, hjg] at this; cases this
  refine len_of_map (fun p => if p ∈ (nd N j).ring then j else p) (freeL_nodup _ _) (fun a ha' c hc e => ?_) (fun a ha' => ?_)
  · obtain ⟨ta, fa⟩ := mem_freeL.1 ha'
    obtain ⟨tc, fc⟩ := mem_freeL.1 hc
    by_cases h1 : a ∈ (nd N j).ring
    · by_cases h2 : c ∈ (nd N j).ring
      · rw [(member_free V I hs hj ha hjt h1 fa).2, (member_free V I hs hj ha hjt h2 fc).2]
      · simp only [if_pos h1, if_neg h2] at e
        exact absurd e.symm (hpj c tc)
    · by_cases h2 : c ∈ (nd N j).ring
      · simp only [if_neg h1, if_pos h2] at e
        exact absurd e (hpj a ta)
      · simp only [if_neg h1, if_neg h2] at e
        exact e
  · obtain ⟨ta, fa⟩ := mem_freeL.1 ha'
    by_cases h1 : a ∈ (nd N j).ring
    · simp only [if_pos h1]
      exact mem_freeL.2 ⟨⟨hj, ha, hjt⟩, (member_free V I hs hj ha hjt h1 fa).1⟩
    · simp only [if_neg h1]
      have haj := hpj a ta
      have hup : upA N a < 0 := by
        have := ta.2.2
        rwa [open_up hj hL', if_neg h1] at this
      have hgo : (nd N a).gone = false := by
        have := ta.2.1
        rw [open_nd hj hL', if_neg haj, if_neg h1] at this
        exact this
      refine mem_freeL.2 ⟨⟨by have := ta.1; rwa [open_length] at this, hgo, hup⟩, ?_⟩
      cases hm : mateOf N M a with
      | none => rfl
      | some mm => rw [open_mate I1 I hs hj ha hjt hm haj] at fa; cases fa
theorem openAll_V : ∀ (f : Nat) (N : List Nd) (M : List Lk), Inv s N M → VI s Q y N M D m → Inv s (openAll s f N M).1 (openAll s f N M).2 ∧ VI s Q y (openAll s f N M).1 (openAll s f N M).2 D m ∧ (openAll s f N M).1.length = N.length ∧ (freeL (openAll s f N M).1 (openAll s f N M).2).length ≤ (freeL N M).length
  | 0, N, M, I, V => ⟨I, V, rfl, Nat.le_refl _⟩
  | f + 1, N, M, I, V => by
    rw [openAll]
    by_cases h0 : 0 ≤ firstOf s N []
    · rw [if_pos h0]
      obtain ⟨j, e, h1, h2, h3, h4⟩ := first_ring h0
      rw [e, Int.toNat_natCast]
      have hz := (first_z (N := N) (lb := []) (L := List.range' s (N.length - s)) e).2.2.2.1
      obtain ⟨a1, a2, a3, a4⟩ := openAll_V f _ _ (open_inv I h1 h2 h3 h4) (V.opened I h1 h2 h3 h4 hz)
      have := freeL_open V I h1 h2 h3 h4
      exact ⟨a1, a2, by rw [a3, open_length], by omega⟩
    · rw [if_neg h0]; exact ⟨I, V, rfl, Nat.le_refl _⟩
theorem augmented_V {eA eB : Nat} (V : VI s Q y N M D m) (I : Inv s N M) (F : For s N M t rk) (hat : AT (Tight s Q y N) t) (hA : eA < s) (hB : eB < s) (he : Tight s Q y N ⟨eA, eB⟩) (la : lab t (top N eA) = 1) (lb : lab t (top N eB) = 1) (hr : rt t (top N eA) ≠ rt t (top N eB)) :
    Inv s (augmented s N M t eA eB).1 (augmented s N M t eA eB).2 ∧ VI s Q y (augmented s N M t eA eB).1 (augmented s N M t eA eB).2 D m ∧ (augmented s N M t eA eB).1.length = N.length ∧ (freeL (augmented s N M t eA eB).1 (augmented s N M t eA eB).2).length + 1 ≤ (freeL N M).length := by
  have wA := way_of F (show lab t (top N eA) ≠ 0 by omega)
  have wB := way_of F (show lab t (top N eB) ≠ 0 by omega)
  have I' := augment_inv (e := ⟨eA, eB⟩) I F wA wB la lb hr rfl rfl hA hB
  have V' := V.aug (e := ⟨eA, eB⟩) I F hat wA wB la lb rfl rfl he
  have h1 := freeL_aug (e := ⟨eA, eB⟩) I F wA wB la lb rfl rfl
  obtain ⟨a1, a2, a3, a4⟩ := openAll_V N.length N _ I' V'
  unfold augmented
  exact ⟨a1, a2, a3, by omega⟩
end
def candY (N : List Nd) (t : Tp) (y : List Int) (v : Nat) : Option Int := if (lab t (top N v) == 1) = true then some (y.getD v 0) else none
def candE (s : Nat) (y : List Int) (N : List Nd) (t : Tp) (e : EdgeI) : Option Int :=
  if (top N e.A.toNat == top N e.B.toNat || (lab t (top N e.A.toNat) == 2 || lab t (top N e.B.toNat) == 2)) = true then none
  else if (lab t (top N e.A.toNat) == 1 && lab t (top N e.B.toNat) == 1) = true then some (wrap64 ((slack s y N e).tdiv 2))
  else if (lab t (top N e.A.toNat) == 1 || lab t (top N e.B.toNat) == 1) = true then some (slack s y N e) else none
def candR (N : List Nd) (t : Tp) (i : Nat) : Option Int := if ((!(nd N i).gone && decide (upA N i < 0)) && lab t i == 2) = true then some (wrap64 ((nd N i).z.tdiv 2)) else none
theorem stepY_is (N : List Nd) (t : Tp) (y : List Int) : ∀ (L : List Nat) (a : Int), stepY N t y L a = leastL (candY N t y) L a
  | [], _ => rfl
  | v :: r, a => by
    rw [stepY, leastL, stepY_is N t y r]
    unfold candY
    by_cases h : (lab t (top N v) == 1) = true
    · simp only [if_pos h]
    · simp only [if_neg h]
theorem stepE_is (s : Nat) (y : List Int) (N : List Nd) (t : Tp) : ∀ (L : List EdgeI) (a : Int), stepE s y N t L a = leastL (candE s y N t) L a
  | [], _ => rfl
  | e :: r, a => by
    rw [stepE, leastL, stepE_is s y N t r]
    congr 1
    unfold candE stepE1
    by_cases h1 : (top N e.A.toNat == top N e.B.toNat || (lab t (top N e.A.toNat) == 2 || lab t (top N e.B.toNat) == 2)) = true
    · simp only [if_pos h1]
    · simp only [if_neg h1]
      by_cases h2 : (lab t (top N e.A.toNat) == 1 && lab t (top N e.B.toNat) == 1) = true
      · simp only [if_pos h2]
      · simp only [if_neg h2]
        by_cases h3 : (lab t (top N e.A.toNat) == 1 || lab t (top N e.B.toNat) == 1) = true
        · simp only [if_pos h3]
        · simp only [if_neg h3]
theorem stepR_is (N : List Nd) (t : Tp) : ∀ (L : List Nat) (a : Int), stepR N t L a = leastL (candR N t) L a
  | [], _ => rfl
  | i :: r, a => by
    rw [stepR, leastL, stepR_is N t r]
    unfold candR
    by_cases h : ((!(nd N i).gone && decide (upA N i < 0)) && lab t i == 2) = true
    · simp only [if_pos h]
    · simp only [if_neg h]
section
variable {s : Nat} {Q : List EdgeI} {y : List Int} {N : List Nd} {M : List Lk} {D m : Int} {t : Tp} {rk : Nat → Nat}
theorem VI.slb (V : VI s Q y N M D m) {e : EdgeI} (he : e ∈ Q) : 0 ≤ sl s y N e ∧ sl s y N e ≤ 1000000000000000 := by
  refine ⟨V.edge e he, ?_⟩
  have h := V.nums
  obtain ⟨⟨hA, hB, _⟩, s0, s1, _⟩ := h.qb e he
  obtain ⟨a0, a1⟩ := h.yb _ hA
  obtain ⟨b0, b1⟩ := h.yb _ hB
  have hl : ((ringsR s N).length : Int) ≤ 30000 := by unfold ringsR; rw [List.length_range']; have := h.nb; omega
  have := (slackF_is (A := e.A.toNat) (B := e.B.toNat) (ringsR s N) 0 (fun i hi => h.zb i (by unfold ringsR at hi; rw [List.mem_range'_1] at hi; omega) (by unfold ringsR at hi; rw [List.mem_range'_1] at hi; omega)) (by omega) (by omega)).2.2
  unfold sl
  omega
theorem ee_even (I : Inv s N M) (V : VI s Q y N M D m) (F : For s N M t rk) (hA : AT (Tight s Q y N) t) {e : EdgeI} (he : e ∈ Q) (la : lab t (top N e.A.toNat) = 1) (lb : lab t (top N e.B.toNat) = 1) : sl s y N e % 2 = 0 := by
  obtain ⟨⟨hA', hB', _⟩, _⟩ := V.qb e he
  have h1 := tree_par I V F hA _ hA' (by omega)
  have h2 := tree_par I V F hA _ hB' (by omega)
  have h3 := V.even e.A.toNat e.B.toNat
  unfold sl
  omega
theorem mate_labels (I : Inv s N M) (F : For s N M t rk) {p : Nat} {mm : Lk} (hm : mateOf N M p = some mm) : (lab t p = 1 → lab t (top N mm.t) = 2) ∧ (lab t p = 2 → lab t (top N mm.t) = 1) ∧ (lab t p = 0 → lab t (top N mm.t) = 0) := by
  refine ⟨fun h => (even_mate_par I F h hm).2.1, fun h => ?_, fun h => mate_bare I F h hm⟩
  obtain ⟨_, m', h1, h2⟩ := F.odd p h
  rw [hm] at h1
  obtain rfl := Option.some.inj h1
  exact h2
/-- What an adjustment is by. -/
structure StepIs (s : Nat) (Q : List EdgeI) (y : List Int) (N : List Nd) (t : Tp) (c d : Int) : Prop where
  d0 : 0 ≤ d
  dc : d ≤ c
  ee : ∀ e ∈ Q, top N e.A.toNat ≠ top N e.B.toNat → lab t (top N e.A.toNat) = 1 → lab t (top N e.B.toNat) = 1 → 2 * d ≤ sl s y N e
  eu : ∀ e ∈ Q, (lab t (top N e.A.toNat) = 1 ∧ lab t (top N e.B.toNat) = 0) ∨ (lab t (top N e.A.toNat) = 0 ∧ lab t (top N e.B.toNat) = 1) → d ≤ sl s y N e
  rr : ∀ k, s ≤ k → isTop N k → lab t k = 2 → 2 * d ≤ (nd N k).z
  att : d = c ∨ (∃ e ∈ Q, top N e.A.toNat ≠ top N e.B.toNat ∧ lab t (top N e.A.toNat) = 1 ∧ lab t (top N e.B.toNat) = 1 ∧ 2 * d = sl s y N e) ∨ (∃ e ∈ Q, ((lab t (top N e.A.toNat) = 1 ∧ lab t (top N e.B.toNat) = 0) ∨ (lab t (top N e.A.toNat) = 0 ∧ lab t (top N e.B.toNat) = 1)) ∧ d = sl s y N e) ∨ ∃ k, s ≤ k ∧ isTop N k ∧ lab t k = 2 ∧ 2 * d = (nd N k).z
theorem step_is (I : Inv s N M) (V : VI s Q y N M D m) (F : For s N M t rk) (hA : AT (Tight s Q y N) t) :
    (stepD s Q y N t = -1 ∧ freeL N M = []) ∨ (stepV s y N t = m - D ∧ StepIs s Q y N t (m - D) (stepD s Q y N t) ∧ freeL N M ≠ []) := by
  have hge := I.ge
  have hn := V.nums
  have eY : stepY0 s y N t = leastL (candY N t y) (List.range' 0 (s - 0)) (-1) := by unfold stepY0; exact stepY_is _ _ _ _ _
  have hcY : ∀ v ∈ List.range' 0 (s - 0), ∀ c, candY N t y v = some c → 0 ≤ c := fun v hv c hc => by
    rw [List.mem_range'_1] at hv
    unfold candY at hc
    split at hc
    · cases hc; exact (hn.yb v (by omega)).1
    · cases hc
  rcases leastL_first (candY N t y) _ hcY with ⟨h1, h2⟩ | ⟨h1, h2, v0, hv0, h3⟩
  · refine .inl ⟨by unfold stepD; rw [eY, h1, if_pos (by decide)], ?_⟩
    apply List.eq_nil_iff_forall_not_mem.2
    intro p hp
    obtain ⟨tp, fp⟩ := mem_freeL.1 hp
    obtain ⟨v, hv, hw⟩ := has_vertex I p p (Nat.le_refl _) tp.1 tp.2.1
    have hvp : top N v = p := win_is_top I.ups (by omega) tp.2.2 hw
    have := h2 v (by rw [List.mem_range'_1]; omega)
    unfold candY at this
    rw [hvp, F.fre p tp fp] at this
    simp at this
  · refine .inr ?_
    rw [← eY] at h1 h2 h3
    -- the least is a free base's
    rw [List.mem_range'_1] at hv0
    have hl0 : lab t (top N v0) = 1 := by
      unfold candY at h3
      split at h3
      · rename_i h; simpa using h
      · cases h3
    have hroot := F.root (top N v0) (by omega)
    have tr := F.tp (rt t (top N v0)) (by omega)
    have fr := F.rot _ hroot.1 hroot.2
    obtain ⟨hyb, hfc⟩ := V.fre _ tr fr
    obtain ⟨wb, bs⟩ := fc_win I hfc
    have htb : top N (nd N (rt t (top N v0))).base = rt t (top N v0) := win_is_top I.ups (by omega) tr.2.2 wb
    have hy0 : stepY0 s y N t = m - D := by
      have a1 := h2 (nd N (rt t (top N v0))).base (by rw [List.mem_range'_1]; exact ⟨Nat.zero_le _, by omega⟩) (y.getD (nd N (rt t (top N v0))).base 0) (by unfold candY; rw [htb, if_pos (by simp [hroot.1])])
      have a2 : y.getD v0 0 = stepY0 s y N t := by
        unfold candY at h3
        rw [if_pos (by simp [hl0])] at h3
        exact Option.some.inj h3
      have a3 := (V.lo v0 (by omega)).1
      omega
    have hpos : ¬ stepY0 s y N t < 0 := by omega
    have hsl : ∀ e ∈ Q, slack s y N e = sl s y N e := fun e he => slack_is hn he
    have hhalf : ∀ x : Int, 0 ≤ x → x ≤ 1000000000000000 → wrap64 (x.tdiv 2) = x / 2 := fun x h1 h2 => by
      rw [Int.tdiv_eq_ediv_of_nonneg h1, wr_in (by omega) (by omega)]
    have hcE : ∀ e ∈ Q, ∀ c, candE s y N t e = some c → 0 ≤ c := fun e he c hc => by
      obtain ⟨b0, b1⟩ := V.slb he
      unfold candE at hc
      rw [hsl e he, hhalf _ b0 b1] at hc
      split at hc
      · cases hc
      · split at hc
        · cases hc; omega
        · split at hc
          · cases hc; exact b0
          · cases hc
    have hcR : ∀ k ∈ List.range' s (N.length - s), ∀ c, candR N t k = some c → 0 ≤ c := fun k hk c hc => by
      rw [List.mem_range'_1] at hk
      unfold candR at hc
      split at hc
      · rename_i h
        simp only [Bool.and_eq_true, Bool.not_eq_true'] at h
        obtain ⟨b0, b1⟩ := hn.zb k hk.1 (by omega) h.1.1
        rw [hhalf _ b0 (by omega)] at hc
        cases hc; omega
      · cases hc
    obtain ⟨e1, e2, e3, e4⟩ := leastL_spec (candE s y N t) Q (m - D) hcE (by omega)
    obtain ⟨r1, r2, r3, r4⟩ := leastL_spec (candR N t) (List.range' s (N.length - s)) (leastL (candE s y N t) Q (m - D)) hcR e1
    have eD : stepD s Q y N t = leastL (candR N t) (List.range' s (N.length - s)) (leastL (candE s y N t) Q (m - D)) := by
      unfold stepD
      rw [if_neg hpos, hy0, stepE_is, stepR_is]
    rw [← eD] at r1 r2 r3 r4
    have hee : ∀ e ∈ Q, top N e.A.toNat ≠ top N e.B.toNat → lab t (top N e.A.toNat) = 1 → lab t (top N e.B.toNat) = 1 → candE s y N t e = some (sl s y N e / 2) := fun e he hne la lb => by
      obtain ⟨b0, b1⟩ := V.slb he
      unfold candE
      rw [hsl e he, hhalf _ b0 b1, if_neg (by simp [hne, la, lb]), if_pos (by simp [la, lb])]
    have heu : ∀ e ∈ Q, (lab t (top N e.A.toNat) = 1 ∧ lab t (top N e.B.toNat) = 0) ∨ (lab t (top N e.A.toNat) = 0 ∧ lab t (top N e.B.toNat) = 1) → candE s y N t e = some (sl s y N e) := fun e he h => by
      have hne : top N e.A.toNat ≠ top N e.B.toNat := fun h2 => by rw [h2] at h; omega
      unfold candE
      rcases h with ⟨la, lb⟩ | ⟨la, lb⟩
      · rw [hsl e he, if_neg (by simp [hne, la, lb]), if_neg (by simp [la, lb]), if_pos (by simp [la, lb])]
      · rw [hsl e he, if_neg (by simp [hne, la, lb]), if_neg (by simp [la, lb]), if_pos (by simp [la, lb])]
    have hrr : ∀ k, s ≤ k → isTop N k → lab t k = 2 → candR N t k = some ((nd N k).z / 2) := fun k hk tk lk => by
      obtain ⟨b0, b1⟩ := hn.zb k hk tk.1 tk.2.1
      unfold candR
      rw [if_pos (by simp [tk.2.1, tk.2.2, lk]), hhalf _ b0 (by omega)]
    refine ⟨by unfold stepV; rw [if_neg hpos, hy0], ⟨r1, by omega, fun e he hne la lb => ?_, fun e he h => ?_, fun k hk tk lk => ?_, ?_⟩, fun h => ?_⟩
    · have h5 := e3 e he _ (hee e he hne la lb)
      have h6 := ee_even I V F hA he la lb
      omega
    · have h5 := e3 e he _ (heu e he h)
      omega
    · have h5 := r3 k (by rw [List.mem_range'_1]; have := tk.1; omega) _ (hrr k hk tk lk)
      have h6 := (V.z k hk tk.1 tk.2.1).2.2
      omega
    · rcases r4 with r4 | ⟨k, hk, r4⟩
      · rw [r4]
        rcases e4 with e4 | ⟨e, he, e4⟩
        · exact .inl e4
        · right
          have hc := e4
          unfold candE at hc
          split at hc
          · cases hc
          · rename_i h1
            simp only [Bool.or_eq_true, beq_iff_eq, not_or] at h1
            split at hc
            · rename_i h2'
              simp only [Bool.and_eq_true, beq_iff_eq] at h2'
              have h7 := hee e he h1.1 h2'.1 h2'.2
              rw [e4] at h7
              have h8 := Option.some.inj h7
              have h6 := ee_even I V F hA he h2'.1 h2'.2
              exact .inl ⟨e, he, h1.1, h2'.1, h2'.2, by omega⟩
            · rename_i h2'
              split at hc
              · rename_i h3'
                simp only [Bool.or_eq_true, beq_iff_eq] at h3'
                simp only [Bool.and_eq_true, beq_iff_eq, not_and] at h2'
                have za := F.two (top N e.A.toNat)
                have zb := F.two (top N e.B.toNat)
                have hcase : (lab t (top N e.A.toNat) = 1 ∧ lab t (top N e.B.toNat) = 0) ∨ (lab t (top N e.A.toNat) = 0 ∧ lab t (top N e.B.toNat) = 1) := by omega
                have h7 := heu e he hcase
                rw [e4] at h7
                exact .inr (.inl ⟨e, he, hcase, Option.some.inj h7⟩)
              · cases hc
      · right; right; right
        rw [List.mem_range'_1] at hk
        have hc := r4
        unfold candR at hc
        split at hc
        · rename_i h
          simp only [Bool.and_eq_true, Bool.not_eq_true', decide_eq_true_eq, beq_iff_eq] at h
          have tk : isTop N k := ⟨by omega, h.1.1, h.1.2⟩
          have h7 := hrr k hk.1 tk h.2
          rw [r4] at h7
          have h8 := Option.some.inj h7
          have h6 := (V.z k hk.1 tk.1 tk.2.1).2.2
          exact ⟨k, hk.1, tk, h.2, by omega⟩
        · cases hc
    · have := mem_freeL.2 ⟨tr, fr⟩
      rw [h] at this
      cases this
end
theorem mateOf_same {N N' : List Nd} (h : ∀ v, top N' v = top N v) (p : Nat) : ∀ M : List Lk, mateOf N' M p = mateOf N M p
  | [] => rfl
  | x :: r => by rw [mateOf, mateOf, h, h, mateOf_same h p r]
theorem isTop_alike {N N' : List Nd} (h : Alike N N') {p : Nat} : isTop N' p ↔ isTop N p := by
  unfold isTop
  rw [h.1, (h.2 p).2.2.2.2, h.up]
theorem fc_alike {s : Nat} {N N' : List Nd} (a : Alike N N') {p : Nat} (h : FC s N p) : FC s N' p := by
  induction h with
  | vtx p hp hb => exact FC.vtx p hp (by rw [(a.2 p).2.2.1]; exact hb)
  | rng p q hp hpl hg hq hb hw _ ih => exact FC.rng p q hp (by rw [a.1]; exact hpl) (by rw [(a.2 p).2.2.2.2]; exact hg) (by rw [(a.2 p).1]; exact hq) (by rw [(a.2 q).2.2.1, (a.2 p).2.2.1]; exact hb) (by rw [(a.2 p).2.2.1, win_same a.1 a.up]; exact hw) ih
theorem For.alike {s : Nat} {N N' : List Nd} {M : List Lk} {t : Tp} {rk : Nat → Nat} (F : For s N M t rk) (a : Alike N N') : For s N' M t rk := by
  have ht := a.top
  have hm := fun p => mateOf_same ht p M
  have hp : ∀ x, par N' t x = par N t x := fun x => ht _
  refine ⟨by rw [a.1]; exact F.l1, by rw [a.1]; exact F.l2, by rw [a.1]; exact F.l3, F.two, fun x h => (isTop_alike a).2 (F.tp x h), fun x h => ?_, fun x h h2 => ?_, fun x h h2 => ?_, F.root, fun x h h2 => ?_, F.rkb⟩
  · rw [hp, ht, hm]
    obtain ⟨g, mm, h1, h2⟩ := F.odd x h
    exact ⟨g, mm, h1, by rw [ht]; exact h2⟩
  · rw [hp, ht, hm]; exact F.evn x h h2
  · rw [hm]; exact F.rot x h h2
  · exact F.fre x ((isTop_alike a).1 h) (by rw [← hm]; exact h2)
theorem freeL_alike {N N' : List Nd} {M : List Lk} (a : Alike N N') : freeL N' M = freeL N M := by
  unfold freeL topsL
  rw [a.1]
  have e1 : isTopB N' = isTopB N := funext (isTopB_alike a)
  rw [e1]
  congr 1
  funext p
  rw [mateOf_same a.top p M]
theorem topsL_alike {N N' : List Nd} (a : Alike N N') : topsL N' = topsL N := by
  unfold topsL
  rw [a.1]
  have e1 : isTopB N' = isTopB N := funext (isTopB_alike a)
  rw [e1]
theorem outB_alike {s : Nat} {N N' : List Nd} (a : Alike N N') {Ev : Nat → Prop} {k : Nat} (h : outB s N' Ev k = true) : outB s N Ev k = true := by
  obtain ⟨h1, h2, v, h3, h4, h5⟩ := outB_iff.1 h
  exact outB_iff.2 ⟨h1, by rw [← (a.2 k).2.2.2.2]; exact h2, v, h3, by rw [← win_same a.1 a.up]; exact h4, h5⟩
theorem Cert.imp {T T' : Lk → Prop} {s : Nat} {N : List Nd} {M : List Lk} {r p0 k : Nat} {l m : Nat → Lk} (C : Cert T s N M r p0 k l m) (h : ∀ x, T x → T' x) : Cert T' s N M r p0 k l m :=
  ⟨C.free, C.low, fun i hi => ⟨(C.st i hi).1, (C.st i hi).2.1, h _ (C.st i hi).2.2⟩, C.mm, C.ds, C.sz⟩
section
variable {s : Nat} {Q : List EdgeI} {y : List Int} {N : List Nd} {M : List Lk} {D m d : Int} {t : Tp} {rk : Nat → Nat}
theorem StepIs.small (V : VI s Q y N M D m) (S : StepIs s Q y N t (m - D) d) : 0 ≤ d ∧ d ≤ 20000000 := by
  have := S.d0; have := S.dc; have := V.D0; have := V.mx
  omega
theorem ep_even {p : Nat} (h : lab t p = 1) : ep t d p = -d := by unfold ep; rw [if_pos h]
theorem ep_odd {p : Nat} (h : lab t p = 2) : ep t d p = d := by unfold ep; rw [if_neg (by omega), if_pos h]
theorem ep_none {p : Nat} (h : lab t p = 0) : ep t d p = 0 := by unfold ep; rw [if_neg (by omega), if_neg (by omega)]
theorem tight_adj (V : VI s Q y N M D m) (I : Inv s N M) (S : StepIs s Q y N t (m - D) d) {x : Lk} (h : Tight s Q y N x) (hz : top N x.f = top N x.t ∨ ep t d (top N x.f) + ep t d (top N x.t) = 0) : Tight s Q (yAd s y N t d) (nAd s N t d) x := by
  obtain ⟨e, he, h1, h2⟩ := h
  refine ⟨e, he, h1, ?_⟩
  rw [sl_adj I V.nums V.len (S.small V) he, h2]
  rcases hit_ends h1 with ⟨a, c⟩ | ⟨a, c⟩
  · rw [a, c]
    rcases hz with hz | hz
    · rw [if_pos hz]; rfl
    · split
      · rfl
      · omega
  · rw [a, c]
    rcases hz with hz | hz
    · rw [if_pos hz.symm]; rfl
    · split
      · rfl
      · omega
theorem mate_zero (I : Inv s N M) (F : For s N M t rk) {mm : Lk} (h : mm ∈ M ∨ mm.flip ∈ M) : ep t d (top N mm.f) + ep t d (top N mm.t) = 0 := by
  obtain ⟨h1, h2, h3⟩ := mate_labels I F (mate_of I.mat h)
  have := F.two (top N mm.f)
  rcases Nat.lt_trichotomy (lab t (top N mm.f)) 1 with g | g | g
  · rw [ep_none (by omega), ep_none (h3 (by omega))]; rfl
  · rw [ep_even g, ep_odd (h1 g)]; omega
  · rw [ep_odd (by omega), ep_even (h2 (by omega))]; omega
theorem at_adj (V : VI s Q y N M D m) (I : Inv s N M) (F : For s N M t rk) (hA : AT (Tight s Q y N) t) (S : StepIs s Q y N t (m - D) d) : AT (Tight s Q (yAd s y N t d) (nAd s N t d)) t := fun x hx hr => by
  refine tight_adj V I S (hA x hx hr) (.inr ?_)
  have h2 := F.two x
  by_cases h1 : lab t x = 1
  · obtain ⟨g1, _, _, _, g5, _⟩ := F.evn x h1 hr
    rw [g5, ep_even h1, show top N (ahd t x).f = par N t x from rfl, ep_odd g1]; omega
  · obtain ⟨⟨g1, _, _, _, g5, _⟩, _⟩ := F.odd x (by omega)
    rw [g5, ep_odd (show lab t x = 2 by omega), show top N (ahd t x).f = par N t x from rfl, ep_even g1]; omega
theorem VI.adj (V : VI s Q y N M D m) (I : Inv s N M) (F : For s N M t rk) (S : StepIs s Q y N t (m - D) d) : VI s Q (yAd s y N t d) (nAd s N t d) M (D + d) m := by
  have hge := I.ge
  have hd := S.small V
  have ha := nAd_alike (t := t) (d := d) hge
  have hn := V.nums
  refine ⟨by have := V.D0; omega, by have := S.dc; omega, V.mx, ?_, fun v hv => ?_, fun k h1 h2 h3 => ?_, fun p tp fp => ?_, fun e he => ?_, ⟨fun x hx => ?_, fun k h1 h2 h3 x hx => ?_⟩, fun k h1 h2 h3 => ?_, by rw [ha.1]; exact V.nl, V.qb⟩
  · unfold yAd; rw [adjY_length]; exact V.len
  · rw [yAd_get hn V.len hd v hv]
    obtain ⟨a1, a2⟩ := V.lo v hv
    unfold ep
    split
    · omega
    · split <;> omega
  · rw [ha.1] at h2
    rw [(ha.2 k).2.2.2.2] at h3
    obtain ⟨a1, a2, a3⟩ := V.z k h1 h2 h3
    rw [nAd_z hn hd k h1 h2]
    split
    · rename_i ht
      have tk : isTop N k := ⟨h2, (isTopB_iff.1 ht).1, (isTopB_iff.1 ht).2⟩
      have h5 := F.two k
      rcases Nat.lt_trichotomy (lab t k) 1 with g | g | g
      · rw [ep_none (by omega)]; omega
      · rw [ep_even g]; omega
      · rw [ep_odd (by omega)]
        have := S.rr k h1 tk (by omega)
        omega
    · omega
  · have tN := (isTop_alike ha).1 tp
    rw [mateOf_same ha.top] at fp
    obtain ⟨g1, g2⟩ := V.fre p tN fp
    obtain ⟨w1, w2⟩ := fc_win I g2
    rw [(ha.2 p).2.2.1, yAd_get hn V.len hd _ w2, win_is_top I.ups (by omega) tN.2.2 w1, ep_even (F.fre p tN fp)]
    exact ⟨by omega, fc_alike ha g2⟩
  · rw [sl_adj I hn V.len hd he]
    have h0 := V.edge e he
    split
    · omega
    · rename_i hne
      have h5 := F.two (top N e.A.toNat)
      have h6 := F.two (top N e.B.toNat)
      rcases Nat.lt_trichotomy (lab t (top N e.A.toNat)) 1 with g | g | g
      · rcases Nat.lt_trichotomy (lab t (top N e.B.toNat)) 1 with k | k | k
        · rw [ep_none (by omega), ep_none (by omega)]; omega
        · have := S.eu e he (.inr ⟨by omega, k⟩)
          rw [ep_none (by omega), ep_even k]; omega
        · rw [ep_none (by omega), ep_odd (by omega)]; omega
      · rcases Nat.lt_trichotomy (lab t (top N e.B.toNat)) 1 with k | k | k
        · have := S.eu e he (.inl ⟨g, by omega⟩)
          rw [ep_even g, ep_none (by omega)]; omega
        · have := S.ee e he hne g k
          rw [ep_even g, ep_even k]; omega
        · rw [ep_even g, ep_odd (by omega)]; omega
      · rcases Nat.lt_trichotomy (lab t (top N e.B.toNat)) 1 with k | k | k
        · rw [ep_odd (by omega), ep_none (by omega)]; omega
        · rw [ep_odd (by omega), ep_even k]; omega
        · rw [ep_odd (by omega), ep_odd (by omega)]; omega
  · exact tight_adj V I S (V.lt.mates x hx) (.inr (mate_zero I F (.inl hx)))
  · rw [ha.1] at h2
    rw [(ha.2 k).2.2.2.2] at h3
    rw [(ha.2 k).2.1] at hx
    refine tight_adj V I S (V.lt.links k h1 h2 h3 x hx) (.inl ?_)
    have R := I.rings k h1 h2 h3
    obtain ⟨i, hi, rfl⟩ := List.getElem_of_mem hx
    have hir : i < (nd N k).ring.length := by rw [← R.len]; exact hi
    have hpos : 0 < (nd N k).ring.length := by omega
    obtain ⟨w1, w2, f1, f2⟩ := R.lk i hi hir (Nat.mod_lt _ hpos)
    have hup : ∀ q ∈ (nd N k).ring, ∀ v, v < s → win N v q = true → top N v = top N k := fun q hq v hv hw => by
      obtain ⟨m1, m2⟩ := R.mem q hq
      exact top_of_win I.ups v (by omega) (win_trans I.ups (win_of_up I.ups (by omega) m2) v (by omega) hw)
    rw [hup _ (List.getElem_mem _) _ f1 w1, hup _ (List.getElem_mem _) _ f2 w2]
  · rw [ha.1] at h2
    rw [(ha.2 k).2.2.2.2] at h3
    rw [(ha.2 k).1]; exact V.big k h1 h2 h3
end
section
variable {T : Lk → Prop} {s : Nat} {Q : List EdgeI} {y : List Int} {N : List Nd} {M : List Lk} {D m d : Int} {t : Tp} {rk : Nat → Nat} {L : List Nat} {b j : Nat} {x : Nd}
def Prom (T : Lk → Prop) (s : Nat) (N : List Nd) (M : List Lk) (Ev : Nat → Prop) (r : Nat) : Prop :=
  (∃ v, v < s ∧ ¬ Ev v ∧ HasC T s N M r v) ∨ ∃ x : Lk, T x ∧ x.f < s ∧ x.t < s ∧ top N x.f ≠ top N x.t ∧ mateOf N M (top N x.f) = none ∧ mateOf N M (top N x.t) = none
theorem prom_ext {r p0 k : Nat} {l mm : Nat → Lk} (C : Cert T s N M r p0 k l mm) {u w : Nat} (hu : u < s) (hw : w < s) (he : top N (pl p0 mm k) = top N u) (hT : T ⟨u, w⟩) {m0 : Lk} (hm : mateOf N M (top N w) = some m0) (hd : ∀ i, i < k → top N (mm i).t ≠ top N w) (I : Inv s N M) : HasC T s N M r m0.t := by
  obtain ⟨h1, h2⟩ := mate_some hm
  obtain ⟨f1, f2⟩ := kept_low I h2
  obtain ⟨C', hp, hp1⟩ := C.more ⟨u, w⟩ m0 he.symm (by rw [h1]) hT (by rw [h1]; exact hm) (fun i hi e => hd i hi (by rw [← e, h1])) ⟨hu, hw, f1, f2⟩
  exact ⟨p0, k + 1, _, _, C', by rw [hp1]⟩
theorem cert_root (I : Inv s N M) (F : For s N M t rk) (r : Nat) {x : Nat} (hx : lab t x = 1) (hr : rt t x = x) : ∃ v, v < s ∧ top N v = x ∧ Cert T s N M r v 0 (fun _ => ⟨0, 0⟩) (fun _ => ⟨0, 0⟩) := by
  have htx := F.tp x (by omega)
  obtain ⟨v, hv, hw⟩ := has_vertex I x x (Nat.le_refl _) htx.1 htx.2.1
  have hv' : top N v = x := win_is_top I.ups (by have := I.ge; omega) htx.2.2 hw
  exact ⟨v, hv, hv', ⟨by rw [hv']; exact F.rot x hx hr, hv, fun i hi => by omega, fun i hi => by omega, fun i j _ hj => by omega, fun i hi => by omega⟩⟩
theorem prom_ee (I : Inv s N M) (F : For s N M t rk) (hA : AT T t) (hfl : ∀ x, T x → T x.flip) (r : Nat) {u w : Nat} (hu : u < s) (hw : w < s) (hne : top N u ≠ top N w) (lu : lab t (top N u) = 1) (lw : lab t (top N w) = 1) (hT : T ⟨u, w⟩) : Prom T s N M (fun v => lab t (top N v) = 1) r := by
  have main : ∀ u w, u < s → w < s → top N u ≠ top N w → lab t (top N u) = 1 → lab t (top N w) = 1 → T ⟨u, w⟩ → rt t (top N w) ≠ top N w → (rk (top N u) ≤ rk (top N w) ∨ rt t (top N u) = top N u) → Prom T s N M (fun v => lab t (top N v) = 1) r := by
    intro u w hu hw hne lu lw hT hrw hc
    obtain ⟨g1, g2, g3, g4, g5, _⟩ := F.evn _ lw hrw
    have hm := mate_flip I.mat g4
    rw [g5] at hm
    obtain ⟨_, h2⟩ := mate_some hm
    have hlab : ¬ lab t (top N (ahd t (top N w)).flip.t) = 1 := by
      show ¬ lab t (par N t (top N w)) = 1
      omega
    rcases hc with hc | hc
    · obtain ⟨p0, k, l, mm, C, e, hl, _⟩ := cert_of_even I F hA r (top N u) lu
      refine .inl ⟨(ahd t (top N w)).flip.t, (kept_low I h2).2, hlab, prom_ext C hu hw e hT hm (fun i hi h => ?_) I⟩
      have h5 := hl (i + 1) (by omega)
      have h6 : top N (pl p0 mm (i + 1)) = top N w := h
      rw [h6] at h5
      by_cases hik : i + 1 = k
      · rw [hik, e] at h6; exact hne h6
      · have := h5.2.2 (by omega)
        omega
    · obtain ⟨v, hv, hvx, C⟩ := cert_root (T := T) I F r lu hc
      exact .inl ⟨(ahd t (top N w)).flip.t, (kept_low I h2).2, hlab, prom_ext C hu hw hvx hT hm (fun i hi => by omega) I⟩
  by_cases ru : rt t (top N u) = top N u
  · by_cases rw_ : rt t (top N w) = top N w
    · exact .inr ⟨⟨u, w⟩, hT, hu, hw, hne, F.rot _ lu ru, F.rot _ lw rw_⟩
    · exact main u w hu hw hne lu lw hT rw_ (.inr ru)
  · by_cases rw_ : rt t (top N w) = top N w
    · exact main w u hw hu hne.symm lw lu (hfl _ hT) ru (.inr rw_)
    · rcases Nat.le_total (rk (top N u)) (rk (top N w)) with h | h
      · exact main u w hu hw hne lu lw hT rw_ (.inl h)
      · exact main w u hw hu hne.symm lw lu (hfl _ hT) ru (.inl h)
theorem prom_eu (I : Inv s N M) (F : For s N M t rk) (hA : AT T t) (r : Nat) {u w : Nat} (hu : u < s) (hw : w < s) (lu : lab t (top N u) = 1) (lw : lab t (top N w) = 0) (hT : T ⟨u, w⟩) : Prom T s N M (fun v => lab t (top N v) = 1) r := by
  obtain ⟨m0, hm⟩ := bare_mate F (top_is I hw) lw
  obtain ⟨h1, h2⟩ := mate_some hm
  obtain ⟨p0, k, l, mm, C, e, hl, _⟩ := cert_of_even I F hA r (top N u) lu
  have h3 := mate_bare I F lw hm
  refine .inl ⟨m0.t, (kept_low I h2).2, by omega, prom_ext C hu hw e hT hm (fun i hi h => ?_) I⟩
  have h5 := (hl (i + 1) (by omega)).1
  have h6 : top N (pl p0 mm (i + 1)) = top N w := h
  rw [h6] at h5
  omega
/-- What is remembered. -/
structure Gh (T : Lk → Prop) (s : Nat) (N : List Nd) (M : List Lk) (Ev : Nat → Prop) (n1 : Nat) (κ : Bool) : Prop where
  n0 : 1 ≤ n1
  nl : n1 ≤ N.length
  hist : ∀ q, n1 ≤ q → isTop N q → ∃ p0 k l mm, Cert T s N M q p0 k l mm ∧ top N (pl p0 mm k) = q
  has : ∀ v, v < s → Ev v → HasC T s N M (n1 - 1) v
  prom : κ = false → Prom T s N M Ev (n1 - 1)
theorem Gh.shrink {Ev : Nat → Prop} {n1 : Nat} {κ : Bool} (G : Gh T s N M Ev n1 κ) (I : Inv s N M) (F : For s N M t rk) (hA : AT T t) (R : RingS N M t rk L b) (hx : x.up = -1) (I' : Inv s (shrinkN N L x) (keepM N L M)) : Gh T s (shrinkN N L x) (keepM N L M) Ev n1 κ := by
  have h1 := G.n0
  have h2 := G.nl
  refine ⟨h1, by rw [shrink_length]; omega, hist_shrink I F hA R hx I' G.hist, fun v hv he => has_shrink I R hx I' hv (by omega) (G.has v hv he), fun hk => ?_⟩
  rcases G.prom hk with ⟨v, hv, hE, hc⟩ | ⟨e, h3, h4, h5, h6, h7, h8⟩
  · exact .inl ⟨v, hv, hE, has_shrink I R hx I' hv (by omega) hc⟩
  · exact .inr ⟨e, h3, h4, h5, sh_two I R hx h4 h5 h7 h8 h6, sh_free I R hx h4 h7, sh_free I R hx h5 h8⟩
theorem Gh.imp {T' : Lk → Prop} {Ev : Nat → Prop} {n1 : Nat} {κ : Bool} (G : Gh T s N M Ev n1 κ) (h : ∀ x, T x → T' x) : Gh T' s N M Ev n1 κ := by
  have hc : ∀ r v, HasC T s N M r v → HasC T' s N M r v := fun r v ⟨p0, k, l, mm, C, e⟩ => ⟨p0, k, l, mm, C.imp h, e⟩
  refine ⟨G.n0, G.nl, fun q h1 h2 => ?_, fun v hv he => hc _ _ (G.has v hv he), fun hk => ?_⟩
  · obtain ⟨p0, k, l, mm, C, e⟩ := G.hist q h1 h2
    exact ⟨p0, k, l, mm, C.imp h, e⟩
  · rcases G.prom hk with ⟨v, hv, hE, h3⟩ | ⟨e, h3, h4⟩
    · exact .inl ⟨v, hv, hE, hc _ _ h3⟩
    · exact .inr ⟨e, h _ h3, h4⟩
open Classical in
noncomputable def evB (Ev : Nat → Prop) (v : Nat) : Bool := decide (Ev v)
theorem evB_iff {Ev : Nat → Prop} {v : Nat} : evB Ev v = true ↔ Ev v := by unfold evB; simp only [decide_eq_true_eq]
noncomputable def cntE (s : Nat) (Ev : Nat → Prop) : Nat := ((List.range s).filter (evB Ev)).length
theorem cntE_le {Ev Ev' : Nat → Prop} (h : ∀ v, v < s → Ev v → Ev' v) : cntE s Ev ≤ cntE s Ev' := by
  unfold cntE
  refine len_of_sub _ _ (List.nodup_range.filter _) (fun v hv => ?_)
  obtain ⟨h1, h2⟩ := List.mem_filter.1 hv
  exact List.mem_filter.2 ⟨h1, evB_iff.2 (h v (List.mem_range.1 h1) (evB_iff.1 h2))⟩
theorem cntE_lt {Ev Ev' : Nat → Prop} (h : ∀ v, v < s → Ev v → Ev' v) {v0 : Nat} (hv : v0 < s) (h1 : Ev' v0) (h2 : ¬ Ev v0) : cntE s Ev + 1 ≤ cntE s Ev' := by
  unfold cntE
  have := len_of_sub (v0 :: (List.range s).filter (evB Ev)) ((List.range s).filter (evB Ev')) (List.nodup_cons.2 ⟨fun hm => ?_, List.nodup_range.filter _⟩) (fun v hv' => ?_)
  · rw [List.length_cons] at this; exact this
  · exact h2 (evB_iff.1 (List.mem_filter.1 hm).2)
  · rcases List.mem_cons.1 hv' with rfl | hv'
    · exact List.mem_filter.2 ⟨List.mem_range.2 hv, evB_iff.2 h1⟩
    · obtain ⟨g1, g2⟩ := List.mem_filter.1 hv'
      exact List.mem_filter.2 ⟨g1, evB_iff.2 (h v (List.mem_range.1 g1) (evB_iff.1 g2))⟩
theorem cntE_few {Ev : Nat → Prop} : cntE s Ev ≤ s := by
  unfold cntE
  exact Nat.le_trans (List.length_filter_le _ _) (by rw [List.length_range]; exact Nat.le_refl _)
noncomputable def val (s : Nat) (N : List Nd) (M : List Lk) (Ev : Nat → Prop) (n1 : Nat) (κ : Bool) : Nat :=
  1000 * (freeL N M).length + 200 * rho s N Ev n1 + 20 * (s - cntE s Ev) + (if κ = true then 10 else 0) + (topsL N).length
theorem full_gh {Ev : Nat → Prop} {n1 : Nat} {κ : Bool} (G : Gh T s N M Ev n1 κ) (I : Inv s N M) (F : For s N M t rk) (hF : Full T s N t) : (∀ v, v < s → Ev v → lab t (top N v) = 1) ∧ (κ = false → ∃ v, v < s ∧ lab t (top N v) = 1 ∧ ¬ Ev v) ∧ ∀ k, k < N.length → outB s N (fun v => lab t (top N v) = 1) k = true → k < n1 ∧ outB s N Ev k = true := by
  have h1 : ∀ v, v < s → Ev v → lab t (top N v) = 1 := fun v hv he => has_even I F hF n1 G.n0 G.hist (G.has v hv he)
  refine ⟨h1, fun hk => ?_, fun k hk ho => ?_⟩
  · rcases G.prom hk with ⟨v, hv, hE, hc⟩ | ⟨e, h3, h4, h5, h6, h7, h8⟩
    · exact ⟨v, hv, has_even I F hF n1 G.n0 G.hist hc, hE⟩
    · exfalso
      have a1 := F.fre _ (top_is I h4) h7
      have a2 := F.fre _ (top_is I h5) h8
      have a3 := hF e h3 h4 h5 a1 h6
      omega
  · obtain ⟨g1, g2, v, hv, hw, hn⟩ := outB_iff.1 ho
    have hge := I.ge
    refine ⟨?_, outB_iff.2 ⟨g1, g2, v, hv, hw, fun he => hn (h1 v hv he)⟩⟩
    rcases Nat.lt_or_ge k n1 with h | h
    · exact h
    · exfalso
      have htop := top_spec I.ups k hk
      have hal := I.alive k hk g2
      have htk : isTop N (top N k) := ⟨htop.1, hal, htop.2.1⟩
      have hvk : top N v = top N k := top_of_win I.ups v (by omega) hw
      obtain ⟨p0, k', l, mm, C, e⟩ := G.hist (top N k) (by omega) htk
      have := cert_even I F hF (fun R' hR' => rings_even I F hF n1 G.hist R' (by omega)) C k' (Nat.le_refl _)
      rw [e, ← hvk] at this
      exact hn this
end
/-- What stands at the end. -/
structure Fin' (s : Nat) (Q : List EdgeI) (m : Int) (x : St) : Prop where
  done : x.2.2.2 = true
  inv : Inv s x.2.1 x.2.2.1
  num : ∃ D, VI s Q x.1 x.2.1 x.2.2.1 D m ∧ (freeL x.2.1 x.2.2.1 = [] ∨ D = m)
section
variable {s : Nat} {Q : List EdgeI} {m : Int}
theorem gh_new {T : Lk → Prop} {N : List Nd} {M : List Lk} (h1 : 1 ≤ N.length) : Gh T s N M (fun _ => False) N.length true :=
  ⟨h1, Nat.le_refl _, fun q hq ht => by have := ht.1; omega, fun v _ h => h.elim, fun h => by cases h⟩
theorem shrink_out {N : List Nd} {M : List Lk} {t : Tp} {rk : Nat → Nat} {L : List Nat} {b : Nat} {x : Nd} (I : Inv s N M) (R : RingS N M t rk L b) (hx : x.up = -1) {Ev : Nat → Prop} {k : Nat} (hk : k < N.length) (h : outB s (shrinkN N L x) Ev k = true) : outB s N Ev k = true := by
  have hge := I.ge
  have hL' : ∀ v ∈ L, v < N.length := fun v hv => (R.tops' v hv).1
  obtain ⟨h1, h2, v, h3, h4, h5⟩ := outB_iff.1 h
  have hn : (nd (shrinkN N L x) k).gone = (nd N k).gone := by
    rw [shrink_nd hL', if_neg (by omega)]
    split <;> rfl
  exact outB_iff.2 ⟨h1, by rw [← hn]; exact h2, v, h3, by rw [← shrink_win_eq I.ups R.tops' hx (by omega) v (by omega)]; exact h4, h5⟩
theorem open_outB {N : List Nd} {M : List Lk} {j : Nat} (I : Inv s N M) (hs : s ≤ j) (hj : j < N.length) (ha : (nd N j).gone = false) (hjt : upA N j < 0) {Ev : Nat → Prop} {k : Nat} (h : outB s (openN N j) Ev k = true) : k ≠ j ∧ outB s N Ev k = true := by
  have hge := I.ge
  have R := I.rings j hs hj ha
  have hL' : ∀ v ∈ (nd N j).ring, v < j := fun v hv => (R.mem v hv).1
  obtain ⟨h1, h2, v, h3, h4, h5⟩ := outB_iff.1 h
  have hkj : k ≠ j := fun e => by rw [e, open_nd hj hL', if_pos rfl] at h2; cases h2
  have hn : (nd (openN N j) k).gone = (nd N k).gone := by
    rw [open_nd hj hL', if_neg hkj]
    split <;> rfl
  exact ⟨hkj, outB_iff.2 ⟨h1, by rw [← hn]; exact h2, v, h3, by rw [← open_win_eq I.ups hj hjt R.mem hkj v (by omega)]; exact h4, h5⟩⟩
theorem run_ends (hs9 : s ≤ 9) (hs1 : 1 ≤ s) : ∀ (n : Nat) (y : List Int) (N : List Nd) (M : List Lk) (D : Int) (Ev : Nat → Prop) (n1 : Nat) (κ : Bool), Inv s N M → VI s Q y N M D m → Gh (Tight s Q y N) s N M Ev n1 κ → val s N M Ev n1 κ ≤ n → N.length + n ≤ 30000 → ∀ f k, n < f → Fin' s Q m (runF s Q f k (y, N, M, false)).2 := by
  intro n
  induction n with
  | zero =>
    intro y N M D Ev n1 κ I V G hv _ f k _
    exfalso
    have h1 := mem_topsL.2 (top_is I (show 0 < s by omega))
    have h2 : 0 < (topsL N).length := List.length_pos_of_mem h1
    unfold val at hv
    omega
  | succ n ih =>
    intro y N M D Ev n1 κ I V G hv hN f k hf
    obtain ⟨f, rfl⟩ : ∃ f', f = f' + 1 := ⟨f - 1, by omega⟩
    rw [runF_next s Q f k _ rfl]
    have hge := I.ge
    have hQ : ∀ e ∈ Q, e.A.toNat < s ∧ e.B.toNat < s := fun e he => ⟨(V.qb e he).1.1, (V.qb e he).1.2.1⟩
    have LS := labels_spec (y := y) I hQ
    have LA := labels_at V I
    show Fin' s Q m (runF s Q f (k + 1) (rounded s Q y N M false)).2
    unfold rounded
    generalize labels s Q y N M = LL at LS LA
    obtain ⟨t, at'⟩ := LL
    simp only at LS LA
    obtain ⟨⟨rk, F⟩, hnone, hsome⟩ := LS
    cases at' with
    | some ie =>
      obtain ⟨i, e⟩ := ie
      obtain ⟨⟨hi, he'⟩, hg, hb⟩ := hsome i e rfl
      have he : e ∈ Q := by rw [← he']; exact List.getElem_mem _
      unfold both at hb
      simp only [Bool.and_eq_true, beq_iff_eq] at hb
      have hgg := hg
      unfold good at hgg
      simp only [Bool.not_eq_true', Bool.or_eq_false_iff, bne_eq_false_iff_eq, beq_eq_false_iff_ne] at hgg
      have hne : top N e.A.toNat ≠ top N e.B.toNat := hgg.1
      have hT : Tight s Q y N ⟨e.A.toNat, e.B.toNat⟩ := edge_tight V he (by rw [← slack_is V.nums he]; exact hgg.2.1)
      simp only
      by_cases hr : rt t (top N e.A.toNat) = rt t (top N e.B.toNat)
      · rw [if_pos hr]
        obtain ⟨L, x, b, eq, hx, hgo, hz, hring, hbase, R, hl⟩ := shrunk_is I F hb.1 hb.2 hr hne
        have I' := (shrunk_inv I F (hQ e he).1 (hQ e he).2 hb.1 hb.2 hr).1
        rw [eq] at I' ⊢
        simp only at I' ⊢
        have V' := V.shrink I R hx hgo hz hring hbase I' (hl _ (fun l h => tight_flip l h) LA hT) (by omega)
        have hsl : ∀ e ∈ Q, sl s y (shrinkN N L x) e = sl s y N e := fun e he => sl_shrink I R hx hz e (hQ e he).1 (hQ e he).2
        have G' := (G.shrink I F LA R hx I').imp (fun l h => (tight_sl hsl l).2 h)
        have a1 := freeL_shrink I R hx I'
        have a2 := topsL_shrink (x := x) R
        have a3 : rho s (shrinkN N L x) Ev n1 ≤ rho s N Ev n1 := rho_le (fun k hk ho => ⟨hk, shrink_out I R hx (by have := G.nl; omega) ho⟩)
        refine ih y _ _ D Ev n1 κ I' V' G' ?_ (by rw [shrink_length]; omega) f (k + 1) (by omega)
        unfold val at hv ⊢
        omega
      · rw [if_neg hr]
        obtain ⟨I', V', hlen, hfree⟩ := augmented_V V I F LA (hQ e he).1 (hQ e he).2 hT hb.1 hb.2 hr
        have b1 := rho_few I' V'.big (fun _ => False) _ (Nat.le_refl _)
        have b2 := topsL_few I'
        refine ih y _ _ D (fun _ => False) _ true I' V' (gh_new (by omega)) ?_ (by rw [hlen]; omega) f (k + 1) (by omega)
        unfold val at hv ⊢
        rw [if_pos rfl]
        omega
    | none =>
      simp only
      have hF := labels_full V (hnone rfl)
      obtain ⟨fg1, fg2, fg3⟩ := full_gh G I F hF
      have hcnt : cntE s Ev ≤ cntE s (fun v => lab t (top N v) = 1) := cntE_le fg1
      have hrho : rho s N (fun v => lab t (top N v) = 1) N.length ≤ rho s N Ev n1 := rho_le (fun k hk ho => fg3 k hk ho)
      have hcs := cntE_few (s := s) (Ev := fun v => lab t (top N v) = 1)
      unfold adjusted
      rcases step_is I V F LA with ⟨h1, h2⟩ | ⟨h1, S, h2⟩
      · rw [h1, if_pos (by decide), runF_done _ _ _ _ _ rfl]
        exact ⟨rfl, I, D, V, .inl h2⟩
      · have hd0 : ¬ stepD s Q y N t < 0 := by have := S.d0; omega
        rw [if_neg hd0]
        have ha := nAd_alike (t := t) (d := stepD s Q y N t) hge
        have I2 := I.alike ha
        have V2 := V.adj I F S
        have F2 := F.alike ha
        have A2 := at_adj V I F LA S
        have hn := V.nums
        have hdd := S.small V
        have hslA := fun e (he : e ∈ Q) => sl_adj (t := t) I hn V.len hdd he
        have hzA := fun k (h1 : s ≤ k) (h2 : k < N.length) => nAd_z (t := t) hn hdd k h1 h2
        have hfl := freeL_alike (M := M) ha
        have htl := topsL_alike ha
        have hY : yAd s y N t (stepD s Q y N t) = adjY N t (stepD s Q y N t) (List.range' 0 (s - 0)) y := rfl
        have hZ : nAd s N t (stepD s Q y N t) = adjZ t (stepD s Q y N t) (List.range' s (N.length - s)) N := rfl
        rw [← hY, ← hZ]
        generalize yAd s y N t (stepD s Q y N t) = y' at *
        generalize nAd s N t (stepD s Q y N t) = N' at *
        clear hY hZ
        generalize stepD s Q y N t = d at *
        by_cases hvd : (stepV s y N t == d) = true
        · rw [if_pos hvd, runF_done _ _ _ _ _ rfl]
          have : d = m - D := by rw [← h1]; exact (eq_of_beq hvd).symm
          exact ⟨rfl, I2, D + d, V2, .inr (by omega)⟩
        · rw [if_neg hvd]
          have hdc : d ≠ m - D := fun e => hvd (by rw [h1, e]; simp)
          have hll : t.label.length ≠ 0 := by rw [F.l1]; omega
          by_cases hop : 0 ≤ firstOf s N' t.label
          · rw [if_pos hop]
            obtain ⟨j, e, j1, j2, j3, j4⟩ := first_ring hop
            rw [e, Int.toNat_natCast]
            have hfz := first_z (N := N') (lb := t.label) (L := List.range' s (N'.length - s)) e
            have lj : lab t j = 2 := hfz.2.2.2.2.resolve_left hll
            have I3 := open_inv I2 j1 j2 j3 j4
            have V3 := V2.opened I2 j1 j2 j3 j4 hfz.2.2.2.1
            have hsl3 : ∀ e ∈ Q, sl s y' (openN N' j) e = sl s y' N' e := fun e he => sl_open I2 j1 j2 j3 j4 hfz.2.2.2.1 e (hQ e he).1 (hQ e he).2
            have hol : (openN N' j).length = N.length := by rw [open_length, ha.1]
            have G3 : Gh (Tight s Q y' (openN N' j)) s (openN N' j) (openM N' M j) (fun v => lab t (top N v) = 1) N.length true := by
              refine ⟨by omega, by omega, fun q hq ht => by have := ht.1; omega, fun v hv' hlv => ?_, fun h => by cases h⟩
              obtain ⟨p0, k', l, mm, C, e2, _⟩ := cert_open I3 I2 F2 A2 j1 j2 j3 j4 lj (V2.lt.links j j1 j2 j3) (fun x h => tight_flip x h) (N.length - 1) (top N v) hlv
              refine ⟨p0, k', l, mm, C.imp (fun x h => (tight_sl hsl3 x).2 h), ?_⟩
              rw [e2, open_out I2 j1 j2 j3 j4 hv' (by rw [ha.top]; intro h; rw [h] at hlv; omega), ha.top]
            have a1 := freeL_open V2 I2 j1 j2 j3 j4
            have a2 := topsL_few I3
            have a3 : rho s (openN N' j) (fun v => lab t (top N v) = 1) N.length + 1 ≤ rho s N (fun v => lab t (top N v) = 1) N.length := by
              refine rho_lt (j := j) (fun k hk ho => ?_) ?_
              · obtain ⟨o1, o2⟩ := open_outB I2 j1 j2 j3 j4 ho
                exact ⟨o1, hk, outB_alike ha o2⟩
              · have hjN : isTop N j := (isTop_alike ha).1 ⟨j2, j3, j4⟩
                obtain ⟨v, hv', hw⟩ := has_vertex I j j (Nat.le_refl _) hjN.1 hjN.2.1
                refine ⟨hjN.1, outB_iff.2 ⟨j1, hjN.2.1, v, hv', hw, ?_⟩⟩
                rw [win_is_top I.ups (by omega) hjN.2.2 hw]
                omega
            refine ih y' _ _ (D + d) (fun v => lab t (top N v) = 1) N.length true I3 V3 G3 ?_ (by omega) f (k + 1) (by omega)
            unfold val at hv ⊢
            rw [if_pos rfl]
            rw [hfl] at a1
            omega
          · rw [if_neg hop]
            have hS : (fun v => lab t (top N' v) = 1) = fun v => lab t (top N v) = 1 := funext (fun v => by rw [ha.top])
            have hl' := ha.1
            have hprom : Prom (Tight s Q y' N') s N' M (fun v => lab t (top N v) = 1) (N.length - 1) := by
              rw [← hS]
              rcases S.att with h | ⟨e, he, hne, la, lb, hsl⟩ | ⟨e, he, hcase, hsl⟩ | ⟨q, hq, tq, lq, hz⟩
              · exact absurd h hdc
              · have hT : Tight s Q y' N' ⟨e.A.toNat, e.B.toNat⟩ := edge_tight V2 he (by rw [hslA e he, if_neg hne, ep_even la, ep_even lb]; omega)
                exact prom_ee I2 F2 A2 (fun x h => tight_flip x h) _ (hQ e he).1 (hQ e he).2 (by rw [ha.top, ha.top]; exact hne) (by rw [ha.top]; exact la) (by rw [ha.top]; exact lb) hT
              · have hne : top N e.A.toNat ≠ top N e.B.toNat := fun h => by rw [h] at hcase; omega
                rcases hcase with ⟨la, lb⟩ | ⟨la, lb⟩
                · have hT : Tight s Q y' N' ⟨e.A.toNat, e.B.toNat⟩ := edge_tight V2 he (by rw [hslA e he, if_neg hne, ep_even la, ep_none lb]; omega)
                  exact prom_eu I2 F2 A2 _ (hQ e he).1 (hQ e he).2 (by rw [ha.top]; exact la) (by rw [ha.top]; exact lb) hT
                · have hT : Tight s Q y' N' ⟨e.A.toNat, e.B.toNat⟩ := edge_tight V2 he (by rw [hslA e he, if_neg hne, ep_none la, ep_even lb]; omega)
                  exact prom_eu I2 F2 A2 _ (hQ e he).2 (hQ e he).1 (by rw [ha.top]; exact lb) (by rw [ha.top]; exact la) (tight_flip _ hT)
              · exfalso
                have tq' := (isTop_alike ha).2 tq
                refine first_none (N := N') (lb := t.label) (L := List.range' s (N'.length - s)) hop q (by rw [List.mem_range'_1]; have := tq'.1; omega) tq'.2.1 tq'.2.2 ?_ (.inr lq)
                rw [hzA q hq tq.1, if_pos (isTopB_iff.2 ⟨tq.2.1, tq.2.2⟩), ep_odd lq]
                omega
            have G3 : Gh (Tight s Q y' N') s N' M (fun v => lab t (top N v) = 1) N.length false := by
              refine ⟨by omega, by omega, fun q hq ht => by have := ht.1; omega, fun v hv' hlv => ?_, fun _ => hprom⟩
              obtain ⟨p0, k', l, mm, C, e2, _⟩ := cert_of_even I2 F2 A2 (N.length - 1) (top N v) hlv
              exact ⟨p0, k', l, mm, C, by rw [e2, ha.top]⟩
            have a3 : rho s N' (fun v => lab t (top N v) = 1) N.length ≤ rho s N (fun v => lab t (top N v) = 1) N.length := rho_le (fun k hk ho => ⟨hk, outB_alike ha ho⟩)
            refine ih y' _ _ (D + d) (fun v => lab t (top N v) = 1) N.length false I2 V2 G3 ?_ (by omega) f (k + 1) (by omega)
            unfold val at hv ⊢
            rw [if_neg (by decide), hfl, htl]
            cases κ with
            | true => rw [if_pos rfl] at hv; omega
            | false =>
              rw [if_neg (by decide)] at hv
              obtain ⟨v, g1, g2, g3⟩ := fg2 rfl
              have := cntE_lt fg1 g1 g2 g3
              omega
end
theorem mostF_spec : ∀ (Q : List EdgeI) (m : Int), m ≤ mostF Q m ∧ (∀ e ∈ Q, scal e ≤ mostF Q m) ∧ (mostF Q m = m ∨ ∃ e ∈ Q, mostF Q m = scal e)
  | [], m => ⟨Int.le_refl _, fun e he => (by cases he), .inl rfl⟩
  | e :: r, m => by
    rw [mostF]
    obtain ⟨h1, h2, h3⟩ := mostF_spec r (if m < scal e then scal e else m)
    have a : m ≤ (if m < scal e then scal e else m) ∧ scal e ≤ (if m < scal e then scal e else m) ∧ ((if m < scal e then scal e else m) = m ∨ (if m < scal e then scal e else m) = scal e) := by
      split <;> omega
    refine ⟨by omega, fun x hx => ?_, ?_⟩
    · rcases List.mem_cons.1 hx with rfl | hx
      · omega
      · exact h2 x hx
    · rcases h3 with h3 | ⟨x, hx, h3⟩
      · rcases a.2.2 with g | g
        · exact .inl (by omega)
        · exact .inr ⟨e, List.mem_cons_self, by omega⟩
      · exact .inr ⟨x, List.mem_cons_of_mem _ hx, h3⟩
theorem edges_ok {n : Nat} {Q : List EdgeI} (hok : graphOk (n : Int) Q = true) : EdgesOk n Q := by
  intro e he
  have h := (graph_sound hok).2.2.1 e he
  have h1 := scal_range h
  obtain ⟨a, b, c, _⟩ := (edgeOk_iff _ e).1 h
  refine ⟨⟨by omega, by omega, by omega⟩, h1.1, by omega, a, by omega⟩
theorem rep_get (s v : Nat) (m : Int) (h : v < s) : (List.replicate s m).getD v 0 = m := by simp [h]
theorem start_vi {n : Nat} {Q : List EdgeI} (hok : graphOk (n : Int) Q = true) : VI n Q (List.replicate n (mostF Q 0)) (nodes0 n) [] 0 (mostF Q 0) := by
  have hE := edges_ok hok
  have h9 := (graph_sound hok).2.1
  obtain ⟨m1, m2, m3⟩ := mostF_spec Q 0
  have hl := nodes0_len n
  have hm : mostF Q 0 ≤ 5000000 := by
    rcases m3 with h | ⟨e, he, h⟩
    · omega
    · have := (hE e he).2.2.1; omega
  refine ⟨Int.le_refl _, m1, hm, by simp, fun v hv => by rw [rep_get n v _ hv]; omega, fun k h1 h2 => by omega, fun p tp _ => ?_, fun e he => ?_, ⟨fun x hx => (by cases hx), fun k h1 h2 => by omega⟩, fun k h1 h2 => by omega, by omega, hE⟩
  · have hp : p < n := by have := tp.1; omega
    have hb : (nd (nodes0 n) p).base = p := by rw [nodes0_nd, if_pos hp]
    rw [hb, rep_get n p _ hp]
    exact ⟨by omega, FC.vtx p hp hb⟩
  · have h := hE e he
    unfold sl ringsR
    rw [rep_get n _ _ h.1.1, rep_get n _ _ h.1.2.1, hl, Nat.sub_self]
    have := m2 e he
    show 0 ≤ mostF Q 0 + mostF Q 0 - 2 * scal e + 0
    omega
theorem solved_fin {n : Nat} {Q : List EdgeI} (hok : graphOk (n : Int) Q = true) (h1 : 1 ≤ n) : Fin' n Q (mostF Q 0) (solved n Q).2 := by
  have h9 := (graph_sound hok).2.1
  have hl := nodes0_len n
  have I := inv0 n
  have V := start_vi hok
  have G : Gh (Tight n Q (List.replicate n (mostF Q 0)) (nodes0 n)) n (nodes0 n) [] (fun _ => False) (nodes0 n).length true := gh_new (by omega)
  have b1 := freeL_few I
  have b2 := topsL_few I
  have b3 := rho_few I V.big (fun _ => False) _ (Nat.le_refl _)
  have b4 := cntE_few (s := n) (Ev := fun _ => False)
  refine run_ends (by omega) h1 19999 _ _ _ 0 _ _ true I V G ?_ (by omega) 20000 0 (by decide)
  unfold val
  rw [if_pos rfl]
  omega
end Sv
end Go.Proofs.Ytkjclkelnheheaa
