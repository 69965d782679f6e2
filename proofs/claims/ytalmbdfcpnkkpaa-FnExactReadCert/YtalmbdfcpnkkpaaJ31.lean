/-
  Texts of this claim, one behind the other: GrDual, GrAttain, GrRI0.
-/
import Derived.Test.YtalmbdfcpnkkpaaJ23
import Derived.Test.YtalmbdfcpnkkpaaJ30
import Derived.Test.YtalmbdfcpnkkpaaJ29

/-
  Whatever proof is accepted: no pairing has more than its sum, twice; one that it certifies has the most.
-/
namespace Go.Proofs.Ytalmbdfcpnkkpaa
namespace Gr
open Go.RowKit

/-- The vertices of couples. -/
def vertsM : List CoupleI → List Int
  | [] => []
  | x :: r => x.A :: x.B :: vertsM r

theorem mem_verts (z : Int) : ∀ (M : List CoupleI), z ∈ vertsM M ↔ ∃ x ∈ M, z = x.A ∨ z = x.B
  | [] => by simp [vertsM]
  | x :: r => by
    simp only [vertsM, List.mem_cons, mem_verts z r]
    constructor
    · rintro (h | h | ⟨y, hy, h⟩)
      · exact ⟨x, .inl rfl, .inl h⟩
      · exact ⟨x, .inl rfl, .inr h⟩
      · exact ⟨y, .inr hy, h⟩
    · rintro ⟨y, hy | hy, h⟩
      · subst hy
        rcases h with h | h
        · exact .inl h
        · exact .inr (.inl h)
      · exact .inr (.inr ⟨y, hy, h⟩)

theorem verts_length : ∀ (M : List CoupleI), (vertsM M).length = 2 * M.length
  | [] => rfl
  | x :: r => by simp only [vertsM, List.length_cons, verts_length r]; omega

theorem verts_nodup : ∀ (M : List CoupleI), M.Pairwise (fun x y => x.A < y.A ∧ y.A ≠ x.B ∧ y.B ≠ x.B) → (∀ x ∈ M, x.A < x.B) → (vertsM M).Nodup
  | [], _, _ => List.nodup_nil
  | x :: r, hp, hx => by
    rw [List.pairwise_cons] at hp
    have hxx := hx x List.mem_cons_self
    have ih := verts_nodup r hp.2 (fun y hy => hx y (List.mem_cons_of_mem _ hy))
    simp only [vertsM, List.nodup_cons, List.mem_cons, not_or]
    refine ⟨⟨by omega, fun h => ?_⟩, fun h => ?_, ih⟩
    · obtain ⟨y, hy, he⟩ := (mem_verts _ r).1 h
      have h1 := hp.1 y hy
      have h2 := hx y (List.mem_cons_of_mem _ hy)
      omega
    · obtain ⟨y, hy, he⟩ := (mem_verts _ r).1 h
      have h1 := hp.1 y hy
      omega

theorem nodup_len {α : Type} [BEq α] [LawfulBEq α] : ∀ (L M : List α), L.Nodup → (∀ x ∈ L, x ∈ M) → L.length ≤ M.length
  | [], _, _, _ => Nat.zero_le _
  | x :: r, M, hn, hs => by
    have hxM := hs x List.mem_cons_self
    rw [List.nodup_cons] at hn
    have h := nodup_len r (M.erase x) hn.2 (fun y hy => (List.mem_erase_of_ne (fun (e : y = x) => hn.1 (by rw [← e]; exact hy))).2 (hs y (List.mem_cons_of_mem _ hy)))
    have h2 := List.length_erase_of_mem hxM
    have h3 : 0 < M.length := List.length_pos_of_mem hxM
    rw [List.length_cons]
    omega

/-- The numbers of some vertices, together. -/
def ySumL (Y : List Int) : List Int → Int
  | [] => 0
  | z :: r => yAt Y z + ySumL Y r

theorem ySum_add : ∀ (Y : List Int) (n : Int), ySum n Y = n + ySum 0 Y
  | [], n => by simp [ySum]
  | y :: r, n => by
    show ySum (n + y) r = n + ySum (0 + y) r
    rw [ySum_add r (n + y), ySum_add r (0 + y)]
    omega

theorem ySum_set : ∀ (Y : List Int) (k : Nat) (h : k < Y.length), ySum 0 (Y.set k 0) = ySum 0 Y - Y[k]
  | [], _, h => by simp at h
  | y :: r, 0, _ => by
    show ySum (0 + 0) r = ySum (0 + y) r - y
    rw [ySum_add r (0 + 0), ySum_add r (0 + y)]
    omega
  | y :: r, k + 1, h => by
    show ySum (0 + y) (r.set k 0) = ySum (0 + y) r - r[k]'(by simpa using h)
    rw [ySum_add _ (0 + y), ySum_add r (0 + y), ySum_set r k (by simpa using h)]
    omega

theorem ySumL_congr {Y Y' : List Int} : ∀ (L : List Int), (∀ z ∈ L, yAt Y z = yAt Y' z) → ySumL Y L = ySumL Y' L
  | [], _ => rfl
  | z :: r, h => by
    unfold ySumL
    rw [h z List.mem_cons_self, ySumL_congr r (fun x hx => h x (List.mem_cons_of_mem _ hx))]

theorem ySumL_le : ∀ (L : List Int) (Y : List Int), L.Nodup → (∀ z ∈ L, 0 ≤ z ∧ z < (Y.length : Int)) → (∀ y ∈ Y, 0 ≤ y) → ySumL Y L ≤ ySum 0 Y
  | [], Y, _, _, hY => by
    have key : ∀ (Y : List Int) (n : Int), (∀ y ∈ Y, 0 ≤ y) → n ≤ ySum n Y := by
      intro Y
      induction Y with
      | nil => intro n _; simp [ySum]
      | cons y r ih =>
        intro n h
        have h1 := ih (n + y) (fun z hz => h z (List.mem_cons_of_mem _ hz))
        have h2 := h y List.mem_cons_self
        show n ≤ ySum (n + y) r
        omega
    exact key Y 0 hY
  | z :: r, Y, hn, hL, hY => by
    rw [List.nodup_cons] at hn
    obtain ⟨h0, h1⟩ := hL z List.mem_cons_self
    obtain ⟨k, rfl⟩ := Int.eq_ofNat_of_zero_le h0
    have hk : k < Y.length := by omega
    have e1 : ySumL Y r = ySumL (Y.set k 0) r := ySumL_congr r (fun x hx => by
      have hx0 := (hL x (List.mem_cons_of_mem _ hx)).1
      obtain ⟨j, rfl⟩ := Int.eq_ofNat_of_zero_le hx0
      have hne : k ≠ j := fun e => hn.1 (by rw [e]; exact hx)
      unfold yAt
      simp [List.getElem?_set_ne hne])
    have ih := ySumL_le r (Y.set k 0) hn.2 (fun x hx => by rw [List.length_set]; exact hL x (List.mem_cons_of_mem _ hx)) (fun y hy => by
      rcases List.mem_or_eq_of_mem_set hy with h | h
      · exact hY y h
      · rw [h]; exact Int.le_refl _)
    rw [ySum_set Y k hk] at ih
    have e2 : yAt Y (k : Int) = Y[k] := by unfold yAt; simp [hk]
    show yAt Y (k : Int) + ySumL Y r ≤ ySum 0 Y
    rw [e1, e2]
    omega

/-- z of the groups that have both ends. -/
def gAdd (x : CoupleI) : List GrpI → Int
  | [] => 0
  | q :: r => (if (inK q.M x.A && inK q.M x.B) = true then q.Z else 0) + gAdd x r

theorem slackG_add (e : EdgeI) (x : CoupleI) (hA : e.A = x.A) (hB : e.B = x.B) : ∀ (G : List GrpI) (n : Int), slackG e n G = n + gAdd x G
  | [], n => by unfold slackG gAdd; omega
  | q :: r, n => by
    unfold slackG gAdd
    rw [slackG_add e x hA hB r, hA, hB]
    split <;> omega

def gAll : List CoupleI → List GrpI → Int
  | [], _ => 0
  | x :: r, G => gAdd x G + gAll r G

/-- How many couples lie in a group. -/
def cntG (q : GrpI) : List CoupleI → Nat
  | [] => 0
  | x :: r => (if (inK q.M x.A && inK q.M x.B) = true then 1 else 0) + cntG q r

theorem gAll_cons (q : GrpI) (G : List GrpI) : ∀ (M : List CoupleI), gAll M (q :: G) = q.Z * (cntG q M : Int) + gAll M G
  | [] => by simp [gAll, cntG]
  | x :: r => by
    simp only [gAll, cntG, gAdd]
    rw [gAll_cons q G r]
    split
    · rw [Int.natCast_add, Int.mul_add]
      simp only [Int.natCast_one, Int.mul_one]
      omega
    · simp only [Nat.zero_add]
      omega

theorem gAll_nil : ∀ (M : List CoupleI), gAll M [] = 0
  | [] => rfl
  | x :: r => by simp only [gAll, gAdd, gAll_nil r]; rfl

theorem cntG_is (q : GrpI) : ∀ (M : List CoupleI), cntG q M = (M.filter fun x => inK q.M x.A && inK q.M x.B).length
  | [] => rfl
  | x :: r => by
    simp only [cntG, List.filter_cons]
    rw [cntG_is q r]
    split
    · rw [List.length_cons]; omega
    · omega

theorem cntG_le (q : GrpI) (M : List CoupleI) (hp : M.Pairwise (fun x y => x.A < y.A ∧ y.A ≠ x.B ∧ y.B ≠ x.B)) (hx : ∀ x ∈ M, x.A < x.B) : cntG q M ≤ q.M.length / 2 := by
  rw [cntG_is]
  have h := nodup_len (vertsM (M.filter fun x => inK q.M x.A && inK q.M x.B)) q.M (verts_nodup _ (hp.filter _) (fun x hxm => hx x (List.mem_filter.1 hxm).1)) (fun z hz => by
    obtain ⟨x, hxm, he⟩ := (mem_verts z _).1 hz
    have hb := (List.mem_filter.1 hxm).2
    rw [Bool.and_eq_true] at hb
    unfold inK at hb
    rcases he with rfl | rfl
    · simpa using hb.1
    · simpa using hb.2)
  rw [verts_length] at h
  omega

theorem gSum_add : ∀ (G : List GrpI) (n : Int), gSum n G = n + gSum 0 G
  | [], n => by simp [gSum]
  | q :: r, n => by
    show gSum (n + q.Z * ((q.M.length / 2 : Nat) : Int)) r = n + gSum (0 + q.Z * ((q.M.length / 2 : Nat) : Int)) r
    rw [gSum_add r (n + _), gSum_add r (0 + _)]
    omega

theorem gAll_le (M : List CoupleI) (hp : M.Pairwise (fun x y => x.A < y.A ∧ y.A ≠ x.B ∧ y.B ≠ x.B)) (hx : ∀ x ∈ M, x.A < x.B) : ∀ (G : List GrpI), (∀ q ∈ G, 0 ≤ q.Z) → gAll M G ≤ gSum 0 G
  | [], _ => by rw [gAll_nil]; simp [gSum]
  | q :: r, h => by
    have ih := gAll_le M hp hx r (fun x hxm => h x (List.mem_cons_of_mem _ hxm))
    have h0 := h q List.mem_cons_self
    have h1 := cntG_le q M hp hx
    rw [gAll_cons]
    show _ ≤ gSum (0 + q.Z * ((q.M.length / 2 : Nat) : Int)) r
    rw [gSum_add r (0 + _)]
    have h2 : q.Z * (cntG q M : Int) ≤ q.Z * ((q.M.length / 2 : Nat) : Int) := Int.mul_le_mul_of_nonneg_left (by omega) h0
    omega

/-- The edge of a couple. -/
def eOf (Q : List EdgeI) (x : CoupleI) : EdgeI := edgeN Q (atFrom x.A x.B 0 Q)

def scM (Q : List EdgeI) : List CoupleI → Int
  | [] => 0
  | x :: r => scal (eOf Q x) + scM Q r

theorem wsum_scM {s : Int} {Q : List EdgeI} (hg : graphOk s Q = true) : ∀ (L : List CoupleI) (t : SumsI) (n : Int), SB t n → 0 ≤ n → n + (L.length : Int) ≤ 9 → (∀ x ∈ L, 0 ≤ atFrom x.A x.B 0 Q) → wsum (sumsFrom Q t L) = wsum t + scM Q L
  | [], t, n, _, _, _, _ => by simp [sumsFrom, scM]
  | x :: r, t, n, ht, h0, h9, hx => by
    rw [List.length_cons] at h9
    have hok := edgeN_ok hg (hx x List.mem_cons_self)
    have h1 := (wsum_add ht (by omega) hok).1
    have ih := wsum_scM hg r (addS t (edgeN Q (atFrom x.A x.B 0 Q))) (n + 1) (ht.add hok) (by omega) (by omega) (fun y hy => hx y (List.mem_cons_of_mem _ hy))
    show wsum (sumsFrom Q (addS t (edgeN Q (atFrom x.A x.B 0 Q))) r) = wsum t + (scal (eOf Q x) + scM Q r)
    rw [ih, h1]
    unfold eOf
    omega

theorem slacks_at (Y : List Int) (G : List GrpI) : ∀ (Q : List EdgeI), slacksOk Y G Q = true → ∀ e ∈ Q, 0 ≤ slackI Y G e
  | [], _, e, he => by simp at he
  | x :: r, h, e, he => by
    unfold slacksOk at h
    rw [Bool.and_eq_true, decide_eq_true_eq] at h
    rcases List.mem_cons.1 he with rfl | he
    · exact h.1
    · exact slacks_at Y G r h.2 e he

/-- No pairing has more than a proof's sum, twice. -/
theorem dual {s : Int} {Q : List EdgeI} {Y : List Int} {G : List GrpI} {M : List CoupleI} (hp : proofOk s Q Y G = true) (hm : matchOk s Q M = true) : 2 * wsum (sums Q M) ≤ sumI Y G := by
  obtain ⟨hg, hYs, h9, h8, hY, hq⟩ := proof_sound hp
  obtain ⟨_, hM9, hmf⟩ := match_sound hm
  obtain ⟨hx, hpw, _⟩ := match_pm hg M none [] hmf
  have hsl : slacksOk Y G Q = true := by
    unfold proofOk at hp
    simp only [Bool.and_eq_true] at hp
    exact hp.2.2.2.2.2
  have hw : wsum (sums Q M) = scM Q M := by
    have h := wsum_scM hg M ⟨0, 0, 0⟩ 0 (SB.zero _ (by omega)) (by omega) (by omega) (fun x h => (hx x h).2.2.2.1)
    show wsum (sumsFrom Q ⟨0, 0, 0⟩ M) = _
    rw [h]
    simp [wsum]
  have hone : ∀ x ∈ M, 2 * scal (eOf Q x) ≤ yAt Y x.A + yAt Y x.B + gAdd x G := fun x hxm => by
    obtain ⟨a0, a1, a2, a3, _⟩ := hx x hxm
    obtain ⟨i, hi, _, e2, hh⟩ := edgeN_at a3
    have hmem : eOf Q x ∈ Q := by unfold eOf; rw [e2]; exact List.getElem_mem hi
    have hs := slacks_at Y G Q hsl _ hmem
    have hek := (edgeOk_iff s _).1 ((graph_sound hg).2.2.1 _ hmem)
    have hab : (eOf Q x).A = x.A ∧ (eOf Q x).B = x.B := by
      unfold eOf at hek ⊢
      rw [e2] at hek ⊢
      unfold hit at hh
      simp at hh
      omega
    unfold slackI at hs
    rw [slackG_add _ x hab.1 hab.2, hab.1, hab.2] at hs
    omega
  have hsum : ∀ (L : List CoupleI), (∀ x ∈ L, x ∈ M) → 2 * scM Q L ≤ ySumL Y (vertsM L) + gAll L G := by
    intro L
    induction L with
    | nil => intro _; simp [scM, vertsM, ySumL, gAll]
    | cons x r ih =>
      intro h
      have h1 := ih (fun y hy => h y (List.mem_cons_of_mem _ hy))
      have h2 := hone x (h x List.mem_cons_self)
      simp only [scM, vertsM, ySumL, gAll]
      omega
  have h1 := hsum M (fun _ h => h)
  have hlt : ∀ x ∈ M, x.A < x.B := fun x h => (hx x h).2.1
  have h2 := ySumL_le (vertsM M) Y (verts_nodup M hpw hlt) (fun z hz => by
    obtain ⟨x, hxm, he⟩ := (mem_verts z M).1 hz
    obtain ⟨a0, a1, a2, _⟩ := hx x hxm
    rcases he with rfl | rfl <;> omega) (fun y hy => (hY y hy).1)
  have h3 := gAll_le M hpw hlt G (fun q hqm => by have := ((grpHead_iff s q).1 (hq q hqm)).2.2.2.1; omega)
  have h4 : sumI Y G = ySum 0 Y + gSum 0 G := by
    unfold sumI
    rw [gSum_add]
  rw [hw, h4]
  omega

/-- A pairing that is certified has the most, by Scalars. -/
theorem certified_top {s : Int} {Q : List EdgeI} {Y : List Int} {G : List GrpI} {M N : List CoupleI} (hc : certR s Q M Y G = true) (hn : matchOk s Q N = true) : wsum (sums Q N) ≤ wsum (sums Q M) := by
  unfold certR at hc
  simp only [Bool.and_eq_true, decide_eq_true_eq] at hc
  have := dual hc.1 hn
  omega
end Gr
end Go.Proofs.Ytalmbdfcpnkkpaa

/-
  The best sums are those of a pairing; so no accepted proof tells less than the best, and a pairing that is certified has the best worth.
-/
namespace Go.Proofs.Ytalmbdfcpnkkpaa
namespace Gr
open Go.RowKit

theorem inK_snoc_parts {U : List Int} {x y : Int} (h : inK (U ++ [x]) y = false) : inK U y = false ∧ y ≠ x := by
  unfold inK at *
  simp at h ⊢
  exact h

theorem bloop_has (Q : List EdgeI) (s : Int) (n : Nat) (U : List Int) (hu : inK U (s - ((n + 1 : Nat) : Int)) = false) (ih : ∀ V, ∃ M, Pm Q s n V M ∧ sums Q M = (best Q s n V).1) :
    ∀ (m : Nat) (b : Int) (acc : SumsI × Int), b + (m : Int) = s → s - (n : Int) ≤ b → (∃ M, Pm Q s (n + 1) U M ∧ sums Q M = acc.1) → ∃ M, Pm Q s (n + 1) U M ∧ sums Q M = (bloop Q (s - ((n + 1 : Nat) : Int)) U (fun V => best Q s n V) m b acc).1
  | 0, _, acc, _, _, h => h
  | m + 1, b, acc, hb, hb0, h => by
    show ∃ M, Pm Q s (n + 1) U M ∧ sums Q M = (bloop Q (s - ((n + 1 : Nat) : Int)) U (fun V => best Q s n V) m (b + 1) (bstep Q (s - ((n + 1 : Nat) : Int)) U (fun V => best Q s n V) acc b)).1
    refine bloop_has Q s n U hu ih m (b + 1) _ (by omega) (by omega) ?_
    unfold bstep
    split
    · exact h
    · rename_i hc
      simp only
      split
      · obtain ⟨M0, hM0, hs0⟩ := ih (U ++ [b])
        have h0 : 0 ≤ atFrom (s - ((n + 1 : Nat) : Int)) b 0 Q := by omega
        have hub : inK U b = false := by
          cases hx : inK U b
          · rfl
          · exact absurd (.inr hx) hc
        refine ⟨⟨s - ((n + 1 : Nat) : Int), b⟩ :: M0, ⟨fun x hx => ?_, List.pairwise_cons.2 ⟨fun y hy => ?_, hM0.2⟩⟩, ?_⟩
        · rcases List.mem_cons.1 hx with rfl | hx
          · exact ⟨Int.le_refl _, by simp only; omega, by simp only; omega, h0, hu, hub⟩
          · obtain ⟨g1, g2, g3, g4, g5, g6⟩ := hM0.1 x hx
            exact ⟨by omega, g2, g3, g4, (inK_snoc_parts g5).1, (inK_snoc_parts g6).1⟩
        · obtain ⟨g1, g2, g3, g4, g5, g6⟩ := hM0.1 y hy
          exact ⟨by simp only; omega, (inK_snoc_parts g5).2, (inK_snoc_parts g6).2⟩
        · rw [sums_cons, hs0]
      · exact h

theorem best_has (Q : List EdgeI) (s : Int) : ∀ (n : Nat) (U : List Int), ∃ M, Pm Q s n U M ∧ sums Q M = (best Q s n U).1
  | 0, _ => ⟨[], ⟨by simp, List.Pairwise.nil⟩, rfl⟩
  | n + 1, U => by
    have up : ∀ M, Pm Q s n U M → Pm Q s (n + 1) U M := fun M h => ⟨fun x hx => by
      obtain ⟨g1, g2⟩ := h.1 x hx
      exact ⟨by omega, g2⟩, h.2⟩
    obtain ⟨M, hM, hs⟩ := best_has Q s n U
    cases hu : inK U (s - ((n + 1 : Nat) : Int)) with
    | true => rw [best_skip Q s n U hu]; exact ⟨M, up M hM, hs⟩
    | false =>
      rw [best_loop Q s n U hu]
      exact bloop_has Q s n U hu (fun V => best_has Q s n V) n (s - (n : Int)) (best Q s n U) (by omega) (by omega) ⟨M, up M hM, hs⟩

theorem pm_from (Q : List EdgeI) : ∀ (M : List CoupleI) (p : Option CoupleI) (U : List Int), (∀ x ∈ M, x.A < x.B ∧ 0 ≤ atFrom x.A x.B 0 Q ∧ inK U x.A = false ∧ inK U x.B = false) → M.Pairwise (fun x y => x.A < y.A ∧ y.A ≠ x.B ∧ y.B ≠ x.B) → (∀ q, p = some q → ∀ x ∈ M, q.A < x.A) → mFrom Q p U M = true
  | [], _, _, _, _, _ => by unfold mFrom; rfl
  | x :: r, p, U, h, hp, ha => by
    obtain ⟨h1, h2, h3, h4⟩ := h x List.mem_cons_self
    rw [List.pairwise_cons] at hp
    have hah : aheadC p x = true := by
      unfold aheadC
      cases p with
      | none => rfl
      | some q => exact decide_eq_true (ha q rfl x List.mem_cons_self)
    have ih := pm_from Q r (some x) (U ++ [x.A, x.B]) (fun y hy => by
      obtain ⟨g1, g2, g3, g4⟩ := h y (List.mem_cons_of_mem _ hy)
      have hr := hp.1 y hy
      unfold inK at g3 g4 ⊢
      simp at g3 g4 ⊢
      exact ⟨g1, g2, ⟨g3, by omega, hr.2.1⟩, g4, by omega, hr.2.2⟩) hp.2 (fun q hq y hy => by
        cases hq
        exact (hp.1 y hy).1)
    unfold mFrom
    rw [decide_eq_true h1, hah, decide_eq_true h2, h3, h4, ih]
    rfl

theorem pm_few {Q : List EdgeI} {s : Int} {n : Nat} {U : List Int} {M : List CoupleI} (h : Pm Q s n U M) (h9 : s ≤ 9) (hn : (n : Int) ≤ s) : M.length ≤ 4 := by
  have hl := nodup_len (vertsM M) ((List.range 9).map (fun (k : Nat) => (k : Int))) (verts_nodup M h.2 (fun x hx => (h.1 x hx).2.1)) (fun z hz => by
    obtain ⟨x, hx, he⟩ := (mem_verts z M).1 hz
    obtain ⟨g1, g2, g3, _⟩ := h.1 x hx
    have hz0 : 0 ≤ z ∧ z < 9 := by rcases he with rfl | rfl <;> omega
    obtain ⟨k, rfl⟩ := Int.eq_ofNat_of_zero_le hz0.1
    exact List.mem_map.2 ⟨k, List.mem_range.2 (by omega), rfl⟩)
  rw [verts_length] at hl
  simp at hl
  omega

theorem match_few {Q : List EdgeI} {s : Int} {M : List CoupleI} (h : matchOk s Q M = true) : M.length ≤ 4 ∧ SB (sums Q M) 4 := by
  obtain ⟨hg, h9, hm⟩ := match_sound h
  obtain ⟨hx, hp, _⟩ := match_pm hg M none [] hm
  obtain ⟨g0, g9, _⟩ := graph_sound hg
  have hl : M.length ≤ 4 := pm_few (Q := Q) (s := s) (n := s.toNat) (U := []) ⟨fun x hxm => by
    obtain ⟨a1, a2, a3, a4, a5, a6⟩ := hx x hxm
    exact ⟨by omega, a2, a3, a4, a5, a6⟩, hp⟩ g9 (by omega)
  refine ⟨hl, ?_⟩
  have key : ∀ (L : List CoupleI) (t : SumsI) (n : Int), SB t n → (∀ x ∈ L, 0 ≤ atFrom x.A x.B 0 Q) → SB (sumsFrom Q t L) (n + (L.length : Int)) := by
    intro L
    induction L with
    | nil => intro t n ht _; simpa [sumsFrom] using ht
    | cons x r ih =>
      intro t n ht hx
      have h1 := ih _ (n + 1) (ht.add (edgeN_ok hg (hx x List.mem_cons_self))) (fun y hy => hx y (List.mem_cons_of_mem _ hy))
      show SB (sumsFrom Q _ r) _
      rw [List.length_cons]
      exact h1.mono (by omega)
  exact (key M ⟨0, 0, 0⟩ 0 (SB.zero _ (by omega)) (fun x hxm => (hx x hxm).2.2.2.1)).mono (by omega)

/-- The best sums are those of a pairing. -/
theorem best_is {s : Int} {Q : List EdgeI} (hg : graphOk s Q = true) : ∃ M, matchOk s Q M = true ∧ sums Q M = (best Q s s.toNat []).1 := by
  obtain ⟨g0, g9, _⟩ := graph_sound hg
  obtain ⟨M, hM, hs⟩ := best_has Q s s.toNat []
  have hf := pm_few hM g9 (by omega)
  refine ⟨M, ?_, hs⟩
  unfold matchOk
  rw [hg, decide_eq_true (by omega : M.length ≤ 9), pm_from Q M none [] (fun x hx => by
    obtain ⟨_, a2, _, a4, a5, a6⟩ := hM.1 x hx
    exact ⟨a2, a4, a5, a6⟩) hM.2 (fun q hq => by cases hq)]
  rfl

theorem le_wsum {a b : SumsI} (ha : SB a 4) (hb : SB b 4) (h : LE a b) : wsum a ≤ wsum b := by
  unfold SB at ha hb
  unfold LE at h
  unfold wsum
  omega

/-- No accepted proof tells less than the best. -/
theorem dual_best {s : Int} {Q : List EdgeI} {Y : List Int} {G : List GrpI} (hp : proofOk s Q Y G = true) : wsum (best Q s s.toNat []).1 ≤ boundR s Q Y G := by
  obtain ⟨M, hm, hs⟩ := best_is (proof_sound hp).1
  have h := dual hp hm
  rw [hs] at h
  unfold boundR
  rw [if_pos hp]
  omega

/-- A pairing that is certified has the best worth, and the best sums. -/
theorem certified_best {s : Int} {Q : List EdgeI} {Y : List Int} {G : List GrpI} {M : List CoupleI} (hc : certR s Q M Y G = true) : sums Q M = (best Q s s.toNat []).1 := by
  have hm : matchOk s Q M = true := by
    unfold certR at hc
    simp only [Bool.and_eq_true] at hc
    exact hc.2.1
  obtain ⟨N, hn, hs⟩ := best_is (match_sound hm).1
  have h1 := certified_top hc hn
  have h2 := (le_iff _ _).1 (best_of_all hm).1
  rw [← hs] at h2 ⊢
  have b1 := (match_few hm).2
  have b2 := (match_few hn).2
  unfold SB at b1 b2
  unfold LE at h2
  unfold wsum at h1
  have e : (sums Q M).W1 = (sums Q N).W1 ∧ (sums Q M).W2 = (sums Q N).W2 ∧ (sums Q M).W3 = (sums Q N).W3 := by omega
  cases hM : sums Q M
  cases hN : sums Q N
  rw [hM, hN] at e
  simp only at e
  rw [e.1, e.2.1, e.2.2]
end Gr
end Go.Proofs.Ytalmbdfcpnkkpaa

/-
  The numbers of a certificate's bytes as the program reads them: it takes the same texts, and reads the same of them. Without a program.
-/
namespace Go.Proofs.Ytalmbdfcpnkkpaa
namespace Gr
open Go.RowKit

/-- A number. -/
def nm (t : ByteArray) (c : CS) : Int × CS := match readA t (c.p : Int) with | none => (0, ⟨t.size, true⟩) | some x => ((x.1 : Int), ⟨x.2, c.b⟩)

/-- A number of at most m. -/
def rcnt (t : ByteArray) (m : Int) (c : CS) : Int × CS := if m < (nm t c).1 then (0, ⟨t.size, true⟩) else nm t c

def nums (t : ByteArray) : Nat → CS → List Int × CS
  | 0, c => ([], c)
  | k + 1, c => ((nm t c).1 :: (nums t k (nm t c).2).1, (nums t k (nm t c).2).2)

def edg (t : ByteArray) (c : CS) : EdgeI × CS :=
  let a := nm t c
  let b := nm t a.2
  let d := nm t b.2
  let e := nm t d.2
  let f := nm t e.2
  (⟨a.1, b.1, d.1, e.1, f.1⟩, f.2)

def edgs (t : ByteArray) : Nat → CS → List EdgeI × CS
  | 0, c => ([], c)
  | k + 1, c => ((edg t c).1 :: (edgs t k (edg t c).2).1, (edgs t k (edg t c).2).2)

def cpl (t : ByteArray) (c : CS) : CoupleI × CS :=
  let a := nm t c
  let b := nm t a.2
  (⟨a.1, b.1⟩, b.2)

def cpls (t : ByteArray) : Nat → CS → List CoupleI × CS
  | 0, c => ([], c)
  | k + 1, c => ((cpl t c).1 :: (cpls t k (cpl t c).2).1, (cpls t k (cpl t c).2).2)

def grp (t : ByteArray) (c : CS) : GrpI × CS :=
  let a := rcnt t 9 c
  let m := nums t a.1.toNat a.2
  let z := nm t m.2
  (⟨m.1, z.1⟩, z.2)

def grps (t : ByteArray) : Nat → CS → List GrpI × CS
  | 0, c => ([], c)
  | k + 1, c => ((grp t c).1 :: (grps t k (grp t c).2).1, (grps t k (grp t c).2).2)

def mdl (t : ByteArray) : RC :=
  let s := rcnt t 9 ⟨0, false⟩
  let n := rcnt t 36 s.2
  let E := edgs t n.1.toNat n.2
  let m := rcnt t 4 E.2
  let M := cpls t m.1.toNat m.2
  let Y := nums t s.1.toNat M.2
  let g := rcnt t 8 Y.2
  let G := grps t g.1.toNat g.2
  ⟨s.1, E.1, M.1, Y.1, G.1, G.2⟩

def mdlOk (t : ByteArray) : Bool := !((mdl t).c.b || decide ((mdl t).c.p < t.size)) && certR (mdl t).s (mdl t).Q (mdl t).M (mdl t).Y (mdl t).G

/-! ### What is read is written so -/

theorem readV_text {s : ByteArray} {a : Nat} : ∀ {f i n sc x e : Nat}, readV s a f i n sc = some (x, e) → varB 4 x = (s.extract a e).toList ∧ i < e ∧ e ≤ s.size := by
  intro f
  induction f with
  | zero => intro i n sc x e h; simp [readV] at h
  | succ f ih =>
    intro i n sc x e h
    simp only [readV] at h
    split at h
    · split at h
      · split at h
        · simp at h
        · split at h
          · rename_i he
            simp at h
            obtain ⟨rfl, rfl⟩ := h
            exact ⟨he, by omega, by omega⟩
          · simp at h
      · have := ih h
        exact ⟨this.1, by omega, this.2.2⟩
    · simp at h

theorem readA_text {t : ByteArray} {p x e : Nat} (h : readA t (p : Int) = some (x, e)) : t.data.toList.take e = t.data.toList.take p ++ varB 4 x ∧ e ≤ t.size := by
  unfold readA at h
  split at h
  · rw [Int.toNat_natCast] at h
    obtain ⟨h1, h2, h3⟩ := readV_text h
    refine ⟨?_, h3⟩
    have e1 : (t.extract p e).toList = (t.data.toList.drop p).take (e - p) := by
      rw [ByteArray.toList_eq]
      simp [List.extract_eq_take_drop]
    have e2 : e = p + (e - p) := by omega
    rw [h1, e1]
    conv => lhs; rw [e2]
    exact List.take_add
  · simp at h

/-- What a reader has behind it: unless it failed, just these bytes. -/
def Beh (t : ByteArray) (c : CS) (l : List UInt8) : Prop := c.p ≤ t.size ∧ (c.b = false → t.data.toList.take c.p = l)

theorem nm_beh {t : ByteArray} {c : CS} {l : List UInt8} (h : Beh t c l) : Beh t (nm t c).2 (l ++ vL (nm t c).1) := by
  unfold nm
  cases hr : readA t (c.p : Int) with
  | none => exact ⟨Nat.le_refl _, fun hb => by simp at hb⟩
  | some x =>
    obtain ⟨x, e⟩ := x
    obtain ⟨h1, h2⟩ := readA_text hr
    refine ⟨h2, fun hb => ?_⟩
    have hb' : c.b = false := hb
    show t.data.toList.take e = l ++ varB 4 (x : Int).toNat
    rw [h1, h.2 hb', Int.toNat_natCast]

theorem nm_range (t : ByteArray) (c : CS) : 0 ≤ (nm t c).1 ∧ (nm t c).1 ≤ 1000000000 := by
  unfold nm
  cases hr : readA t (c.p : Int) with
  | none => exact ⟨Int.le_refl _, by show (0 : Int) ≤ 1000000000; decide⟩
  | some x =>
    obtain ⟨x, e⟩ := x
    have := (readA_bound hr).1
    constructor
    · show (0 : Int) ≤ (x : Int); omega
    · show (x : Int) ≤ 1000000000; omega

theorem rcnt_beh {t : ByteArray} {m : Int} {c : CS} {l : List UInt8} (h : Beh t c l) : Beh t (rcnt t m c).2 (l ++ vL (rcnt t m c).1) := by
  unfold rcnt
  split
  · exact ⟨Nat.le_refl _, fun hb => by simp at hb⟩
  · exact nm_beh h

theorem rcnt_range (t : ByteArray) (m : Int) (c : CS) (hm : 0 ≤ m) : 0 ≤ (rcnt t m c).1 ∧ (rcnt t m c).1 ≤ m := by
  unfold rcnt
  have := nm_range t c
  split
  · exact ⟨Int.le_refl _, hm⟩
  · exact ⟨this.1, by omega⟩

theorem nums_beh {t : ByteArray} : ∀ (k : Nat) {c : CS} {l : List UInt8}, Beh t c l → Beh t (nums t k c).2 (l ++ (nums t k c).1.flatMap vL)
  | 0, c, l, h => by simpa [nums] using h
  | k + 1, c, l, h => by
    have := nums_beh k (nm_beh h)
    simpa [nums, List.append_assoc] using this

theorem nums_length {t : ByteArray} : ∀ (k : Nat) (c : CS), (nums t k c).1.length = k
  | 0, _ => rfl
  | k + 1, c => by simp [nums, nums_length k]

theorem edg_beh {t : ByteArray} {c : CS} {l : List UInt8} (h : Beh t c l) : Beh t (edg t c).2 (l ++ edgeL (edg t c).1) := by
  have := nm_beh (nm_beh (nm_beh (nm_beh (nm_beh h))))
  simpa [edg, edgeL, List.append_assoc] using this

theorem edgs_beh {t : ByteArray} : ∀ (k : Nat) {c : CS} {l : List UInt8}, Beh t c l → Beh t (edgs t k c).2 (l ++ (edgs t k c).1.flatMap edgeL)
  | 0, c, l, h => by simpa [edgs] using h
  | k + 1, c, l, h => by
    have := edgs_beh k (edg_beh h)
    simpa [edgs, List.append_assoc] using this

theorem edgs_length {t : ByteArray} : ∀ (k : Nat) (c : CS), (edgs t k c).1.length = k
  | 0, _ => rfl
  | k + 1, c => by simp [edgs, edgs_length k]

theorem cpl_beh {t : ByteArray} {c : CS} {l : List UInt8} (h : Beh t c l) : Beh t (cpl t c).2 (l ++ coupleL (cpl t c).1) := by
  have := nm_beh (nm_beh h)
  simpa [cpl, coupleL, List.append_assoc] using this

theorem cpls_beh {t : ByteArray} : ∀ (k : Nat) {c : CS} {l : List UInt8}, Beh t c l → Beh t (cpls t k c).2 (l ++ (cpls t k c).1.flatMap coupleL)
  | 0, c, l, h => by simpa [cpls] using h
  | k + 1, c, l, h => by
    have := cpls_beh k (cpl_beh h)
    simpa [cpls, List.append_assoc] using this

theorem cpls_length {t : ByteArray} : ∀ (k : Nat) (c : CS), (cpls t k c).1.length = k
  | 0, _ => rfl
  | k + 1, c => by simp [cpls, cpls_length k]

theorem toNat_back {n : Int} (h : 0 ≤ n) : ((n.toNat : Nat) : Int) = n := by omega

theorem grp_beh {t : ByteArray} {c : CS} {l : List UInt8} (h : Beh t c l) : Beh t (grp t c).2 (l ++ grpL (grp t c).1) := by
  have h1 := nm_beh (nums_beh (rcnt t 9 c).1.toNat (rcnt_beh (m := 9) h))
  have e : ((nums t (rcnt t 9 c).1.toNat (rcnt t 9 c).2).1.length : Int) = (rcnt t 9 c).1 := by
    rw [nums_length, toNat_back (rcnt_range t 9 c (by decide)).1]
  simpa [grp, grpL, List.append_assoc, e] using h1

theorem grps_beh {t : ByteArray} : ∀ (k : Nat) {c : CS} {l : List UInt8}, Beh t c l → Beh t (grps t k c).2 (l ++ (grps t k c).1.flatMap grpL)
  | 0, c, l, h => by simpa [grps] using h
  | k + 1, c, l, h => by
    have := grps_beh k (grp_beh h)
    simpa [grps, List.append_assoc] using this

theorem grps_length {t : ByteArray} : ∀ (k : Nat) (c : CS), (grps t k c).1.length = k
  | 0, _ => rfl
  | k + 1, c => by simp [grps, grps_length k]

theorem mdl_beh (t : ByteArray) : Beh t (mdl t).c (certB (mdl t).s (mdl t).Q (mdl t).M (mdl t).Y (mdl t).G).data.toList := by
  have h0 : Beh t ⟨0, false⟩ [] := ⟨Nat.zero_le _, fun _ => rfl⟩
  unfold mdl
  dsimp only
  have hs := rcnt_beh (m := 9) h0
  generalize rcnt t 9 ⟨0, false⟩ = s at hs ⊢
  have hn := rcnt_beh (m := 36) hs
  have rn := rcnt_range t 36 s.2 (by decide)
  generalize rcnt t 36 s.2 = n at hn rn ⊢
  have hE := edgs_beh n.1.toNat hn
  have lE := edgs_length (t := t) n.1.toNat n.2
  generalize edgs t n.1.toNat n.2 = E at hE lE ⊢
  have hm := rcnt_beh (m := 4) hE
  have rm := rcnt_range t 4 E.2 (by decide)
  generalize rcnt t 4 E.2 = m at hm rm ⊢
  have hM := cpls_beh m.1.toNat hm
  have lM := cpls_length (t := t) m.1.toNat m.2
  generalize cpls t m.1.toNat m.2 = M at hM lM ⊢
  have hY := nums_beh s.1.toNat hM
  generalize nums t s.1.toNat M.2 = Y at hY ⊢
  have hg := rcnt_beh (m := 8) hY
  have rg := rcnt_range t 8 Y.2 (by decide)
  generalize rcnt t 8 Y.2 = g at hg rg ⊢
  have hG := grps_beh g.1.toNat hg
  have lG := grps_length (t := t) g.1.toNat g.2
  generalize grps t g.1.toNat g.2 = G at hG lG ⊢
  rw [certB_list, lE, lM, lG, toNat_back rn.1, toNat_back rm.1, toNat_back rg.1]
  simp only [List.nil_append, List.append_assoc] at hG
  exact hG

/-- What the program takes, ReadCert's text takes, and the same is read. -/
theorem mdl_sound {t : ByteArray} (h : mdlOk t = true) : rcOk t = true ∧ rcV t = ⟨(mdl t).s, (mdl t).Q, (mdl t).M, (mdl t).Y, (mdl t).G, ⟨t.size, false⟩⟩ := by
  unfold mdlOk at h
  simp only [Bool.and_eq_true, Bool.not_eq_true', Bool.or_eq_false_iff, decide_eq_false_iff_not] at h
  obtain ⟨⟨hb, hp⟩, hc⟩ := h
  have hB := mdl_beh t
  have e : certB (mdl t).s (mdl t).Q (mdl t).M (mdl t).Y (mdl t).G = t := by
    apply ByteArray.ext
    rw [← Array.toList_inj, ← hB.2 hb, List.take_of_length_le]
    have : t.data.toList.length = t.size := by simp
    omega
  have := rc_of hc
  rw [e] at this
  exact this

/-! ### A certificate's text is taken -/

theorem rd_bad {t : ByteArray} {c : CS} (h : (rd t c).2.b = false) : c.b = false := by
  cases hb : c.b with
  | false => rfl
  | true =>
    unfold rd at h
    rw [if_pos hb] at h
    simp at h

theorem nm_rd {t : ByteArray} {c : CS} (h : (rd t c).2.b = false) : nm t c = rd t c := by
  have hb := rd_bad h
  unfold nm
  unfold rd at h ⊢
  rw [if_neg (by rw [hb]; simp)] at h ⊢
  cases hr : readA t (c.p : Int) with
  | none => rw [hr] at h; simp at h
  | some x => simp [hb]

theorem rdInts_bad {t : ByteArray} : ∀ (k : Nat) {c : CS}, (rdInts t k c).2.b = false → c.b = false
  | 0, c, h => h
  | k + 1, c, h => by
    cases hb : c.b with
    | false => rfl
    | true => rw [rdInts, if_pos hb] at h; rw [hb] at h; exact h

theorem nums_rd {t : ByteArray} : ∀ (k : Nat) {c : CS}, (rdInts t k c).2.b = false → nums t k c = rdInts t k c
  | 0, c, _ => rfl
  | k + 1, c, h => by
    have hb := rdInts_bad (k + 1) h
    rw [rdInts, if_neg (by rw [hb]; simp)] at h ⊢
    simp only at h ⊢
    have h2 := nums_rd k h
    have h1 := nm_rd (rdInts_bad k h)
    rw [nums, h1, h2]

theorem rdEdges_bad {t : ByteArray} : ∀ (k : Nat) {c : CS}, (rdEdges t k c).2.b = false → c.b = false
  | 0, c, h => h
  | k + 1, c, h => by
    cases hb : c.b with
    | false => rfl
    | true => rw [rdEdges, if_pos hb] at h; rw [hb] at h; exact h

theorem edgs_rd {t : ByteArray} : ∀ (k : Nat) {c : CS}, (rdEdges t k c).2.b = false → edgs t k c = rdEdges t k c
  | 0, c, _ => rfl
  | k + 1, c, h => by
    have hb := rdEdges_bad (k + 1) h
    rw [rdEdges, if_neg (by rw [hb]; simp)] at h ⊢
    simp only at h ⊢
    have h2 := edgs_rd k h
    have b5 := rdEdges_bad k h
    have b4 := rd_bad b5
    have b3 := rd_bad b4
    have b2 := rd_bad b3
    have b1 := rd_bad b2
    have e : edg t c = (⟨(rd t c).1, (rd t (rd t c).2).1, (rd t (rd t (rd t c).2).2).1, (rd t (rd t (rd t (rd t c).2).2).2).1, (rd t (rd t (rd t (rd t (rd t c).2).2).2).2).1⟩, (rd t (rd t (rd t (rd t (rd t c).2).2).2).2).2) := by
      unfold edg
      simp only [nm_rd b1, nm_rd b2, nm_rd b3, nm_rd b4, nm_rd b5]
    rw [edgs, e]
    simp only [h2]

theorem rdCouples_bad {t : ByteArray} : ∀ (k : Nat) {c : CS}, (rdCouples t k c).2.b = false → c.b = false
  | 0, c, h => h
  | k + 1, c, h => by
    cases hb : c.b with
    | false => rfl
    | true => rw [rdCouples, if_pos hb] at h; rw [hb] at h; exact h

theorem cpls_rd {t : ByteArray} : ∀ (k : Nat) {c : CS}, (rdCouples t k c).2.b = false → cpls t k c = rdCouples t k c
  | 0, c, _ => rfl
  | k + 1, c, h => by
    have hb := rdCouples_bad (k + 1) h
    rw [rdCouples, if_neg (by rw [hb]; simp)] at h ⊢
    simp only at h ⊢
    have h2 := cpls_rd k h
    have b2 := rdCouples_bad k h
    have b1 := rd_bad b2
    have e : cpl t c = (⟨(rd t c).1, (rd t (rd t c).2).1⟩, (rd t (rd t c).2).2) := by
      unfold cpl
      simp only [nm_rd b1, nm_rd b2]
    rw [cpls, e]
    simp only [h2]

theorem rdGroups_bad {t : ByteArray} : ∀ (k : Nat) {c : CS}, (rdGroups t k c).2.b = false → c.b = false
  | 0, c, h => h
  | k + 1, c, h => by
    cases hb : c.b with
    | false => rfl
    | true => rw [rdGroups, if_pos hb] at h; rw [hb] at h; exact h

theorem rdInts_length {t : ByteArray} : ∀ (k : Nat) {c : CS}, (rdInts t k c).2.b = false → (rdInts t k c).1.length = k := fun k c h => by rw [← nums_rd k h, nums_length]

theorem rcnt_rd {t : ByteArray} {c : CS} {m : Int} (h : (rd t c).2.b = false) (hm : (rd t c).1 ≤ m) : rcnt t m c = rd t c := by
  unfold rcnt
  rw [nm_rd h, if_neg (by omega)]

theorem grps_rd {t : ByteArray} : ∀ (k : Nat) {c : CS}, (rdGroups t k c).2.b = false → (∀ q ∈ (rdGroups t k c).1, q.M.length ≤ 9) → grps t k c = rdGroups t k c
  | 0, c, _, _ => rfl
  | k + 1, c, h, h9 => by
    have hb := rdGroups_bad (k + 1) h
    rw [rdGroups, if_neg (by rw [hb]; simp)] at h h9 ⊢
    simp only at h h9 ⊢
    have h2 := grps_rd k h (fun q hq => h9 q (List.mem_cons_of_mem _ hq))
    have b3 := rdGroups_bad k h
    have b2 := rd_bad b3
    have b1 := rdInts_bad _ b2
    have hl := h9 _ (List.mem_cons_self)
    simp only at hl
    rw [rdInts_length _ b2] at hl
    have hr := nm_range t c
    rw [nm_rd b1] at hr
    have hc : (rd t c).1 ≤ 9 := by omega
    have e9 : min (rd t c).1.toNat 100 = (rd t c).1.toNat := by omega
    rw [e9] at h h2 b3 b2 ⊢
    have e : grp t c = (⟨(rdInts t (rd t c).1.toNat (rd t c).2).1, (rd t (rdInts t (rd t c).1.toNat (rd t c).2).2).1⟩, (rd t (rdInts t (rd t c).1.toNat (rd t c).2).2).2) := by
      unfold grp
      simp only [rcnt_rd b1 hc, nums_rd _ b2, nm_rd b3]
    rw [grps, e]
    simp only [h2]

/-- Where an edge stands among all that there can be. -/
def offE (a : Int) : Int := if a = 0 then 0 else if a = 1 then 8 else if a = 2 then 15 else if a = 3 then 21 else if a = 4 then 26 else if a = 5 then 30 else if a = 6 then 33 else 35

theorem offE_lt (a b a' b' : Int) (h0 : 0 ≤ a) (h1 : a < b) (h2 : b ≤ 8) (h0' : 0 ≤ a') (h1' : a' < b') (h2' : b' ≤ 8) (h : a < a' ∨ (a = a' ∧ b < b')) : offE a + b - a < offE a' + b' - a' := by
  unfold offE
  rcases h with h | ⟨h, h3⟩
  · (repeat' split) <;> omega
  · subst h; omega

theorem offE_range (a b : Int) (h0 : 0 ≤ a) (h1 : a < b) (h2 : b ≤ 8) : 1 ≤ offE a + b - a ∧ offE a + b - a < 37 := by
  unfold offE
  (repeat' split) <;> omega

theorem edges_36 {s : Int} {Q : List EdgeI} (h : graphOk s Q = true) : Q.length ≤ 36 := by
  obtain ⟨h0, h9, hE, hP⟩ := graph_sound h
  have h1 : (Q.map fun e => offE e.A + e.B - e.A).Pairwise (· < ·) := by
    rw [List.pairwise_map]
    refine List.Pairwise.imp_of_mem ?_ hP
    intro a b ha hb hab
    have a1 := (edgeOk_iff s a).1 (hE a ha)
    have b1 := (edgeOk_iff s b).1 (hE b hb)
    exact offE_lt _ _ _ _ (by omega) (by omega) (by omega) (by omega) (by omega) (by omega) ((ahead_iff a b).1 hab)
  have h2 := few_of 37 _ 1 h1 (fun x hx => by
    obtain ⟨e, he, rfl⟩ := List.mem_map.1 hx
    have a1 := (edgeOk_iff s e).1 (hE e he)
    exact offE_range _ _ (by omega) (by omega) (by omega))
  rw [List.length_map] at h2
  omega

theorem mdl_back {s : Int} {Q : List EdgeI} {M : List CoupleI} {Y : List Int} {G : List GrpI} (h : certR s Q M Y G = true) :
    mdl (certB s Q M Y G) = ⟨s, Q, M, Y, G, ⟨(certB s Q M Y G).size, false⟩⟩ := by
  have hr := rdCert_back h
  obtain ⟨s0, s9, rE, rM9, rM, rY9, rY, rG8, rG⟩ := cert_ranges h
  have hC := h
  unfold certR at hC
  simp only [Bool.and_eq_true] at hC
  have h36 := edges_36 (proof_sound hC.1).1
  have h4 := (match_few hC.2.1).1
  generalize certB s Q M Y G = t at hr
  unfold rdCert at hr
  simp only [RC.mk.injEq] at hr
  obtain ⟨e1, e2, e3, e4, e5, e6⟩ := hr
  have bG := congrArg (fun x : CS => x.b) e6
  simp only at bG
  have bg := rdGroups_bad _ bG
  have bY := rd_bad bg
  have bM := rdInts_bad _ bY
  have bm := rdCouples_bad _ bM
  have bE := rd_bad bm
  have bn := rdEdges_bad _ bE
  have bs := rd_bad bn
  have q1 := nm_range t ⟨0, false⟩
  rw [nm_rd bs] at q1
  have k1 : rcnt t 9 ⟨0, false⟩ = rd t ⟨0, false⟩ := rcnt_rd bs (by rw [e1]; exact s9)
  generalize rd t ⟨0, false⟩ = S at *
  have q2 := nm_range t S.2
  rw [nm_rd bn] at q2
  have lE := congrArg List.length e2
  rw [← edgs_rd _ bE, edgs_length] at lE
  have m2 : min (rd t S.2).1.toNat 100 = (rd t S.2).1.toNat := by omega
  have k2 : rcnt t 36 S.2 = rd t S.2 := rcnt_rd bn (by omega)
  rw [m2] at e2 e3 e4 e5 e6 bG bg bY bM bm bE
  generalize rd t S.2 = N at *
  have k3 := edgs_rd _ bE
  generalize rdEdges t N.1.toNat N.2 = E at *
  have q3 := nm_range t E.2
  rw [nm_rd bm] at q3
  have lM := congrArg List.length e3
  rw [← cpls_rd _ bM, cpls_length] at lM
  have m3 : min (rd t E.2).1.toNat 100 = (rd t E.2).1.toNat := by omega
  have k4 : rcnt t 4 E.2 = rd t E.2 := rcnt_rd bm (by omega)
  rw [m3] at e3 e4 e5 e6 bG bg bY bM
  generalize rd t E.2 = m at *
  have k5 := cpls_rd _ bM
  generalize rdCouples t m.1.toNat m.2 = M' at *
  have m1 : min S.1.toNat 100 = S.1.toNat := by omega
  rw [m1] at e4 e5 e6 bG bg bY
  have k6 := nums_rd _ bY
  generalize rdInts t S.1.toNat M'.2 = Y' at *
  have q4 := nm_range t Y'.2
  rw [nm_rd bg] at q4
  have k8 := grps_rd _ bG (by rw [e5]; exact fun q hq => (rG q hq).1)
  have lG := congrArg List.length e5
  rw [← k8, grps_length] at lG
  have k7 : rcnt t 8 Y'.2 = rd t Y'.2 := rcnt_rd bg (by omega)
  have m4 : min (rd t Y'.2).1.toNat 100 = (rd t Y'.2).1.toNat := by omega
  rw [m4] at e5 e6 k8
  unfold mdl
  dsimp only
  rw [k1, k2, k3, k4, k5, k6, k7, k8, e1, e2, e3, e4, e5, e6]

theorem mdl_is (t : ByteArray) : mdlOk t = rcOk t ∧ (rcOk t = true → rcV t = ⟨(mdl t).s, (mdl t).Q, (mdl t).M, (mdl t).Y, (mdl t).G, ⟨t.size, false⟩⟩) := by
  cases hr : rcOk t with
  | false =>
    refine ⟨?_, fun h => by cases h⟩
    cases hm : mdlOk t with
    | false => rfl
    | true => rw [(mdl_sound hm).1] at hr; cases hr
  | true =>
    obtain ⟨hc, ht⟩ := rc_is hr
    have hb := mdl_back hc
    rw [ht] at hb
    have hm : mdlOk t = true := by
      unfold mdlOk
      rw [hb]
      simp [hc]
    exact ⟨hm, fun _ => (mdl_sound hm).2⟩

end Gr
end Go.Proofs.Ytalmbdfcpnkkpaa
