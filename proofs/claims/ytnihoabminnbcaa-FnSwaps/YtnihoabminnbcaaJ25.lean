/-
 GrProof1, GrProof2, GrProof3, GrProof4, GrProof5, GrProof6, GrDual, GrAttain.
-/
import Derived.Test.YtnihoabminnbcaaJ24
import Derived.Test.YtnihoabminnbcaaJ17
import Derived.Deep.DeepFit
import Derived.Test.YtnihoabminnbcaaJ8
import Derived.Test.YtnihoabminnbcaaJ13
import Derived.Test.YtnihoabminnbcaaJ3
import Derived.Test.YtnihoabminnbcaaJ2
namespace Go.Proofs.Ytnihoabminnbcaa
namespace Gr
open Go.RowKit
theorem wrap64_in (x : Int) (h : -9223372036854775808 ≤ x ∧ x ≤ 9223372036854775807) : wrap64 x = x := by
  rw [wrap_mod]
  omega
theorem yOk_step (Y : List Int) (k : Nat) (h : k < Y.length) : yOk (Y.drop k) = ((decide (0 ≤ Y[k]) && decide (Y[k] ≤ 1000000000)) && yOk (Y.drop (k + 1))) := by rw [drop_step Y k h]; rfl
theorem grpsOk_step (s : Int) (G : List GrpI) (i : Nat) (h : i < G.length) : grpsOk s (G.take i) (G.drop i) = (grpHead s G[i] && (memOk s none G[i].M && (nestAll G[i].M (G.take i) && grpsOk s (G.take (i + 1)) (G.drop (i + 1))))) := by
  rw [drop_step G i h, List.take_succ_eq_append_getElem h]
  rfl
def prevI (M : List Int) (k : Nat) : Option Int := if k = 0 then none else M[k - 1]?
theorem memOk_step (s : Int) (M : List Int) (k : Nat) (h : k < M.length) : memOk s (prevI M k) (M.drop k) = ((decide (0 ≤ M[k]) && decide (M[k] ≤ s - 1)) && ((match prevI M k with | none => true | some q => decide (q < M[k])) && memOk s (prevI M (k + 1)) (M.drop (k + 1)))) := by
  have e : prevI M (k + 1) = some M[k] := by unfold prevI; simp [h]
  rw [drop_step M k h, e]
  rfl
theorem nestAll_step (b : List Int) (D : List GrpI) (k : Nat) (h : k < D.length) : nestAll b (D.drop k) = (nested D[k].M b && nestAll b (D.drop (k + 1))) := by rw [drop_step D k h]; rfl
theorem slacksOk_step (Y : List Int) (G : List GrpI) (Q : List EdgeI) (k : Nat) (h : k < Q.length) : slacksOk Y G (Q.drop k) = (decide (0 ≤ slackI Y G Q[k]) && slacksOk Y G (Q.drop (k + 1))) := by rw [drop_step Q k h]; rfl
theorem proof_sound {s : Int} {Q : List EdgeI} {Y : List Int} {G : List GrpI} (h : proofOk s Q Y G = true) : graphOk s Q = true ∧ (Y.length : Int) = s ∧ s ≤ 9 ∧ G.length ≤ 8 ∧ (∀ y ∈ Y, 0 ≤ y ∧ y ≤ 1000000000) ∧ (∀ q ∈ G, grpHead s q = true) := by
  unfold proofOk at h
  simp only [Bool.and_eq_true, decide_eq_true_eq] at h
  obtain ⟨h1, h2, h3, h4, h5, _⟩ := h
  exact ⟨h1, h2, (graph_sound h1).2.1, h3, yOk_at Y h4, grpsOk_at s G [] h5⟩
theorem sum_bounds {s : Int} {Q : List EdgeI} {Y : List Int} {G : List GrpI} (h : proofOk s Q Y G = true) : 0 ≤ sumI Y G ∧ sumI Y G ≤ 41000000000 := by
  obtain ⟨_, h1, h9, h8, hY, hG⟩ := proof_sound h
  have a1 := ySum_bounds Y 0 hY
  have a2 := gSum_bounds h9 G (ySum 0 Y) hG
  unfold sumI
  omega
/-- What Certifies tells. -/
def certR (s : Int) (Q : List EdgeI) (M : List CoupleI) (Y : List Int) (G : List GrpI) : Bool := proofOk s Q Y G && (matchOk s Q M && decide (2 * wsum (sums Q M) = sumI Y G))
theorem sums_range {s : Int} {Q : List EdgeI} {M : List CoupleI} (h : matchOk s Q M = true) : 0 ≤ wsum (sums Q M) ∧ wsum (sums Q M) ≤ 90000000 := by
  obtain ⟨hg, h9, hm⟩ := match_sound h
  have key : ∀ (L : List CoupleI) (t : SumsI) (n : Int), SB t n → (∀ x ∈ L, 0 ≤ atFrom x.A x.B 0 Q) → SB (sumsFrom Q t L) (n + (L.length : Int)) := by
    intro L
    induction L with
    | nil => intro t n ht _; simpa [sumsFrom] using ht
    | cons x r ih =>
      intro t n ht hx
      have h1 := ih _ (n + 1) (ht.add (edgeN_ok hg (hx x List.mem_cons_self))) (fun y hy => hx y (List.mem_cons_of_mem _ hy))
      show SB (sumsFrom Q _ r) _
      rw [List.length_cons]
      exact h1.mono (by omega)
  have := key M ⟨0, 0, 0⟩ 0 (SB.zero _ (by omega)) (mFrom_at Q M none [] hm)
  unfold SB at this
  unfold wsum sums
  omega
/-- The vertices of couples. -/
def vertsM : List CoupleI → List Int
  | [] => []
  | x :: r => x.A :: x.B :: vertsM r
theorem mem_verts (z : Int) : ∀ (M : List CoupleI), z ∈ vertsM M ↔ ∃ x ∈ M, z = x.A ∨ z = x.B
  | [] => by simp [vertsM]
  | x :: r => by
    simp only [vertsM, List.mem_cons, mem_verts z r]
    constructor
    · rintro (h | h | ⟨y, hy, h⟩)
      · exact ⟨x, .inl rfl, .inl h⟩
      · exact ⟨x, .inl rfl, .inr h⟩
      · exact ⟨y, .inr hy, h⟩
    · rintro ⟨y, hy | hy, h⟩
      · subst hy
        rcases h with h | h
        · exact .inl h
        · exact .inr (.inl h)
      · exact .inr (.inr ⟨y, hy, h⟩)
theorem verts_length : ∀ (M : List CoupleI), (vertsM M).length = 2 * M.length
  | [] => rfl
  | x :: r => by simp only [vertsM, List.length_cons, verts_length r]; omega
theorem verts_nodup : ∀ (M : List CoupleI), M.Pairwise (fun x y => x.A < y.A ∧ y.A ≠ x.B ∧ y.B ≠ x.B) → (∀ x ∈ M, x.A < x.B) → (vertsM M).Nodup
  | [], _, _ => List.nodup_nil
  | x :: r, hp, hx => by
    rw [List.pairwise_cons] at hp
    have hxx := hx x List.mem_cons_self
    have ih := verts_nodup r hp.2 (fun y hy => hx y (List.mem_cons_of_mem _ hy))
    simp only [vertsM, List.nodup_cons, List.mem_cons, not_or]
    refine ⟨⟨by omega, fun h => ?_⟩, fun h => ?_, ih⟩
    · obtain ⟨y, hy, he⟩ := (mem_verts _ r).1 h
      have h1 := hp.1 y hy
      have h2 := hx y (List.mem_cons_of_mem _ hy)
      omega
    · obtain ⟨y, hy, he⟩ := (mem_verts _ r).1 h
      have h1 := hp.1 y hy
      omega
theorem nodup_len {α : Type} [BEq α] [LawfulBEq α] : ∀ (L M : List α), L.Nodup → (∀ x ∈ L, x ∈ M) → L.length ≤ M.length
  | [], _, _, _ => Nat.zero_le _
  | x :: r, M, hn, hs => by
    have hxM := hs x List.mem_cons_self
    rw [List.nodup_cons] at hn
    have h := nodup_len r (M.erase x) hn.2 (fun y hy => (List.mem_erase_of_ne (fun (e : y = x) => hn.1 (by rw [← e]; exact hy))).2 (hs y (List.mem_cons_of_mem _ hy)))
    have h2 := List.length_erase_of_mem hxM
    have h3 : 0 < M.length := List.length_pos_of_mem hxM
    rw [List.length_cons]
    omega
/-- The numbers of some vertices, together. -/
def ySumL (Y : List Int) : List Int → Int
  | [] => 0
  | z :: r => yAt Y z + ySumL Y r
theorem ySum_add : ∀ (Y : List Int) (n : Int), ySum n Y = n + ySum 0 Y
  | [], n => by simp [ySum]
  | y :: r, n => by
    show ySum (n + y) r = n + ySum (0 + y) r
    rw [ySum_add r (n + y), ySum_add r (0 + y)]
    omega
theorem ySum_set : ∀ (Y : List Int) (k : Nat) (h : k < Y.length), ySum 0 (Y.set k 0) = ySum 0 Y - Y[k]
  | [], _, h => by simp at h
  | y :: r, 0, _ => by
    show ySum (0 + 0) r = ySum (0 + y) r - y
    rw [ySum_add r (0 + 0), ySum_add r (0 + y)]
    omega
  | y :: r, k + 1, h => by
    show ySum (0 + y) (r.set k 0) = ySum (0 + y) r - r[k]'(by simpa using h)
    rw [ySum_add _ (0 + y), ySum_add r (0 + y), ySum_set r k (by simpa using h)]
    omega
theorem ySumL_congr {Y Y' : List Int} : ∀ (L : List Int), (∀ z ∈ L, yAt Y z = yAt Y' z) → ySumL Y L = ySumL Y' L
  | [], _ => rfl
  | z :: r, h => by
    unfold ySumL
    rw [h z List.mem_cons_self, ySumL_congr r (fun x hx => h x (List.mem_cons_of_mem _ hx))]
theorem ySumL_le : ∀ (L : List Int) (Y : List Int), L.Nodup → (∀ z ∈ L, 0 ≤ z ∧ z < (Y.length : Int)) → (∀ y ∈ Y, 0 ≤ y) → ySumL Y L ≤ ySum 0 Y
  | [], Y, _, _, hY => by
    have key : ∀ (Y : List Int) (n : Int), (∀ y ∈ Y, 0 ≤ y) → n ≤ ySum n Y := by
      intro Y
      induction Y with
      | nil => intro n _; simp [ySum]
      | cons y r ih =>
        intro n h
        have h1 := ih (n + y) (fun z hz => h z (List.mem_cons_of_mem _ hz))
        have h2 := h y List.mem_cons_self
        show n ≤ ySum (n + y) r
        omega
    exact key Y 0 hY
  | z :: r, Y, hn, hL, hY => by
    rw [List.nodup_cons] at hn
    obtain ⟨h0, h1⟩ := hL z List.mem_cons_self
    obtain ⟨k, rfl⟩ := Int.eq_ofNat_of_zero_le h0
    have hk : k < Y.length := by omega
    have e1 : ySumL Y r = ySumL (Y.set k 0) r := ySumL_congr r (fun x hx => by
      have hx0 := (hL x (List.mem_cons_of_mem _ hx)).1
      obtain ⟨j, rfl⟩ := Int.eq_ofNat_of_zero_le hx0
      have hne : k ≠ j := fun e => hn.1 (by rw [e]; exact hx)
      unfold yAt
      simp [List.getElem?_set_ne hne])
    have ih := ySumL_le r (Y.set k 0) hn.2 (fun x hx => by rw [List.length_set]; exact hL x (List.mem_cons_of_mem _ hx)) (fun y hy => by
      rcases List.mem_or_eq_of_mem_set hy with h | h
      · exact hY y h
      · rw [h]; exact Int.le_refl _)
    rw [ySum_set Y k hk] at ih
    have e2 : yAt Y (k : Int) = Y[k] := by unfold yAt; simp [hk]
    show yAt Y (k : Int) + ySumL Y r ≤ ySum 0 Y
    rw [e1, e2]
    omega
/-- z of the groups that have both ends. -/
def gAdd (x : CoupleI) : List GrpI → Int
  | [] => 0
  | q :: r => (if (inK q.M x.A && inK q.M x.B) = true then q.Z else 0) + gAdd x r
theorem slackG_add (e : EdgeI) (x : CoupleI) (hA : e.A = x.A) (hB : e.B = x.B) : ∀ (G : List GrpI) (n : Int), slackG e n G = n + gAdd x G
  | [], n => by unfold slackG gAdd; omega
  | q :: r, n => by
    unfold slackG gAdd
    rw [slackG_add e x hA hB r, hA, hB]
    split <;> omega
def gAll : List CoupleI → List GrpI → Int
  | [], _ => 0
  | x :: r, G => gAdd x G + gAll r G
/-- How many couples lie in a group. -/
def cntG (q : GrpI) : List CoupleI → Nat
  | [] => 0
  | x :: r => (if (inK q.M x.A && inK q.M x.B) = true then 1 else 0) + cntG q r
theorem gAll_cons (q : GrpI) (G : List GrpI) : ∀ (M : List CoupleI), gAll M (q :: G) = q.Z * (cntG q M : Int) + gAll M G
  | [] => by simp [gAll, cntG]
  | x :: r => by
    simp only [gAll, cntG, gAdd]
    rw [gAll_cons q G r]
    split
    · rw [Int.natCast_add, Int.mul_add]
      simp only [Int.natCast_one, Int.mul_one]
      omega
    · simp only [Nat.zero_add]
      omega
theorem gAll_nil : ∀ (M : List CoupleI), gAll M [] = 0
  | [] => rfl
  | x :: r => by simp only [gAll, gAdd, gAll_nil r]; rfl
theorem cntG_is (q : GrpI) : ∀ (M : List CoupleI), cntG q M = (M.filter fun x => inK q.M x.A && inK q.M x.B).length
  | [] => rfl
  | x :: r => by
    simp only [cntG, List.filter_cons]
    rw [cntG_is q r]
    split
    · rw [List.length_cons]; omega
    · omega
theorem cntG_le (q : GrpI) (M : List CoupleI) (hp : M.Pairwise (fun x y => x.A < y.A ∧ y.A ≠ x.B ∧ y.B ≠ x.B)) (hx : ∀ x ∈ M, x.A < x.B) : cntG q M ≤ q.M.length / 2 := by
  rw [cntG_is]
  have h := nodup_len (vertsM (M.filter fun x => inK q.M x.A && inK q.M x.B)) q.M (verts_nodup _ (hp.filter _) (fun x hxm => hx x (List.mem_filter.1 hxm).1)) (fun z hz => by
    obtain ⟨x, hxm, he⟩ := (mem_verts z _).1 hz
    have hb := (List.mem_filter.1 hxm).2
    rw [Bool.and_eq_true] at hb
    unfold inK at hb
    rcases he with rfl | rfl
    · simpa using hb.1
    · simpa using hb.2)
  rw [verts_length] at h
  omega
theorem gSum_add : ∀ (G : List GrpI) (n : Int), gSum n G = n + gSum 0 G
  | [], n => by simp [gSum]
  | q :: r, n => by
    show gSum (n + q.Z * ((q.M.length / 2 : Nat) : Int)) r = n + gSum (0 + q.Z * ((q.M.length / 2 : Nat) : Int)) r
    rw [gSum_add r (n + _), gSum_add r (0 + _)]
    omega
theorem gAll_le (M : List CoupleI) (hp : M.Pairwise (fun x y => x.A < y.A ∧ y.A ≠ x.B ∧ y.B ≠ x.B)) (hx : ∀ x ∈ M, x.A < x.B) : ∀ (G : List GrpI), (∀ q ∈ G, 0 ≤ q.Z) → gAll M G ≤ gSum 0 G
  | [], _ => by rw [gAll_nil]; simp [gSum]
  | q :: r, h => by
    have ih := gAll_le M hp hx r (fun x hxm => h x (List.mem_cons_of_mem _ hxm))
    have h0 := h q List.mem_cons_self
    have h1 := cntG_le q M hp hx
    rw [gAll_cons]
    show _ ≤ gSum (0 + q.Z * ((q.M.length / 2 : Nat) : Int)) r
    rw [gSum_add r (0 + _)]
    have h2 : q.Z * (cntG q M : Int) ≤ q.Z * ((q.M.length / 2 : Nat) : Int) := Int.mul_le_mul_of_nonneg_left (by omega) h0
    omega
/-- The edge of a couple. -/
def eOf (Q : List EdgeI) (x : CoupleI) : EdgeI := edgeN Q (atFrom x.A x.B 0 Q)
def scM (Q : List EdgeI) : List CoupleI → Int
  | [] => 0
  | x :: r => scal (eOf Q x) + scM Q r
theorem wsum_scM {s : Int} {Q : List EdgeI} (hg : graphOk s Q = true) : ∀ (L : List CoupleI) (t : SumsI) (n : Int), SB t n → 0 ≤ n → n + (L.length : Int) ≤ 9 → (∀ x ∈ L, 0 ≤ atFrom x.A x.B 0 Q) → wsum (sumsFrom Q t L) = wsum t + scM Q L
  | [], t, n, _, _, _, _ => by simp [sumsFrom, scM]
  | x :: r, t, n, ht, h0, h9, hx => by
    rw [List.length_cons] at h9
    have hok := edgeN_ok hg (hx x List.mem_cons_self)
    have h1 := (wsum_add ht (by omega) hok).1
    have ih := wsum_scM hg r (addS t (edgeN Q (atFrom x.A x.B 0 Q))) (n + 1) (ht.add hok) (by omega) (by omega) (fun y hy => hx y (List.mem_cons_of_mem _ hy))
    show wsum (sumsFrom Q (addS t (edgeN Q (atFrom x.A x.B 0 Q))) r) = wsum t + (scal (eOf Q x) + scM Q r)
    rw [ih, h1]
    unfold eOf
    omega
theorem slacks_at (Y : List Int) (G : List GrpI) : ∀ (Q : List EdgeI), slacksOk Y G Q = true → ∀ e ∈ Q, 0 ≤ slackI Y G e
  | [], _, e, he => by simp at he
  | x :: r, h, e, he => by
    unfold slacksOk at h
    rw [Bool.and_eq_true, decide_eq_true_eq] at h
    rcases List.mem_cons.1 he with rfl | he
    · exact h.1
    · exact slacks_at Y G r h.2 e he
/-- No pairing has more than a proof's sum, twice. -/
theorem dual {s : Int} {Q : List EdgeI} {Y : List Int} {G : List GrpI} {M : List CoupleI} (hp : proofOk s Q Y G = true) (hm : matchOk s Q M = true) : 2 * wsum (sums Q M) ≤ sumI Y G := by
  obtain ⟨hg, hYs, h9, h8, hY, hq⟩ := proof_sound hp
  obtain ⟨_, hM9, hmf⟩ := match_sound hm
  obtain ⟨hx, hpw, _⟩ := match_pm hg M none [] hmf
  have hsl : slacksOk Y G Q = true := by
    unfold proofOk at hp
    simp only [Bool.and_eq_true] at hp
    exact hp.2.2.2.2.2
  have hw : wsum (sums Q M) = scM Q M := by
    have h := wsum_scM hg M ⟨0, 0, 0⟩ 0 (SB.zero _ (by omega)) (by omega) (by omega) (fun x h => (hx x h).2.2.2.1)
    show wsum (sumsFrom Q ⟨0, 0, 0⟩ M) = _
    rw [h]
    simp [wsum]
  have hone : ∀ x ∈ M, 2 * scal (eOf Q x) ≤ yAt Y x.A + yAt Y x.B + gAdd x G := fun x hxm => by
    obtain ⟨a0, a1, a2, a3, _⟩ := hx x hxm
    obtain ⟨i, hi, _, e2, hh⟩ := edgeN_at a3
    have hmem : eOf Q x ∈ Q := by unfold eOf; rw [e2]; exact List.getElem_mem hi
    have hs := slacks_at Y G Q hsl _ hmem
    have hek := (edgeOk_iff s _).1 ((graph_sound hg).2.2.1 _ hmem)
    have hab : (eOf Q x).A = x.A ∧ (eOf Q x).B = x.B := by
      unfold eOf at hek ⊢
      rw [e2] at hek ⊢
      unfold hit at hh
      simp at hh
      omega
    unfold slackI at hs
    rw [slackG_add _ x hab.1 hab.2, hab.1, hab.2] at hs
    omega
  have hsum : ∀ (L : List CoupleI), (∀ x ∈ L, x ∈ M) → 2 * scM Q L ≤ ySumL Y (vertsM L) + gAll L G := by
    intro L
    induction L with
    | nil => intro _; simp [scM, vertsM, ySumL, gAll]
    | cons x r ih =>
      intro h
      have h1 := ih (fun y hy => h y (List.mem_cons_of_mem _ hy))
      have h2 := hone x (h x List.mem_cons_self)
      simp only [scM, vertsM, ySumL, gAll]
      omega
  have h1 := hsum M (fun _ h => h)
  have hlt : ∀ x ∈ M, x.A < x.B := fun x h => (hx x h).2.1
  have h2 := ySumL_le (vertsM M) Y (verts_nodup M hpw hlt) (fun z hz => by
    obtain ⟨x, hxm, he⟩ := (mem_verts z M).1 hz
    obtain ⟨a0, a1, a2, _⟩ := hx x hxm
    rcases he with rfl | rfl <;> omega) (fun y hy => (hY y hy).1)
  have h3 := gAll_le M hpw hlt G (fun q hqm => by have := ((grpHead_iff s q).1 (hq q hqm)).2.2.2.1; omega)
  have h4 : sumI Y G = ySum 0 Y + gSum 0 G := by
    unfold sumI
    rw [gSum_add]
  rw [hw, h4]
  omega
/-- A pairing that is certified has the most, by Scalars. -/
theorem certified_top {s : Int} {Q : List EdgeI} {Y : List Int} {G : List GrpI} {M N : List CoupleI} (hc : certR s Q M Y G = true) (hn : matchOk s Q N = true) : wsum (sums Q N) ≤ wsum (sums Q M) := by
  unfold certR at hc
  simp only [Bool.and_eq_true, decide_eq_true_eq] at hc
  have := dual hc.1 hn
  omega
theorem inK_snoc_parts {U : List Int} {x y : Int} (h : inK (U ++ [x]) y = false) : inK U y = false ∧ y ≠ x := by
  unfold inK at *
  simp at h ⊢
  exact h
theorem bloop_has (Q : List EdgeI) (s : Int) (n : Nat) (U : List Int) (hu : inK U (s - ((n + 1 : Nat) : Int)) = false) (ih : ∀ V, ∃ M, Pm Q s n V M ∧ sums Q M = (best Q s n V).1) :
    ∀ (m : Nat) (b : Int) (acc : SumsI × Int), b + (m : Int) = s → s - (n : Int) ≤ b → (∃ M, Pm Q s (n + 1) U M ∧ sums Q M = acc.1) → ∃ M, Pm Q s (n + 1) U M ∧ sums Q M = (bloop Q (s - ((n + 1 : Nat) : Int)) U (fun V => best Q s n V) m b acc).1
  | 0, _, acc, _, _, h => h
  | m + 1, b, acc, hb, hb0, h => by
    show ∃ M, Pm Q s (n + 1) U M ∧ sums Q M = (bloop Q (s - ((n + 1 : Nat) : Int)) U (fun V => best Q s n V) m (b + 1) (bstep Q (s - ((n + 1 : Nat) : Int)) U (fun V => best Q s n V) acc b)).1
    refine bloop_has Q s n U hu ih m (b + 1) _ (by omega) (by omega) ?_
    unfold bstep
    split
    · exact h
    · rename_i hc
      simp only
      split
      · obtain ⟨M0, hM0, hs0⟩ := ih (U ++ [b])
        have h0 : 0 ≤ atFrom (s - ((n + 1 : Nat) : Int)) b 0 Q := by omega
        have hub : inK U b = false := by
          cases hx : inK U b
          · rfl
          · exact absurd (.inr hx) hc
        refine ⟨⟨s - ((n + 1 : Nat) : Int), b⟩ :: M0, ⟨fun x hx => ?_, List.pairwise_cons.2 ⟨fun y hy => ?_, hM0.2⟩⟩, ?_⟩
        · rcases List.mem_cons.1 hx with rfl | hx
          · exact ⟨Int.le_refl _, by simp only; omega, by simp only; omega, h0, hu, hub⟩
          · obtain ⟨g1, g2, g3, g4, g5, g6⟩ := hM0.1 x hx
            exact ⟨by omega, g2, g3, g4, (inK_snoc_parts g5).1, (inK_snoc_parts g6).1⟩
        · obtain ⟨g1, g2, g3, g4, g5, g6⟩ := hM0.1 y hy
          exact ⟨by simp only; omega, (inK_snoc_parts g5).2, (inK_snoc_parts g6).2⟩
        · rw [sums_cons, hs0]
      · exact h
theorem best_has (Q : List EdgeI) (s : Int) : ∀ (n : Nat) (U : List Int), ∃ M, Pm Q s n U M ∧ sums Q M = (best Q s n U).1
  | 0, _ => ⟨[], ⟨by simp, List.Pairwise.nil⟩, rfl⟩
  | n + 1, U => by
    have up : ∀ M, Pm Q s n U M → Pm Q s (n + 1) U M := fun M h => ⟨fun x hx => by
      obtain ⟨g1, g2⟩ := h.1 x hx
      exact ⟨by omega, g2⟩, h.2⟩
    obtain ⟨M, hM, hs⟩ := best_has Q s n U
    cases hu : inK U (s - ((n + 1 : Nat) : Int)) with
    | true => rw [best_skip Q s n U hu]; exact ⟨M, up M hM, hs⟩
    | false =>
      rw [best_loop Q s n U hu]
      exact bloop_has Q s n U hu (fun V => best_has Q s n V) n (s - (n : Int)) (best Q s n U) (by omega) (by omega) ⟨M, up M hM, hs⟩
theorem pm_from (Q : List EdgeI) : ∀ (M : List CoupleI) (p : Option CoupleI) (U : List Int), (∀ x ∈ M, x.A < x.B ∧ 0 ≤ atFrom x.A x.B 0 Q ∧ inK U x.A = false ∧ inK U x.B = false) → M.Pairwise (fun x y => x.A < y.A ∧ y.A ≠ x.B ∧ y.B ≠ x.B) → (∀ q, p = some q → ∀ x ∈ M, q.A < x.A) → mFrom Q p U M = true
  | [], _, _, _, _, _ => by unfold mFrom; rfl
  | x :: r, p, U, h, hp, ha => by
    obtain ⟨h1, h2, h3, h4⟩ := h x List.mem_cons_self
    rw [List.pairwise_cons] at hp
    have hah : aheadC p x = true := by
      unfold aheadC
      cases p with
      | none => rfl
      | some q => exact decide_eq_true (ha q rfl x List.mem_cons_self)
    have ih := pm_from Q r (some x) (U ++ [x.A, x.B]) (fun y hy => by
      obtain ⟨g1, g2, g3, g4⟩ := h y (List.mem_cons_of_mem _ hy)
      have hr := hp.1 y hy
      unfold inK at g3 g4 ⊢
      simp at g3 g4 ⊢
      exact ⟨g1, g2, ⟨g3, by omega, hr.2.1⟩, g4, by omega, hr.2.2⟩) hp.2 (fun q hq y hy => by
        cases hq
        exact (hp.1 y hy).1)
    unfold mFrom
    rw [decide_eq_true h1, hah, decide_eq_true h2, h3, h4, ih]
    rfl
theorem pm_few {Q : List EdgeI} {s : Int} {n : Nat} {U : List Int} {M : List CoupleI} (h : Pm Q s n U M) (h9 : s ≤ 9) (hn : (n : Int) ≤ s) : M.length ≤ 4 := by
  have hl := nodup_len (vertsM M) ((List.range 9).map (fun (k : Nat) => (k : Int))) (verts_nodup M h.2 (fun x hx => (h.1 x hx).2.1)) (fun z hz => by
    obtain ⟨x, hx, he⟩ := (mem_verts z M).1 hz
    obtain ⟨g1, g2, g3, _⟩ := h.1 x hx
    have hz0 : 0 ≤ z ∧ z < 9 := by rcases he with rfl | rfl <;> omega
    obtain ⟨k, rfl⟩ := Int.eq_ofNat_of_zero_le hz0.1
    exact List.mem_map.2 ⟨k, List.mem_range.2 (by omega), rfl⟩)
  rw [verts_length] at hl
  simp at hl
  omega
theorem match_few {Q : List EdgeI} {s : Int} {M : List CoupleI} (h : matchOk s Q M = true) : M.length ≤ 4 ∧ SB (sums Q M) 4 := by
  obtain ⟨hg, h9, hm⟩ := match_sound h
  obtain ⟨hx, hp, _⟩ := match_pm hg M none [] hm
  obtain ⟨g0, g9, _⟩ := graph_sound hg
  have hl : M.length ≤ 4 := pm_few (Q := Q) (s := s) (n := s.toNat) (U := []) ⟨fun x hxm => by
    obtain ⟨a1, a2, a3, a4, a5, a6⟩ := hx x hxm
    exact ⟨by omega, a2, a3, a4, a5, a6⟩, hp⟩ g9 (by omega)
  refine ⟨hl, ?_⟩
  have key : ∀ (L : List CoupleI) (t : SumsI) (n : Int), SB t n → (∀ x ∈ L, 0 ≤ atFrom x.A x.B 0 Q) → SB (sumsFrom Q t L) (n + (L.length : Int)) := by
    intro L
    induction L with
    | nil => intro t n ht _; simpa [sumsFrom] using ht
    | cons x r ih =>
      intro t n ht hx
      have h1 := ih _ (n + 1) (ht.add (edgeN_ok hg (hx x List.mem_cons_self))) (fun y hy => hx y (List.mem_cons_of_mem _ hy))
      show SB (sumsFrom Q _ r) _
      rw [List.length_cons]
      exact h1.mono (by omega)
  exact (key M ⟨0, 0, 0⟩ 0 (SB.zero _ (by omega)) (fun x hxm => (hx x hxm).2.2.2.1)).mono (by omega)
/-- The best sums are those of a pairing. -/
theorem best_is {s : Int} {Q : List EdgeI} (hg : graphOk s Q = true) : ∃ M, matchOk s Q M = true ∧ sums Q M = (best Q s s.toNat []).1 := by
  obtain ⟨g0, g9, _⟩ := graph_sound hg
  obtain ⟨M, hM, hs⟩ := best_has Q s s.toNat []
  have hf := pm_few hM g9 (by omega)
  refine ⟨M, ?_, hs⟩
  unfold matchOk
  rw [hg, decide_eq_true (by omega : M.length ≤ 9), pm_from Q M none [] (fun x hx => by
    obtain ⟨_, a2, _, a4, a5, a6⟩ := hM.1 x hx
    exact ⟨a2, a4, a5, a6⟩) hM.2 (fun q hq => by cases hq)]
  rfl
theorem le_wsum {a b : SumsI} (ha : SB a 4) (hb : SB b 4) (h : LE a b) : wsum a ≤ wsum b := by
  unfold SB at ha hb
  unfold LE at h
  unfold wsum
  omega
/-- No accepted proof tells less than the best. -/
theorem dual_best {s : Int} {Q : List EdgeI} {Y : List Int} {G : List GrpI} (hp : proofOk s Q Y G = true) : wsum (best Q s s.toNat []).1 ≤ boundR s Q Y G := by
  obtain ⟨M, hm, hs⟩ := best_is (proof_sound hp).1
  have h := dual hp hm
  rw [hs] at h
  unfold boundR
  rw [if_pos hp]
  omega
/-- A pairing that is certified has the best worth, and the best sums. -/
theorem certified_best {s : Int} {Q : List EdgeI} {Y : List Int} {G : List GrpI} {M : List CoupleI} (hc : certR s Q M Y G = true) : sums Q M = (best Q s s.toNat []).1 := by
  have hm : matchOk s Q M = true := by
    unfold certR at hc
    simp only [Bool.and_eq_true] at hc
    exact hc.2.1
  obtain ⟨N, hn, hs⟩ := best_is (match_sound hm).1
  have h1 := certified_top hc hn
  have h2 := (le_iff _ _).1 (best_of_all hm).1
  rw [← hs] at h2 ⊢
  have b1 := (match_few hm).2
  have b2 := (match_few hn).2
  unfold SB at b1 b2
  unfold LE at h2
  unfold wsum at h1
  have e : (sums Q M).W1 = (sums Q N).W1 ∧ (sums Q M).W2 = (sums Q N).W2 ∧ (sums Q M).W3 = (sums Q N).W3 := by omega
  cases hM : sums Q M
  cases hN : sums Q N
  rw [hM, hN] at e
  simp only at e
  rw [e.1, e.2.1, e.2.2]
end Gr
end Go.Proofs.Ytnihoabminnbcaa
