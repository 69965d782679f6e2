/-
 GrProof1, GrProof2, GrProof3, GrProof4, GrProof5, GrProof6, GrDual, GrAttain, GrCert0, GrProofM.
-/
import Derived.Test.YtkjclkelnheheaaJ16
import Derived.Test.YtkjclkelnheheaaJ12
import Derived.Deep.DeepFit
import Derived.Test.YtkjclkelnheheaaJ7
import Derived.Test.YtkjclkelnheheaaJ10
import Derived.Test.YtkjclkelnheheaaJ3
import Derived.Test.YtkjclkelnheheaaJ2
import Derived.Test.YtkjclkelnheheaaJ14
namespace Go.Proofs.Ytkjclkelnheheaa
namespace Gr
open Go.RowKit
theorem wrap64_in (x : Int) (h : -9223372036854775808 ≤ x ∧ x ≤ 9223372036854775807) : wrap64 x = x := by
  rw [wrap_mod]
  omega
theorem yOk_step (Y : List Int) (k : Nat) (h : k < Y.length) : yOk (Y.drop k) = ((decide (0 ≤ Y[k]) && decide (Y[k] ≤ 1000000000)) && yOk (Y.drop (k + 1))) := by rw [drop_step Y k h]; rfl
theorem slacksOk_step (Y : List Int) (G : List GrpI) (Q : List EdgeI) (k : Nat) (h : k < Q.length) : slacksOk Y G (Q.drop k) = (decide (0 ≤ slackI Y G Q[k]) && slacksOk Y G (Q.drop (k + 1))) := by rw [drop_step Q k h]; rfl
theorem proof_sound {s : Int} {Q : List EdgeI} {Y : List Int} {G : List GrpI} (h : proofOk s Q Y G = true) : graphOk s Q = true ∧ (Y.length : Int) = s ∧ s ≤ 9 ∧ G.length ≤ 8 ∧ (∀ y ∈ Y, 0 ≤ y ∧ y ≤ 1000000000) ∧ (∀ q ∈ G, grpHead s q = true) := by
  unfold proofOk at h
  simp only [Bool.and_eq_true, decide_eq_true_eq] at h
  obtain ⟨h1, h2, h3, h4, h5, _⟩ := h
  exact ⟨h1, h2, (graph_sound h1).2.1, h3, yOk_at Y h4, grpsOk_at s G [] h5⟩
def certR (s : Int) (Q : List EdgeI) (M : List CoupleI) (Y : List Int) (G : List GrpI) : Bool := proofOk s Q Y G && (matchOk s Q M && decide (2 * wsum (sums Q M) = sumI Y G))
theorem sums_range {s : Int} {Q : List EdgeI} {M : List CoupleI} (h : matchOk s Q M = true) : 0 ≤ wsum (sums Q M) ∧ wsum (sums Q M) ≤ 90000000 := by
  obtain ⟨hg, h9, hm⟩ := match_sound h
  have key : ∀ (L : List CoupleI) (t : SumsI) (n : Int), SB t n → (∀ x ∈ L, 0 ≤ atFrom x.A x.B 0 Q) → SB (sumsFrom Q t L) (n + (L.length : Int)) := by
    intro L
    induction L with
    | nil => intro t n ht _; simpa [sumsFrom] using ht
    | cons x r ih =>
      intro t n ht hx
      have h1 := ih _ (n + 1) (ht.add (edgeN_ok hg (hx x List.mem_cons_self))) (fun y hy => hx y (List.mem_cons_of_mem _ hy))
      show SB (sumsFrom Q _ r) _
      rw [List.length_cons]
      exact h1.mono (by omega)
  have := key M ⟨0, 0, 0⟩ 0 (SB.zero _ (by omega)) (mFrom_at Q M none [] hm)
  unfold SB at this
  unfold wsum sums
  omega
def vertsM : List CoupleI → List Int
  | [] => []
  | x :: r => x.A :: x.B :: vertsM r
theorem mem_verts (z : Int) : ∀ (M : List CoupleI), z ∈ vertsM M ↔ ∃ x ∈ M, z = x.A ∨ z = x.B
  | [] => by simp [vertsM]
  | x :: r => by
    simp only [vertsM, List.mem_cons, mem_verts z r]
    constructor
    · rintro (h | h | ⟨y, hy, h⟩)
      · exact ⟨x, .inl rfl, .inl h⟩
      · exact ⟨x, .inl rfl, .inr h⟩
      · exact ⟨y, .inr hy, h⟩
    · rintro ⟨y, hy | hy, h⟩
      · subst hy
        rcases h with h | h
        · exact .inl h
        · exact .inr (.inl h)
      · exact .inr (.inr ⟨y, hy, h⟩)
theorem verts_length : ∀ (M : List CoupleI), (vertsM M).length = 2 * M.length
  | [] => rfl
  | x :: r => by simp only [vertsM, List.length_cons, verts_length r]; omega
theorem verts_nodup : ∀ (M : List CoupleI), M.Pairwise (fun x y => x.A < y.A ∧ y.A ≠ x.B ∧ y.B ≠ x.B) → (∀ x ∈ M, x.A < x.B) → (vertsM M).Nodup
  | [], _, _ => List.nodup_nil
  | x :: r, hp, hx => by
    rw [List.pairwise_cons] at hp
    have hxx := hx x List.mem_cons_self
    have ih := verts_nodup r hp.2 (fun y hy => hx y (List.mem_cons_of_mem _ hy))
    simp only [vertsM, List.nodup_cons, List.mem_cons, not_or]
    refine ⟨⟨by omega, fun h => ?_⟩, fun h => ?_, ih⟩
    · obtain ⟨y, hy, he⟩ := (mem_verts _ r).1 h
      have h1 := hp.1 y hy
      have h2 := hx y (List.mem_cons_of_mem _ hy)
      omega
    · obtain ⟨y, hy, he⟩ := (mem_verts _ r).1 h
      have h1 := hp.1 y hy
      omega
theorem nodup_len {α : Type} [BEq α] [LawfulBEq α] : ∀ (L M : List α), L.Nodup → (∀ x ∈ L, x ∈ M) → L.length ≤ M.length
  | [], _, _, _ => Nat.zero_le _
  | x :: r, M, hn, hs => by
    have hxM := hs x List.mem_cons_self
    rw [List.nodup_cons] at hn
    have h := nodup_len r (M.erase x) hn.2 (fun y hy => (List.mem_erase_of_ne (fun (e : y = x) => hn.1 (by rw [← e]; exact hy))).2 (hs y (List.mem_cons_of_mem _ hy)))
    have h2 := List.length_erase_of_mem hxM
    have h3 : 0 < M.length := List.length_pos_of_mem hxM
    rw [List.length_cons]
    omega
def ySumL (Y : List Int) : List Int → Int
  | [] => 0
  | z :: r => yAt Y z + ySumL Y r
theorem ySum_add : ∀ (Y : List Int) (n : Int), ySum n Y = n + ySum 0 Y
  | [], n => by simp [ySum]
  | y :: r, n => by
    show ySum (n + y) r = n + ySum (0 + y) r
    rw [ySum_add r (n + y), ySum_add r (0 + y)]
    omega
theorem ySum_set : ∀ (Y : List Int) (k : Nat) (h : k < Y.length), ySum 0 (Y.set k 0) = ySum 0 Y - Y[k]
  | [], _, h => by simp at h
  | y :: r, 0, _ => by
    show ySum (0 + 0) r = ySum (0 + y) r - y
    rw [ySum_add r (0 + 0), ySum_add r (0 + y)]
    omega
  | y :: r, k + 1, h => by
    show ySum (0 + y) (r.set k 0) = ySum (0 + y) r - r[k]'(by simpa using h)
    rw [ySum_add _ (0 + y), ySum_add r (0 + y), ySum_set r k (by simpa using h)]
    omega
theorem ySumL_congr {Y Y' : List Int} : ∀ (L : List Int), (∀ z ∈ L, yAt Y z = yAt Y' z) → ySumL Y L = ySumL Y' L
  | [], _ => rfl
  | z :: r, h => by
    unfold ySumL
    rw [h z List.mem_cons_self, ySumL_congr r (fun x hx => h x (List.mem_cons_of_mem _ hx))]
theorem ySumL_le : ∀ (L : List Int) (Y : List Int), L.Nodup → (∀ z ∈ L, 0 ≤ z ∧ z < (Y.length : Int)) → (∀ y ∈ Y, 0 ≤ y) → ySumL Y L ≤ ySum 0 Y
  | [], Y, _, _, hY => by
    have key : ∀ (Y : List Int) (n : Int), (∀ y ∈ Y, 0 ≤ y) → n ≤ ySum n Y := by
      intro Y
      induction Y with
      | nil => intro n _; simp [ySum]
      | cons y r ih =>
        intro n h
        have h1 := ih (n + y) (fun z hz => h z (List.mem_cons_of_mem _ hz))
        have h2 := h y List.mem_cons_self
        show n ≤ ySum (n + y) r
        omega
    exact key Y 0 hY
  | z :: r, Y, hn, hL, hY => by
    rw [List.nodup_cons] at hn
    obtain ⟨h0, h1⟩ := hL z List.mem_cons_self
    obtain ⟨k, rfl⟩ := Int.eq_ofNat_of_zero_le h0
    have hk : k < Y.length := by omega
    have e1 : ySumL Y r = ySumL (Y.set k 0) r := ySumL_congr r (fun x hx => by
      have hx0 := (hL x (List.mem_cons_of_mem _ hx)).1
      obtain ⟨j, rfl⟩ := Int.eq_ofNat_of_zero_le hx0
      have hne : k ≠ j := fun e => hn.1 (by rw [e]; exact hx)
      unfold yAt
      simp [List.getElem?_set_ne hne])
    have ih := ySumL_le r (Y.set k 0) hn.2 (fun x hx => by rw [List.length_set]; exact hL x (List.mem_cons_of_mem _ hx)) (fun y hy => by
      rcases List.mem_or_eq_of_mem_set hy with h | h
      · exact hY y h
      · rw [h]; exact Int.le_refl _)
    rw [ySum_set Y k hk] at ih
    have e2 : yAt Y (k : Int) = Y[k] := by unfold yAt; simp [hk]
    show yAt Y (k : Int) + ySumL Y r ≤ ySum 0 Y
    rw [e1, e2]
    omega
def gAdd (x : CoupleI) : List GrpI → Int
  | [] => 0
  | q :: r => (if (inK q.M x.A && inK q.M x.B) = true then q.Z else 0) + gAdd x r
theorem slackG_add (e : EdgeI) (x : CoupleI) (hA : e.A = x.A) (hB : e.B = x.B) : ∀ (G : List GrpI) (n : Int), slackG e n G = n + gAdd x G
  | [], n => by unfold slackG gAdd; omega
  | q :: r, n => by
    unfold slackG gAdd
    rw [slackG_add e x hA hB r, hA, hB]
    split <;> omega
def gAll : List CoupleI → List GrpI → Int
  | [], _ => 0
  | x :: r, G => gAdd x G + gAll r G
def cntG (q : GrpI) : List CoupleI → Nat
  | [] => 0
  | x :: r => (if (inK q.M x.A && inK q.M x.B) = true then 1 else 0) + cntG q r
theorem gAll_cons (q : GrpI) (G : List GrpI) : ∀ (M : List CoupleI), gAll M (q :: G) = q.Z * (cntG q M : Int) + gAll M G
  | [] => by simp [gAll, cntG]
  | x :: r => by
    simp only [gAll, cntG, gAdd]
    rw [gAll_cons q G r]
    split
    · rw [Int.natCast_add, Int.mul_add]
      simp only [Int.natCast_one, Int.mul_one]
      omega
    · simp only [Nat.zero_add]
      omega
theorem gAll_nil : ∀ (M : List CoupleI), gAll M [] = 0
  | [] => rfl
  | x :: r => by simp only [gAll, gAdd, gAll_nil r]; rfl
theorem cntG_is (q : GrpI) : ∀ (M : List CoupleI), cntG q M = (M.filter fun x => inK q.M x.A && inK q.M x.B).length
  | [] => rfl
  | x :: r => by
    simp only [cntG, List.filter_cons]
    rw [cntG_is q r]
    split
    · rw [List.length_cons]; omega
    · omega
theorem cntG_le (q : GrpI) (M : List CoupleI) (hp : M.Pairwise (fun x y => x.A < y.A ∧ y.A ≠ x.B ∧ y.B ≠ x.B)) (hx : ∀ x ∈ M, x.A < x.B) : cntG q M ≤ q.M.length / 2 := by
  rw [cntG_is]
  have h := nodup_len (vertsM (M.filter fun x => inK q.M x.A && inK q.M x.B)) q.M (verts_nodup _ (hp.filter _) (fun x hxm => hx x (List.mem_filter.1 hxm).1)) (fun z hz => by
    obtain ⟨x, hxm, he⟩ := (mem_verts z _).1 hz
    have hb := (List.mem_filter.1 hxm).2
    rw [Bool.and_eq_true] at hb
    unfold inK at hb
    rcases he with rfl | rfl
    · simpa using hb.1
    · simpa using hb.2)
  rw [verts_length] at h
  omega
theorem gSum_add : ∀ (G : List GrpI) (n : Int), gSum n G = n + gSum 0 G
  | [], n => by simp [gSum]
  | q :: r, n => by
    show gSum (n + q.Z * ((q.M.length / 2 : Nat) : Int)) r = n + gSum (0 + q.Z * ((q.M.length / 2 : Nat) : Int)) r
    rw [gSum_add r (n + _), gSum_add r (0 + _)]
    omega
theorem gAll_le (M : List CoupleI) (hp : M.Pairwise (fun x y => x.A < y.A ∧ y.A ≠ x.B ∧ y.B ≠ x.B)) (hx : ∀ x ∈ M, x.A < x.B) : ∀ (G : List GrpI), (∀ q ∈ G, 0 ≤ q.Z) → gAll M G ≤ gSum 0 G
  | [], _ => by rw [gAll_nil]; simp [gSum]
  | q :: r, h => by
    have ih := gAll_le M hp hx r (fun x hxm => h x (List.mem_cons_of_mem _ hxm))
    have h0 := h q List.mem_cons_self
    have h1 := cntG_le q M hp hx
    rw [gAll_cons]
    show _ ≤ gSum (0 + q.Z * ((q.M.length / 2 : Nat) : Int)) r
    rw [gSum_add r (0 + _)]
    have h2 : q.Z * (cntG q M : Int) ≤ q.Z * ((q.M.length / 2 : Nat) : Int) := Int.mul_le_mul_of_nonneg_left (by omega) h0
    omega
def eOf (Q : List EdgeI) (x : CoupleI) : EdgeI := edgeN Q (atFrom x.A x.B 0 Q)
def scM (Q : List EdgeI) : List CoupleI → Int
  | [] => 0
  | x :: r => scal (eOf Q x) + scM Q r
theorem wsum_scM {s : Int} {Q : List EdgeI} (hg : graphOk s Q = true) : ∀ (L : List CoupleI) (t : SumsI) (n : Int), SB t n → 0 ≤ n → n + (L.length : Int) ≤ 9 → (∀ x ∈ L, 0 ≤ atFrom x.A x.B 0 Q) → wsum (sumsFrom Q t L) = wsum t + scM Q L
  | [], t, n, _, _, _, _ => by simp [sumsFrom, scM]
  | x :: r, t, n, ht, h0, h9, hx => by
    rw [List.length_cons] at h9
    have hok := edgeN_ok hg (hx x List.mem_cons_self)
    have h1 := (wsum_add ht (by omega) hok).1
    have ih := wsum_scM hg r (addS t (edgeN Q (atFrom x.A x.B 0 Q))) (n + 1) (ht.add hok) (by omega) (by omega) (fun y hy => hx y (List.mem_cons_of_mem _ hy))
    show wsum (sumsFrom Q (addS t (edgeN Q (atFrom x.A x.B 0 Q))) r) = wsum t + (scal (eOf Q x) + scM Q r)
    rw [ih, h1]
    unfold eOf
    omega
theorem pm_from (Q : List EdgeI) : ∀ (M : List CoupleI) (p : Option CoupleI) (U : List Int), (∀ x ∈ M, x.A < x.B ∧ 0 ≤ atFrom x.A x.B 0 Q ∧ inK U x.A = false ∧ inK U x.B = false) → M.Pairwise (fun x y => x.A < y.A ∧ y.A ≠ x.B ∧ y.B ≠ x.B) → (∀ q, p = some q → ∀ x ∈ M, q.A < x.A) → mFrom Q p U M = true
  | [], _, _, _, _, _ => by unfold mFrom; rfl
  | x :: r, p, U, h, hp, ha => by
    obtain ⟨h1, h2, h3, h4⟩ := h x List.mem_cons_self
    rw [List.pairwise_cons] at hp
    have hah : aheadC p x = true := by
      unfold aheadC
      cases p with
      | none => rfl
      | some q => exact decide_eq_true (ha q rfl x List.mem_cons_self)
    have ih := pm_from Q r (some x) (U ++ [x.A, x.B]) (fun y hy => by
      obtain ⟨g1, g2, g3, g4⟩ := h y (List.mem_cons_of_mem _ hy)
      have hr := hp.1 y hy
      unfold inK at g3 g4 ⊢
      simp at g3 g4 ⊢
      exact ⟨g1, g2, ⟨g3, by omega, hr.2.1⟩, g4, by omega, hr.2.2⟩) hp.2 (fun q hq y hy => by
        cases hq
        exact (hp.1 y hy).1)
    unfold mFrom
    rw [decide_eq_true h1, hah, decide_eq_true h2, h3, h4, ih]
    rfl
theorem pm_few {Q : List EdgeI} {s : Int} {n : Nat} {U : List Int} {M : List CoupleI} (h : Pm Q s n U M) (h9 : s ≤ 9) (hn : (n : Int) ≤ s) : M.length ≤ 4 := by
  have hl := nodup_len (vertsM M) ((List.range 9).map (fun (k : Nat) => (k : Int))) (verts_nodup M h.2 (fun x hx => (h.1 x hx).2.1)) (fun z hz => by
    obtain ⟨x, hx, he⟩ := (mem_verts z M).1 hz
    obtain ⟨g1, g2, g3, _⟩ := h.1 x hx
    have hz0 : 0 ≤ z ∧ z < 9 := by rcases he with rfl | rfl <;> omega
    obtain ⟨k, rfl⟩ := Int.eq_ofNat_of_zero_le hz0.1
    exact List.mem_map.2 ⟨k, List.mem_range.2 (by omega), rfl⟩)
  rw [verts_length] at hl
  simp at hl
  omega
def CeAt (w : World) (v : Value) (B : Nat) (s : Int) (Q : List EdgeI) (M : List CoupleI) (Y : List Int) (G : List GrpI) : Prop :=
  ∃ a c a1 c1 a2 c2 a3 c3, v = .agg #[.int .i64 s, .slice a Q.length c, .slice a1 M.length c1, .slice a2 Y.length c2, .slice a3 G.length c3] ∧ GrAt w (.agg #[.int .i64 s, .slice a Q.length c]) B s Q ∧ CoAt w (.slice a1 M.length c1) B M ∧ PrAt w (.agg #[.slice a2 Y.length c2, .slice a3 G.length c3]) B Y G ∧ Q.length ≤ 9223372036854775807 ∧ M.length ≤ 9223372036854775807
theorem CeAt.below {w w' : World} {v : Value} {B C : Nat} {s : Int} {Q : List EdgeI} {M : List CoupleI} {Y : List Int} {G : List GrpI} (h : CeAt w v B s Q M Y G) (hb : Below C w w') (hC : B ≤ C) : CeAt w' v B s Q M Y G := by
  obtain ⟨a, c, a1, c1, a2, c2, a3, c3, rfl, h1, h2, h3, h4, h5⟩ := h
  exact ⟨a, c, a1, c1, a2, c2, a3, c3, rfl, h1.below hb hC, h2.below hb hC, h3.below hb hC, h4, h5⟩
theorem CeAt.mono {w : World} {v : Value} {B C : Nat} {s : Int} {Q : List EdgeI} {M : List CoupleI} {Y : List Int} {G : List GrpI} (h : CeAt w v B s Q M Y G) (hC : B ≤ C) : CeAt w v C s Q M Y G := by
  obtain ⟨a, c, a1, c1, a2, c2, a3, c3, rfl, h1, h2, h3, h4, h5⟩ := h
  exact ⟨a, c, a1, c1, a2, c2, a3, c3, rfl, h1.mono hC, h2.mono hC, h3.mono hC, h4, h5⟩
theorem CeAt.shape {w : World} {v : Value} {B : Nat} {s : Int} {Q : List EdgeI} {M : List CoupleI} {Y : List Int} {G : List GrpI} (h : CeAt w v B s Q M Y G) :
    ∃ a c a1 c1 a2 c2 a3 c3, v = .agg #[.int .i64 s, .slice a Q.length c, .slice a1 M.length c1, .slice a2 Y.length c2, .slice a3 G.length c3] := by
  obtain ⟨a, c, a1, c1, a2, c2, a3, c3, rfl, _⟩ := h
  exact ⟨a, c, a1, c1, a2, c2, a3, c3, rfl⟩
def CeOwn (w : World) (_B : Nat) (v : Value) (s : Int) (Q : List EdgeI) (M : List CoupleI) (Y : List Int) (G : List GrpI) : Prop := CeAt w v w.heap.size s Q M Y G
theorem CeOwn.at {w : World} {B : Nat} {v : Value} {s : Int} {Q : List EdgeI} {M : List CoupleI} {Y : List Int} {G : List GrpI} (h : CeOwn w B v s Q M Y G) : CeAt w v w.heap.size s Q M Y G := h
theorem CeOwn.below {w w' : World} {B : Nat} {v : Value} {s : Int} {Q : List EdgeI} {M : List CoupleI} {Y : List Int} {G : List GrpI} (h : CeOwn w B v s Q M Y G) (hb : Below w.heap.size w w') : CeOwn w' B v s Q M Y G := (CeAt.below h hb (Nat.le_refl _)).mono hb.size
end Gr
end Go.Proofs.Ytkjclkelnheheaa
namespace Go.Proofs.Ytkjclkelnheheaa
namespace Gr
open Go.ChangeShapes Go.WideShapes Go.ChangeAt Go.RowKit
theorem DistV.tail {v : Value} {vs : List Value} (h : DistV (v :: vs)) : DistV vs := fun i j hi hj g h1 h2 => by
  have := h (i + 1) (j + 1) (by simpa using hi) (by simpa using hj) g (by simpa using h1) (by simpa using h2)
  omega
theorem GOwn.kept {S : Nat → Prop} {w w' : World} {B : Nat} {v : Value} {ms : List Value} {G : List GrpI} (h : GOwn w B v ms G) (hk : Kept S w w') (hS : ∀ g, S g → Alien w g 54) (hT : ∀ j (hj : j < ms.length) g, ms[j].ownBlock = some g → ¬ S g) : GOwn w' B v ms G :=
  ⟨h.1, hk.own_alien h.2.1 hS, fun j h1 h2 => hk.own (h.2.2 j h1 h2) (hT j h1)⟩
theorem GOwn.blk {w : World} {B : Nat} {v : Value} {ms : List Value} {G : List GrpI} (h : GOwn w B v ms G) : ∀ g, GoBlk v ms g → B ≤ g ∧ g < w.heap.size := by
  rintro g (hg | ⟨j, hj, hg⟩)
  · exact h.2.1.lt g hg
  · exact (h.2.2 j hj (by rw [← h.1]; exact hj)).blk g hg
theorem GOwn.at {w : World} {B : Nat} {v : Value} {ms : List Value} {G : List GrpI} (h : GOwn w B v ms G) : ∃ a c, v = .slice a G.length c ∧ groupsAt w a G.length w.heap.size G := by
  obtain ⟨A, c, rfl⟩ := own_shape h.2.1
  refine ⟨A, c, rfl, rfl, fun j hj => ?_⟩
  have hjm : j < ms.length := by rw [h.1]; exact hj
  obtain ⟨g, cap, hA, _, hgl⟩ := h.2.1.form (by omega)
  simp at hA
  obtain ⟨rfl, rfl⟩ := hA
  obtain ⟨a1, c1, e1, hI⟩ := (h.2.2 j hjm hj).at
  have hgc := gC_at ms (zsOf G) j hjm (by rw [zsOf_length]; exact hj)
  have k0 := h.2.1.cellAt (j * 2) (by omega)
  have k1 := h.2.1.cellAt (j * 2 + 1) (by omega)
  rw [hgc.1, e1] at k0
  rw [hgc.2, zsOf_at G j _ hj] at k1
  exact ⟨g, 0, a1, c1, rfl, hgl, by simpa using k0, by simpa using k1, hI⟩
def POwn (w : World) (B : Nat) (v : Value) (Y : List Int) (G : List GrpI) : Prop := ∃ u1 u2 ms, v = .agg #[u1, u2] ∧ InOwn w B u1 Y ∧ GOwn w B u2 ms G ∧ DistV (u1 :: ms)
theorem POwn.below {w w' : World} {B : Nat} {v : Value} {Y : List Int} {G : List GrpI} (h : POwn w B v Y G) (hb : Below w.heap.size w w') : POwn w' B v Y G := by
  obtain ⟨u1, u2, ms, rfl, h1, h2, h3⟩ := h
  exact ⟨u1, u2, ms, rfl, h1.below hb, h2.below hb, h3⟩
end Gr
end Go.Proofs.Ytkjclkelnheheaa
