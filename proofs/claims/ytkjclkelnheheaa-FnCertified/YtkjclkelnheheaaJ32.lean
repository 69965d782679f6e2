/-
 SvE1, SvF4, CdS.
-/
import Derived.Test.YtkjclkelnheheaaJ24
import Derived.Test.YtkjclkelnheheaaJ31
import Derived.Test.YtkjclkelnheheaaJ27
import Derived.Test.YtkjclkelnheheaaJ17
namespace Go.Proofs.Ytkjclkelnheheaa
namespace Sv
open Go.RowKit Gr
theorem hit_at {a b : Int} {Q : List EdgeI} : ∀ {L : List EdgeI} {k : Nat}, (∃ e ∈ L, hit a b e = true) → 0 ≤ atFrom a b k L
  | [], _, h => by obtain ⟨e, he, _⟩ := h; cases he
  | x :: r, k, h => by
    unfold atFrom
    by_cases hx : hit a b x = true
    · rw [if_pos hx]; omega
    · rw [if_neg hx]
      obtain ⟨e, he, hh⟩ := h
      rcases List.mem_cons.1 he with rfl | he
      · exact absurd hh hx
      · exact hit_at (Q := Q) ⟨e, he, hh⟩
def EdgeL (Q : List EdgeI) (x : Lk) : Prop := ∃ e ∈ Q, hit (x.f : Int) (x.t : Int) e = true
theorem edgeL_flip (Q : List EdgeI) (x : Lk) (h : EdgeL Q x) : EdgeL Q x.flip := by
  obtain ⟨e, he, hh⟩ := h
  refine ⟨e, he, ?_⟩
  unfold hit at hh ⊢
  show ((e.A == (x.t : Int)) && (e.B == (x.f : Int)) || (e.A == (x.f : Int)) && (e.B == (x.t : Int))) = true
  rw [Bool.or_comm]
  exact hh
def pairsS (n : Nat) (Q : List EdgeI) : List CoupleI := (solveM n Q).map cplI
theorem solve_pairs {n : Nat} {Q : List EdgeI} (hok : graphOk (n : Int) Q = true) : matchOk (n : Int) Q (pairsS n Q) = true := by
  obtain ⟨h0, h9, h3, _⟩ := graph_sound hok
  have hE : ∀ e ∈ Q, (0 ≤ e.A ∧ e.A < (n : Int)) ∧ (0 ≤ e.B ∧ e.B < (n : Int)) := fun e he => by
    have := h3 e he
    unfold edgeOk at this
    simp only [Bool.and_eq_true, decide_eq_true_eq] at this
    omega
  have hQ : ∀ e ∈ Q, e.A.toNat < n ∧ e.B.toNat < n := fun e he => by have := hE e he; omega
  have hT : ∀ e ∈ Q, EdgeL Q ⟨e.A.toNat, e.B.toNat⟩ := fun e he => by
    have h := hE e he
    refine ⟨e, he, ?_⟩
    unfold hit
    have e1 : ((e.A.toNat : Nat) : Int) = e.A := by omega
    have e2 : ((e.B.toNat : Nat) : Int) = e.B := by omega
    simp [e1, e2]
  obtain ⟨I, _, _, _⟩ := solved_inv (s := n) (Q := Q) hQ
  have hl := lt_solved (s := n) (edgeL_flip Q) hQ hT
  obtain ⟨I2, _⟩ := openK_inv (s := n) (n := (solved n Q).2.2.1.length) (solved n Q).2.2.1.length ((solved n Q).2.2.1, (solved n Q).2.2.2.1) I rfl
  have hl2 := lt_openK (s := n) (T := EdgeL Q) (n := (solved n Q).2.2.1.length) (solved n Q).2.2.1.length ((solved n Q).2.2.1, (solved n Q).2.2.2.1) I hl rfl
  have hn : (ends (openK n (solved n Q).2.2.1.length (solved n Q).2.2.1.length ((solved n Q).2.2.1, (solved n Q).2.2.2.1)).2).Nodup := nodup_of_map' I2.mat
  have hfin := I2.fin
  have hm := hl2.mates
  have hp : (pairsS n Q).Pairwise (fun x y => x.A < y.A ∧ y.A ≠ x.B ∧ y.B ≠ x.B) := by
    unfold pairsS
    rw [List.pairwise_map]
    refine (cplTo_order hn n).imp ?_
    rintro a b ⟨h1, h2, h3⟩
    unfold cplI
    refine ⟨by show (a.f : Int) < (b.f : Int); omega, fun e => h2 (by have e : (b.f : Int) = (a.t : Int) := e; omega), fun e => h3 (by have e : (b.t : Int) = (a.t : Int) := e; omega)⟩
  have hx : ∀ x ∈ pairsS n Q, (n : Int) - (n : Int) ≤ x.A ∧ x.A < x.B ∧ x.B < (n : Int) ∧ 0 ≤ atFrom x.A x.B 0 Q ∧ inK [] x.A = false ∧ inK [] x.B = false := fun x hx => by
    unfold pairsS at hx
    obtain ⟨c, hc, rfl⟩ := List.mem_map.1 hx
    obtain ⟨h1, h2, h4⟩ := mem_cplTo.1 hc
    have hct : c.t < n := by
      rcases h4 with h4 | h4
      · exact hfin _ (mem_ends.2 ⟨c, h4, .inr rfl⟩)
      · exact hfin _ (mem_ends.2 ⟨c.flip, h4, .inl rfl⟩)
    have hed : EdgeL Q c := by
      rcases h4 with h4 | h4
      · exact hm c h4
      · exact edgeL_flip Q _ (hm _ h4)
    refine ⟨by show (n : Int) - (n : Int) ≤ (c.f : Int); omega, by show (c.f : Int) < (c.t : Int); omega, by show (c.t : Int) < (n : Int); omega, ?_, rfl, rfl⟩
    obtain ⟨e, he, hh⟩ := hed
    exact hit_at (Q := Q) ⟨e, he, hh⟩
  have hf := pm_few (Q := Q) (s := (n : Int)) (n := n) (U := []) ⟨hx, hp⟩ h9 (by omega)
  unfold matchOk
  rw [hok, decide_eq_true (by omega : (pairsS n Q).length ≤ 9), pm_from Q _ none [] (fun x h => by
    obtain ⟨_, a2, _, a4, a5, a6⟩ := hx x h
    exact ⟨a2, a4, a5, a6⟩) hp (fun q hq => by cases hq)]
  rfl
theorem edge_unique {Q : List EdgeI} (hp : Q.Pairwise (fun a b => Gr.ahead a b = true)) {e e' : EdgeI} (h : e ∈ Q) (h' : e' ∈ Q) (hA : e.A = e'.A) (hB : e.B = e'.B) : e = e' := by
  have key : ∀ a b : EdgeI, Gr.ahead a b = true → a.A = b.A → a.B = b.B → False := fun a b h1 h2 h3 => by
    unfold Gr.ahead at h1
    simp only [Bool.or_eq_true, Bool.and_eq_true, decide_eq_true_eq] at h1
    omega
  obtain ⟨i, hi, rfl⟩ := List.getElem_of_mem h
  obtain ⟨k, hk, rfl⟩ := List.getElem_of_mem h'
  have hq := List.pairwise_iff_getElem.1 hp
  rcases Nat.lt_trichotomy i k with h1 | h1 | h1
  · exact (key _ _ (hq i k hi hk h1) hA hB).elim
  · subst h1; rfl
  · exact (key _ _ (hq k i hk hi h1) hA.symm hB.symm).elim
theorem ySumL_ge : ∀ (L : List Int) (Y : List Int), L.Nodup → (∀ z ∈ L, 0 ≤ z ∧ z < (Y.length : Int)) → (∀ k (h : k < Y.length), (k : Int) ∉ L → Y[k] = 0) → ySum 0 Y ≤ ySumL Y L
  | [], Y, _, _, hY => by
    have key : ∀ (Y : List Int) (n : Int), (∀ y ∈ Y, y = 0) → ySum n Y = n := by
      intro Y
      induction Y with
      | nil => intro n _; rfl
      | cons y r ih =>
        intro n h
        show ySum (n + y) r = n
        rw [ih (n + y) (fun z hz => h z (List.mem_cons_of_mem _ hz)), h y List.mem_cons_self]
        omega
    rw [key Y 0 (fun y hy => by
      obtain ⟨k, hk, rfl⟩ := List.getElem_of_mem hy
      exact hY k hk (fun h => by cases h))]
    exact Int.le_refl _
  | z :: r, Y, hn, hL, hY => by
    rw [List.nodup_cons] at hn
    obtain ⟨h0, h1⟩ := hL z List.mem_cons_self
    obtain ⟨k, rfl⟩ := Int.eq_ofNat_of_zero_le h0
    have hk : k < Y.length := by omega
    have e1 : ySumL Y r = ySumL (Y.set k 0) r := ySumL_congr r (fun x hx => by
      have hx0 := (hL x (List.mem_cons_of_mem _ hx)).1
      obtain ⟨j, rfl⟩ := Int.eq_ofNat_of_zero_le hx0
      have hne : k ≠ j := fun e => hn.1 (by rw [e]; exact hx)
      unfold yAt
      simp [List.getElem?_set_ne hne])
    have ih := ySumL_ge r (Y.set k 0) hn.2 (fun x hx => by rw [List.length_set]; exact hL x (List.mem_cons_of_mem _ hx)) (fun j hj hjr => by
      rw [List.getElem_set]
      by_cases e : k = j
      · rw [if_pos e]
      · rw [if_neg e]
        refine hY j (by rw [List.length_set] at hj; exact hj) (fun hm => ?_)
        rcases List.mem_cons.1 hm with h | h
        · omega
        · exact hjr h)
    rw [ySum_set Y k hk] at ih
    have e2 : yAt Y (k : Int) = Y[k] := by unfold yAt; simp [hk]
    show ySum 0 Y ≤ yAt Y (k : Int) + ySumL Y r
    rw [e1, e2]
    omega
theorem gAll_ge (M : List CoupleI) : ∀ (G : List GrpI), (∀ q ∈ G, 0 ≤ q.Z ∧ q.M.length / 2 ≤ cntG q M) → gSum 0 G ≤ gAll M G
  | [], _ => by rw [gAll_nil]; exact Int.le_refl _
  | q :: r, h => by
    have ih := gAll_ge M r (fun x hx => h x (List.mem_cons_of_mem _ hx))
    obtain ⟨h0, h1⟩ := h q List.mem_cons_self
    rw [gAll_cons]
    show gSum (0 + q.Z * ((q.M.length / 2 : Nat) : Int)) r ≤ _
    rw [gSum_add r (0 + _)]
    have h2 : q.Z * ((q.M.length / 2 : Nat) : Int) ≤ q.Z * (cntG q M : Int) := Int.mul_le_mul_of_nonneg_left (by omega) h0
    omega
theorem filter_map_len {n : Nat} {N : List Nd} {i : Nat} : ∀ (L : List Lk), (∀ c ∈ L, c.f < n ∧ c.t < n) → (L.filter fun c => win N c.f i && win N c.t i).length = ((L.map cplI).filter fun x => inK (memTo N i n) x.A && inK (memTo N i n) x.B).length
  | [], _ => rfl
  | c :: r, h => by
    obtain ⟨h1, h2⟩ := h c List.mem_cons_self
    have ih := filter_map_len (N := N) (i := i) r (fun x hx => h x (List.mem_cons_of_mem _ hx))
    have e : (inK (memTo N i n) (cplI c).A && inK (memTo N i n) (cplI c).B) = (win N c.f i && win N c.t i) := by
      show (inK (memTo N i n) (c.f : Int) && inK (memTo N i n) (c.t : Int)) = _
      rw [inK_memTo h1, inK_memTo h2]
    rw [List.map_cons, List.filter_cons, List.filter_cons, e]
    split
    · rw [List.length_cons, List.length_cons, ih]
    · exact ih
theorem cert_zero {Q : List EdgeI} (hok : graphOk ((0 : Nat) : Int) Q = true) : certR ((0 : Nat) : Int) Q (pairsS 0 Q) (solveY 0 Q) (solveG 0 Q) = true := by
  have hE := edges_ok hok
  have hQ : Q = [] := by
    match Q with
    | [] => rfl
    | e :: r => have := (hE e List.mem_cons_self).1.1; omega
  subst hQ
  obtain ⟨I, _, hl, _⟩ := solved_inv (s := 0) (Q := []) (fun e he => by cases he)
  have hy : solveY 0 [] = [] := List.length_eq_zero_iff.1 hl
  have hm : pairsS 0 [] = [] := rfl
  have hg : solveG 0 [] = [] := by
    unfold solveG
    rw [List.eq_nil_iff_forall_not_mem]
    intro q hq
    obtain ⟨i, hi, _⟩ := group_of hq
    obtain ⟨v, hv, _⟩ := has_vertex I i i (Nat.le_refl _) hi.2.1 hi.2.2
    omega
  rw [hy, hm, hg]
  decide
theorem solve_cert {n : Nat} {Q : List EdgeI} (hok : graphOk (n : Int) Q = true) : certR (n : Int) Q (pairsS n Q) (solveY n Q) (solveG n Q) = true := by
  by_cases hn0 : n = 0
  · subst hn0; exact cert_zero hok
  have h1 : 1 ≤ n := by omega
  have hm := solve_pairs hok
  obtain ⟨_, I, D, V, _⟩ := solved_fin hok h1
  have E := solve_ended hok h1
  have hpr : proofOk (n : Int) Q (solveY n Q) (solveG n Q) = true := solve_proof hok I V
  obtain ⟨hg, hYs, h9, h8, hY, hq⟩ := proof_sound hpr
  obtain ⟨_, hM9, hmf⟩ := match_sound hm
  obtain ⟨hx, hpw, _⟩ := match_pm hg (pairsS n Q) none [] hmf
  obtain ⟨_, _, hedge, hpair⟩ := graph_sound hg
  have hps : pairsS n Q = (cplTo n (endS n Q).2).map cplI := rfl
  have hsy : solveY n Q = (solved n Q).2.1 := rfl
  have hsg : solveG n Q = groupsF n (solved n Q).2.2.1 := rfl
  have hw : wsum (sums Q (pairsS n Q)) = scM Q (pairsS n Q) := by
    have h := wsum_scM hg (pairsS n Q) ⟨0, 0, 0⟩ 0 (SB.zero _ (by omega)) (by omega) (by omega) (fun x h => (hx x h).2.2.2.1)
    show wsum (sumsFrom Q ⟨0, 0, 0⟩ (pairsS n Q)) = _
    rw [h]
    simp [wsum]
  have hone : ∀ x ∈ pairsS n Q, 2 * scal (eOf Q x) = yAt (solveY n Q) x.A + yAt (solveY n Q) x.B + gAdd x (solveG n Q) := fun x hxm => by
    obtain ⟨a0, a1, a2, a3, _⟩ := hx x hxm
    obtain ⟨i, hi, _, e2, hh⟩ := edgeN_at a3
    have hmem : eOf Q x ∈ Q := by unfold eOf; rw [e2]; exact List.getElem_mem hi
    have hek := (edgeOk_iff _ _).1 (hedge _ hmem)
    have hab : (eOf Q x).A = x.A ∧ (eOf Q x).B = x.B := by
      unfold eOf at hek ⊢
      rw [e2] at hek ⊢
      unfold hit at hh
      simp at hh
      omega
    rw [hps] at hxm
    obtain ⟨c, hc, rfl⟩ := List.mem_map.1 hxm
    obtain ⟨c1, c2, c3⟩ := mem_cplTo.1 hc
    have hT : Tight n Q (solved n Q).2.1 (solved n Q).2.2.1 c := by
      rcases c3 with h | h
      · exact E.tight c h
      · exact tight_flip _ (E.tight _ h)
    obtain ⟨e, he, t1, t2⟩ := hT
    have hee := (edgeOk_iff _ _).1 (hedge _ he)
    have a1' : (c.f : Int) < (c.t : Int) := a1
    have hab' : e.A = (c.f : Int) ∧ e.B = (c.t : Int) := by
      unfold hit at t1
      simp only [Bool.or_eq_true, Bool.and_eq_true, beq_iff_eq] at t1
      omega
    have hq := edge_unique hpair hmem he (hab.1.trans hab'.1.symm) (hab.2.trans hab'.2.symm)
    have hs := slackI_sl V hmem
    rw [← hsy, ← hsg] at hs
    rw [hq] at hs hab ⊢
    rw [hsy, t2] at hs
    unfold slackI at hs
    rw [slackG_add _ (cplI c) hab.1 hab.2, hab.1, hab.2] at hs
    rw [hsy]
    omega
  have hsum : ∀ (L : List CoupleI), (∀ x ∈ L, x ∈ pairsS n Q) → 2 * scM Q L = ySumL (solveY n Q) (vertsM L) + gAll L (solveG n Q) := by
    intro L
    induction L with
    | nil => intro _; simp [scM, vertsM, ySumL, gAll]
    | cons x r ih =>
      intro h
      have h1 := ih (fun y hy => h y (List.mem_cons_of_mem _ hy))
      have h2 := hone x (h x List.mem_cons_self)
      simp only [scM, vertsM, ySumL, gAll]
      omega
  have s1 := hsum (pairsS n Q) (fun _ h => h)
  have hlt : ∀ x ∈ pairsS n Q, x.A < x.B := fun x h => (hx x h).2.1
  have hvn := verts_nodup (pairsS n Q) hpw hlt
  have hvr : ∀ z ∈ vertsM (pairsS n Q), 0 ≤ z ∧ z < ((solveY n Q).length : Int) := fun z hz => by
    obtain ⟨x, hxm, he⟩ := (mem_verts z _).1 hz
    obtain ⟨a0, a1, a2, _⟩ := hx x hxm
    rcases he with rfl | rfl <;> omega
  have s2 := ySumL_le (vertsM (pairsS n Q)) (solveY n Q) hvn hvr (fun y hy => (hY y hy).1)
  have s3 := ySumL_ge (vertsM (pairsS n Q)) (solveY n Q) hvn hvr (fun k hk hne => by
    have hkn : k < n := by omega
    have h := E.alone k hkn (fun hm => hne (by
      obtain ⟨c, hc, hv⟩ := ends_cpl E.nodup E.low hm
      refine (mem_verts _ _).2 ⟨cplI c, by rw [hps]; exact List.mem_map_of_mem hc, ?_⟩
      show (k : Int) = (c.f : Int) ∨ (k : Int) = (c.t : Int)
      omega))
    rw [← hsy, getD_at _ _ _ hk] at h
    exact h)
  have s4 := gAll_le (pairsS n Q) hpw hlt (solveG n Q) (fun q hqm => by have := ((grpHead_iff _ q).1 (hq q hqm)).2.2.2.1; omega)
  have s5 := gAll_ge (pairsS n Q) (solveG n Q) (fun q hqm => by
    rw [hsg] at hqm
    obtain ⟨i, hi, hz, rfl⟩ := group_of hqm
    refine ⟨by show 0 ≤ (nd _ i).z; omega, ?_⟩
    have hf := E.full i hi
    have ho := vl_odd I hi.2.1 hi.2.2
    have hc := cV_cpl E.nodup E.low (fun v => win (solved n Q).2.2.1 v i)
    have hll : ∀ c ∈ cplTo n (endS n Q).2, c.f < n ∧ c.t < n := fun c hc => by
      obtain ⟨c1, c2, c3⟩ := mem_cplTo.1 hc
      refine ⟨c1, ?_⟩
      rcases c3 with h | h
      · exact E.low _ (mem_ends.2 ⟨c, h, .inr rfl⟩)
      · exact E.low _ (mem_ends.2 ⟨c.flip, h, .inl rfl⟩)
    rw [filter_map_len _ hll] at hc
    have hl : (memTo (solved n Q).2.2.1 i n).length = (vl n (solved n Q).2.2.1 i).length := by rw [memTo_vl, List.length_map]
    rw [cntG_is, hps]
    show (memTo (solved n Q).2.2.1 i n).length / 2 ≤ _
    rw [hl]
    exact Nat.le_trans (by omega) hc)
  have s6 : sumI (solveY n Q) (solveG n Q) = ySum 0 (solveY n Q) + gSum 0 (solveG n Q) := by
    unfold sumI
    rw [gSum_add]
  unfold certR
  rw [hpr, hm, decide_eq_true (show 2 * wsum (sums Q (pairsS n Q)) = sumI (solveY n Q) (solveG n Q) by rw [hw, s6]; omega)]
  rfl
theorem cert_small {s : Int} {Q : List EdgeI} {M : List CoupleI} {Y : List Int} {G : List GrpI} (h : certR s Q M Y G = true) : proofOk s Q Y G = true ∧ matchOk s Q M = true ∧ 2 * wsum (sums Q M) = sumI Y G ∧ M.length ≤ 9 ∧ Y.length ≤ 9 ∧ G.length ≤ 8 ∧ (∀ q ∈ G, q.M.length ≤ 9) ∧ psize Y G ≤ 300000 := by
  unfold certR at h
  simp only [Bool.and_eq_true, decide_eq_true_eq] at h
  obtain ⟨h1, h2, h3⟩ := h
  obtain ⟨g1, g2, g3, g4, g5, g6⟩ := proof_sound h1
  have hq : ∀ q ∈ G, q.M.length ≤ 9 := fun q hq => by
    have := (grpHead_iff s q).1 (g6 q hq)
    omega
  have hb := gbulk_le 9 G hq
  refine ⟨h1, h2, h3, (match_sound h2).2.1, by omega, g4, hq, ?_⟩
  unfold psize
  omega
theorem solve_full (w : World) (v : Value) (s : Int) (Q : List EdgeI) (hok : graphOk s Q = true) (hQ : Q.length ≤ 90) (hv : GrAt w v w.heap.size s Q) :
    Calls Try.prog 12 #[v] w fun u w' => (∃ dm dp M Y G, u = .returned (.tuple #[dm, dp, .bool true]) ∧ CoOwn w' w.heap.size dm M ∧ PrOwn w' w.heap.size dp Y G ∧ certR s Q M Y G = true ∧ M = pairsS s.toNat Q ∧ Y = solveY s.toNat Q ∧ G = solveG s.toNat Q) ∧ Below w.heap.size w w' := by
  obtain ⟨h0, h9, h3, _⟩ := graph_sound hok
  obtain ⟨n, rfl⟩ := Int.eq_ofNat_of_zero_le h0
  have hE : ∀ e ∈ Q, (0 ≤ e.A ∧ e.A < (n : Int)) ∧ (0 ≤ e.B ∧ e.B < (n : Int)) := fun e he => by
    have := h3 e he
    unfold edgeOk at this
    simp only [Bool.and_eq_true, decide_eq_true_eq] at this
    omega
  obtain ⟨aQ, nQ, cQ, rfl, hed⟩ := hv
  obtain rfl : nQ = Q.length := hed.1.symm
  have hc := solve_cert hok
  obtain ⟨_, _, _, _, c1, c2, c3, _⟩ := cert_small hc
  refine (solve_any w aQ cQ n Q (by omega) (by omega) hok hE hed).mono ?_
  rintro u w' ⟨⟨dm, dy, dg, ms, C, rfl, h1, h2, hC, hC2, hC3, h3⟩, hb⟩
  have hya := h2.at
  obtain ⟨ya, yc, rfl⟩ := own_slice h2
  obtain ⟨ga, gc, rfl, hga⟩ := h3.at
  refine ⟨⟨dm, _, _, _, _, rfl, ?_, ⟨ya, _, yc, ga, _, gc, rfl, ?_, hga, ⟨by omega, by omega, fun q hq => by have := c3 q hq; omega⟩⟩, hc, by rw [Int.toNat_natCast], by rw [Int.toNat_natCast], by rw [Int.toNat_natCast]⟩, hb⟩
  · unfold CoOwn pairsS
    rw [List.length_map, ← lks_couples]
    exact h1
  · obtain ⟨a', c', e, hi⟩ := hya
    cases e
    exact hi
end Sv
end Go.Proofs.Ytkjclkelnheheaa
