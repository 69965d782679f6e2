/-
 SvU1.
-/
import Derived.Test.YtkjclkelnheheaaJ21
import Derived.Deep.RegionWith
import Derived.Deep.DeepCutAuto
import Derived.Deep.CutBlock
import Derived.Deep.LoopGhost
namespace Go.Proofs.Ytkjclkelnheheaa
namespace Sv
open Go.RowKit Gr
section
variable {w : World} {b lo : Nat} {aQ : Option Addr} {cQ s : Nat} {Q : List EdgeI} {y : List Int} {N : List Nd} {M : List Lk} {k : Int} {d : Bool} {vv : Vs}
theorem way_len (N : List Nd) (t : Tp) : ∀ (k x : Nat), (wayF N t k x).length ≤ k + 1
  | 0, x => by simp [wayF]
  | k + 1, x => by
    rw [wayF]
    split
    · simp
    · have := way_len N t k (par N t x)
      simp only [List.length_cons]
      omega
set_option maxRecDepth 100000 in
set_option maxHeartbeats 2000000 in
theorem augment_any (h : RunAt w b lo aQ cQ s Q y N M k d vv) (hlo : lo ≤ w.heap.size) (I : Inv s N M) (hn : N.length ≤ 1000000) (hM : M.length ≤ 1000000) {bt lt : Nat} {t : Tp} {vl va vr : Value} (hT : TpAt w bt lt t vl va vr) {rk : Nat → Nat} (F : For s N M t rk) (hap : Apart b vv bt vl va vr) (e : EdgeI) (hA : 0 ≤ e.A ∧ e.A < (s : Int)) (hB : 0 ≤ e.B ∧ e.B < (s : Int)) (la : lab t (top N e.A.toNat) = 1) (lb : lab t (top N e.B.toNat) = 1) (hr : rt t (top N e.A.toNat) ≠ rt t (top N e.B.toNat)) :
    Calls Try.prog 75 #[.pointer (some ⟨b, 0, none⟩), .pointer (some ⟨bt, 0, none⟩), .agg #[.int .i64 e.A, .int .i64 e.B, .int .i64 e.W1, .int .i64 e.W2, .int .i64 e.W3]] w fun u w' => u = .returned (.tuple #[]) ∧ (∃ v', RunAt w' b lo aQ cQ s Q y (augmented s N M t e.A.toNat e.B.toNat).1 (augmented s N M t e.A.toNat e.B.toNat).2 k d { vv with m := v' } ∧ (∀ g, v'.ownBlock = some g → vv.m.ownBlock = some g ∨ w.heap.size ≤ g)) ∧ Kept (Foot b vv) w w' := by
  have hge := I.ge
  have hnz := nz_le t
  rw [F.l1] at hnz
  have U0 := I.ups
  obtain ⟨eA, heA⟩ := Int.eq_ofNat_of_zero_le hA.1
  obtain ⟨eB, heB⟩ := Int.eq_ofNat_of_zero_le hB.1
  obtain ⟨xA, xB, x1, x2, x3⟩ := e
  simp only at heA heB hA hB la lb hr ⊢
  subst heA heB
  simp only [Int.toNat_natCast] at la lb hr ⊢
  obtain ⟨gT, hgT⟩ : ∃ g : Int → Int, g = fun v => (top N v.toNat : Int) := ⟨_, rfl⟩
  obtain ⟨gY, hgY⟩ : ∃ g : Int → List Nat, g = fun x => wayOf N t x.toNat := ⟨_, rfl⟩
  have TT : Hid (∀ W, Fresh w W → ∀ v : Int, (v = (eA : Int) ∨ v = (eB : Int)) → Calls Try.prog 73 #[.pointer (some ⟨b, 0, none⟩), .int .i64 v] W fun e w' => e = .returned (.int .i64 (gT v)) ∧ w' = W) := fun W hF v hv => by
    rw [hgT]
    rcases hv with rfl | rfl
    · exact top_any (h.below hF hlo) U0 hn eA (by omega)
    · exact top_any (h.below hF hlo) U0 hn eB (by omega)
  have tA : gT (eA : Int) = (top N eA : Int) := by rw [hgT]; rfl
  have tB : gT (eB : Int) = (top N eB : Int) := by rw [hgT]; rfl
  have WY : Hid (∀ W, Fresh w W → ∀ x : Int, (x = gT (eA : Int) ∨ x = gT (eB : Int)) → Calls Try.prog 80 #[.pointer (some ⟨b, 0, none⟩), .pointer (some ⟨bt, 0, none⟩), .int .i64 x] W fun u w' => (∃ a c, u = .returned (.slice a (gY x).length c) ∧ Hid (∀ W', Fresh w' W' → NaOwn W' w.heap.size (.slice a (gY x).length c) (gY x))) ∧ Below W.heap.size W w') := fun W hF x hx => by
    have key : ∀ z : Nat, lab t z ≠ 0 → x = (z : Int) → Calls Try.prog 80 #[.pointer (some ⟨b, 0, none⟩), .pointer (some ⟨bt, 0, none⟩), .int .i64 x] W fun u w' => (∃ a c, u = .returned (.slice a (gY x).length c) ∧ Hid (∀ W', Fresh w' W' → NaOwn W' w.heap.size (.slice a (gY x).length c) (gY x))) ∧ Below W.heap.size W w' := fun z hz hxz => by
      subst hxz
      have hyz : gY (z : Int) = wayF N t N.length z := by rw [hgY]; rfl
      rw [hyz]
      have h1 := F.rkb z hz
      refine (way_any (h.below hF hlo) (Nat.le_trans hlo hF.size) U0 hn hge (hT.below hF) F N.length z hz (by omega) hn).mono ?_
      rintro u w' ⟨⟨d, rfl, ho⟩, hb⟩
      obtain ⟨a, c, rfl⟩ := na_slice ho
      exact ⟨⟨a, c, rfl, fun W' hF' => own_lower hF.size (own_below ho hF')⟩, hb⟩
    rcases hx with hx | hx
    · exact key _ (by omega) (hx.trans tA)
    · exact key _ (by omega) (hx.trans tB)
  have hYA : gY (gT (eA : Int)) = wayOf N t (top N eA) := by rw [tA, hgY]; rfl
  have hYB : gY (gT (eB : Int)) = wayOf N t (top N eB) := by rw [tB, hgY]; rfl
  have HAU : Hid (∀ gW vA vB W, Fresh w W → Blk W gW #[vA, vB] 27 → NaOwn W w.heap.size vA (gY (gT (eA : Int))) → NaOwn W w.heap.size vB (gY (gT (eB : Int))) → Blk W w.heap.size #[.int .i64 (eA : Int), .int .i64 (eB : Int), .int .i64 x1, .int .i64 x2, .int .i64 x3] 68 → AU ⟨w, b, lo, aQ, cQ, s, Q, y, N, k, d, vv, bt, lt, t, vl, va, vr, gW, vA, vB, wayOf N t (top N eA), wayOf N t (top N eB), w.heap.size, #[.int .i64 (eA : Int), .int .i64 (eB : Int), .int .i64 x1, .int .i64 x2, .int .i64 x3]⟩ W M vv.m) := fun gW vA vB W hF hb h1 h2 h3 =>
    ⟨h.below hF hlo, fun g hg => .inl hg, hT.below hF, hb, by rw [← hYA]; exact h1, by rw [← hYB]; exact h2, h3, Kept.of_below hF⟩
  obtain ⟨R, hRR⟩ : ∃ R, R = augmented s N M t eA eB := ⟨_, rfl⟩
  rw [← hRR]
  have HRR := hide hRR
  clear hgT hgY tA tB hYA hYB hRR
  go_enter Try.func75, Try.ntmps75
  go_upto_region 1 with fail
  obtain ⟨U, hU⟩ : ∃ W, W = w.alloc (Obj.cells #[.int .i64 (eA : Int), .int .i64 (eB : Int), .int .i64 x1, .int .i64 x2, .int .i64 x3] 68) := ⟨_, rfl⟩
  rw [← hU]
  have hFU : Fresh w U := by rw [hU]; exact (Fresh.refl w).alloc
  have mU : Blk U w.heap.size #[.int .i64 (eA : Int), .int .i64 (eB : Int), .int .i64 x1, .int .i64 x2, .int .i64 x3] 68 := by rw [hU]; exact Blk.new0
  have c0 : U.cell? ⟨w.heap.size, 0, none⟩ = some (.int .i64 (eA : Int)) := mU.cell 0 _ rfl
  have c1 : U.cell? ⟨w.heap.size, 1, none⟩ = some (.int .i64 (eB : Int)) := mU.cell 1 _ rfl
  have HCE : Hid (∀ W, Fresh U W → W.cell? ⟨w.heap.size, 0, none⟩ = some (.int .i64 (eA : Int)) ∧ W.cell? ⟨w.heap.size, 1, none⟩ = some (.int .i64 (eB : Int))) := fun W hF => ⟨(mU.below hF).cell 0 _ rfl, (mU.below hF).cell 1 _ rfl⟩
  have HME : Hid (∀ W, Fresh U W → Blk W w.heap.size #[.int .i64 (eA : Int), .int .i64 (eB : Int), .int .i64 x1, .int .i64 x2, .int .i64 x3] 68) := fun W hF => mU.below hF
  have hzU : w.heap.size < U.heap.size := mU.lt
  clear hU mU
  go_cut [6] (fun v wx => ∃ gW vA vB, v = .slice (some ⟨gW, 0, none⟩) 2 2 ∧ Hid (AU ⟨w, b, lo, aQ, cQ, s, Q, y, N, k, d, vv, bt, lt, t, vl, va, vr, gW, vA, vB, wayOf N t (top N eA), wayOf N t (top N eB), w.heap.size, #[.int .i64 (eA : Int), .int .i64 (eB : Int), .int .i64 x1, .int .i64 x2, .int .i64 x3]⟩ wx M vv.m))
  case first =>
    have hF0 : Fresh U U := Fresh.refl _
    have TT2 : Hid (∀ W, Fresh U W → ∀ v : Int, (v = (eA : Int) ∨ v = (eB : Int)) → Calls Try.prog 73 #[.pointer (some ⟨b, 0, none⟩), .int .i64 v] W fun e w' => e = .returned (.int .i64 (gT v)) ∧ w' = W) := fun W hF v hv => unhide TT W (hFU.below hF) v hv
    have WY2 : Hid (∀ W, Fresh U W → ∀ x : Int, (x = gT (eA : Int) ∨ x = gT (eB : Int)) → Calls Try.prog 80 #[.pointer (some ⟨b, 0, none⟩), .pointer (some ⟨bt, 0, none⟩), .int .i64 x] W fun u w' => (∃ a c, u = .returned (.slice a (gY x).length c) ∧ Hid (∀ W', Fresh w' W' → NaOwn W' w.heap.size (.slice a (gY x).length c) (gY x))) ∧ Fresh W w' ∧ Fresh U w') := fun W hF x hx => by
      refine (unhide WY W (hFU.below hF) x hx).mono ?_
      rintro u w' ⟨h1, h2⟩
      exact ⟨h1, h2, hF.below h2⟩
    clear TT WY
    go_region_held3 (fun u => u.cell? ⟨w.heap.size, 0, none⟩ = some (.int .i64 (eA : Int)) ∧ u.cell? ⟨w.heap.size, 1, none⟩ = some (.int .i64 (eB : Int)))
      (first | (with_reducible refine unhide HCE _ ?_; (repeat (first | (with_reducible refine Fresh.drew ?_) | (with_reducible refine Fresh.alloc ?_))); with_reducible assumption) | go_keep)
      (first
        | (go_at_call 73; refine (unhide TT2 _ (by ((repeat (first | (with_reducible refine Fresh.drew ?_) | (with_reducible refine Fresh.alloc ?_))); with_reducible assumption)) _ (by first | exact Or.inl rfl | exact Or.inr rfl)).mono ?_; rintro e wt ⟨rfl, rfl⟩)
        | (go_at_call 80; refine (unhide WY2 _ (by ((repeat (first | (with_reducible refine Fresh.drew ?_) | (with_reducible refine Fresh.alloc ?_))); with_reducible assumption)) _ (by first | exact Or.inl rfl | exact Or.inr rfl)).mono ?_; rintro e ww ⟨⟨aw, cw, rfl, how⟩, hfw, hFw⟩))
    all_goals
      go_wp2_with fail
      go_meet
      case rel =>
        have hoA := ‹Hid (∀ W', Fresh wt W' → NaOwn W' w.heap.size _ (gY (gT (eA : Int))))›
        exact ⟨_, _, _, rfl, unhide HAU _ _ _ _ (hFU.below (Fresh.alloc hFw)) Blk.new0 (unhide hoA _ (Fresh.alloc hfw)) (unhide how _ (Fresh.alloc (Fresh.refl _))) (unhide HME _ (Fresh.alloc hFw))⟩
  case rest =>
    obtain ⟨gW, vA, vB, rfl, HAU0⟩ := hcut
    clear HAU TT WY c0 c1 HCE HME hFU hzU
    have wA := way_of F (show lab t (top N eA) ≠ 0 by omega)
    have wB := way_of F (show lab t (top N eB) ≠ 0 by omega)
    have hlA : (wayOf N t (top N eA)).length ≤ N.length + 1 := way_len N t _ _
    have hlB : (wayOf N t (top N eB)).length ≤ N.length + 1 := way_len N t _ _
    have HINV := hide (augment_inv (e := ⟨eA, eB⟩) I F wA wB la lb hr rfl rfl (show eA < s by omega) (show eB < s by omega))
    have HRES : Hid (R = openAll s N.length N (augM N M t ⟨eA, eB⟩ (wayOf N t (top N eA)) (wayOf N t (top N eB)))) := unhide HRR
    have HLT : Hid (∀ kk, kk < 2 → ∀ i, i < (way2 (wayOf N t (top N eA)) (wayOf N t (top N eB)) kk).length → (way2 (wayOf N t (top N eA)) (wayOf N t (top N eB)) kk).getD i 0 < N.length) := fun kk hk i hi => by
      have key : ∀ {x : Nat} {W : List Nat}, IsWay N t rk x W → lab t x = 1 → ∀ i, i < W.length → W.getD i 0 < N.length := fun {x W} hw hx i hi => by
        rw [getD_at _ _ _ hi]
        have := hw.lb i hi
        have h0 : lab t W[i] ≠ 0 := by rw [this]; split <;> omega
        exact (F.tp _ h0).1
      match kk, hk with
      | 0, _ => exact key wA la i hi
      | 1, _ => exact key wB lb i hi
    obtain ⟨gl, cl, el, hgl, hcl⟩ := na_cells (unhide HAU0).tp.lab (by rw [F.l1]; have := (F.tp _ (show lab t (top N eA) ≠ 0 by omega)).1; omega)
    obtain ⟨ga, ca, ea, hga, hca⟩ := lk_cellsD (unhide HAU0).tp.ahd (by rw [F.l2]; have := (F.tp _ (show lab t (top N eA) ≠ 0 by omega)).1; omega)
    clear hgl hcl hga hca
    have hva : ∀ g, va.ownBlock = some g → vv.m.ownBlock ≠ some g ∧ g < w.heap.size := fun g hg => ⟨fun hm => (hap g (.inr (.inr (.inr hm)))).2.2.1 hg, (World.ownsRow.lt hT.ahd g hg).2⟩
    obtain ⟨aA, cA, hvA⟩ := na_slice (unhide HAU0).wa
    obtain ⟨aB, cB, hvB⟩ := na_slice (unhide HAU0).wb
    simp only at hvA hvB el ea
    have HSUB := hide (fun kk i => tk_sub N M (wayOf N t (top N eA)) (wayOf N t (top N eB)) kk i)
    have HTS := hide (fun kk i hk hi => tk_step N M (wayOf N t (top N eA)) (wayOf N t (top N eB)) kk i hk hi)
    have HTE := hide (fun kk hk => tk_end N M (wayOf N t (top N eA)) (wayOf N t (top N eB)) kk hk)
    have HPS := hide (fun kk i hk hi => pt_step t (tk N M (wayOf N t (top N eA)) (wayOf N t (top N eB)) 2 0 ++ [⟨eA, eB⟩]) (wayOf N t (top N eA)) (wayOf N t (top N eB)) kk i hk hi)
    have HPE := hide (fun kk hk => pt_end t (tk N M (wayOf N t (top N eA)) (wayOf N t (top N eB)) 2 0 ++ [⟨eA, eB⟩]) (wayOf N t (top N eA)) (wayOf N t (top N eB)) kk hk)
    have HPL := hide (fun kk i => pt_len t (tk N M (wayOf N t (top N eA)) (wayOf N t (top N eB)) 2 0 ++ [⟨eA, eB⟩]) (wayOf N t (top N eA)) (wayOf N t (top N eB)) kk i)
    have HP0 : Hid (pt t (tk N M (wayOf N t (top N eA)) (wayOf N t (top N eB)) 2 0 ++ [⟨eA, eB⟩]) (wayOf N t (top N eA)) (wayOf N t (top N eB)) 0 0 = tk N M (wayOf N t (top N eA)) (wayOf N t (top N eB)) 2 0 ++ [⟨eA, eB⟩]) := by show _ ++ oddLinks t (List.take 0 _) = _; simp [oddLinks]
    have HAI := hide (aug_is N M t ⟨eA, eB⟩ (wayOf N t (top N eA)) (wayOf N t (top N eB)))
    have HT0 : Hid (tk N M (wayOf N t (top N eA)) (wayOf N t (top N eB)) 0 0 = M) := by show withoutAll N M (List.take 0 _) = M; simp [withoutAll]
    generalize wayOf N t (top N eA) = A at *
    generalize wayOf N t (top N eB) = B at *
    have hE : ∀ v ∈ ends M, v < N.length := fun v hv => by have := I.fin v hv; omega
    -- what stands in memory, as one letter
    obtain ⟨P, hP⟩ : ∃ P : World → List Lk → Value → Prop, P = AU ⟨w, b, lo, aQ, cQ, s, Q, y, N, k, d, vv, bt, lt, t, vl, va, vr, gW, vA, vB, A, B, w.heap.size, #[.int .i64 (eA : Int), .int .i64 (eB : Int), .int .i64 x1, .int .i64 x2, .int .i64 x3]⟩ := ⟨_, rfl⟩
    rw [← hP] at HAU0
    have HWC : Hid (∀ kk, kk < 2 → ∃ aX cX, ∀ W M' v', P W M' v' → W.cell? ⟨gW, kk, none⟩ = some (.slice aX (way2 A B kk).length cX) ∧ ∀ i, i < (way2 A B kk).length → ∃ g, aX = some ⟨g, 0, none⟩ ∧ g < W.heap.size ∧ W.cell? ⟨g, i, none⟩ = some (.int .i64 (((way2 A B kk).getD i 0 : Nat) : Int))) := fun kk hk => by
      have row : ∀ {W : World} {v : Value} {L : List Nat} {a : Option Addr} {c : Nat}, NaOwn W w.heap.size v L → v = .slice a L.length c → ∀ i, i < L.length → ∃ g, a = some ⟨g, 0, none⟩ ∧ g < W.heap.size ∧ W.cell? ⟨g, i, none⟩ = some (.int .i64 ((L.getD i 0 : Nat) : Int)) := fun {W v L a c} ho hv i hi => by
        obtain ⟨g, c', e, hg, hc⟩ := na_cells ho (by omega)
        rw [hv] at e
        simp at e
        exact ⟨g, e.1, hg, hc i hi⟩
      match kk, hk with
      | 0, _ => exact ⟨aA, cA, fun W M' v' hp => by rw [hP] at hp; exact ⟨by rw [hp.ways.cell 0 _ rfl, hvA]; rfl, row hp.wa hvA⟩⟩
      | 1, _ => exact ⟨aB, cB, fun W M' v' hp => by rw [hP] at hp; exact ⟨by rw [hp.ways.cell 1 _ rfl, hvB]; rfl, row hp.wb hvB⟩⟩
    have HWT : Hid (∀ W v' kk i, kk < 2 → i < (way2 A B kk).length → P W (tk N M A B kk i) v' → Calls Try.prog 82 #[.pointer (some ⟨b, 0, none⟩), .int .i64 (((way2 A B kk).getD i 0 : Nat) : Int)] W fun u w' => u = .returned (.tuple #[]) ∧ ∃ v'', P w' (tk N M A B kk (i + 1)) v'') := fun W v' kk i hk hi hp => by
      rw [hP] at hp ⊢
      obtain ⟨s1, s2⟩ := unhide HSUB kk i
      refine (without_any hp.run (Nat.le_trans hlo hp.kp.2.2.2.1) U0 hn (by omega) (fun v hv => ?_) ((way2 A B kk).getD i 0)).mono ?_
      · obtain ⟨x, hx, hxv⟩ := mem_ends.1 hv
        exact hE v (mem_ends.2 ⟨x, s2 x hx, hxv⟩)
      · rintro u w' ⟨rfl, ⟨v'', hr, hf⟩, hk'⟩
        refine ⟨rfl, v'', ?_⟩
        rw [unhide HTS kk i hk hi]
        exact hp.without hr hf hk'
    have HBC : Hid (∀ W M' v', P W M' v' → ∃ aM cM, v' = .slice aM M'.length cM ∧ W.cell? ⟨b, 4, none⟩ = some (.slice aM M'.length cM) ∧ b < W.heap.size ∧ lo ≤ W.heap.size ∧ w.heap.size < W.heap.size ∧ W.cell? ⟨w.heap.size, 0, none⟩ = some (.int .i64 (eA : Int)) ∧ W.cell? ⟨w.heap.size, 1, none⟩ = some (.int .i64 (eB : Int))) := fun W M' v' hp => by
      rw [hP] at hp
      obtain ⟨aM, cM, eM⟩ := lk_slice hp.run.ms
      simp only at eM
      have h4 := hp.run.box.cell 4 _ rfl
      simp only at h4
      rw [eM] at h4
      exact ⟨aM, cM, eM, h4, hp.run.box.lt, Nat.le_trans hlo hp.kp.2.2.2.1, hp.edge.lt, hp.edge.cell 0 _ rfl, hp.edge.cell 1 _ rfl⟩
    have HBB : Hid (∀ W M' v', P W M' v' → W.ownsRow lo 83 2 v' M'.length (lksV M') ∧ ∃ C, Blk W b C 78 ∧ C[4]? = some v') := fun W M' v' hp => by
      rw [hP] at hp
      exact ⟨hp.run.ms, _, hp.run.box, rfl⟩
    have HAPP : Hid (∀ W M' v' x w1 w3 v'', P W M' v' → Below W.heap.size W w1 → w1.grownBy w3 v'.ownBlock → w3.ownsRow lo 83 2 v'' (M'.length + 1) (lksV M' ++ [.int .i64 ((x : Lk).f : Int), .int .i64 (x.t : Int)]) → (∀ g, v''.ownBlock = some g → v'.ownBlock = some g ∨ W.heap.size ≤ g) → P (w3.setCell ⟨b, 4, none⟩ v'') (M' ++ [x]) v'') := fun W M' v' x w1 w3 v'' hp hb hg hv hat => by
      rw [hP] at hp ⊢
      obtain ⟨r1, r2⟩ := hp.run.appM (x := x) (Nat.le_trans hlo hp.kp.2.2.2.1) hb hg hv hat
      exact hp.app hva r1 hat r2
    have HLB : Hid (∀ W M' v', P W M' v' → bt < W.heap.size ∧ W.cell? ⟨bt, 0, none⟩ = some (.slice (some ⟨gl, 0, none⟩) N.length cl) ∧ W.cell? ⟨bt, 1, none⟩ = some (.slice (some ⟨ga, 0, none⟩) N.length ca) ∧ gl < W.heap.size ∧ ga < W.heap.size ∧ ∀ x, x < N.length → W.cell? ⟨gl, x, none⟩ = some (.int .i64 (lab t x : Int)) ∧ W.cell? ⟨ga, x * 2, none⟩ = some (.int .i64 ((ahd t x).f : Int)) ∧ W.cell? ⟨ga, x * 2 + 1, none⟩ = some (.int .i64 ((ahd t x).t : Int))) := fun W M' v' hp => by
      rw [hP] at hp
      have q0 := hp.tp.box.cell 0 _ rfl
      have q1 := hp.tp.box.cell 1 _ rfl
      simp only at q0 q1
      rw [el, F.l1] at q0
      rw [ea, F.l2] at q1
      have ll := F.l1
      have l2 := F.l2
      by_cases hN : 0 < N.length
      · obtain ⟨g1, c1, e1, hg1, hc1⟩ := na_cells hp.tp.lab (by simp only; omega)
        obtain ⟨g2, c2, e2, hg2, hc2⟩ := lk_cellsD hp.tp.ahd (by simp only; omega)
        simp only at e1 e2 hc1 hc2
        rw [el] at e1
        rw [ea] at e2
        simp at e1 e2
        obtain ⟨rfl, rfl⟩ := e1
        obtain ⟨rfl, rfl⟩ := e2
        exact ⟨hp.tp.box.lt, q0, q1, hg1, hg2, fun x hx => ⟨hc1 x (by omega), (hc2 x (by omega)).1, (hc2 x (by omega)).2⟩⟩
      · have := (F.tp _ (show lab t (top N eA) ≠ 0 by omega)).1
        omega
    have HFIN : Hid (∀ W M' v', P W M' v' → RunAt W b lo aQ cQ s Q y N M' k d { vv with m := v' } ∧ (∀ g, v'.ownBlock = some g → vv.m.ownBlock = some g ∨ w.heap.size ≤ g) ∧ Kept (Foot b vv) w W) := fun W M' v' hp => by
      rw [hP] at hp
      exact ⟨hp.run, hp.fr, hp.kp⟩
    have HPD : Hid (∀ W M' v' n, P W M' v' → P (W.drewN n) M' v') := fun W M' v' n hp => by
      rw [hP] at hp ⊢
      exact hp.below hlo (below_drewN (Below.refl _ _) n)
    have HFEW := hide (fun N' M' (h : Inv s N' M') => h.few)
    have HU0 := hide U0
    have HGE := hide hge
    have HAU1 : Hid (P wc (tk N M A B 0 0) vv.m) := by show P _ _ _; rw [unhide HT0]; exact unhide HAU0
    have HR0 := hide h
    have hMl : M.length ≤ 1000000 := hM
    have hnl : N.length ≤ 1000000 := hn
    clear hP hT hap F I U0 hge hnz la lb hr wA wB h hvA hvB el ea hva hE HAU0 HT0 hM hn
    go_upto_block 0 with fail
    go_cut [7] (fun _ wx => ∃ v', Hid (P wx (tk N M A B 2 0) v'))
    case first =>
      go_wp2_with fail
      go_loopw [7] (fun k7 wr => ∃ (kk : Nat) (v' : Value), k7 = .int .i64 (kk : Int) ∧ kk ≤ 2 ∧ Hid (P wr (tk N M A B kk 0) v')) (fun k7 _ => 2 - (intOf k7).toNat)
      case atStart => exact ⟨0, _, rfl, by omega, HAU1⟩
      case round =>
        obtain ⟨kk, v', rfl, hkk, HPK⟩ := hrel
        by_cases hlt : kk < 2
        · obtain ⟨aX, cX, HX⟩ := unhide HWC kk hlt
          have HXH := hide HX
          have HXT := hide (fun W v' i hi hp => unhide HWT W v' kk i hlt hi hp)
          have HXE := hide (unhide HTE kk hlt)
          have hXL : (way2 A B kk).length ≤ 1000001 := by unfold way2; split <;> omega
          obtain ⟨T, hTd⟩ : ∃ T : Nat → List Lk, T = fun i => tk N M A B kk i := ⟨_, rfl⟩
          have e0 : tk N M A B kk 0 = T 0 := by rw [hTd]
          have eT : ∀ i, tk N M A B kk i = T i := fun i => by rw [hTd]
          rw [e0] at HPK
          simp only [eT] at HXT HXE
          generalize way2 A B kk = X at HXH HXT HXE hXL
          obtain ⟨nX, hnX⟩ : ∃ n, n = X.length := ⟨_, rfl⟩
          rw [← hnX] at HXH HXT HXE hXL
          clear HX hTd e0 eT hnX
          have hk0 : (0 : Int) ≤ (kk : Int) := by omega
          have hk2 : (kk : Int) < 2 := by omega
          go_wp2_with fail
          obtain ⟨wq, hwq⟩ : ∃ W, W = wr := ⟨_, rfl⟩
          subst hwq
          go_loopw [8] (fun i8 wr => ∃ (i : Nat) (v' : Value), i8 = .int .i64 (i : Int) ∧ i ≤ nX ∧ Hid (P wr (T i) v')) (fun i8 _ => nX - (intOf i8).toNat)
          case atStart => exact ⟨0, _, rfl, Nat.zero_le _, HPK⟩
          case round =>
            obtain ⟨i, v2, rfl, hi, HPI⟩ := hrel
            obtain ⟨cw, hrow⟩ := unhide HXH _ _ _ (unhide HPI)
            by_cases hil : i < nX
            · obtain ⟨g, rfl, hg, cr⟩ := hrow i hil
              have WT := hide (unhide HXT _ _ i hil (unhide HPI))
              have hi0 : (0 : Int) ≤ (i : Int) := by omega
              have hi1 : (i : Int) < (nX : Int) := by omega
              generalize ((X.getD i 0 : Nat) : Int) = xv at cr WT
              clear hrow
              go_wp2_with fail
              refine (unhide WT).mono ?_
              rintro e w5 ⟨rfl, v3, h3⟩
              have H3 := hide h3
              clear h3 cr cw
              go_wp2_with fail
              exact ⟨⟨i + 1, _, by go_num, by omega, H3⟩, by simp [intOf]; omega⟩
            · obtain rfl : i = nX := by omega
              have hi1 : ¬ (i : Int) < (i : Int) := by omega
              have HPN : Hid (P wr (tk N M A B (kk + 1) 0) v2) := by rw [← unhide HXE]; exact HPI
              clear hrow
              go_wp2_with fail
              exact ⟨⟨kk + 1, _, by go_num, by omega, HPN⟩, by simp [intOf]; omega⟩
        · obtain rfl : kk = 2 := by omega
          go_wp2_with fail
          go_meet
          exact ⟨_, HPK⟩
    case rest =>
      obtain ⟨v1, HPA⟩ := hcut
      clear HWT HTS HTE HSUB HAU1
      obtain ⟨i0, hi0', hz0, hz1, hz2⟩ := info_parts info_link
      have hL2 : (tk N M A B 2 0).length ≤ 1000000 := by have := (tk_sub N M A B 2 0).1; omega
      go_wp2_with fail
      go_cut [9] (fun _ wx => ∃ v', Hid (P wx (pt t (tk N M A B 2 0 ++ [⟨eA, eB⟩]) A B 0 0) v'))
      case first =>
        obtain ⟨L2, hL2e⟩ : ∃ L, L = tk N M A B 2 0 := ⟨_, rfl⟩
        rw [← hL2e] at HPA hL2
        have HL2E := hide hL2e
        clear hL2e
        have HBLK := hide (unhide HBB _ _ _ (unhide HPA))
        obtain ⟨hrow9, C9, hC9, hC94⟩ := unhide HBB _ _ _ (unhide HPA)
        obtain ⟨aM, cM, eM, r4, hbr, hlor, hwr, ce0, ce1⟩ := unhide HBC _ _ _ (unhide HPA)
        subst eM
        have HOD : wc.drew.ownsRow lo 83 2 (.slice aM L2.length cM) L2.length (lksV L2) := World.ownsRow.drew hrow9
        have HAP := hide (fun w1 w3 v'' hb hg hv hat => unhide HAPP wc L2 (.slice aM L2.length cM) ⟨eA, eB⟩ w1 w3 v'' (unhide HPA) hb hg hv hat)
        have HBX := hide hC9
        have hC4 := hide hC94
        have hne : (Value.slice aM L2.length cM).ownBlock ≠ some b := fun e => hC9.apart hrow9 run_types.2.2.1 e.symm
        have r5 := ((below_new wc.drew (Obj.cells #[.int .i64 (eA : Int), .int .i64 (eB : Int)] 83)).cell (p := ⟨b, 4, none⟩) hbr).trans r4
        have r6 := ((below_new wc (Obj.cells #[.int .i64 (eA : Int), .int .i64 (eB : Int)] 83)).cell (p := ⟨b, 4, none⟩) hbr).trans r4
        clear hrow9 hC9 hC94 HBLK
        go_region_law
          (first
            | (refine step_append_lies _ (by rfl) _ _ _ (by rfl) lo 83 i0 _ 2 16 Try.underlying76 hi0' hz0 hz1 hz2 rfl (by omega) (.slice aM L2.length cM) L2.length (lksV L2) (by show _ = _; kernel_rfl) (by first | exact HOD.alloc _ | exact (HOD.alloc _).drew) ⟨wc.heap.size, 0, none⟩ 1 1 [.int .i64 (eA : Int), .int .i64 (eB : Int)] (by show _ = _; kernel_rfl) (by rfl) (World.news_of_block (heap_alloc_new wc.drew _)) (by intro u hu; simp at hu; rcases hu with rfl | rfl <;> rfl) (by omega) (by unfold maxLen; omega) (by omega) (by simp; omega) (wc.heap.size + 1) (by simp) ?_; intro g14 cap14 w14 hown14 hgrow14 hat14 hlt14; have U14 := ((unhide HBX).below ((Below.refl wc.heap.size wc).drew.alloc (Nat.le_refl _) (Obj.cells #[.int .i64 (eA : Int), .int .i64 (eB : Int)] 83))).kept (Kept.of_grown hgrow14) (fun e => hne e); have t0 := U14.cell 4 _ (unhide hC4); have tf := U14.froz 4))
        all_goals
          have s1 := unhide HAP _ w14 (.slice (some ⟨g14, 0, none⟩) (L2.length + 1) cap14) ((Below.refl wc.heap.size wc).drew.alloc (Nat.le_refl _) _) hgrow14 hown14 (fun g hg => by
            have e : g14 = g := by simpa [Value.ownBlock] using hg
            subst e
            rcases hat14 with h | h
            · exact .inl h
            · exact .inr (by omega))
          have HS1 := hide s1
          clear s1 U14 t0 tf hown14 hgrow14
          go_wp2_with fail
          go_meet
          exact ⟨_, by rw [unhide HP0, ← unhide HL2E]; exact HS1⟩
      case rest =>
        obtain ⟨v3, HPB⟩ := hcut
        clear HPA HP0
        have hL3 : ∀ kk i, (pt t (tk N M A B 2 0 ++ [⟨eA, eB⟩]) A B kk i).length ≤ 4000000 := fun kk i => by have := unhide HPL kk i; rw [List.length_append] at this; simp at this; omega
        have HL3 := hide hL3
        clear hL3 HPL
        generalize tk N M A B 2 0 ++ [⟨eA, eB⟩] = L3 at *
        go_upto_block 4 with fail
        go_cut [9] (fun _ wx => ∃ v', Hid (P wx (pt t L3 A B 2 0) v'))
        case first =>
          go_wp2_with fail
          go_loopw [9] (fun k7 wr => ∃ (kk : Nat) (v' : Value), k7 = .int .i64 (kk : Int) ∧ kk ≤ 2 ∧ Hid (P wr (pt t L3 A B kk 0) v')) (fun k7 _ => 2 - (intOf k7).toNat)
          case atStart => exact ⟨0, _, rfl, by omega, HPB⟩
          case round =>
            obtain ⟨kk, v', rfl, hkk, HPK⟩ := hrel
            by_cases hlt : kk < 2
            · obtain ⟨aX, cX, HX⟩ := unhide HWC kk hlt
              have HXH := hide HX
              have HXT := hide (fun i hi => unhide HPS kk i hlt hi)
              have HXN := hide (fun i hi => unhide HLT kk hlt i hi)
              have HXE := hide (unhide HPE kk hlt)
              have HXL := hide (fun i => unhide HL3 kk i)
              have hXL : (way2 A B kk).length ≤ 1000001 := by unfold way2; split <;> omega
              obtain ⟨T, hTd⟩ : ∃ T : Nat → List Lk, T = fun i => pt t L3 A B kk i := ⟨_, rfl⟩
              have e0 : pt t L3 A B kk 0 = T 0 := by rw [hTd]
              have eT : ∀ i, pt t L3 A B kk i = T i := fun i => by rw [hTd]
              rw [e0] at HPK
              simp only [eT] at HXT HXE HXL
              generalize way2 A B kk = X at HXH HXT HXE hXL HXN
              obtain ⟨nX, hnX⟩ : ∃ n, n = X.length := ⟨_, rfl⟩
              rw [← hnX] at HXH HXT HXE hXL HXN
              clear HX hTd e0 eT hnX
              have hk0 : (0 : Int) ≤ (kk : Int) := by omega
              have hk2 : (kk : Int) < 2 := by omega
              go_wp2_with fail
              obtain ⟨wq, hwq⟩ : ∃ W, W = wr := ⟨_, rfl⟩
              subst hwq
              go_loopw [10] (fun i8 wr => ∃ (i : Nat) (v' : Value), i8 = .int .i64 (i : Int) ∧ i ≤ nX ∧ Hid (P wr (T i) v')) (fun i8 _ => nX - (intOf i8).toNat)
              case atStart => exact ⟨0, _, rfl, Nat.zero_le _, HPK⟩
              case round =>
                obtain ⟨i, v2, rfl, hi, HPI⟩ := hrel
                obtain ⟨cw, hrow⟩ := unhide HXH _ _ _ (unhide HPI)
                by_cases hil : i < nX
                · obtain ⟨g, rfl, hg, cr⟩ := hrow i hil
                  obtain ⟨hbt, q0, q1, hgl, hga, hq⟩ := unhide HLB _ _ _ (unhide HPI)
                  have hxN := unhide HXN i hil
                  obtain ⟨ql, qf, qt⟩ := hq _ hxN
                  have HS := hide (unhide HXT i hil)
                  have hi0 : (0 : Int) ≤ (i : Int) := by omega
                  have hi1 : (i : Int) < (nX : Int) := by omega
                  have hlI := unhide HXL i
                  generalize hXV : X.getD i 0 = x at cr hxN ql qf qt HS
                  have HXV := hide hXV
                  obtain ⟨n, hN⟩ : ∃ n, n = N.length := ⟨_, rfl⟩
                  rw [← hN] at q0 q1 hxN
                  have HNN := hide hN
                  clear hXV
                  have hx0 : (0 : Int) ≤ (x : Int) := by omega
                  have hx1 : (x : Int) < (n : Int) := by omega
                  clear hrow hq hN
                  generalize hah : ahd t x = ax at qf qt HS
                  obtain ⟨xf, xt⟩ := ax
                  simp only at qf qt HS
                  have hgw : gW < wr.heap.size := by
                    rcases Nat.lt_or_ge gW wr.heap.size with h | h
                    · exact h
                    · have := World.block_lt_of_cell? wr _ cw
                      simpa using this
                  have HAX := hide hah
                  clear hah
                  by_cases h2 : lab t x = 2
                  · rw [if_pos h2] at HS
                    rw [h2] at ql
                    have hq2 : (((2 : Nat) : Int) == 2) = true := rfl
                    obtain ⟨LI, hLI⟩ : ∃ L, L = T i := ⟨_, rfl⟩
                    rw [← hLI] at HPI hlI HS
                    have HS2 := hide (unhide HS)
                    clear hLI h2 HS
                    go_wp2_with fail
                    go_quiet (fail)
                    go_wp2_with fail
                    have HPZ : Hid (P (wr.drewN nq) LI v2) := unhide HPD _ _ _ nq (unhide HPI)
                    generalize wr.drewN nq = wz at HPZ ⊢
                    clear cw cr q0 q1 ql qf qt hbt hgl hga hgw hg HPI
                    obtain ⟨cw, hrow⟩ := unhide HXH _ _ _ (unhide HPZ)
                    obtain ⟨g2, eg2, hg2, cr⟩ := hrow i hil
                    obtain ⟨hbt, q0, q1, hgl, hga, hq⟩ := unhide HLB _ _ _ (unhide HPZ)
                    obtain ⟨_, qf, qt⟩ := hq x (by have := unhide HNN; omega)
                    obtain rfl : g = g2 := by simpa using eg2
                    rw [unhide HXV] at cr
                    rw [unhide HAX] at qf qt
                    rw [← unhide HNN] at q0 q1
                    simp only at qf qt
                    have hgw : gW < wz.heap.size := by
                      have := World.block_lt_of_cell? wz _ cw
                      simpa using this
                    clear hrow hq eg2
                    have HBLK := hide (unhide HBB _ _ _ (unhide HPZ))
                    obtain ⟨hrow9, C9, hC9, hC94⟩ := unhide HBB _ _ _ (unhide HPZ)
                    obtain ⟨aM, cM, eM, r4, hbr, hlor, hwz, ce0, ce1⟩ := unhide HBC _ _ _ (unhide HPZ)
                    subst eM
                    have HOD : wz.drew.ownsRow lo 83 2 (.slice aM LI.length cM) LI.length (lksV LI) := World.ownsRow.drew hrow9
                    have HAP := hide (fun w1 w3 v'' hb hg hv hat => unhide HAPP wz LI (.slice aM LI.length cM) ⟨xf, xt⟩ w1 w3 v'' (unhide HPZ) hb hg hv hat)
                    have HBX := hide hC9
                    have hC4 := hide hC94
                    have hne : (Value.slice aM LI.length cM).ownBlock ≠ some b := fun e => hC9.apart hrow9 run_types.2.2.1 e.symm
                    have r5 := ((below_new wz.drew (Obj.cells #[.int .i64 (xf : Int), .int .i64 (xt : Int)] 83)).cell (p := ⟨b, 4, none⟩) hbr).trans r4
                    have r6 := ((below_new wz (Obj.cells #[.int .i64 (xf : Int), .int .i64 (xt : Int)] 83)).cell (p := ⟨b, 4, none⟩) hbr).trans r4
                    clear hrow9 hC9 hC94 HBLK
                    go_region_law
                      (first
                        | (refine step_append_lies _ (by rfl) _ _ _ (by rfl) lo 83 i0 _ 2 16 Try.underlying76 hi0' hz0 hz1 hz2 rfl (by omega) (.slice aM LI.length cM) LI.length (lksV LI) (by show _ = _; kernel_rfl) (by first | exact HOD.alloc _ | exact (HOD.alloc _).drew) ⟨wz.heap.size, 0, none⟩ 1 1 [.int .i64 (xf : Int), .int .i64 (xt : Int)] (by show _ = _; kernel_rfl) (by rfl) (World.news_of_block (heap_alloc_new wz.drew _)) (by intro u hu; simp at hu; rcases hu with rfl | rfl <;> rfl) (by omega) (by unfold maxLen; omega) (by omega) (by simp; omega) (wz.heap.size + 1) (by simp) ?_; intro g14 cap14 w14 hown14 hgrow14 hat14 hlt14; have U14 := ((unhide HBX).below ((Below.refl wz.heap.size wz).drew.alloc (Nat.le_refl _) (Obj.cells #[.int .i64 (xf : Int), .int .i64 (xt : Int)] 83))).kept (Kept.of_grown hgrow14) (fun e => hne e); have t0 := U14.cell 4 _ (unhide hC4); have tf := U14.froz 4))
                    all_goals
                      have s1 := unhide HAP _ w14 (.slice (some ⟨g14, 0, none⟩) (LI.length + 1) cap14) ((Below.refl wz.heap.size wz).drew.alloc (Nat.le_refl _) _) hgrow14 hown14 (fun g hg => by
                        have e : g14 = g := by simpa [Value.ownBlock] using hg
                        subst e
                        rcases hat14 with h | h
                        · exact .inl h
                        · exact .inr (by omega))
                      have HS1 := hide s1
                      clear s1 U14 t0 tf hown14 hgrow14
                      go_wp2_with fail
                      exact ⟨⟨i + 1, _, by go_num, by omega, by rw [unhide HS2]; exact HS1⟩, by simp [intOf]; omega⟩
                  · rw [if_neg h2, List.append_nil] at HS
                    have hq2 : ((lab t x : Int) == 2) = false := by rw [beq_eq_false_iff_ne]; omega
                    have HPN : Hid (P wr (T (i + 1)) v2) := by rw [unhide HS]; exact HPI
                    generalize (lab t x : Int) = lx at ql hq2
                    clear HS h2
                    go_wp2_with fail
                    go_quiet (fail)
                    go_wp2_with fail
                    exact ⟨⟨i + 1, _, by go_num, by omega, unhide HPD _ _ _ nq (unhide HPN)⟩, by simp [intOf]; omega⟩
                · obtain rfl : i = nX := by omega
                  have hi1 : ¬ (i : Int) < (i : Int) := by omega
                  have HPN : Hid (P wr (pt t L3 A B (kk + 1) 0) v2) := by rw [← unhide HXE]; exact HPI
                  clear hrow
                  go_wp2_with fail
                  exact ⟨⟨kk + 1, _, by go_num, by omega, HPN⟩, by simp [intOf]; omega⟩
            · obtain rfl : kk = 2 := by omega
              go_wp2_with fail
              go_meet
              exact ⟨_, HPK⟩
        case rest =>
          obtain ⟨v4, HPC⟩ := hcut
          clear HPB HWC HBC HBB HAPP HLB HPD HLT HPS HPE HL3
          have hI := unhide HINV
          rw [unhide HAI] at hI
          obtain ⟨hrun, hfr, hkp⟩ := unhide HFIN _ _ _ (unhide HPC)
          have hRS : R = openAll s N.length N (pt t L3 A B 2 0) := by rw [unhide HRES, unhide HAI]
          generalize pt t L3 A B 2 0 = L4 at hI hrun hRS HPC
          have HOS : Hid (OS w b lo aQ cQ s Q y k d vv N.length wc N L4 v4) := ⟨hrun, hfr, hkp, hI, rfl⟩
          have HRS := hide hRS
          have HAL : Hid (alive N ≤ N.length) := List.countP_le_length
          have FA := hide (fun W N' M' v' ad h => OS.first (w0 := w) (b := b) (lo := lo) (aQ := aQ) (cQ := cQ) (s := s) (Q := Q) (y := y) (k := k) (d := d) (vv := vv) (n := N.length) (W := W) (N' := N') (M' := M') (v' := v') ad hnl h)
          have OA := hide (fun W N' M' v' j h hf => OS.open_ (w0 := w) (b := b) (lo := lo) (aQ := aQ) (cQ := cQ) (s := s) (Q := Q) (y := y) (k := k) (d := d) (vv := vv) (n := N.length) (W := W) (N' := N') (M' := M') (v' := v') j hlo hnl h hf)
          have AA := hide (fun W N' M' v' o h => OS.alloc (w0 := w) (b := b) (lo := lo) (aQ := aQ) (cQ := cQ) (s := s) (Q := Q) (y := y) (k := k) (d := d) (vv := vv) (n := N.length) (W := W) (N' := N') (M' := M') (v' := v') hlo o h)
          have FIN : Hid (∀ W N' M' v', OS w b lo aQ cQ s Q y k d vv N.length W N' M' v' → RunAt W b lo aQ cQ s Q y N' M' k d { vv with m := v' } ∧ (∀ g, v'.ownBlock = some g → vv.m.ownBlock = some g ∨ w.heap.size ≤ g) ∧ Kept (Foot b vv) w W) := fun W N' M' v' h => ⟨h.1, h.2.1, h.2.2.1⟩
          have ALV := hide (fun W N' M' v' h hf => OS.alive (w0 := w) (b := b) (lo := lo) (aQ := aQ) (cQ := cQ) (s := s) (Q := Q) (y := y) (k := k) (d := d) (vv := vv) (n := N.length) (W := W) (N' := N') (M' := M') (v' := v') h hf)
          obtain ⟨P2, hP2⟩ : ∃ P : World → List Nd → List Lk → Value → Prop, P = OS w b lo aQ cQ s Q y k d vv N.length := ⟨_, rfl⟩
          rw [← hP2] at HOS FA OA AA FIN ALV
          clear hrun hfr hkp hI hRS hP2 HPC HFIN HINV HRES HAI HR0 HU0 HGE HFEW
          generalize N.length = nN at *
          go_wp2_with fail
          have HOS1 := hide (unhide AA wc N L4 v4 (Obj.cells #[] 3) (unhide HOS))
          refine (unhide FA _ _ _ _ _ (unhide HOS1)).mono ?_
          rintro e w6 ⟨rfl, rfl⟩
          go_wp2_with fail
          go_loopg [11] nN (fun f k11 wr => ∃ (N' : List Nd) (M' : List Lk) (v' : Value), k11 = .int .i64 (firstOf s N' []) ∧ Hid (P2 wr N' M' v') ∧ Hid (R = openAll s f N' M') ∧ Hid (alive N' ≤ f))
          case atStart => exact ⟨N, L4, v4, rfl, HOS1, HRS, HAL⟩
          case round =>
            obtain ⟨N', M', v', rfl, HP6, HR6, HA6⟩ := hrel
            by_cases h0 : 0 ≤ firstOf s N' []
            · obtain ⟨j, hj, _⟩ := first_ring h0
              obtain ⟨f', rfl, ha6⟩ : ∃ f', gk = f' + 1 ∧ alive (openN N' j) ≤ f' := by
                have h1 := unhide ALV _ _ _ _ (unhide HP6) h0
                have h2 := h1 j hj
                have h3 := unhide HA6
                exact ⟨gk - 1, by omega, by omega⟩
              have HR7 : Hid (R = openAll s f' (openN N' j) (openM N' M' j)) := by
                show _ = _
                rw [unhide HR6, openAll, if_pos h0, hj, Int.toNat_natCast]
              have OJ := hide (unhide OA _ _ _ _ j (unhide HP6) hj)
              rw [hj] at h0 ⊢
              have HJ := hide hj
              clear hj HP6 HR6 HA6
              go_wp2_with fail
              refine (unhide OJ).mono ?_
              rintro e w7 ⟨rfl, v7, h7⟩
              have H7 := hide (unhide AA w7 _ _ v7 (Obj.cells #[] 3) h7)
              clear h7 OJ
              go_wp2_with fail
              refine (unhide FA _ _ _ _ _ (unhide H7)).mono ?_
              rintro e w8 ⟨rfl, rfl⟩
              go_wp2_with fail
              go_roundg f'
              case rel => exact ⟨openN N' j, openM N' M' j, v7, rfl, H7, HR7, ha6⟩
              case measure => omega
            · have hRe : R = (N', M') := by
                rw [unhide HR6]
                cases gk with
                | zero => rfl
                | succ f => rw [openAll, if_neg h0]
              obtain ⟨g1, g2, g3⟩ := unhide FIN _ _ _ _ (unhide HP6)
              have G1 := hide g1
              have G2 := hide g2
              have G3 := hide g3
              have HRE := hide hRe
              clear g1 g2 g3 hRe HP6 HR6 HA6
              generalize firstOf s N' [] = fz at h0
              go_wp2_with fail
              go_end0
              rw [unhide HRE]
              exact ⟨rfl, ⟨_, unhide G1, unhide G2⟩, unhide G3⟩
end
end Sv
end Go.Proofs.Ytkjclkelnheheaa
