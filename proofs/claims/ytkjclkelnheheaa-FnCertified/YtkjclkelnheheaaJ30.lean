/-
 SvY1, SvZ1.
-/
import Derived.Test.YtkjclkelnheheaaJ28
import Derived.Test.YtkjclkelnheheaaJ29
import Derived.Test.YtkjclkelnheheaaJ26
import Derived.Test.YtkjclkelnheheaaJ23
namespace Go.Proofs.Ytkjclkelnheheaa
namespace Sv
open Go.RowKit Gr
section
variable {w : World} {b lo : Nat} {aQ : Option Addr} {cQ s : Nat} {Q : List EdgeI} {y : List Int} {N : List Nd} {M : List Lk} {k : Int} {d : Bool} {vv : Vs}
theorem RunAt.footLt (h : RunAt w b lo aQ cQ s Q y N M k d vv) (i : Nat) (hi : Foot b vv i) : lo ≤ i ∧ i < w.heap.size := by
  rcases hi with rfl | hi | hi | hi
  · exact ⟨h.blo, h.box.lt⟩
  · exact World.ownsRow.lt h.ys i hi
  · exact World.ownsRow.lt h.ns i hi
  · exact World.ownsRow.lt h.ms i hi
theorem TpW.apart {w1 : World} {bt : Nat} {t : Tp} {vl va vr : Value} (h : RunAt w b lo aQ cQ s Q y N M k d vv) (hT : TpW w1 bt w.heap.size t vl va vr) : Apart b vv bt vl va vr := fun i hi => by
  have h1 := (h.footLt i hi).2
  refine ⟨fun e => ?_, fun e => ?_, fun e => ?_, fun e => ?_⟩
  · have := hT.blo; omega
  · have := (World.ownsRow.lt hT.at_.lab i e).1; omega
  · have := (World.ownsRow.lt hT.at_.ahd i e).1; omega
  · have := (World.ownsRow.lt hT.at_.rot i e).1; omega
set_option maxRecDepth 100000 in
set_option maxHeartbeats 4000000 in
theorem round_any (h : RunAt w b lo aQ cQ s Q y N M k d vv) (hlo : lo ≤ w.heap.size) (I : Inv s N M) (hn5 : N.length ≤ 500000) (hy : y.length = s) (hQ : ∀ e ∈ Q, (0 ≤ e.A ∧ e.A < (s : Int)) ∧ (0 ≤ e.B ∧ e.B < (s : Int))) (hQl : Q.length ≤ 1000000) :
    Calls Try.prog 57 #[.pointer (some ⟨b, 0, none⟩)] w fun u w' => u = .returned (.tuple #[]) ∧ (∃ vv', RunAt w' b lo aQ cQ s Q (rounded s Q y N M d).1 (rounded s Q y N M d).2.1 (rounded s Q y N M d).2.2.1 k (rounded s Q y N M d).2.2.2 vv') ∧ Below lo w w' := by
  have hge := I.ge
  have hfew := I.few
  have hE : ∀ v ∈ ends M, v < N.length := fun v hv => by have := I.fin v hv; omega
  have LA := label_any h hlo I (by omega) (by omega) hE hy hQ hQl
  have LS := labels_spec (y := y) I (fun e he => by have := hQ e he; omega)
  obtain ⟨R, hR⟩ : ∃ R, R = rounded s Q y N M d := ⟨_, rfl⟩
  rw [← hR]
  unfold rounded at hR
  generalize labels s Q y N M = LL at LA LS hR
  obtain ⟨t, at'⟩ := LL
  simp only at LA LS hR
  have HLA := hide LA
  clear LA
  have HH := hide h
  have HI := hide I
  have HQ := hide hQ
  have hbl := h.box.lt
  have q1 := h.box.cell 1 _ rfl
  have HFL := hide (fun i hi => (h.footLt i hi).1)
  have HEC := hide h.edges.2
  have HAP := hide (fun (w1 : World) bt vl va vr (hT : TpW w1 bt w.heap.size t vl va vr) => hT.apart h)
  have HBW := hide (fun w1 (hb : Below w.heap.size w w1) => h.below hb hlo)
  clear h I hQ hE hfew
  obtain ⟨⟨rk, F⟩, _, L2⟩ := LS
  have HF := hide F
  clear F
  go_enter Try.func57, Try.ntmps57
  go_wp2_with fail
  refine (unhide HLA).mono ?_
  rintro u w1 ⟨⟨bt, vl, va, vr, rfl, hT⟩, hb⟩
  have HT := hide hT
  have hap := hide (unhide HAP _ _ _ _ _ hT)
  have R1 := hide (unhide HBW _ hb)
  have hz1 := hb.size
  clear hT HLA HAP HBW
  cases at' with
  | none =>
    simp only at hR
    simp only [labelAt]
    go_wp2_with fail
    refine (adjust_any (unhide R1) (Nat.le_trans hlo hz1) (unhide HI) (by omega) (by omega) (by have := (unhide HI).few; omega) hy hQl (unhide HQ) (unhide HT).at_ (unhide HF).l1 (unhide hap)).mono ?_
    rintro u w2 ⟨rfl, ⟨v', hR2, _⟩, hk⟩
    have HFIN : Hid ((∃ vv', RunAt w2 b lo aQ cQ s Q R.1 R.2.1 R.2.2.1 k R.2.2.2 vv') ∧ Below lo w w2) := ⟨⟨_, by rw [hR]; exact hR2⟩, (hb.mono hlo).trans (hk.below (Nat.le_trans hlo hz1) (unhide HFL))⟩
    clear hR2 hk hR
    go_wp2_with fail
    go_returns
    exact ⟨rfl, unhide HFIN⟩
  | some p =>
    obtain ⟨j, e⟩ := p
    simp only at hR
    simp only [labelAt]
    obtain ⟨⟨hj, he⟩, _, h2⟩ := L2 j e rfl
    unfold both at h2
    simp only [Bool.and_eq_true, beq_iff_eq] at h2
    obtain ⟨ge, off, rfl, hge', d0, d1, d2, d3, d4⟩ := unhide HEC j hj
    obtain ⟨rA, rB⟩ := unhide HQ _ (List.getElem_mem hj)
    rw [he] at d0 d1 d2 d3 d4 rA rB
    clear he L2 HEC
    obtain ⟨qn, hqn⟩ : ∃ qn, qn = Q.length := ⟨_, rfl⟩
    rw [← hqn] at q1 hQl hj
    clear hqn
    obtain ⟨xA, xB, x1, x2, x3⟩ := e
    simp only at d0 d1 d2 d3 d4 rA rB h2 hR
    obtain ⟨eA, rfl⟩ := Int.eq_ofNat_of_zero_le rA.1
    obtain ⟨eB, rfl⟩ := Int.eq_ofNat_of_zero_le rB.1
    rw [Int.toNat_natCast, Int.toNat_natCast] at h2 hR
    obtain ⟨la, lb⟩ := h2
    have hAs : eA < N.length := by omega
    have hBs : eB < N.length := by omega
    have hj0 : (0 : Int) ≤ (j : Int) := by omega
    have hjn : ¬ (j : Int) < 0 := by omega
    have hj1 : (j : Int) < (qn : Int) := by omega
    rw [← hb.cell (p := ⟨ge, off + j * 5, none⟩) (by simp; omega)] at d0
    rw [← hb.cell (p := ⟨ge, off + j * 5 + 1, none⟩) (by simp; omega)] at d1
    rw [← hb.cell (p := ⟨ge, off + j * 5 + 2, none⟩) (by simp; omega)] at d2
    rw [← hb.cell (p := ⟨ge, off + j * 5 + 3, none⟩) (by simp; omega)] at d3
    rw [← hb.cell (p := ⟨ge, off + j * 5 + 4, none⟩) (by simp; omega)] at d4
    have p1 : w1.cell? ⟨b, 1, none⟩ = some (.slice (some ⟨ge, off, none⟩) qn cQ) := (hb.cell (p := ⟨b, 1, none⟩) hbl).trans q1
    have fA := (unhide HF).tp _ (show lab t (top N eA) ≠ 0 by omega)
    have fB := (unhide HF).tp _ (show lab t (top N eB) ≠ 0 by omega)
    have l3 : t.root.length = N.length := (unhide HF).l3
    obtain ⟨gr, cr, er, hgr, hcr⟩ := na_cells (unhide HT).at_.rot (by have : top N eA < N.length := fA.1; omega)
    rw [l3] at er
    have t2 := (unhide HT).at_.box.cell 2 _ rfl
    rw [er] at t2
    have cA := hcr (top N eA) (by have : top N eA < N.length := fA.1; omega)
    have cB := hcr (top N eB) (by have : top N eB < N.length := fB.1; omega)
    have hbt := (unhide HT).at_.box.lt
    obtain ⟨gT, hgT⟩ : ∃ g : Int → Nat, g = fun v => top N v.toNat := ⟨_, rfl⟩
    have tA : top N eA = gT (eA : Int) := by rw [hgT]; rfl
    have tB : top N eB = gT (eB : Int) := by rw [hgT]; rfl
    have TT : Hid (∀ W, Fresh w1 W → ∀ v : Int, (v = (eA : Int) ∨ v = (eB : Int)) → Calls Try.prog 73 #[.pointer (some ⟨b, 0, none⟩), .int .i64 v] W fun e w' => e = .returned (.int .i64 (gT v : Int)) ∧ w' = W) := fun W hF v hv => by
      rw [hgT]
      rcases hv with rfl | rfl
      · exact top_any ((unhide R1).below hF (Nat.le_trans hlo hz1)) (unhide HI).ups (by omega) eA hAs
      · exact top_any ((unhide R1).below hF (Nat.le_trans hlo hz1)) (unhide HI).ups (by omega) eB hBs
    clear hgT
    have SH := hide (fun W (hF : Fresh w1 W) hr => shrink_any ((unhide R1).below hF (Nat.le_trans hlo hz1)) (Nat.le_trans (Nat.le_trans hlo hz1) hF.size) (unhide HI) hn5 (by have := (unhide HI).few; omega) ((unhide HT).at_.below hF) (unhide HF) ⟨eA, eB, x1, x2, x3⟩ rA rB la lb hr)
    have AG := hide (fun W (hF : Fresh w1 W) hr => augment_any ((unhide R1).below hF (Nat.le_trans hlo hz1)) (Nat.le_trans (Nat.le_trans hlo hz1) hF.size) (unhide HI) (by omega) (by have := (unhide HI).few; omega) ((unhide HT).at_.below hF) (unhide HF) (unhide hap) ⟨eA, eB, x1, x2, x3⟩ rA rB la lb hr)
    simp only [Int.toNat_natCast] at SH AG
    clear hcr la lb HF HT R1 hap er rA rB
    have htA : top N eA < N.length := fA.1
    have htB : top N eB < N.length := fB.1
    have hrA : t.root.getD (top N eA) 0 = rt t (top N eA) := rfl
    have hrB : t.root.getD (top N eB) 0 = rt t (top N eB) := rfl
    rw [hrA] at cA
    rw [hrB] at cB
    have HR := hide hR
    clear hR fA fB hrA hrB
    generalize rt t (top N eA) = ra at cA SH AG HR
    generalize rt t (top N eB) = rb at cB SH AG HR
    rw [tA] at cA htA
    rw [tB] at cB htB
    clear tA tB
    obtain ⟨n, hN⟩ : ∃ n, n = N.length := ⟨_, rfl⟩
    rw [← hN] at t2 htA htB
    clear hN
    have a0 : (0 : Int) ≤ (gT (eA : Int) : Int) := by omega
    have a1 : (gT (eA : Int) : Int) < (n : Int) := by omega
    have b0 : (0 : Int) ≤ (gT (eB : Int) : Int) := by omega
    have b1 : (gT (eB : Int) : Int) < (n : Int) := by omega
    go_upto_region 4 with fail
    obtain ⟨U, hU⟩ : ∃ W, W = w1.alloc (Obj.cells #[.int .i64 (eA : Int), .int .i64 (eB : Int), .int .i64 x1, .int .i64 x2, .int .i64 x3] 68) := ⟨_, rfl⟩
    rw [← hU]
    have hFU : Fresh w1 U := by rw [hU]; exact (Fresh.refl w1).alloc
    have mU : Blk U w1.heap.size #[.int .i64 (eA : Int), .int .i64 (eB : Int), .int .i64 x1, .int .i64 x2, .int .i64 x3] 68 := by rw [hU]; exact Blk.new0
    have hzU : w1.heap.size < U.heap.size := mU.lt
    clear hU
    have k0 : ∀ d : Grown U.heap.size U, d.w.cell? ⟨bt, 2, none⟩ = some (.slice (some ⟨gr, 0, none⟩) n cr) := fun d => d.cell (by omega) ((hFU.cell (p := ⟨bt, 2, none⟩) hbt).trans t2)
    have k1 : ∀ d : Grown U.heap.size U, d.w.cell? ⟨gr, gT (eA : Int), none⟩ = some (.int .i64 (ra : Int)) := fun d => d.cell (by omega) ((hFU.cell (p := ⟨gr, gT (eA : Int), none⟩) hgr).trans cA)
    have k2 : ∀ d : Grown U.heap.size U, d.w.cell? ⟨gr, gT (eB : Int), none⟩ = some (.int .i64 (rb : Int)) := fun d => d.cell (by omega) ((hFU.cell (p := ⟨gr, gT (eB : Int), none⟩) hgr).trans cB)
    have k3 : ∀ d : Grown U.heap.size U, d.w.cell? ⟨w1.heap.size, 0, none⟩ = some (.int .i64 (eA : Int)) := fun d => d.cell (by omega) (mU.cell 0 _ rfl)
    have k4 : ∀ d : Grown U.heap.size U, d.w.cell? ⟨w1.heap.size, 1, none⟩ = some (.int .i64 (eB : Int)) := fun d => d.cell (by omega) (mU.cell 1 _ rfl)
    refine wp_region_grown U.heap.size (by kernel_rfl) (by kernel_rfl) ?_
    repeat (go_big_quiet_step (first
      | (go_at_call 73; exact Calls.grown_same (unhide TT _ (hFU.below (Grown.below _)) _ (by first | exact Or.inl rfl | exact Or.inr rfl)))))
    refine wpQuiet_nil ?_
    rintro w5 ⟨d5, rfl⟩
    obtain ⟨W5, hb5⟩ := d5
    dsimp only
    clear k0 k1 k2 k3 k4 TT
    have hF5 : Fresh w1 W5 := hFU.below hb5
    have m5 := mU.below hb5
    have e0 : W5.cell? ⟨w1.heap.size, 0, none⟩ = some (.int .i64 (eA : Int)) := m5.cell 0 _ rfl
    have e1 : W5.cell? ⟨w1.heap.size, 1, none⟩ = some (.int .i64 (eB : Int)) := m5.cell 1 _ rfl
    have e2 : W5.cell? ⟨w1.heap.size, 2, none⟩ = some (.int .i64 x1) := m5.cell 2 _ rfl
    have e3 : W5.cell? ⟨w1.heap.size, 3, none⟩ = some (.int .i64 x2) := m5.cell 3 _ rfl
    have e4 : W5.cell? ⟨w1.heap.size, 4, none⟩ = some (.int .i64 x3) := m5.cell 4 _ rfl
    have hz5 : lo ≤ W5.heap.size := by have := hF5.size; omega
    have B5 : Below lo w W5 := (hb.mono hlo).trans (Below.mono hF5 (by omega))
    clear mU m5 hFU d0 d1 d2 d3 d4 p1 q1 t2 cA cB hb5
    by_cases hrr : ra = rb
    · have hri : (ra : Int) = (rb : Int) := by rw [hrr]
      go_wp2_with fail
      refine (unhide SH W5 hF5 hrr).mono ?_
      rintro u w6 ⟨rfl, ⟨v', hR2⟩, hk⟩
      have HFIN : Hid ((∃ vv', RunAt w6 b lo (some ⟨ge, off, none⟩) cQ s Q R.1 R.2.1 R.2.2.1 k R.2.2.2 vv') ∧ Below lo w w6) := ⟨⟨_, by rw [unhide HR, if_pos hrr]; exact hR2⟩, B5.trans hk⟩
      clear hR2 hk
      go_wp2_with fail
      go_returns
      exact ⟨rfl, unhide HFIN⟩
    · have hri : ¬ (ra : Int) = (rb : Int) := by omega
      go_wp2_with fail
      refine (unhide AG W5 hF5 hrr).mono ?_
      rintro u w6 ⟨rfl, ⟨v', hR2, _⟩, hk⟩
      have HFIN : Hid ((∃ vv', RunAt w6 b lo (some ⟨ge, off, none⟩) cQ s Q R.1 R.2.1 R.2.2.1 k R.2.2.2 vv') ∧ Below lo w w6) := ⟨⟨_, by rw [unhide HR, if_neg hrr]; exact hR2⟩, B5.trans (hk.below hz5 (unhide HFL))⟩
      clear hR2 hk
      go_wp2_with fail
      go_end0
      exact ⟨rfl, unhide HFIN⟩
end
set_option maxRecDepth 100000 in
set_option maxHeartbeats 4000000 in
theorem solve0_any (w : World) (aQ : Option Addr) (cQ s : Nat) (Q : List EdgeI) (hs : s ≤ 100000) (hQl : Q.length ≤ 1000000) (hQ : ∀ e ∈ Q, (0 ≤ e.A ∧ e.A < (s : Int)) ∧ (0 ≤ e.B ∧ e.B < (s : Int))) (hE : edgesAt w aQ Q.length w.heap.size Q) :
    Calls Try.prog 35 #[.agg #[.int .i64 (s : Int), .slice aQ Q.length cQ]] w fun u w' => (∃ b, u = .returned (.pointer (some ⟨b, 0, none⟩)) ∧ ∃ vv, RunAt w' b (w.heap.size + 1) aQ cQ s Q (solved s Q).2.1 (solved s Q).2.2.1 (solved s Q).2.2.2.1 ((solved s Q).1 : Int) (solved s Q).2.2.2.2 vv) ∧ Below w.heap.size w w' := by
  obtain ⟨R, hR⟩ : ∃ R, R = solved s Q := ⟨_, rfl⟩
  rw [← hR]
  unfold solved startS at hR
  obtain ⟨MO, hMO⟩ : ∃ m, m = mostF Q 0 := ⟨_, rfl⟩
  rw [← hMO] at hR
  have HR := hide hR
  have HMO := hide hMO
  have HQ := hide hQ
  have HE := hide hE
  clear hR hMO hQ hE
  obtain ⟨qn, hqn⟩ : ∃ n, n = Q.length := ⟨_, rfl⟩
  rw [← hqn] at hQl ⊢
  have HQN := hide hqn
  clear hqn
  have hx0 : (0 : Int) ≤ (s : Int) := by omega
  have hx1 : ¬ (s : Int) < 0 := by omega
  go_enter Try.func35, Try.ntmps35
  go_upto_region 1 with fail
  obtain ⟨U, hU⟩ : ∃ W, W = w.alloc (Obj.cells #[.int .i64 (s : Int), .slice aQ qn cQ] 26) := ⟨_, rfl⟩
  rw [← hU]
  have hFU : Fresh w U := by rw [hU]; exact (Fresh.refl w).alloc
  have mU : Blk U w.heap.size #[.int .i64 (s : Int), .slice aQ qn cQ] 26 := by rw [hU]; exact Blk.new0
  have HZU : Hid (U.heap.size = w.heap.size + 1) := by show _ = _; rw [hU]; simp
  have hg : w.heap.size < U.heap.size := mU.lt
  have HEU : Hid (∀ W, Below U.heap.size U W → edgesAt W aQ Q.length U.heap.size Q) := fun W hW => (((unhide HE).below hFU (Nat.le_refl _)).mono hFU.size).below hW (Nat.le_refl _)
  clear hU
  have g0 : U.cell? ⟨w.heap.size, 0, none⟩ = some (.int .i64 (s : Int)) := mU.cell 0 _ rfl
  have g1 : U.cell? ⟨w.heap.size, 1, none⟩ = some (.slice aQ qn cQ) := mU.cell 1 _ rfl
  obtain ⟨i0, hi0, hz0, hz1, hz2⟩ := info_parts info_int
  obtain ⟨A1, hA1⟩ : ∃ M, M = madeCells (Value.int .i64 0).cells (s * i0.size) := ⟨_, rfl⟩
  have hmk : ∀ W : World, (Instr.makeSlice 27 (.int .i64 (s : Int)) (.int .i64 (s : Int))).run Try.prog W = .ok (.slice (some ⟨W.heap.size, 0, none⟩) s s) (W.alloc (.cells A1 3)) := fun W => by
    have h := run_make (P := Try.prog) W 27 3 i0 (.int .i64 0) Try.underlying27 hi0 hz0 .i64 .i64 (s : Int) (s : Int) (by omega) (by omega) (by rw [hz2]; omega) (by omega)
    rw [Int.toNat_natCast, ← hA1] at h
    simpa using h
  have HA := hide (made_nats s A1 (by rw [hA1, hz1]))
  clear hA1
  go_cut [3] (fun v wx => ∃ b gy, v = .pointer (some ⟨b, 0, none⟩) ∧ Hid (RunAt wx b U.heap.size aQ cQ s Q (List.replicate s 0) [] [] 0 false ⟨.slice (some ⟨gy, 0, none⟩) s s, .slice none 0 0, .slice none 0 0, [], []⟩) ∧ Below U.heap.size U wx)
  case first =>
    go_region
    all_goals
      go_wp2_with fail
      go_meet
      case rel => exact ⟨_, _, rfl, run_new (by omega) (unhide HA) (unhide HEU _ (below2 U _ _)) (heap2 U _ _).1 (by rw [← unhide HQN]; exact (heap2 U _ _).2) (by omega) (by omega), below2 U _ _⟩
  case rest =>
    obtain ⟨b, gy, rfl, HR0, hb0⟩ := hcut
    clear hmk HA hi0 hz0 hz1 hz2 g0 g1
    have hbl := (unhide HR0).box.lt
    have mC := mU.below hb0
    have HMS := hide (fun j m h => mostF_step Q j m h)
    go_wp2_with fail
    go_loopw [4, 5] (fun a4 a5 wr => ∃ (m : Int) (i : Nat), a4 = .int .i64 m ∧ a5 = .int .i64 (i : Int) ∧ i ≤ qn ∧ Hid (MO = mostF (Q.drop i) m) ∧ Below wc.heap.size wc wr) (fun _ a5 _ => qn - (intOf a5).toNat)
    case atStart => exact ⟨0, 0, rfl, rfl, Nat.zero_le _, HMO, Below.refl _ _⟩
    case round =>
      obtain ⟨m, i, rfl, rfl, hi, HM, hb⟩ := hrel
      have mR := mC.below hb
      have p1 : wr.cell? ⟨w.heap.size, 1, none⟩ = some (.slice aQ qn cQ) := mR.cell 1 _ rfl
      by_cases hlt : i < qn
      · have hjQ : i < Q.length := by have := unhide HQN; omega
        have hj0 : (0 : Int) ≤ (i : Int) := by omega
        have hj1 : (i : Int) < (qn : Int) := by omega
        have HM2 := hide ((unhide HM).trans (unhide HMS i m hjQ))
        have HB3 := hide (hb0.trans (hb.mono hb0.size))
        obtain ⟨ge, off, rfl, hge, d0, d1, d2, d3, d4⟩ := (unhide HEU wr (unhide HB3)).2 i hjQ
        have hge2 : ge < wr.heap.size := by have := (unhide HB3).size; omega
        have hgb2 : w.heap.size < wr.heap.size := by have := (unhide HB3).size; omega
        have SC := hide (fun W => specScalar_any Q[i] W)
        clear HM
        generalize scal Q[i] = sc at SC HM2
        generalize Q[i] = q at d0 d1 d2 d3 d4 SC
        obtain ⟨eA, eB, x1, x2, x3⟩ := q
        simp only at d0 d1 d2 d3 d4
        unfold EdgeI.v at SC
        simp only at SC
        go_wp2_with fail
        refine (unhide SC _).mono ?_
        rintro u w3 ⟨rfl, hb3⟩
        have p1' : w3.cell? ⟨w.heap.size, 1, none⟩ = some (.slice (some ⟨ge, off, none⟩) qn cQ) := (hb3.cell (p := ⟨w.heap.size, 1, none⟩) hgb2).trans p1
        have d0' := (hb3.cell (p := ⟨ge, off + i * 5, none⟩) hge2).trans d0
        have d1' := (hb3.cell (p := ⟨ge, off + i * 5 + 1, none⟩) hge2).trans d1
        have d2' := (hb3.cell (p := ⟨ge, off + i * 5 + 2, none⟩) hge2).trans d2
        have d3' := (hb3.cell (p := ⟨ge, off + i * 5 + 3, none⟩) hge2).trans d3
        have d4' := (hb3.cell (p := ⟨ge, off + i * 5 + 4, none⟩) hge2).trans d4
        have HB4 := hide (hb.trans (hb3.mono hb.size))
        clear p1 d0 d1 d2 d3 d4 hb3
        by_cases hgt : m < sc
        · rw [if_pos hgt] at HM2
          go_wp2_with fail
          refine (unhide SC _).mono ?_
          rintro u w4 ⟨rfl, hb4⟩
          have HB5 := hide ((unhide HB4).trans (hb4.mono (unhide HB4).size))
          clear hb4 p1' d0' d1' d2' d3' d4'
          go_wp2_with fail
          exact ⟨⟨sc, i + 1, rfl, by go_num, by omega, HM2, unhide HB5⟩, by simp [intOf]; omega⟩
        · rw [if_neg hgt] at HM2
          go_wp2_with fail
          exact ⟨⟨m, i + 1, rfl, by go_num, by omega, HM2, unhide HB4⟩, by simp [intOf]; omega⟩
      · obtain rfl : i = qn := by omega
        have hj1 : ¬ (i : Int) < (i : Int) := by omega
        have hm : MO = m := by rw [unhide HM, unhide HQN, List.drop_length]; rfl
        subst hm
        have HRR : Hid (RunAt wr b U.heap.size aQ cQ s Q (yTo s MO 0) (nodes0 0) [] 0 false ⟨.slice (some ⟨gy, 0, none⟩) s s, .slice none 0 0, .slice none 0 0, [], []⟩) := by
          show RunAt _ _ _ _ _ _ _ _ _ _ _ _ _
          rw [yTo_zero]
          exact (unhide HR0).below hb hb0.size
        have hb1 := hb0.trans (hb.mono hb0.size)
        clear HR0 hb mR mC HMS HM
        go_wp2_with fail
        go_loopw [6] (fun a6 wr => ∃ (j : Nat) (vn : Value) (rs ls : List Value), a6 = .int .i64 (j : Int) ∧ j ≤ s ∧ Hid (RunAt wr b U.heap.size aQ cQ s Q (yTo s MO j) (nodes0 j) [] 0 false ⟨.slice (some ⟨gy, 0, none⟩) s s, vn, .slice none 0 0, rs, ls⟩) ∧ Below U.heap.size U wr) (fun a6 _ => s - (intOf a6).toNat)
        case atStart => exact ⟨0, _, _, _, rfl, Nat.zero_le _, HRR, hb1⟩
        case round =>
          clear HRR hb1
          obtain ⟨j, vn, rs, ls, rfl, hj, HRJ, hb⟩ := hrel
          have mR := mU.below hb
          have p0 : wr.cell? ⟨w.heap.size, 0, none⟩ = some (.int .i64 (s : Int)) := mR.cell 0 _ rfl
          clear mR
          by_cases hlt : j < s
          · have hj0 : (0 : Int) ≤ (j : Int) := by omega
            have hj1 : (j : Int) < (s : Int) := by omega
            have hyl := yTo_len s MO j
            have q2 : wr.cell? ⟨b, 2, none⟩ = some (.slice (some ⟨gy, 0, none⟩) s s) := (unhide HRJ).box.cell 2 _ rfl
            have hys := (unhide HRJ).ys
            simp only at hys
            rw [hyl] at hys
            have f2 : wr.frozen? ⟨gy, j, none⟩ = false := hys.frozenAt j
            have c2 : wr.cell? ⟨gy, j, none⟩ = some (.int .i64 ((yTo s MO j).getD j 0)) := by
              have := hys.cells (g := gy) rfl j (.int .i64 ((yTo s MO j).getD j 0)) (by rw [getD_at _ _ _ (by omega)]; simp [intsV, hyl, hlt])
              rwa [addr_add] at this
            have hgy := World.ownsRow.lt hys gy rfl
            obtain ⟨s1, s2⟩ := (unhide HRJ).setY (j := j) hb.size (by simp only; rw [hyl]) MO
            rw [yTo_set] at s1
            have hbY : Below U.heap.size U (wr.setCell ⟨gy, j, none⟩ (.int .i64 MO)) := hb.trans (s2.below hb.size (fun i hi => by rw [hi]; exact hgy.1))
            obtain ⟨Y, hY⟩ : ∃ W, W = wr.setCell ⟨gy, j, none⟩ (.int .i64 MO) := ⟨_, rfl⟩
            rw [← hY] at s1 s2 hbY
            have HRY := hide s1
            have HY := hide hY
            clear s1 s2 hY hys HRJ hb
            generalize (yTo s MO j).getD j 0 = y0 at c2
            go_upto_region 12 with fail
            rw [← unhide HY]
            clear HY q2 f2 c2 p0 hyl
            obtain ⟨an, cn, en⟩ : ∃ a c, vn = .slice a j c := by
              rcases (unhide HRY).ns.2 with ⟨e, h0⟩ | ⟨g, cap, cur, e, _⟩
              · exact ⟨none, 0, by rw [nodes0_len] at h0; simp only at e; rw [e, h0]⟩
              · exact ⟨_, _, by rw [nodes0_len] at e; exact e⟩
            subst en
            have q3 : Y.cell? ⟨b, 3, none⟩ = some (.slice an j cn) := (unhide HRY).box.cell 3 _ rfl
            have hbl2 := (unhide HRY).box.lt
            obtain ⟨k0, hk0', hn0, hn1, hn2⟩ := info_parts info_node
            have hownN : Y.ownsRow U.heap.size 102 6 (.slice an j cn) j (ndsV rs ls (nodes0 j)) := by
              have := (unhide HRY).ns
              rw [nodes0_len] at this
              exact this
            go_wp2_with (at_builtin; refine wpList_append_own _ rfl _ _ 75 rfl U.heap.size 102 k0 (.agg #[.slice none 0 0, .slice none 0 0, .int .i64 0, .int .i64 0, .int .i64 0, .bool false]) 6 80 Try.underlying75 hk0' hn0 hn1 hn2 rfl (by decide) _ j _ rfl (hownN.alloc _) ⟨Y.heap.size, 0, none⟩ 1 1 [.slice none 0 0, .slice none 0 0, .int .i64 (j : Int), .int .i64 0, .int .i64 (-1), .bool false] rfl rfl (World.news_of_block (heap_alloc_new Y _)) (by intro u hu; simp at hu; rcases hu with rfl | rfl | rfl | rfl | rfl | rfl <;> rfl) ?c1 ?c2 ?c3 ?_)
            case c1 => unfold maxLen; omega
            case c2 => omega
            case c3 => have := hbY.size; simp; omega
            intro v11 w11 hown11 hgrow11 _
            obtain ⟨gP, cP, eP⟩ : ∃ g c, v11 = .slice (some ⟨g, 0, none⟩) (j + 1) c := by
              rcases hown11.2 with ⟨_, h0⟩ | ⟨g, cap, cur, e, _⟩
              · omega
              · exact ⟨g, cap, e⟩
            subst eP
            obtain ⟨s1, s2⟩ := (unhide HRY).appN (x := ⟨[], [], j, 0, -1, false⟩) (vR := .slice none 0 0) (vL := .slice none 0 0) hbY.size (below_new Y _) hgrow11 (by rw [nodes0_len]; exact hown11) ⟨rfl, .inl ⟨rfl, rfl⟩⟩ ⟨rfl, .inl ⟨rfl, rfl⟩⟩ (fun g hg => by cases hg) (fun g hg => by cases hg)
            rw [← nodes0_snoc] at s1
            have box11 := ((unhide HRY).box.below (below_new Y (Obj.cells #[.slice none 0 0, .slice none 0 0, .int .i64 (j : Int), .int .i64 0, .int .i64 (-1), .bool false] 102))).kept_alien (Kept.of_grown hgrow11) (own_alien (own_below hownN (below_new Y _)) (run_types.2.1).symm)
            have z3 := box11.cell 3 _ rfl
            have fz3 := box11.froz 3
            simp only at z3
            have HS1 := hide s1
            have HB1 : Hid (Below U.heap.size U (w11.setCell ⟨b, 3, none⟩ (.slice (some ⟨gP, 0, none⟩) (j + 1) cP))) := hbY.trans (s2.below hbY.size (fun i hi => by
              rcases hi with rfl | hi
              · exact (unhide HRY).blo
              · exact (World.ownsRow.lt (unhide HRY).ns i hi).1))
            clear s1 s2 hown11 hgrow11 box11 hownN q3
            go_wp2_with fail
            exact ⟨⟨j + 1, _, _, _, by go_num, by omega, HS1, unhide HB1⟩, by simp [intOf]; omega⟩
          · obtain rfl : j = s := by omega
            have hj1 : ¬ (j : Int) < (j : Int) := by omega
            have HRR : Hid (RunAt wr b U.heap.size aQ cQ j Q (List.replicate j MO) (nodes0 j) [] 0 false ⟨.slice (some ⟨gy, 0, none⟩) j j, vn, .slice none 0 0, rs, ls⟩) := by
              show RunAt _ _ _ _ _ _ _ _ _ _ _ _ _
              rw [← yTo_end]
              exact unhide HRJ
            generalize (⟨.slice (some ⟨gy, 0, none⟩) j j, vn, .slice none 0 0, rs, ls⟩ : Vs) = v0 at HRR
            clear HRJ mU
            go_wp2_with fail
            go_loopg [] 20000 (fun f wr => ∃ (k : Nat) (y : List Int) (N : List Nd) (M : List Lk) (d : Bool) (vv : Vs), Hid (f + k = 20000) ∧ Hid (RunAt wr b U.heap.size aQ cQ j Q y N M (k : Int) d vv) ∧ Hid (R = runF j Q f k (y, N, M, d)) ∧ Hid (Inv j N M ∧ N.length ≤ j + k ∧ y.length = j) ∧ Below U.heap.size U wr)
            case atStart => exact ⟨0, _, _, _, _, _, rfl, HRR, HR, ⟨inv0 j, by rw [nodes0_len]; omega, by simp⟩, hb⟩
            case round =>
              clear HRR hb HR p0
              obtain ⟨k, y, N, M, d, vv, HF, HRK, HR, HI, hb⟩ := hrel
              have q5 : wr.cell? ⟨b, 5, none⟩ = some (.int .i64 (k : Int)) := (unhide HRK).box.cell 5 _ rfl
              have q6 : wr.cell? ⟨b, 6, none⟩ = some (.bool d) := (unhide HRK).box.cell 6 _ rfl
              have f5 : wr.frozen? ⟨b, 5, none⟩ = false := (unhide HRK).box.froz 5
              have EXIT : Hid ((d = true ∨ ¬ k < 20000) → RunAt wr b (w.heap.size + 1) aQ cQ j Q R.2.1 R.2.2.1 R.2.2.2.1 (R.1 : Int) R.2.2.2.2 vv) := fun h => by
                have e : R = (k, (y, N, M, d)) := by
                  rw [unhide HR]
                  rcases h with h | h
                  · exact runF_done _ _ _ _ _ h
                  · have : gk = 0 := by have := unhide HF; omega
                    rw [this]; rfl
                rw [e, ← unhide HZU]
                exact unhide HRK
              by_cases hk : k < 20000
              · have hk1 : (k : Int) < 20000 := by omega
                cases d with
                | true =>
                  have HX := hide (unhide EXIT (.inl rfl))
                  clear EXIT
                  go_wp2_with fail
                  go_ret
                  exact ⟨⟨b, rfl, vv, unhide HX⟩, Below.trans hFU (hb.mono (by omega))⟩
                | false =>
                  obtain ⟨f', rfl⟩ : ∃ f', gk = f' + 1 := ⟨gk - 1, by have := unhide HF; omega⟩
                  obtain ⟨s1, s2⟩ := (unhide HRK).setRounds hb.size ((k : Int) + 1)
                  have hb2 : Below U.heap.size U (wr.setCell ⟨b, 5, none⟩ (.int .i64 ((k : Int) + 1))) := hb.trans (s2.below hb.size (fun i hi => by rw [hi]; exact (unhide HRK).blo))
                  have hwk : IntKind.i64.wrap ((k : Int) + 1) = (k : Int) + 1 := IntWalk.i64_in _ ⟨by omega, by omega⟩
                  obtain ⟨Y, hY⟩ : ∃ W, W = wr.setCell ⟨b, 5, none⟩ (.int .i64 ((k : Int) + 1)) := ⟨_, rfl⟩
                  rw [← hY] at s1 s2 hb2
                  have RO := hide (round_any s1 hb2.size (unhide HI).1 (by have := (unhide HI).2.1; omega) (unhide HI).2.2 (unhide HQ) (by have := unhide HQN; omega))
                  have HNX := hide ((unhide HR).trans (runF_next j Q f' k (y, N, M, false) rfl))
                  have HIN := hide (rounded_inv (y := y) (dn := false) (unhide HI).1 (Q := Q) (fun e he => by have := unhide HQ e he; omega))
                  have HLN := hide (unhide HI).2
                  have HY := hide hY
                  clear s1 s2 HI HR EXIT HRK hY
                  simp only at HNX
                  generalize rounded j Q y N M false = X at RO HNX HIN
                  go_upto_region 15 with fail
                  rw [← unhide HY]
                  clear HY q5 q6 f5
                  go_wp2_with fail
                  refine (unhide RO).mono ?_
                  rintro u w5 ⟨rfl, ⟨v5, h5⟩, hb5⟩
                  rw [← Int.natCast_succ] at h5
                  have H5 := hide h5
                  have hb6 := hb2.trans hb5
                  clear h5 hb5 RO hb2 hb
                  go_wp2_with fail
                  go_roundg f'
                  case rel => exact ⟨k + 1, _, _, _, _, _, by show _ = _; have := unhide HF; omega, H5, HNX, ⟨(unhide HIN).1, by have := (unhide HIN).2.1; have := (unhide HLN).1; omega, by rw [(unhide HIN).2.2]; exact (unhide HLN).2⟩, hb6⟩
                  case measure => omega
              · have hk1 : ¬ (k : Int) < 20000 := by omega
                have HX := hide (unhide EXIT (.inr hk))
                clear EXIT
                go_wp2_with fail
                go_ret
                exact ⟨⟨b, rfl, vv, unhide HX⟩, Below.trans hFU (hb.mono (by omega))⟩
end Sv
end Go.Proofs.Ytkjclkelnheheaa
