/-
  Texts of this claim, one behind the other: Au2, Au5.
-/
import Derived.Test.YtjciccjcekcogaaGreatDoorJ35
import Derived.Test.YtjciccjcekcogaaGreatDoorJ41
import Derived.Test.YtjciccjcekcogaaGreatDoorJ47
import Derived.Test.YtjciccjcekcogaaGreatDoorJ24
import Derived.Test.YtjciccjcekcogaaGreatDoorJ48
import Derived.Test.YtjciccjcekcogaaGreatDoorJ49
import Derived.Test.YtjciccjcekcogaaGreatDoorJ50

/-
  The contracts of the register's isAudited and of impl.Audited.
-/
namespace Go.Proofs.YtjciccjcekcogaaGreatDoor
namespace Rg
open Go.RowKit
open Gr (Blk Kept below_new Grown wp_region_grown)

theorem cells_boolA : Tryz.prog.cellsOf 4 = 1 := by kernel_rfl

theorem infoBA : ∃ i, Tryz.prog.info? 4 = some i := by
  cases h : Tryz.prog.info? 4 with
  | some i => exact ⟨i, rfl⟩
  | none =>
    have e : (Tryz.prog.info? 4).isSome = true := by kernel_rfl
    rw [h] at e
    cases e

theorem part_fm (f : Nat → Bool) (W : World) : ∀ j, j < 12 → (Go.part 4 (fm f) (j * 1)).run Tryz.prog W = .ok (.bool (f j)) W
  | 0, _ => by kernel_rfl
  | 1, _ => by kernel_rfl
  | 2, _ => by kernel_rfl
  | 3, _ => by kernel_rfl
  | 4, _ => by kernel_rfl
  | 5, _ => by kernel_rfl
  | 6, _ => by kernel_rfl
  | 7, _ => by kernel_rfl
  | 8, _ => by kernel_rfl
  | 9, _ => by kernel_rfl
  | 10, _ => by kernel_rfl
  | 11, _ => by kernel_rfl
  | n + 12, h => absurd h (by omega)

theorem items_fm (f g : Nat → Bool) (d : Nat) (W : World) : ∀ (L : List Nat), (∀ j ∈ L, j < 12) → (Op.eqItems (d + 1) 4 1 (fm f) (fm g) L).run Tryz.prog W = .ok (L.all fun j => f j == g j) W
  | [], _ => by simp [Op.eqItems]
  | j :: r, h => by
    have h1 := part_fm f W j (h j List.mem_cons_self)
    have h2 := part_fm g W j (h j List.mem_cons_self)
    have h3 := items_fm f g d W r (fun x hx => h x (List.mem_cons_of_mem _ hx))
    simp only [Op.eqItems, Sem.run_bind, h1, h2, Result.andThen_ok, run_equalIn_bool W d 4 (f j) (g j) Tryz.underlying4, List.all_cons]
    cases (f j == g j)
    · simp
    · simp [h3]

theorem eq_fm (f g : Nat → Bool) (W : World) : (Op.equalIn 10000 100 (.agg (fm f)) (.agg (fm g))).run Tryz.prog W = .ok ((List.range 12).all fun j => f j == g j) W := by
  obtain ⟨i, hi⟩ := infoBA
  have h := run_equalIn_array W 9999 (fm f) (fm g) Tryz.underlying100 hi
  rw [show (10000 : Nat) = 9999 + 1 from rfl, h, cells_boolA]
  exact items_fm f g 9998 W (List.range 12) (fun j hj => List.mem_range.1 hj)

set_option maxRecDepth 100000 in
set_option maxHeartbeats 4000000 in
theorem isAud_any (B g : Nat) (R : Rgs) (n : Nat) (hn : n < R.rds.length) (_hn2 : R.rds.length ≤ 1000) (hrf : RoF R.rds[n].1 (cV R.rds[n].2)) (hco : cOk R.rds[n].2 = true) (hsz : (joinB R.rds[n].2).size ≤ 1048576) (hL : R.rds[n].2.length ≤ 1048576) (w : World) (hR : RegAt w B g R) :
    Calls Tryz.prog 22 #[.pointer (some ⟨g, 0, none⟩), .int .i64 (n : Int)] w fun e w' => e = .returned (.bool (iAud R n R.rds[n].1 (cV R.rds[n].2).M)) ∧ Below w.heap.size w w' := by
  have hgl := hR.lt
  have PI := hide (fun w1 (hb : Below w.heap.size w w1) => paired_any B g R n w1 (hR.below hb) (Nat.lt_of_lt_of_le hgl.2 hb.size))
  obtain ⟨_, rv, vs, hk0, hrd0⟩ := hR
  obtain ⟨ra, rc, hrv⟩ := row_shape0 hrd0.own
  subst hrv
  have c600 : w.cell? ⟨g, 600, none⟩ = some (.slice ra R.rds.length rc) := hk0.cell 600 _ (by rw [regC_at _ _ _ (by omega), cell_rds])
  have hnv : n < vs.length := by rw [hrd0.len]; exact hn
  have hpool := hrd0.pool n hnv hn
  have hpart := hrd0.part n hnv hn
  obtain ⟨pa, pc, hpv⟩ := row_shape0 hpool
  obtain ⟨ta, tc, htv⟩ := row_shape0 hpart
  obtain ⟨gv, hgv⟩ : ∃ gv, ra = some ⟨gv, 0, none⟩ := by
    rcases hrd0.own.2 with ⟨h1, h2⟩ | ⟨gv, cap, cur, h1, _⟩
    · omega
    · simp at h1; exact ⟨gv, h1.1⟩
  subst hgv
  have hgvl := (hrd0.own.lt gv rfl).2
  have q0 : w.cell? ⟨gv, n * 2, none⟩ = some (.slice pa R.rds[n].1.length pc) := by rw [hrd0.own.cellAt (n * 2) (by omega), ← hpv]; exact (flat_at vs n hnv).1
  have q1 : w.cell? ⟨gv, n * 2 + 1, none⟩ = some (.slice ta R.rds[n].2.length tc) := by rw [hrd0.own.cellAt (n * 2 + 1) (by omega), ← htv]; exact (flat_at vs n hnv).2
  rw [hpv] at hpool
  rw [htv] at hpart
  have CE := hide (fun w1 (hb : Below w.heap.size w w1) => cert_any B (.slice pa R.rds[n].1.length pc) (.slice ta R.rds[n].2.length tc) R.rds[n].2 hsz hL w1 ⟨_, _, _, rfl⟩ (Gr.own_below hpart hb))
  rw [hco] at CE
  have hK9 := hrf.few
  have HPO : Hid (IntsAt w pa R.rds[n].1.length w.heap.size R.rds[n].1) := by
    obtain ⟨a', c', e', h'⟩ := Gr.InOwn.at (show Gr.InOwn w B _ R.rds[n].1 from hpool)
    cases e'
    exact h'
  have hnn : ((n : Nat) : Int) < ((R.rds.length : Nat) : Int) := by omega
  have HAU : Hid (iAud R n R.rds[n].1 (cV R.rds[n].2).M = ((List.range 12).all fun j => pF R n j == cF R.rds[n].1 (cV R.rds[n].2).M j)) := rfl
  have EF := hide (eq_fm (pF R n) (cF R.rds[n].1 (cV R.rds[n].2).M))
  rw [← unhide HAU] at EF
  have hsmall := Gr.cert_small hrf.cert
  have HRF := hide hrf
  generalize iAud R n R.rds[n].1 (cV R.rds[n].2).M = res at EF
  clear HAU hpv htv hpool hpart hrd0 hco hsz hL hrf
  generalize R.rds[n].2.length = tn at q1 CE
  generalize cV R.rds[n].2 = cv at CE HRF EF hsmall
  generalize R.rds[n].1 = PL at q0 CE HPO HRF EF hK9
  generalize R.rds.length = rn at c600 hnn
  obtain ⟨l1, l2, _⟩ := Gr.csize_le hsmall.1
  have BS := hide (fun a1 c1 a2 c2 w1 (hv : Gr.GrAt w1 (.agg #[.int .i64 cv.s, .slice a1 cv.Q.length c1]) w1.heap.size cv.s cv.Q) (hu : Gr.CoAt w1 (.slice a2 cv.M.length c2) w1.heap.size cv.M) => isBest_any w1.heap.size _ cv.s cv.Q _ cv.M l1 l2 (unhide HRF).match (unhide HRF).best w1 (Nat.le_refl _) hv hu)
  have CO := hide (fun a2 c2 w1 (hb : Below w.heap.size w w1) (hu : Gr.couplesAt w1 a2 cv.M.length w1.heap.size cv.M) => coupled_any pa PL.length pc w.heap.size PL a2 cv.M.length c2 w1.heap.size cv.M (by omega) l2 (unhide HRF).pool (unhide HRF).couples w1 hb.size (Nat.le_refl _) ((unhide HPO).below hb (Nat.le_refl _)) hu)
  have hsE : cv.s = ((PL.length : Nat) : Int) := (unhide HRF).size
  have HSM := hide hsmall.1
  clear HPO HRF l1 l2 hsmall hk0 hn hnv
  go_enter Tryz.func22, Tryz.ntmps22
  obtain ⟨V, hV⟩ : ∃ W, W = w.alloc (Obj.cells #[.slice pa PL.length pc, .slice ta tn tc] 97) := ⟨_, rfl⟩
  have bV : Below w.heap.size w V := by rw [hV]; exact below_new _ _
  have mV : Blk V w.heap.size #[.slice pa PL.length pc, .slice ta tn tc] 97 := by rw [hV]; exact Gr.Blk.new0
  go_wp2_with fail
  rw [← hV]
  clear hV
  refine (unhide CE V bV).mono ?_
  rintro e w3 ⟨⟨d3, rfl, h3⟩, hb3⟩
  have hat := h3.at (unhide HSM)
  obtain ⟨e1, k1, e2, k2, e3, k3, e4, k4, rfl⟩ := crown_shape h3
  obtain ⟨W, hW⟩ : ∃ W, W = w3.alloc (Obj.cells #[.int .i64 cv.s, .slice e1 cv.Q.length k1, .slice e2 cv.M.length k2, .slice e3 cv.Y.length k3, .slice e4 cv.G.length k4] 42) := ⟨_, rfl⟩
  have bW : Below w3.heap.size w3 W := by rw [hW]; exact below_new _ _
  have mW : Blk W w3.heap.size #[.int .i64 cv.s, .slice e1 cv.Q.length k1, .slice e2 cv.M.length k2, .slice e3 cv.Y.length k3, .slice e4 cv.G.length k4] 42 := by rw [hW]; exact Gr.Blk.new0
  have nW := (mV.below hb3).below bW
  have b3 : Below w.heap.size w W := (bV.trans (hb3.mono bV.size)).trans (bW.mono (bV.trans (hb3.mono bV.size)).size)
  have hat2 := (hat.below bW (Nat.le_refl _)).mono bW.size
  have x0 : W.cell? ⟨w3.heap.size, 0, none⟩ = some (.int .i64 cv.s) := mW.cell 0 _ rfl
  have x1 : W.cell? ⟨w3.heap.size, 1, none⟩ = some (.slice e1 cv.Q.length k1) := mW.cell 1 _ rfl
  have x2 : W.cell? ⟨w3.heap.size, 2, none⟩ = some (.slice e2 cv.M.length k2) := mW.cell 2 _ rfl
  have y0 : W.cell? ⟨w.heap.size, 0, none⟩ = some (.slice pa PL.length pc) := nW.cell 0 _ rfl
  obtain ⟨hgr, hcp⟩ : Gr.GrAt W (.agg #[.int .i64 cv.s, .slice e1 cv.Q.length k1]) W.heap.size cv.s cv.Q ∧ Gr.CoAt W (.slice e2 cv.M.length k2) W.heap.size cv.M := by
    obtain ⟨a0, c0, a1, c1, a2, c2, a3, c3, e, g1, g2, _⟩ := hat2
    simp only [Value.agg.injEq, Array.mk.injEq, List.cons.injEq, Value.slice.injEq, true_and, and_true] at e
    obtain ⟨⟨rfl, rfl⟩, ⟨rfl, rfl⟩, _⟩ := e
    exact ⟨g1, g2⟩
  have BS1 := hide (unhide BS e1 k1 e2 k2 W hgr hcp)
  have HCP := hide hcp
  have ny0 := nW.lt
  have ny3 := mW.lt
  have HNW := hide nW
  have HMW := hide mW
  have HB3 := hide b3
  clear h3 hb3 hat hat2 hgr hcp bV mV mW nW b3 BS bW c600 q0 q1
  rw [hsE] at x0 BS1 HMW
  rw [hsE] at hW
  rw [hW] at x0 x1 x2 y0
  go_wp2_with fail
  rw [← hW]
  clear hW x0 x1 x2 y0
  refine (unhide BS1).mono ?_
  rintro e w5 ⟨rfl, hb5⟩
  have b5 := (unhide HB3).trans (hb5.mono (unhide HB3).size)
  have n5 := (unhide HNW).below hb5
  have m5 := (unhide HMW).below hb5
  have y0 : w5.cell? ⟨w.heap.size, 0, none⟩ = some (.slice pa PL.length pc) := n5.cell 0 _ rfl
  have x2 : w5.cell? ⟨w3.heap.size, 2, none⟩ = some (.slice e2 cv.M.length k2) := m5.cell 2 _ rfl
  have t1 : ∀ d : Grown w5.heap.size w5, d.w.cell? ⟨w.heap.size, 0, none⟩ = some (.slice pa PL.length pc) := fun d => d.cell n5.lt y0
  have t2 : ∀ d : Grown w5.heap.size w5, d.w.cell? ⟨w3.heap.size, 2, none⟩ = some (.slice e2 cv.M.length k2) := fun d => d.cell m5.lt x2
  have hcp5 := ((unhide HCP).below hb5 (Nat.le_refl _)).mono hb5.size
  have HBd : Hid (∀ d : Grown w5.heap.size w5, Below w.heap.size w d.w) := fun d => b5.trans (d.below.mono b5.size)
  have CO5 : Hid (∀ d : Grown w5.heap.size w5, Calls Tryz.prog 46 #[.slice pa PL.length pc, .slice e2 cv.M.length k2] d.w fun e w' => e = .returned (.agg (fm (cF PL cv.M))) ∧ Below d.w.heap.size d.w w') := fun d => by
    have h1 := (hcp5.below d.below (Nat.le_refl _)).mono d.below.size
    obtain ⟨a', c', e', h'⟩ := h1
    simp only [Value.slice.injEq, true_and] at e'
    obtain ⟨rfl, rfl⟩ := e'
    exact unhide CO _ _ d.w (unhide HBd d) h'
  have PI5 : Hid (∀ d : Grown w5.heap.size w5, Calls Tryz.prog 45 #[.pointer (some ⟨g, 0, none⟩), .int .i64 (n : Int)] d.w fun e w' => e = .returned (.agg (fm (pF R n))) ∧ Below d.w.heap.size d.w w') := fun d => unhide PI d.w (unhide HBd d)
  have hef := unhide EF
  generalize fm (pF R n) = F1 at PI5 hef
  generalize fm (cF PL cv.M) = F2 at CO5 hef
  have HB5 := hide b5
  clear n5 m5 y0 x2 hcp5 b5 hb5 CO PI BS1 HNW HMW HCP CE EF HB3
  go_wp2_with fail
  refine wp_region_grown w5.heap.size (by kernel_rfl) (by kernel_rfl) ?_
  repeat (go_big_quiet_step (first
    | (go_at_call 46; exact Gr.Calls.grown (Nat.le_refl _) (unhide CO5 _))
    | (go_at_call 45; exact Gr.Calls.grown (Nat.le_refl _) (unhide PI5 _))))
  refine wpQuiet_nil ?_
  rintro w6 ⟨d6, rfl⟩
  have b6 := unhide HBd d6
  obtain ⟨W6, hb6⟩ := d6
  dsimp only at b6 ⊢
  clear t1 t2
  go_wp2
  go_ret
  exact ⟨rfl, b6⟩

/-- What the program asks, round by round. -/
def iTo (R : Rgs) (f r : Nat) : Bool := (List.range' r f).all fun r => iAud R r ((R.rds[r]?).getD ([], [])).1 (cV ((R.rds[r]?).getD ([], [])).2).M

theorem iTo_step (R : Rgs) (f r : Nat) (h : r < R.rds.length) : iTo R (f + 1) r = (iAud R r R.rds[r].1 (cV R.rds[r].2).M && iTo R f (r + 1)) := by
  unfold iTo
  rw [List.range'_succ, List.all_cons, List.getElem?_eq_getElem h]
  rfl

theorem iTo_is {Q : PL} {R : Rgs} (hst : stateOk Q = true) (hf : regFold R0 Q = some R) : ∀ f r, r + f ≤ R.rds.length → iTo R f r = audTo Q f r := by
  obtain ⟨I, ha, hr, h6, hrd⟩ := round_rof hst hf
  intro f
  induction f with
  | zero => intro r _; rfl
  | succ f ih =>
    intro r h
    have hlt : r < R.rds.length := by omega
    obtain ⟨p1, p2, p3⟩ := hrd r hlt
    rw [iTo_step R f r hlt, audTo_step, ih (r + 1) (by omega), p1]
    have hc' : checks R = true := by
      obtain ⟨R', hf', _, _, hc, _⟩ := reg_inv hst
      rw [hf] at hf'
      cases hf'
      exact hc
    unfold checks roundsR at hc'
    simp only [Bool.and_eq_true, decide_eq_true_eq] at hc'
    have hx := hc'.2.1.1 _ (List.getElem_mem hlt)
    unfold rdOk at hx
    simp only [Bool.and_eq_true, decide_eq_true_eq] at hx
    have hcv : cV R.rds[r].2 = Gr.rcV (textP Q r) := by unfold cV; rw [if_pos hx.1.1, p2]
    rw [hcv, aud_is I ha r _ _ p3.pool p3.asc p3.couples]

/-- What holds of a round of a right state, as the program's register has it. -/
theorem round_all {Q : PL} {R : Rgs} (hst : stateOk Q = true) (hf : regFold R0 Q = some R) : R.rds.length ≤ 6 ∧ ∀ r (h : r < R.rds.length), RoF R.rds[r].1 (cV R.rds[r].2) ∧ cOk R.rds[r].2 = true ∧ (joinB R.rds[r].2).size ≤ 1048576 ∧ R.rds[r].2.length ≤ 1048576 := by
  obtain ⟨I, ha, hr, h6, hrd⟩ := round_rof hst hf
  have hc' : checks R = true := by
    obtain ⟨R', hf', _, _, hc, _⟩ := reg_inv hst
    rw [hf] at hf'
    cases hf'
    exact hc
  unfold checks roundsR at hc'
  simp only [Bool.and_eq_true, decide_eq_true_eq] at hc'
  refine ⟨h6, fun r h => ?_⟩
  obtain ⟨p1, p2, p3⟩ := hrd r h
  have hx := hc'.2.1.1 _ (List.getElem_mem h)
  unfold rdOk at hx
  simp only [Bool.and_eq_true, decide_eq_true_eq] at hx
  have hcv : cV R.rds[r].2 = Gr.rcV (textP Q r) := by unfold cV; rw [if_pos hx.1.1, p2]
  refine ⟨by rw [hcv]; exact p3, ?_, ?_, ?_⟩
  · unfold cOk
    rw [decide_eq_true hx.1.1, hx.1.2]
    rfl
  · rw [p2]
    have h1 := text_size Q r
    have h2 := map_tot (state_map hst).1
    omega
  · have := I.rl _ (List.getElem_mem h)
    omega

end Rg
namespace Gr
open Go.RowKit

set_option maxRecDepth 100000 in
set_option maxHeartbeats 4000000 in
theorem implAud_gen (B : Nat) (v : Value) (Q : List (ByteArray × ByteArray)) (h1 : pasize Q ≤ 1048576) (w : World) (hB : B ≤ w.heap.size) (ht : Rg.Tab w.heap.size w) (hv : PaAt w v B Q) :
    Calls Tryz.prog 7 #[v] w fun e w' => e = .returned (.bool (Rg.audM Q)) ∧ Below w.heap.size w w' := by
  obtain ⟨a, c, rfl, hQ, _⟩ := hv
  have RG := hide (Rg.register_any a Q.length c B Q (pasize_le h1).1 w hB ht hQ)
  rw [Rg.reg_is] at RG
  have HA : Hid (∀ R, Rg.stateOk Q = true → Rg.regFold Rg.R0 Q = some R → Rg.audM Q = Rg.iTo R R.rds.length 0) := fun R hs hf => by
    rw [Rg.audM_is, hs, Bool.true_and, (Rg.round_rof hs hf).2.2.1, Rg.iTo_is hs hf _ _ (by omega)]
  have HF : Hid (Rg.stateOk Q = false → Rg.audM Q = false) := fun h => by rw [Rg.audM_is, h, Bool.false_and]
  have HRA : Hid (∀ R, Rg.stateOk Q = true → Rg.regFold Rg.R0 Q = some R → R.rds.length ≤ 6 ∧ ∀ r (h : r < R.rds.length), Rg.RoF R.rds[r].1 (Rg.cV R.rds[r].2) ∧ Rg.cOk R.rds[r].2 = true ∧ (Rg.joinB R.rds[r].2).size ≤ 1048576 ∧ R.rds[r].2.length ≤ 1048576) := fun R hs hf => Rg.round_all hs hf
  generalize Rg.audM Q = X at HA HF
  generalize Rg.stateOk Q = st at RG HA HF HRA
  clear hQ ht h1 hB
  generalize Q.length = qn at RG
  go_enter Tryz.func7, Tryz.ntmps7
  go_wp2_with fail
  refine (unhide RG).mono ?_
  rintro e w1 ⟨⟨R, rfl, hR, hf⟩, hb1⟩
  cases st with
  | false =>
    obtain rfl : X = false := unhide HF rfl
    go_wp2
    go_ret
    exact ⟨rfl, hb1⟩
  | true =>
    have hX := unhide HA R rfl (hf rfl)
    obtain ⟨h6, hall⟩ := unhide HRA R rfl (hf rfl)
    have HALL := hide hall
    have HX : Hid (X = Rg.iTo R (R.rds.length - 0) 0) := hX
    have HR := hide hR
    have hz := hb1.size
    obtain ⟨_, rv, vs, hk0, hrd0⟩ := hR
    obtain ⟨ra, rc, hrv⟩ := Rg.row_shape0 hrd0.own
    subst hrv
    have c600 : w1.cell? ⟨w.heap.size, 600, none⟩ = some (.slice ra R.rds.length rc) := hk0.cell 600 _ (by rw [Rg.regC_at _ _ _ (by omega), Rg.cell_rds])
    have HST := hide (fun f r h => Rg.iTo_step R f r h)
    have HEND : Hid (∀ r, Rg.iTo R 0 r = true) := fun r => rfl
    have IA := hide (fun r h hrf hco hsz hL w2 (hb : Below w1.heap.size w1 w2) => Rg.isAud_any w.heap.size w.heap.size R r h (by omega) hrf hco hsz hL w2 ((unhide HR).below hb))
    clear hX hall hf hk0 hrd0
    go_wp2_with fail
    go_loopw [18] (fun i wr => ∃ r : Nat, i = .int .i64 (r : Int) ∧ r ≤ R.rds.length ∧ Hid (X = Rg.iTo R (R.rds.length - r) r) ∧ Below w1.heap.size w1 wr) (fun i _ => R.rds.length - (intOf i).toNat)
    case atStart => exact ⟨0, rfl, Nat.zero_le _, unhide HX, Below.refl _ _⟩
    case round =>
      obtain ⟨r, rfl, hr, HY, hb⟩ := hrel
      by_cases hlt : r < R.rds.length
      · obtain ⟨y1, y2, y3, y4⟩ := unhide HALL r hlt
        have IA1 := hide (unhide IA r hlt y1 y2 y3 y4 wr hb)
        have hs := unhide HST (R.rds.length - r - 1) r hlt
        rw [show R.rds.length - r - 1 + 1 = R.rds.length - r by omega] at hs
        have HY2 : Hid (X = (Rg.iAud R r R.rds[r].1 (Rg.cV R.rds[r].2).M && Rg.iTo R (R.rds.length - (r + 1)) (r + 1))) := by
          show X = _
          rw [unhide HY, hs, Nat.sub_sub]
        have hri : (r : Int) < ((R.rds.length : Nat) : Int) := by omega
        clear hs y1 y2 y3 y4
        generalize Rg.iAud R r R.rds[r].1 (Rg.cV R.rds[r].2).M = ok at IA1 HY2
        cases ok with
        | false =>
          obtain rfl : X = false := by rw [unhide HY2, Bool.false_and]
          go_wp2_with fail
          refine (unhide IA1).mono ?_
          rintro e w3 ⟨rfl, hb3⟩
          have b3 := hb1.trans ((hb.trans (hb3.mono hb.size)).mono hz)
          go_wp2
          go_ret
          exact ⟨rfl, b3⟩
        | true =>
          have HY3 : Hid (X = Rg.iTo R (R.rds.length - (r + 1)) (r + 1)) := by show X = _; rw [unhide HY2, Bool.true_and]
          go_wp2_with fail
          refine (unhide IA1).mono ?_
          rintro e w3 ⟨rfl, hb3⟩
          have b3 := hb.trans (hb3.mono hb.size)
          go_wp2_with fail
          exact ⟨⟨r + 1, by go_num, by omega, HY3, b3⟩, by simp [intOf]; omega⟩
      · obtain rfl : X = true := by rw [unhide HY, show R.rds.length - r = 0 by omega]; exact unhide HEND r
        have hri : ¬ (r : Int) < ((R.rds.length : Nat) : Int) := by omega
        have b3 := hb1.trans (hb.mono hz)
        go_wp2
        go_ret
        exact ⟨rfl, b3⟩

end Gr
end Go.Proofs.YtjciccjcekcogaaGreatDoor

/-
  Audited in the laws' form.
-/
namespace Go.Proofs.YtjciccjcekcogaaGreatDoor
namespace Gr
open Go.RowKit

theorem specAud_gen (B : Nat) (v : Value) (Q : List (ByteArray × ByteArray)) (h1 : pasize Q ≤ 1048576) (w : World) (hB : B ≤ w.heap.size) (hv : PaAt w v B Q) :
    Calls Tryz.prog 5 #[v] w fun e w' => e = .returned (.bool (Rg.audM Q)) ∧ Below w.heap.size w w' := by
  obtain ⟨a, c, rfl, hQ, _⟩ := hv
  exact Rg.specAud_any a Q.length c B Q (pasize_le h1).1 w hB hQ

end Gr
end Go.Proofs.YtjciccjcekcogaaGreatDoor
