/-
  Texts of this claim, one behind the other: Ri14.
-/
import Derived.Test.YtocaodgloiigaaaGreatDoorJ44
import Derived.Test.YtocaodgloiigaaaGreatDoorJ48

/-
  The contract of impl.RoundOf, in the laws' form.
-/
namespace Go.Proofs.YtocaodgloiigaaaGreatDoor
namespace Rg
open Go.RowKit
open Gr (Blk Kept)

/-- What a right state's round is, in the register and in the map. -/
theorem round_facts {Q : PL} {R : Rgs} (hst : stateOk Q = true) (hf : regFold R0 Q = some R) : rnds Q = R.rds.length ∧ R.rds.length ≤ 6 ∧ ∀ r (h : r < R.rds.length), poolP Q r = R.rds[r].1 ∧ cV R.rds[r].2 = Gr.rcV (textP Q r) ∧ (joinB R.rds[r].2).size ≤ 1048576 ∧ R.rds[r].2.length ≤ 1048576 := by
  obtain ⟨R', hf', I, ha, hc, hr⟩ := reg_inv hst
  rw [hf] at hf'
  cases hf'
  have hc' := hc
  unfold checks roundsR at hc'
  simp only [Bool.and_eq_true, decide_eq_true_eq] at hc'
  have h6 := hc'.2.1.2
  refine ⟨hr, h6, fun r h => ?_⟩
  have ht := I.t r (by omega)
  rw [List.getElem?_eq_getElem h] at ht
  change joinB R.rds[r].2 = textP Q r at ht
  have hrd := hc'.2.1.1 _ (List.getElem_mem h)
  unfold rdOk at hrd
  simp only [Bool.and_eq_true, decide_eq_true_eq] at hrd
  refine ⟨(inv_pool I r (by omega) h).2, ?_, ?_, ?_⟩
  · unfold cV
    rw [if_pos hrd.1.1, ht]
  · rw [ht]
    have h1 := text_size Q r
    have h2 := map_tot (state_map hst).1
    omega
  · have := I.rl _ (List.getElem_mem h)
    omega

theorem roOk_no {Q : PL} (r : Int) (h : stateOk Q = false) : roOk Q r = false := by unfold roOk; rw [h, Bool.false_and]

end Rg
namespace Gr
open Go.RowKit

theorem load_cert' {W : World} {g : Nat} {a b c d e : Value} (h : Blk W g #[a, b, c, d, e] 46) : (loadVar 46 ⟨g, 0, none⟩).run Tryz.prog W = .ok (.agg #[a, b, c, d, e]) W := load_cert h

set_option maxRecDepth 100000 in
set_option maxHeartbeats 4000000 in
theorem implRound_gen (B : Nat) (v : Value) (Q : List (ByteArray × ByteArray)) (r : Int) (h1 : pasize Q ≤ 1048576) (w : World) (hB : B ≤ w.heap.size) (ht : Rg.Tab w.heap.size w) (hv : PaAt w v B Q) :
    Calls Tryz.prog 27 #[v, .int .i64 r] w fun e w' => (∃ d c, e = .returned (.tuple #[d, c, .bool (Rg.roOk Q r)]) ∧ InOwn w' w.heap.size d (Rg.roP Q r) ∧ ∃ C, w.heap.size ≤ C ∧ (∀ g, d.ownBlock = some g → g < C) ∧ CROwn w' C c (Rg.roC Q r).s (Rg.roC Q r).Q (Rg.roC Q r).M (Rg.roC Q r).Y (Rg.roC Q r).G) ∧ Below w.heap.size w w' := by
  obtain ⟨a, c, rfl, hQ, _⟩ := hv
  obtain ⟨c1, c2, c3, c4, c5⟩ := cert_types
  have RG := hide (fun w1 (hb : Below w.heap.size w w1) => Rg.register_any a Q.length c B Q (pasize_le h1).1 w1 (by have := hb.size; omega) ((ht.below hb).mono hb.size) (hQ.below hb hB))
  rw [Rg.reg_is] at RG
  have hOK : Rg.roOk Q r = (Rg.stateOk Q && (decide (0 ≤ r) && decide (r ≤ (Rg.rnds Q : Int) - 1))) := rfl
  have hRP : Rg.roP Q r = if Rg.roOk Q r = true then Rg.poolP Q r.toNat else [] := rfl
  have hRC : Rg.roC Q r = if Rg.roOk Q r = true then rcV (Rg.textP Q r.toNat) else ⟨0, [], [], [], [], ⟨0, false⟩⟩ := rfl
  have HRF : Hid (∀ R, Rg.stateOk Q = true → Rg.regFold Rg.R0 Q = some R → Rg.rnds Q = R.rds.length ∧ R.rds.length ≤ 6 ∧ ∀ r (h : r < R.rds.length), Rg.poolP Q r = R.rds[r].1 ∧ Rg.cV R.rds[r].2 = rcV (Rg.textP Q r) ∧ (Rg.joinB R.rds[r].2).size ≤ 1048576 ∧ R.rds[r].2.length ≤ 1048576) := fun R a b => Rg.round_facts a b
  generalize Rg.roP Q r = RP at hRP
  generalize Rg.roC Q r = RC at hRC
  generalize Rg.roOk Q r = OK at hOK hRP hRC
  generalize Rg.stateOk Q = st at RG hOK HRF
  obtain ⟨V, hV⟩ : ∃ W, W = w.alloc (Obj.cells #[.int .i64 0, .slice none 0 0, .slice none 0 0, .slice none 0 0, .slice none 0 0] 46) := ⟨_, rfl⟩
  have bV : Below w.heap.size w V := by rw [hV]; exact below_new _ _
  have HV : Hid (Blk V w.heap.size #[.int .i64 0, .slice none 0 0, .slice none 0 0, .slice none 0 0, .slice none 0 0] 46) := by show Blk _ _ _ _; rw [hV]; exact Blk.new0
  clear hQ ht
  go_enter Tryz.func27, Tryz.ntmps27
  go_wp2_with fail
  rw [← hV]
  clear hV
  refine (unhide RG V bV).mono ?_
  rintro e w1 ⟨⟨R, rfl, hR, hf⟩, hb1⟩
  have y1 := (unhide HV).below hb1
  have b1 := bV.trans (hb1.mono bV.size)
  have hzV : w.heap.size < V.heap.size := (unhide HV).lt
  obtain ⟨_, rv, vs, hk0, hrd0⟩ := hR
  obtain ⟨ra, rc, hrv⟩ := Rg.row_shape0 hrd0.own
  subst hrv
  have c600 : w1.cell? ⟨V.heap.size, 600, none⟩ = some (.slice ra R.rds.length rc) := hk0.cell 600 _ (by rw [Rg.regC_at _ _ _ (by omega), Rg.cell_rds])
  have NO : Hid (∀ w2, Below w1.heap.size w1 w2 → w2.cell? ⟨w.heap.size, 0, none⟩ = some (.int .i64 0) ∧ w2.cell? ⟨w.heap.size, 1, none⟩ = some (.slice none 0 0) ∧ w2.cell? ⟨w.heap.size, 2, none⟩ = some (.slice none 0 0) ∧ w2.cell? ⟨w.heap.size, 3, none⟩ = some (.slice none 0 0) ∧ w2.cell? ⟨w.heap.size, 4, none⟩ = some (.slice none 0 0)) := fun w2 hb => ⟨(y1.below hb).cell 0 _ rfl, (y1.below hb).cell 1 _ rfl, (y1.below hb).cell 2 _ rfl, (y1.below hb).cell 3 _ rfl, (y1.below hb).cell 4 _ rfl⟩
  cases st with
  | false =>
    rw [Bool.false_and] at hOK
    subst hOK
    rw [if_neg (by simp)] at hRP hRC
    subst hRP hRC
    obtain ⟨r0, r1, r2, r3, r4⟩ := unhide NO w1 (Below.refl _ _)
    have f0 := y1.froz 0
    have f1 := y1.froz 1
    have f2 := y1.froz 2
    have f3 := y1.froz 3
    have f4 := y1.froz 4
    have HF := hide (Rg.set5 (y0 := .int .i64 0) (y1 := .slice none 0 0) (y2 := .slice none 0 0) (y3 := .slice none 0 0) (y4 := .slice none 0 0) y1)
    have HB := hide (b1.trans ((Rg.kept5 w1 w.heap.size (.int .i64 0) (.slice none 0 0) (.slice none 0 0) (.slice none 0 0) (.slice none 0 0)).below b1.size (fun i hi => by omega)))
    clear NO y1 hk0 hrd0 c600 hf
    go_wp2
    (try simp only [Exit.inBlock, Exit.then])
    refine bodyPost_ret (Rg.results_round Tryz.results27 _ _ w.heap.size _ _ _ _ _ rfl (unhide HF)) rfl ?_
    exact ⟨⟨_, _, rfl, ⟨rfl, .inl ⟨rfl, rfl⟩⟩, w.heap.size, Nat.le_refl _, (fun g hg => by cases hg), CROwn.zero _ _⟩, unhide HB⟩
  | true =>
    rw [Bool.true_and] at hOK
    obtain ⟨f1, f2, f3⟩ := unhide HRF R rfl (hf rfl)
    have IP := hide (fun w2 => isPlace_is r (R.rds.length : Int) w2)
    have hpl : (decide (0 ≤ r) && decide (r < (R.rds.length : Int))) = OK := by rw [hOK, f1, Bool.eq_iff_iff]; simp only [Bool.and_eq_true, decide_eq_true_eq]; omega
    rw [hpl] at IP
    by_cases hin : 0 ≤ r ∧ r < (R.rds.length : Int)
    · obtain ⟨n, rfl⟩ := Int.eq_ofNat_of_zero_le hin.1
      have hn : n < R.rds.length := by omega
      have hOKt : OK = true := by rw [← hpl, decide_eq_true hin.1, decide_eq_true hin.2]; rfl
      subst hOKt
      rw [if_pos rfl, Int.toNat_natCast] at hRP hRC
      obtain ⟨p1, p2, p3, p4⟩ := f3 n hn
      rw [p1] at hRP
      rw [← p2] at hRC
      subst hRP hRC
      have hnv : n < vs.length := by rw [hrd0.len]; exact hn
      have hpool := hrd0.pool n hnv hn
      have hpart := hrd0.part n hnv hn
      obtain ⟨pa, pc, hpv⟩ := Rg.row_shape0 hpool
      obtain ⟨ta, tc, htv⟩ := Rg.row_shape0 hpart
      obtain ⟨gv, hgv⟩ : ∃ gv, ra = some ⟨gv, 0, none⟩ := by
        rcases hrd0.own.2 with ⟨h1, h2⟩ | ⟨gv, cap, cur, h1, _⟩
        · omega
        · simp at h1; exact ⟨gv, h1.1⟩
      subst hgv
      have hgvl := (hrd0.own.lt gv rfl).2
      have q0 : w1.cell? ⟨gv, n * 2, none⟩ = some (.slice pa R.rds[n].1.length pc) := by rw [hrd0.own.cellAt (n * 2) (by omega), ← hpv]; exact (Rg.flat_at vs n hnv).1
      have q1 : w1.cell? ⟨gv, n * 2 + 1, none⟩ = some (.slice ta R.rds[n].2.length tc) := by rw [hrd0.own.cellAt (n * 2 + 1) (by omega), ← htv]; exact (Rg.flat_at vs n hnv).2
      rw [hpv] at hpool
      rw [htv] at hpart
      have CE := hide (Rg.cert_any V.heap.size (.slice pa R.rds[n].1.length pc) (.slice ta R.rds[n].2.length tc) R.rds[n].2 p3 p4 w1 ⟨_, _, _, rfl⟩ hpart)
      have HPO : Hid (InOwn w1 V.heap.size (.slice pa R.rds[n].1.length pc) R.rds[n].1) := hpool
      have hnn : ((n : Nat) : Int) < ((R.rds.length : Nat) : Int) := hin.2
      have hgl := hk0.lt
      clear f1 f2 f3 p1 p2 p3 p4 hpv htv hpool hpart hOK hpl hf hrd0
      generalize hcv : Rg.cV R.rds[n].2 = cv at CE
      have HCV := hide hcv
      clear hcv
      generalize Rg.cOk R.rds[n].2 = co at CE
      generalize hPL : R.rds[n].1 = PL at q0 CE HPO
      have HPLE := hide hPL
      clear hPL
      generalize R.rds[n].2.length = tn at q1 CE
      go_wp2_with fail
      refine (unhide IP _).mono ?_
      rintro e w2 ⟨rfl, rfl⟩
      go_wp2_with fail
      refine (unhide CE).mono ?_
      rintro e w3 ⟨⟨d3, rfl, h3⟩, hb3⟩
      obtain ⟨e1, k1, e2, k2, e3, k3, e4, k4, rfl⟩ := Rg.crown_shape h3
      obtain ⟨W, hW⟩ : ∃ W, W = w3.alloc (Obj.cells #[.int .i64 cv.s, .slice e1 cv.Q.length k1, .slice e2 cv.M.length k2, .slice e3 cv.Y.length k3, .slice e4 cv.G.length k4] 46) := ⟨_, rfl⟩
      have bW : Below w3.heap.size w3 W := by rw [hW]; exact below_new _ _
      have b13 : Below w2.heap.size w2 W := hb3.trans (bW.mono hb3.size)
      have mW : Blk W w3.heap.size #[.int .i64 cv.s, .slice e1 cv.Q.length k1, .slice e2 cv.M.length k2, .slice e3 cv.Y.length k3, .slice e4 cv.G.length k4] 46 := by rw [hW]; exact Blk.new0
      have x0 := (b13.cell (p := ⟨V.heap.size, 600, none⟩) hgl).trans c600
      have x1 := (b13.cell (p := ⟨gv, n * 2, none⟩) hgvl).trans q0
      have x2 : W.cell? ⟨w3.heap.size, 0, none⟩ = some (.int .i64 cv.s) := mW.cell 0 _ rfl
      have x3 : W.cell? ⟨w3.heap.size, 1, none⟩ = some (.slice e1 cv.Q.length k1) := mW.cell 1 _ rfl
      have x4 : W.cell? ⟨w3.heap.size, 2, none⟩ = some (.slice e2 cv.M.length k2) := mW.cell 2 _ rfl
      have x5 : W.cell? ⟨w3.heap.size, 3, none⟩ = some (.slice e3 cv.Y.length k3) := mW.cell 3 _ rfl
      have x6 : W.cell? ⟨w3.heap.size, 4, none⟩ = some (.slice e4 cv.G.length k4) := mW.cell 4 _ rfl
      obtain ⟨r0, r1, r2, r3, r4⟩ := unhide NO W b13
      have yW := y1.below b13
      have f0 := yW.froz 0
      have f1 := yW.froz 1
      have f2 := yW.froz 2
      have f3 := yW.froz 3
      have f4 := yW.froz 4
      have bWw := b1.trans (b13.mono b1.size)
      have hk5 := Rg.kept5 W w.heap.size (.int .i64 cv.s) (.slice e1 cv.Q.length k1) (.slice e2 cv.M.length k2) (.slice e3 cv.Y.length k3) (.slice e4 cv.G.length k4)
      have HF1 := hide (Rg.set5 (y0 := .int .i64 cv.s) (y1 := .slice e1 cv.Q.length k1) (y2 := .slice e2 cv.M.length k2) (y3 := .slice e3 cv.Y.length k3) (y4 := .slice e4 cv.G.length k4) yW)
      have HF2 := hide (bWw.trans (hk5.below bWw.size (fun i hi => by omega)))
      have HF3 := hide ((h3.below bW).kept hk5 (fun i hi => by subst hi; exact ⟨yW.alien c1, yW.alien c2, yW.alien c3, yW.alien c4⟩))
      have hzw2 : w.heap.size ≤ w2.heap.size := b1.size
      have HPB : Hid (∀ g, (Value.slice pa PL.length pc).ownBlock = some g → g < w2.heap.size) := fun g hg => ((unhide HPO).blk g hg).2
      have HF4 : Hid (InOwn _ w.heap.size (.slice pa PL.length pc) PL) := Gr.Kept.own_alien hk5 (Gr.own_lower (show w.heap.size ≤ V.heap.size by omega) (Gr.own_below (unhide HPO) b13)) (fun i hi => by subst hi; exact yW.alien c4)
      clear h3 hb3 bW b13 mW yW bWw hk5 NO y1 c600 q0 q1 CE HPO hk0
      rw [hW] at x0 x1 x2 x3 x4 x5 x6 r0 r1 r2 r3 r4 f0 f1 f2 f3 f4
      go_wp2_with fail
      rw [← hW] at x0 x1 x2 x3 x4 x5 x6 r0 r1 r2 r3 r4 f0 f1 f2 f3 f4 ⊢
      clear hW
      go_region
      go_wp2
      (try simp only [Exit.inBlock, Exit.then])
      refine bodyPost_ret (Rg.results_round Tryz.results27 _ _ w.heap.size _ _ _ _ _ rfl (unhide HF1).drew) rfl ?_
      rw [unhide HCV, unhide HPLE]
      exact ⟨⟨_, _, rfl, (unhide HF4).below (Below.refl _ _).drew, w2.heap.size, hzw2, unhide HPB, (unhide HF3).below (Below.refl _ _).drew⟩, (unhide HF2).drew⟩
    · have hOKf : OK = false := by
        rw [← hpl, Bool.and_eq_false_iff, decide_eq_false_iff_not, decide_eq_false_iff_not]
        omega
      subst hOKf
      rw [if_neg (by simp)] at hRP hRC
      subst hRP hRC
      obtain ⟨r0, r1, r2, r3, r4⟩ := unhide NO w1 (Below.refl _ _)
      have g0 := y1.froz 0
      have g1 := y1.froz 1
      have g2 := y1.froz 2
      have g3 := y1.froz 3
      have g4 := y1.froz 4
      have HF := hide (Rg.set5 (y0 := .int .i64 0) (y1 := .slice none 0 0) (y2 := .slice none 0 0) (y3 := .slice none 0 0) (y4 := .slice none 0 0) y1)
      have HB := hide (b1.trans ((Rg.kept5 w1 w.heap.size (.int .i64 0) (.slice none 0 0) (.slice none 0 0) (.slice none 0 0) (.slice none 0 0)).below b1.size (fun i hi => by omega)))
      clear NO y1 hk0 hrd0 hf f1 f2 f3 hpl hOK
      go_wp2_with fail
      refine (unhide IP _).mono ?_
      rintro e w2 ⟨rfl, rfl⟩
      go_wp2
      (try simp only [Exit.inBlock, Exit.then])
      refine bodyPost_ret (Rg.results_round Tryz.results27 _ _ w.heap.size _ _ _ _ _ rfl (unhide HF)) rfl ?_
      exact ⟨⟨_, _, rfl, ⟨rfl, .inl ⟨rfl, rfl⟩⟩, w.heap.size, Nat.le_refl _, (fun g hg => by cases hg), CROwn.zero _ _⟩, unhide HB⟩

theorem offQ_all : ∀ (G : List GrpI), offQ G G.length = G.length + gbulk G
  | [] => rfl
  | x :: r => by
    have := offQ_all r
    unfold offQ at *
    rw [List.take_length] at *
    simp only [List.map_cons, List.sum_cons, List.length_cons, gbulk]
    omega

theorem mkAll_le (k : Nat) {Q : List EdgeI} {M : List CoupleI} {Y : List Int} {G : List GrpI} (h : csize Q M Y G ≤ 1048576) (hk : k ≤ 1000000) : mkAll k Q M Y G ≤ 100000000 := by
  unfold mkAll mkY mkM
  rw [offQ_all]
  unfold csize psize at h
  omega

theorem crown_low {S : Nat → Prop} {w w' : World} {C : Nat} {v : Value} {s : Int} {Q : List EdgeI} {M : List CoupleI} {Y : List Int} {G : List GrpI} (h : CROwn w C v s Q M Y G) (hk : Kept S w w') (hS : ∀ g, S g → g < C) : CROwn w' C v s Q M Y G := by
  obtain ⟨v1, v2, v3, v4, rfl, h1, h2, u1, u2, ms, hu, h3, h4, h5⟩ := h
  have hne : ∀ {e z n : Nat} {u : Value} {xs : List Value}, w.ownsRow C e z u n xs → w'.ownsRow C e z u n xs := fun ho => hk.own ho (fun g hg hs => by have := (ho.lt g hg).1; have := hS g hs; omega)
  exact ⟨v1, v2, v3, v4, rfl, hne h1, hne h2, u1, u2, ms, hu, hne h3, ⟨h4.1, hne h4.2.1, fun j a b => hne (h4.2.2 j a b)⟩, h5⟩

theorem blk_low {w w' : World} {S g : Nat} {C : Array Value} {t : TypeId} (h : Blk w g C t) (hb : Below S w w') (hg : g < S) : Blk w' g C t := (hb.block g hg).trans h

theorem pair_types : (57 : Nat) ≠ 3 ∧ (57 : Nat) ≠ 107 ∧ (57 : Nat) ≠ 115 ∧ (57 : Nat) ≠ 117 ∧ (57 : Nat) ≠ 46 := by decide

end Gr
end Go.Proofs.YtocaodgloiigaaaGreatDoor
