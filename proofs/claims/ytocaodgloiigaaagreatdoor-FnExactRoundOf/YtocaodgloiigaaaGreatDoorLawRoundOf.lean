/-
  impl.RoundOf answers as the specification; it writes into no argument, and its answer owns its memory. The listed tables of Go's library are tied to the program's text.
-/
import Derived.Test.YtocaodgloiigaaaGreatDoorCards
import Derived.Test.YtocaodgloiigaaaGreatDoorTie
import Derived.Deep.DeepHandedRow
import Derived.Lib.LaidTab
import Derived.Lib.SmallJoins
import Derived.Stop.LaidErr
import Derived.Test.YtocaodgloiigaaaGreatDoorJ48
import Derived.Test.YtocaodgloiigaaaGreatDoorJ49
import Derived.Test.YtocaodgloiigaaaGreatDoorChecked
import Derived.Deep.RegionHeld3
import Derived.ShutString
import Derived.Below
namespace Go.Proofs.YtocaodgloiigaaaGreatDoor.fnExactRoundOf
open Go.Proofs.YtocaodgloiigaaaGreatDoor Go.Proofs.YtocaodgloiigaaaGreatDoor.Gr
open Go.ChangeShapes Go.WideShapes Go.ChangeAt Go.RowKit
open Go.ChangeMaps (open_string shut_string)

theorem own : ownKnob Tryz.prog.godebug = none := by kernel_rfl

theorem laidOut : laidOutB Tryz.prog = true := by kernel_rfl

set_option maxRecDepth 100000 in
set_option maxHeartbeats 8000000 in
theorem walk (v0 : Value) (Q0 : List (ByteArray × ByteArray)) (x1 : Int) (w : World) (hv0 : PaAt w v0 w.heap.size Q0) (hn0 : pasize Q0 ≤ 9223372036854775807) (HT : Hid (Rg.Tab w.heap.size w)) :
    Calls Tryz.prog 7 #[v0, .int .i64 x1] w fun e w' => e = .returned (.bool true) ∧ Below w.heap.size w w' := by
  have HV0 := hide hv0
  have HN0 := hide hn0
  have sh0 := hv0.shape
  obtain ⟨a0, c0, rfl⟩ := sh0
  clear hv0 hn0
  go_enter Tryz.func7, Tryz.ntmps7
  go_wp2_with fail
  refine (szPairS_gen _ w.heap.size Q0 1048576 (by omega) (by omega) (unhide HN0) w (unhide HV0)).mono ?_
  rintro e u0 ⟨⟨z1, rfl, hxz1, hyz1⟩, hb0⟩
  by_cases hneg : z1 < 0
  · go_wp2
    go_ret
    exact ⟨rfl, hb0⟩
  · have hsz : pasize Q0 ≤ 1048576 := by have := hyz1 (by omega); omega
    have TO := hide (fun w1 (hb : Below w.heap.size w w1) => toPairS_gen _ w.heap.size Q0 hsz w1 hb.size ((unhide HV0).below hb (Nat.le_refl _)))
    have EP := hide (fun w1 d d1 (hd : PaAt w1 d w1.heap.size Q0) (hd1 : PaAt w1 d1 w1.heap.size Q0) => eqPairS_gen d d1 w1.heap.size w1.heap.size Q0 hsz w1 (Nat.le_refl _) (Nat.le_refl _) hd hd1)
    have SP := hide (fun w1 d (hd : PaAt w1 d w1.heap.size Q0) => specRound_gen w1.heap.size d Q0 x1 hsz w1 (Nat.le_refl _) hd)
    have IM := hide (fun w1 (hbT : Below w.heap.size w w1) d0 (hd0 : PaAt w1 d0 w1.heap.size Q0) => implRound_gen w1.heap.size d0 Q0 x1 hsz w1 (Nat.le_refl _) (((unhide HT).below hbT).mono hbT.size) hd0)
    have hcs := (roC_small Q0 x1).1
    have hpl := roP_small Q0 x1
    have hmk := mkAll_le (1 + (Rg.roP Q0 x1).length) hcs (by omega)
    have hne : (Rg.roOk Q0 x1 != Rg.roOk Q0 x1) = false := by simp
    have MP := hide (fun w1 B d (hd : PaOwn w1 B d Q0) => markPairS_gen d B 1 Q0 (by omega) w1 hd)
    obtain ⟨kx, hkx⟩ : ∃ k : Nat, k = 1 + Q0.length * 2 := ⟨_, rfl⟩
    rw [← hkx] at MP
    have hkxn : ¬ ((kx : Nat) : Int) < 0 := by omega
    generalize Rg.roC Q0 x1 = R at SP IM hcs hmk
    generalize Rg.roP Q0 x1 = K at SP IM hpl hmk
    generalize Rg.roOk Q0 x1 = ok at SP IM hne
    obtain ⟨s, Q, M, Y, G, cs0⟩ := R
    simp only at SP IM hcs hmk
    have HAT := hide (fun w1 B d (h : CROwn w1 B d s Q M Y G) => h.at hcs)
    have EQ := hide (fun w1 d d' L (hL : L ≤ w1.heap.size) (hd : CeAt w1 d w1.heap.size s Q M Y G) (hd' : CeAt w1 d' L s Q M Y G) => eqCert_gen d d' w1.heap.size L s Q M Y G hcs w1 (Nat.le_refl _) hL hd hd')
    have EI := hide (fun w1 d d' L (hL : L ≤ w1.heap.size) (hd : InAt w1 d w1.heap.size K) (hd' : InAt w1 d' L K) => eqInts_gen d d' w1.heap.size L K (by omega) w1 (Nat.le_refl _) hL hd hd')
    have MI := hide (fun w1 B d (hd : InOwn w1 B d K) => markInts_gen d B 1 K (by omega) w1 hd)
    have HI := hide (fun w1 d (hd : InAt w1 d w1.heap.size (marksN 1 K.length)) => heldInts_gen d w1.heap.size 1 K.length (by omega) w1 (Nat.le_refl _) hd)
    obtain ⟨Km, hKm⟩ : ∃ x, x = marksN 1 K.length := ⟨_, rfl⟩
    have hKml : Km.length = K.length := by rw [hKm]; unfold marksN; simp
    rw [← hKm] at MI HI
    obtain ⟨kk, hkk⟩ : ∃ k : Nat, k = 1 + K.length := ⟨_, rfl⟩
    rw [← hkk] at MI HI hmk
    have hkkn : ¬ ((kk : Nat) : Int) < 0 := by omega
    have MK := hide (fun w1 B d (hd : CROwn w1 B d s Q M Y G) => markCert_any d B kk s Q M Y G hmk w1 hd)
    have HE := hide (fun w1 B d (hd : CROwn w1 B d s (marksEdge kk Q.length) (marksCouple (mkM kk Q) M.length) (marksN (mkY kk Q M) Y.length) (mixQ (mkY kk Q M + Y.length) G G.length)) => heldCert_any d B kk s Q M Y G hmk w1 hd)
    generalize mkAll kk Q M Y G = km at MK HE
    have hkr : ¬ ((km : Nat) : Int) < 0 := by omega
    have hkq : (((km : Nat) : Int) != ((km : Nat) : Int)) = false := by simp
    obtain ⟨Qm, hQm⟩ : ∃ x, x = marksEdge kk Q.length := ⟨_, rfl⟩
    obtain ⟨Mm, hMm⟩ : ∃ x, x = marksCouple (mkM kk Q) M.length := ⟨_, rfl⟩
    obtain ⟨Ym, hYm⟩ : ∃ x, x = marksN (mkY kk Q M) Y.length := ⟨_, rfl⟩
    obtain ⟨Gm, hGm⟩ : ∃ x, x = mixQ (mkY kk Q M + Y.length) G G.length := ⟨_, rfl⟩
    rw [← hQm, ← hMm, ← hYm, ← hGm] at MK HE
    have HKML := hide hKml
    clear hQm hMm hYm hGm hcs hmk hKm hKml hkk hkx hpl hsz hyz1 hxz1
    obtain ⟨y1, y2, y3, y4, y5⟩ := pair_types
    have HPT : Hid (∀ (wq : World) (B : Nat) (d : Value), PaOwn wq B d Q0 → ∀ g, PaBlk d g → Alien wq g 3 ∧ Alien wq g 107 ∧ Alien wq g 115 ∧ Alien wq g 117 ∧ Alien wq g 46) := fun wq B d h g hg => ⟨own_alien h.1 y1 g hg, own_alien h.1 y2 g hg, own_alien h.1 y3 g hg, own_alien h.1 y4 g hg, own_alien h.1 y5 g hg⟩
    clear y1 y2 y3 y4 y5
    go_wp2_with fail
    refine (unhide TO u0 hb0).mono ?_
    rintro e u1 ⟨⟨d1, rfl, ho1⟩, hb1⟩
    have hc1 : Below w.heap.size w u1 := hb0.trans (hb1.mono hb0.size)
    have HD1 := hide ho1.at
    obtain ⟨aa1, cc1, rfl⟩ := ho1.at.shape
    clear ho1 hb1
    go_wp2_with fail
    refine (unhide SP u1 _ (unhide HD1)).mono ?_
    rintro e u2 ⟨⟨dw, cw, rfl, hiw, hcw⟩, hb2⟩
    have hc2 := hc1.trans (hb2.mono hc1.size)
    obtain ⟨aw, kw, rfl, hIw⟩ := hiw.at
    have HCW := hide hcw
    have HIW : Hid (InAt u2 (.slice aw K.length kw) u2.heap.size K) := ⟨_, _, rfl, hIw⟩
    obtain ⟨a1, c1, a2, c2, a3, c3, a4, c4, rfl⟩ := hcw.shape
    clear hb2 hiw hcw hIw
    obtain ⟨U2, hU2⟩ : ∃ W, W = u2.alloc (Obj.cells #[Value.int .i64 s, Value.slice a1 Q.length c1, Value.slice a2 M.length c2, Value.slice a3 Y.length c3, Value.slice a4 G.length c4] 46) := ⟨_, rfl⟩
    have n2 : Below u2.heap.size u2 U2 := by rw [hU2]; exact below_new _ _
    have HXW : Hid (Blk U2 u2.heap.size #[Value.int .i64 s, Value.slice a1 Q.length c1, Value.slice a2 M.length c2, Value.slice a3 Y.length c3, Value.slice a4 G.length c4] 46) := by show Blk _ _ _ _; rw [hU2]; exact Blk.new0
    have hcU2 := hc2.trans (n2.mono hc2.size)
    have HCW2 := hide (((unhide HCW).below n2 (Nat.le_refl _)))
    have HIW2 := hide (((unhide HIW).below n2 (Nat.le_refl _)))
    have hL2 := (unhide HXW).lt
    have hz2 : u2.heap.size ≤ U2.heap.size := n2.size
    go_wp2_with fail
    rw [← hU2]
    clear hU2 n2 HCW HIW
    generalize u2.heap.size = L at HXW HCW2 HIW2 hL2 hz2
    refine (unhide TO U2 hcU2).mono ?_
    rintro e u3 ⟨⟨dx, rfl, ho3⟩, hb3⟩
    have hc3 := hcU2.trans (hb3.mono hcU2.size)
    have HS3 : Hid (Below U2.heap.size U2 u3) := hb3
    have HOX := hide ho3
    obtain ⟨ax, cx, rfl⟩ := ho3.at.shape
    have hz3 := hb3.size
    clear ho3 hb3
    go_wp2_with fail
    refine (unhide IM u3 hc3 _ (unhide HOX).at).mono ?_
    rintro e u4 ⟨⟨dg, cg, rfl, hig, CC, hC1, hC2, hcg⟩, hb4⟩
    have hc4 := hc3.trans (hb4.mono hc3.size)
    have HS4 := hide ((unhide HS3).trans (hb4.mono hz3))
    have HOX4 := hide ((unhide HOX).below hb4)
    have HIG := hide hig
    have HCG := hide hcg
    have HBG := hide hC2
    have hzC : u3.heap.size ≤ CC := hC1
    have hz4 := hb4.size
    obtain ⟨ag, kg, rfl⟩ := hig.at.shape
    obtain ⟨b1, e1, b2, e2, b3, e3, b4, e4, rfl⟩ := (unhide HAT _ _ _ hcg).shape
    have HIB : Hid (∀ g, InBlk (.slice ag K.length kg) g → u3.heap.size ≤ g) := fun g hg => ((unhide HIG).blk g hg).1
    clear hig hcg hb4 hC1 hC2 HS3 HOX
    obtain ⟨U4, hU4⟩ : ∃ W, W = u4.alloc (Obj.cells #[Value.int .i64 s, Value.slice b1 Q.length e1, Value.slice b2 M.length e2, Value.slice b3 Y.length e3, Value.slice b4 G.length e4] 46) := ⟨_, rfl⟩
    have n4 : Below u4.heap.size u4 U4 := by rw [hU4]; exact below_new _ _
    have HXG : Hid (Blk U4 u4.heap.size #[Value.int .i64 s, Value.slice b1 Q.length e1, Value.slice b2 M.length e2, Value.slice b3 Y.length e3, Value.slice b4 G.length e4] 46) := by show Blk _ _ _ _; rw [hU4]; exact Blk.new0
    have hcU4 := hc4.trans (n4.mono hc4.size)
    have HSU4 := hide ((unhide HS4).trans (n4.mono (by omega)))
    have HOXU := hide ((unhide HOX4).below n4)
    have HIGU := hide ((unhide HIG).below n4)
    have HCGU := hide ((unhide HCG).below n4)
    have hLg := (unhide HXG).lt
    have hzU4 : u4.heap.size ≤ U4.heap.size := n4.size
    go_wp2_with fail
    rw [← hU4]
    clear hU4 n4 HS4 HOX4 HIG HCG
    generalize u4.heap.size = Lg at HXG hLg hzU4 hz4
    refine (unhide EI U4 _ _ U2.heap.size (by omega) (unhide HIGU).at (((unhide HIW2).mono hz2).below (unhide HSU4) (Nat.le_refl _))).mono ?_
    rintro e u5 ⟨rfl, hb5⟩
    have hc_u5 := hcU4.trans (hb5.mono hcU4.size)
    have HS_u5 := hide ((unhide HSU4).trans (hb5.mono (by have := (unhide HSU4).size; omega)))
    have HOX_u5 := hide ((unhide HOXU).below hb5)
    have HIG_u5 := hide ((unhide HIGU).below hb5)
    have HCG_u5 := hide ((unhide HCGU).below hb5)
    have HXG_u5 := hide ((unhide HXG).below hb5)
    have hz_u5 := hb5.size
    clear hb5 HSU4 HIGU HCGU HXG HOXU
    have g0 : u5.cell? ⟨Lg, 0, none⟩ = some (Value.int .i64 s) := (unhide HXG_u5).cell 0 _ rfl
    have g1 : u5.cell? ⟨Lg, 1, none⟩ = some (Value.slice b1 Q.length e1) := (unhide HXG_u5).cell 1 _ rfl
    have g2 : u5.cell? ⟨Lg, 2, none⟩ = some (Value.slice b2 M.length e2) := (unhide HXG_u5).cell 2 _ rfl
    have g3 : u5.cell? ⟨Lg, 3, none⟩ = some (Value.slice b3 Y.length e3) := (unhide HXG_u5).cell 3 _ rfl
    have g4 : u5.cell? ⟨Lg, 4, none⟩ = some (Value.slice b4 G.length e4) := (unhide HXG_u5).cell 4 _ rfl
    have HXW_u5 := hide (blk_low (unhide HXW) (unhide HS_u5) hL2)
    have p0 : u5.cell? ⟨L, 0, none⟩ = some (Value.int .i64 s) := (unhide HXW_u5).cell 0 _ rfl
    have p1 : u5.cell? ⟨L, 1, none⟩ = some (Value.slice a1 Q.length c1) := (unhide HXW_u5).cell 1 _ rfl
    have p2 : u5.cell? ⟨L, 2, none⟩ = some (Value.slice a2 M.length c2) := (unhide HXW_u5).cell 2 _ rfl
    have p3 : u5.cell? ⟨L, 3, none⟩ = some (Value.slice a3 Y.length c3) := (unhide HXW_u5).cell 3 _ rfl
    have p4 : u5.cell? ⟨L, 4, none⟩ = some (Value.slice a4 G.length c4) := (unhide HXW_u5).cell 4 _ rfl
    go_wp2_with fail
    clear g0 g1 g2 g3 g4 p0 p1 p2 p3 p4
    refine (unhide EQ u5 _ _ U2.heap.size (by have := (unhide HS_u5).size; omega) (unhide HAT _ _ _ (unhide HCG_u5)) (((unhide HCW2).mono hz2).below (unhide HS_u5) (Nat.le_refl _))).mono ?_
    rintro e u6 ⟨rfl, hbu6⟩
    have hc_u6 := hc_u5.trans (hbu6.mono hc_u5.size)
    have HS_u6 := hide ((unhide HS_u5).trans (hbu6.mono (by have := (unhide HS_u5).size; omega)))
    have HOX_u6 := hide ((unhide HOX_u5).below hbu6)
    have HIG_u6 := hide ((unhide HIG_u5).below hbu6)
    have HCG_u6 := hide ((unhide HCG_u5).below hbu6)
    have HXG_u6 := hide ((unhide HXG_u5).below hbu6)
    have hz_u6 := hbu6.size
    clear hbu6 HS_u5 HIG_u5 HCG_u5 HXG_u5 HOX_u5
    go_wp2_with fail
    refine (unhide TO u6 hc_u6).mono ?_
    rintro e u7 ⟨⟨dy, rfl, ho7⟩, hb7⟩
    have HOY := hide ho7
    obtain ⟨ay, cy, rfl⟩ := ho7.at.shape
    clear ho7
    have hc_u7 := hc_u6.trans (hb7.mono hc_u6.size)
    have HS_u7 := hide ((unhide HS_u6).trans (hb7.mono (by have := (unhide HS_u6).size; omega)))
    have HOX_u7 := hide ((unhide HOX_u6).below hb7)
    have HIG_u7 := hide ((unhide HIG_u6).below hb7)
    have HCG_u7 := hide ((unhide HCG_u6).below hb7)
    have HXG_u7 := hide ((unhide HXG_u6).below hb7)
    have hz_u7 := hb7.size
    clear hb7 HS_u6 HIG_u6 HCG_u6 HXG_u6 HOX_u6
    go_wp2_with fail
    refine (unhide EP u7 _ _ (unhide HOX_u7).at (unhide HOY).at).mono ?_
    rintro e u8 ⟨rfl, hb8⟩
    clear HOY
    have hc_u8 := hc_u7.trans (hb8.mono hc_u7.size)
    have HS_u8 := hide ((unhide HS_u7).trans (hb8.mono (by have := (unhide HS_u7).size; omega)))
    have HOX_u8 := hide ((unhide HOX_u7).below hb8)
    have HIG_u8 := hide ((unhide HIG_u7).below hb8)
    have HCG_u8 := hide ((unhide HCG_u7).below hb8)
    have HXG_u8 := hide ((unhide HXG_u7).below hb8)
    have hz_u8 := hb8.size
    clear hb8 HS_u7 HIG_u7 HCG_u7 HXG_u7 HOX_u7
    go_wp2_with fail
    refine (unhide MP u8 _ _ (unhide HOX_u8)).mono ?_
    rintro e u9 ⟨rfl, ho9, hk9⟩
    have hpt := unhide HPT _ _ _ (unhide HOX_u8)
    have hb9 : Below U2.heap.size u8 u9 := hk9.below (by have := (unhide HS_u8).size; omega) (fun g hg => ((unhide HOX_u8).blk g hg).1)
    have hc_u9 := hc_u8.trans (hb9.mono hcU2.size)
    have HS_u9 := hide ((unhide HS_u8).trans hb9)
    have HIG_u9 : Hid (InOwn u9 u3.heap.size (.slice ag K.length kg) K) := Kept.own_alien hk9 (unhide HIG_u8) (fun g hg => (hpt g hg).1)
    have HCG_u9 := hide ((unhide HCG_u8).kept hk9 (fun g hg => ⟨(hpt g hg).2.1, (hpt g hg).2.2.1, (hpt g hg).2.2.2.1, (hpt g hg).1⟩))
    have HXG_u9 := hide (Blk.kept_alien (unhide HXG_u8) hk9 (fun g hg => (hpt g hg).2.2.2.2))
    have hz_u9 := hk9.2.2.2.1
    clear ho9 hk9 hb9 hpt HOX_u8 HS_u8 HIG_u8 HCG_u8 HXG_u8
    go_wp2_with fail
    refine (unhide EI u9 _ _ U2.heap.size (by have := (unhide HS_u9).size; omega) (unhide HIG_u9).at (((unhide HIW2).mono hz2).below (unhide HS_u9) (Nat.le_refl _))).mono ?_
    rintro e u10 ⟨rfl, hb10⟩
    have hc_u10 := hc_u9.trans (hb10.mono hc_u9.size)
    have HS_u10 := hide ((unhide HS_u9).trans (hb10.mono (by have := (unhide HS_u9).size; omega)))
    have HIG_u10 := hide ((unhide HIG_u9).below hb10)
    have HCG_u10 := hide ((unhide HCG_u9).below hb10)
    have HXG_u10 := hide ((unhide HXG_u9).below hb10)
    have hz_u10 := hb10.size
    clear hb10 HS_u9 HIG_u9 HCG_u9 HXG_u9
    have g0 : u10.cell? ⟨Lg, 0, none⟩ = some (Value.int .i64 s) := (unhide HXG_u10).cell 0 _ rfl
    have g1 : u10.cell? ⟨Lg, 1, none⟩ = some (Value.slice b1 Q.length e1) := (unhide HXG_u10).cell 1 _ rfl
    have g2 : u10.cell? ⟨Lg, 2, none⟩ = some (Value.slice b2 M.length e2) := (unhide HXG_u10).cell 2 _ rfl
    have g3 : u10.cell? ⟨Lg, 3, none⟩ = some (Value.slice b3 Y.length e3) := (unhide HXG_u10).cell 3 _ rfl
    have g4 : u10.cell? ⟨Lg, 4, none⟩ = some (Value.slice b4 G.length e4) := (unhide HXG_u10).cell 4 _ rfl
    have HXW_u10 := hide (blk_low (unhide HXW) (unhide HS_u10) hL2)
    have p0 : u10.cell? ⟨L, 0, none⟩ = some (Value.int .i64 s) := (unhide HXW_u10).cell 0 _ rfl
    have p1 : u10.cell? ⟨L, 1, none⟩ = some (Value.slice a1 Q.length c1) := (unhide HXW_u10).cell 1 _ rfl
    have p2 : u10.cell? ⟨L, 2, none⟩ = some (Value.slice a2 M.length c2) := (unhide HXW_u10).cell 2 _ rfl
    have p3 : u10.cell? ⟨L, 3, none⟩ = some (Value.slice a3 Y.length c3) := (unhide HXW_u10).cell 3 _ rfl
    have p4 : u10.cell? ⟨L, 4, none⟩ = some (Value.slice a4 G.length c4) := (unhide HXW_u10).cell 4 _ rfl
    go_wp2_with fail
    clear g0 g1 g2 g3 g4 p0 p1 p2 p3 p4
    refine (unhide EQ u10 _ _ U2.heap.size (by have := (unhide HS_u10).size; omega) (unhide HAT _ _ _ (unhide HCG_u10)) (((unhide HCW2).mono hz2).below (unhide HS_u10) (Nat.le_refl _))).mono ?_
    rintro e u11 ⟨rfl, hbu11⟩
    have hc_u11 := hc_u10.trans (hbu11.mono hc_u10.size)
    have HS_u11 := hide ((unhide HS_u10).trans (hbu11.mono (by have := (unhide HS_u10).size; omega)))
    have HIG_u11 := hide ((unhide HIG_u10).below hbu11)
    have HCG_u11 := hide ((unhide HCG_u10).below hbu11)
    have HXG_u11 := hide ((unhide HXG_u10).below hbu11)
    have hz_u11 := hbu11.size
    clear hbu11 HS_u10 HIG_u10 HCG_u10 HXG_u10
    go_wp2_with fail
    refine (unhide MI u11 _ _ (unhide HIG_u11)).mono ?_
    rintro e u12 ⟨rfl, ho12, hk12⟩
    have hb12 : Below U2.heap.size u11 u12 := hk12.below (by have := (unhide HS_u11).size; omega) (fun g hg => by have := unhide HIB g hg; omega)
    have hc_u12 := hc_u11.trans (hb12.mono hcU2.size)
    have HS_u12 := hide ((unhide HS_u11).trans hb12)
    have HIG_u12 := hide ho12
    have HCG_u12 := hide (crown_low (unhide HCG_u11) hk12 (fun g hg => unhide HBG g hg))
    have HXG_u12 := hide (Blk.kept_alien (unhide HXG_u11) hk12 (fun g hg => own_alien (unhide HIG_u11) (by decide) g hg))
    have hz_u12 := hk12.2.2.2.1
    clear ho12 hk12 hb12 HS_u11 HIG_u11 HCG_u11 HXG_u11
    have g0 : u12.cell? ⟨Lg, 0, none⟩ = some (Value.int .i64 s) := (unhide HXG_u12).cell 0 _ rfl
    have g1 : u12.cell? ⟨Lg, 1, none⟩ = some (Value.slice b1 Q.length e1) := (unhide HXG_u12).cell 1 _ rfl
    have g2 : u12.cell? ⟨Lg, 2, none⟩ = some (Value.slice b2 M.length e2) := (unhide HXG_u12).cell 2 _ rfl
    have g3 : u12.cell? ⟨Lg, 3, none⟩ = some (Value.slice b3 Y.length e3) := (unhide HXG_u12).cell 3 _ rfl
    have g4 : u12.cell? ⟨Lg, 4, none⟩ = some (Value.slice b4 G.length e4) := (unhide HXG_u12).cell 4 _ rfl
    go_wp2_with fail
    clear g0 g1 g2 g3 g4
    refine (unhide MK u12 _ _ (unhide HCG_u12)).mono ?_
    rintro e u13 ⟨rfl, ho13, hk13⟩
    have hb13 : Below U2.heap.size u12 u13 := hk13.below (by have := (unhide HS_u12).size; omega) (fun g hg => by have := hg.1; omega)
    have hc_u13 := hc_u12.trans (hb13.mono hcU2.size)
    have HS_u13 := hide ((unhide HS_u12).trans hb13)
    have HIG_u13 : Hid (InOwn u13 u3.heap.size (.slice ag K.length kg) Km) := hk13.own (unhide HIG_u12) (fun g hg hs => by have h1 := unhide HBG g hg; have h2 := hs.1; omega)
    have HCG_u13 := hide ho13
    have HXG_u13 := hide ((unhide HXG_u12).cert hk13)
    have hz_u13 := hk13.2.2.2.1
    clear ho13 hk13 hb13 HS_u12 HIG_u12 HCG_u12 HXG_u12
    go_wp2_with fail
    refine (unhide HI u13 _ (unhide HIG_u13).at).mono ?_
    rintro e u14 ⟨rfl, hbu14⟩
    have hc_u14 := hc_u13.trans (hbu14.mono hc_u13.size)
    have HS_u14 := hide ((unhide HS_u13).trans (hbu14.mono (by have := (unhide HS_u13).size; omega)))
    have HIG_u14 := hide ((unhide HIG_u13).below hbu14)
    have HCG_u14 := hide ((unhide HCG_u13).below hbu14)
    have HXG_u14 := hide ((unhide HXG_u13).below hbu14)
    have hz_u14 := hbu14.size
    clear hbu14 HS_u13 HIG_u13 HCG_u13 HXG_u13
    have g0 : u14.cell? ⟨Lg, 0, none⟩ = some (Value.int .i64 s) := (unhide HXG_u14).cell 0 _ rfl
    have g1 : u14.cell? ⟨Lg, 1, none⟩ = some (Value.slice b1 Q.length e1) := (unhide HXG_u14).cell 1 _ rfl
    have g2 : u14.cell? ⟨Lg, 2, none⟩ = some (Value.slice b2 M.length e2) := (unhide HXG_u14).cell 2 _ rfl
    have g3 : u14.cell? ⟨Lg, 3, none⟩ = some (Value.slice b3 Y.length e3) := (unhide HXG_u14).cell 3 _ rfl
    have g4 : u14.cell? ⟨Lg, 4, none⟩ = some (Value.slice b4 G.length e4) := (unhide HXG_u14).cell 4 _ rfl
    go_wp2_with fail
    clear g0 g1 g2 g3 g4
    refine (unhide HE u14 _ _ (unhide HCG_u14)).mono ?_
    rintro e u15 ⟨rfl, hbu15⟩
    have hc_u15 := hc_u14.trans (hbu15.mono hc_u14.size)
    have HS_u15 := hide ((unhide HS_u14).trans (hbu15.mono (by have := (unhide HS_u14).size; omega)))
    have HIG_u15 := hide ((unhide HIG_u14).below hbu15)
    have HCG_u15 := hide ((unhide HCG_u14).below hbu15)
    have HXG_u15 := hide ((unhide HXG_u14).below hbu15)
    have hz_u15 := hbu15.size
    clear hbu15 HS_u14 HIG_u14 HCG_u14 HXG_u14
    go_wp2_with fail
    refine (unhide TO u15 hc_u15).mono ?_
    rintro e u16 ⟨⟨dz, rfl, ho16⟩, hb16⟩
    have HDZ := hide ho16.at
    obtain ⟨az, cz, rfl⟩ := ho16.at.shape
    clear ho16
    have hc_u16 := hc_u15.trans (hb16.mono hc_u15.size)
    have HS_u16 := hide ((unhide HS_u15).trans (hb16.mono (by have := (unhide HS_u15).size; omega)))
    have HIG_u16 := hide ((unhide HIG_u15).below hb16)
    have HCG_u16 := hide ((unhide HCG_u15).below hb16)
    have HXG_u16 := hide ((unhide HXG_u15).below hb16)
    have hz_u16 := hb16.size
    clear hb16 HS_u15 HIG_u15 HCG_u15 HXG_u15
    go_wp2_with fail
    refine (unhide IM u16 hc_u16 _ (unhide HDZ)).mono ?_
    rintro e u17 ⟨⟨dh, ch, rfl, hih, CH, _, _, hch⟩, hb17⟩
    have HIH := hide hih
    have HCH := hide hch
    obtain ⟨ah, kh, rfl⟩ := hih.at.shape
    obtain ⟨f1, k1, f2, k2, f3, k3, f4, k4, rfl⟩ := (unhide HAT _ _ _ hch).shape
    clear hih hch
    have hc_u17 := hc_u16.trans (hb17.mono hc_u16.size)
    have HS_u17 := hide ((unhide HS_u16).trans (hb17.mono (by have := (unhide HS_u16).size; omega)))
    have HIG_u17 := hide ((unhide HIG_u16).below hb17)
    have HCG_u17 := hide ((unhide HCG_u16).below hb17)
    have HXG_u17 := hide ((unhide HXG_u16).below hb17)
    have hz_u17 := hb17.size
    clear hb17 HS_u16 HIG_u16 HCG_u16 HXG_u16
    obtain ⟨U17, hU17⟩ : ∃ W, W = u17.alloc (Obj.cells #[Value.int .i64 s, Value.slice f1 Q.length k1, Value.slice f2 M.length k2, Value.slice f3 Y.length k3, Value.slice f4 G.length k4] 46) := ⟨_, rfl⟩
    have n17 : Below u17.heap.size u17 U17 := by rw [hU17]; exact below_new _ _
    have HXH : Hid (Blk U17 u17.heap.size #[Value.int .i64 s, Value.slice f1 Q.length k1, Value.slice f2 M.length k2, Value.slice f3 Y.length k3, Value.slice f4 G.length k4] 46) := by show Blk _ _ _ _; rw [hU17]; exact Blk.new0
    have HIH2 := hide ((unhide HIH).below n17)
    have HCH2 := hide ((unhide HCH).below n17)
    clear HIH HCH
    have hc_U17 := hc_u17.trans (n17.mono hc_u17.size)
    have HS_U17 := hide ((unhide HS_u17).trans (n17.mono (by have := (unhide HS_u17).size; omega)))
    have HIG_U17 := hide ((unhide HIG_u17).below n17)
    have HCG_U17 := hide ((unhide HCG_u17).below n17)
    have HXG_U17 := hide ((unhide HXG_u17).below n17)
    have hz_U17 := n17.size
    clear HS_u17 HIG_u17 HCG_u17 HXG_u17
    go_wp2_with fail
    rw [← hU17]
    clear hU17 n17
    generalize u17.heap.size = Lh at HXH hz_U17
    refine (unhide EI U17 _ _ U2.heap.size (by have := (unhide HS_U17).size; omega) (unhide HIH2).at (((unhide HIW2).mono hz2).below (unhide HS_U17) (Nat.le_refl _))).mono ?_
    rintro e u18 ⟨rfl, hb18⟩
    have hc_u18 := hc_U17.trans (hb18.mono hc_U17.size)
    have HS_u18 := hide ((unhide HS_U17).trans (hb18.mono (by have := (unhide HS_U17).size; omega)))
    have HIG_u18 := hide ((unhide HIG_U17).below hb18)
    have HCG_u18 := hide ((unhide HCG_U17).below hb18)
    have HXG_u18 := hide ((unhide HXG_U17).below hb18)
    have hz_u18 := hb18.size
    have CH_u18 := hide ((unhide HCH2).below hb18)
    have XH_u18 := hide ((unhide HXH).below hb18)
    clear hb18 HS_U17 HIG_U17 HCG_U17 HXG_U17 HCH2 HXH
    have g0 : u18.cell? ⟨Lh, 0, none⟩ = some (Value.int .i64 s) := (unhide XH_u18).cell 0 _ rfl
    have g1 : u18.cell? ⟨Lh, 1, none⟩ = some (Value.slice f1 Q.length k1) := (unhide XH_u18).cell 1 _ rfl
    have g2 : u18.cell? ⟨Lh, 2, none⟩ = some (Value.slice f2 M.length k2) := (unhide XH_u18).cell 2 _ rfl
    have g3 : u18.cell? ⟨Lh, 3, none⟩ = some (Value.slice f3 Y.length k3) := (unhide XH_u18).cell 3 _ rfl
    have g4 : u18.cell? ⟨Lh, 4, none⟩ = some (Value.slice f4 G.length k4) := (unhide XH_u18).cell 4 _ rfl
    have HXW_u18 := hide (blk_low (unhide HXW) (unhide HS_u18) hL2)
    have p0 : u18.cell? ⟨L, 0, none⟩ = some (Value.int .i64 s) := (unhide HXW_u18).cell 0 _ rfl
    have p1 : u18.cell? ⟨L, 1, none⟩ = some (Value.slice a1 Q.length c1) := (unhide HXW_u18).cell 1 _ rfl
    have p2 : u18.cell? ⟨L, 2, none⟩ = some (Value.slice a2 M.length c2) := (unhide HXW_u18).cell 2 _ rfl
    have p3 : u18.cell? ⟨L, 3, none⟩ = some (Value.slice a3 Y.length c3) := (unhide HXW_u18).cell 3 _ rfl
    have p4 : u18.cell? ⟨L, 4, none⟩ = some (Value.slice a4 G.length c4) := (unhide HXW_u18).cell 4 _ rfl
    go_wp2_with fail
    clear g0 g1 g2 g3 g4 p0 p1 p2 p3 p4
    refine (unhide EQ u18 _ _ U2.heap.size (by have := (unhide HS_u18).size; omega) (unhide HAT _ _ _ (unhide CH_u18)) (((unhide HCW2).mono hz2).below (unhide HS_u18) (Nat.le_refl _))).mono ?_
    rintro e u19 ⟨rfl, hbu19⟩
    have hc_u19 := hc_u18.trans (hbu19.mono hc_u18.size)
    have HS_u19 := hide ((unhide HS_u18).trans (hbu19.mono (by have := (unhide HS_u18).size; omega)))
    have HIG_u19 := hide ((unhide HIG_u18).below hbu19)
    have HCG_u19 := hide ((unhide HCG_u18).below hbu19)
    have HXG_u19 := hide ((unhide HXG_u18).below hbu19)
    have hz_u19 := hbu19.size
    clear hbu19 HS_u18 HIG_u18 HCG_u18 HXG_u18
    go_wp2_with fail
    refine (unhide HI u19 _ (unhide HIG_u19).at).mono ?_
    rintro e u20 ⟨rfl, hbu20⟩
    have hc_u20 := hc_u19.trans (hbu20.mono hc_u19.size)
    have HS_u20 := hide ((unhide HS_u19).trans (hbu20.mono (by have := (unhide HS_u19).size; omega)))
    have HIG_u20 := hide ((unhide HIG_u19).below hbu20)
    have HCG_u20 := hide ((unhide HCG_u19).below hbu20)
    have HXG_u20 := hide ((unhide HXG_u19).below hbu20)
    have hz_u20 := hbu20.size
    clear hbu20 HS_u19 HIG_u19 HCG_u19 HXG_u19
    have g0 : u20.cell? ⟨Lg, 0, none⟩ = some (Value.int .i64 s) := (unhide HXG_u20).cell 0 _ rfl
    have g1 : u20.cell? ⟨Lg, 1, none⟩ = some (Value.slice b1 Q.length e1) := (unhide HXG_u20).cell 1 _ rfl
    have g2 : u20.cell? ⟨Lg, 2, none⟩ = some (Value.slice b2 M.length e2) := (unhide HXG_u20).cell 2 _ rfl
    have g3 : u20.cell? ⟨Lg, 3, none⟩ = some (Value.slice b3 Y.length e3) := (unhide HXG_u20).cell 3 _ rfl
    have g4 : u20.cell? ⟨Lg, 4, none⟩ = some (Value.slice b4 G.length e4) := (unhide HXG_u20).cell 4 _ rfl
    go_wp2_with fail
    clear g0 g1 g2 g3 g4
    refine (unhide HE u20 _ _ (unhide HCG_u20)).mono ?_
    rintro e u21 ⟨rfl, hbu21⟩
    have hc_u21 := hc_u20.trans (hbu21.mono hc_u20.size)
    have HS_u21 := hide ((unhide HS_u20).trans (hbu21.mono (by have := (unhide HS_u20).size; omega)))
    have HIG_u21 := hide ((unhide HIG_u20).below hbu21)
    have HCG_u21 := hide ((unhide HCG_u20).below hbu21)
    have HXG_u21 := hide ((unhide HXG_u20).below hbu21)
    have hz_u21 := hbu21.size
    clear hbu21 HS_u20 HIG_u20 HCG_u20 HXG_u20
    go_wp2
    go_ret
    exact ⟨rfl, hc_u21⟩

theorem g0 : Tryz.prog.globalNamed "math/bits.deBruijn32tab" = some 2 := by kernel_rfl
theorem gt0 : (Tryz.prog.globals[2]?).map (·.type) = some 208 := by kernel_rfl
theorem ct0 : Tryz.prog.cellsOf 208 = 32 := by kernel_rfl
theorem ce0 : Tryz.prog.cellsOf 5 = 1 := by kernel_rfl
def zs0 : List Int := [0, 1, 28, 2, 29, 14, 24, 3, 30, 22, 20, 15, 25, 17, 4, 8, 31, 27, 13, 23, 21, 19, 16, 7, 26, 12, 18, 6, 11, 5, 10, 9]
theorem g1 : Tryz.prog.globalNamed "math/bits.deBruijn64tab" = some 3 := by kernel_rfl
theorem gt1 : (Tryz.prog.globals[3]?).map (·.type) = some 209 := by kernel_rfl
theorem ct1 : Tryz.prog.cellsOf 209 = 64 := by kernel_rfl
theorem ce1 : Tryz.prog.cellsOf 5 = 1 := by kernel_rfl
def zs1 : List Int := [0, 1, 56, 2, 57, 49, 28, 3, 61, 58, 42, 50, 38, 29, 17, 4, 62, 47, 59, 36, 45, 43, 51, 22, 53, 39, 33, 30, 24, 18, 12, 5, 63, 55, 48, 27, 60, 41, 37, 16, 46, 35, 44, 21, 52, 32, 23, 11, 54, 26, 40, 15, 34, 20, 31, 10, 25, 14, 19, 9, 13, 8, 7, 6]
theorem g2 : Tryz.prog.globalNamed "internal/strconv.uint64pow10" = some 1 := by kernel_rfl
theorem gt2 : (Tryz.prog.globals[1]?).map (·.type) = some 202 := by kernel_rfl
theorem ct2 : Tryz.prog.cellsOf 202 = 20 := by kernel_rfl
theorem ce2 : Tryz.prog.cellsOf 196 = 1 := by kernel_rfl
def zs2 : List Int := [1, 10, 100, 1000, 10000, 100000, 1000000, 10000000, 100000000, 1000000000, 10000000000, 100000000000, 1000000000000, 10000000000000, 100000000000000, 1000000000000000, 10000000000000000, 100000000000000000, 1000000000000000000, 10000000000000000000]
set_option maxRecDepth 100000 in
theorem tab {W : World} (h : laidMet Tryz.prog Rows.fnExactRoundOfRow.laid W) : Lib.TabIs Tryz.prog W "internal/strconv.uint64pow10" .u64 zs2 :=
  Lib.tabIs_of_head (zs := zs2) g2 gt2 Tryz.underlying202 Tryz.underlying196 ce2 ct2 (laidMet.tail (laidMet.tail h))
theorem plainLaid {W : World} (h : laidMetH Tryz.prog Rows.fnExactRoundOfRow.laid W) : laidMet Tryz.prog Rows.fnExactRoundOfRow.laid W := h

set_option maxRecDepth 100000 in
theorem contract (H : Type) (enc : TypeId × Value → H) (W : World) (base : Nat) (args : Array Value) (ds gs : List (DataW H)) (before : List MemPlace)
    (hval : ∀ (j : Nat) t v, Tryz.f7.params[j]? = some t → args[j]? = some v → Value.okWide Tryz.prog W .any base t v)
    (hW : DataW.Whole enc Tryz.prog Tryz.f7.params.toList Rows.fnExactRoundOfSpec.vars false W args.toList ds gs before) (hL : laidMet Tryz.prog Rows.fnExactRoundOfRow.laid W) :
    Calls Tryz.prog 7 args W fun e W' => ∃ v, e = .returned v ∧ Rows.fnExactRoundOfSpec.post enc Tryz.prog Tryz.f7 false true false false W args v W' := by
  have hW' := hW
  obtain ⟨p, q, hA0, hV, rfl, hfz, hnd⟩ := hW
  have hA : DataW.TrodAll enc Tryz.prog W 0 (fun _ => true) true Tryz.f7.params.toList args.toList ds p := hA0
  rw [Tryz.params7] at hA hval
  obtain ⟨v0, vs0, d0, ds0, p0, q0, hargs, rfl, rfl, h0, r0⟩ := trodAll_cons hA
  obtain ⟨v1, vs1, d1, ds1, p1, q1, rfl, rfl, rfl, h1, r1⟩ := trodAll_cons r0
  obtain ⟨rfl, rfl, rfl⟩ := trodAll_nil r1
  obtain rfl : args = #[v0, v1] := by cases args; simp_all
  obtain ⟨rfl, rfl⟩ := trodVars_none hV
  have k0 := h0
  have lt0 : ∀ x ∈ p0, x.block < W.heap.size := by obtain ⟨m, hm⟩ := k0; exact DataW.trod_lt m _ _ _ hm
  obtain ⟨Q0, hv0, hn0⟩ := pairs_in (hval 0 22 v0 rfl rfl) h0
  obtain ⟨x1, rfl, rfl, rfl, m1⟩ := open_int Tryz.underlying3 (hval 1 3 v1 rfl rfl) h1
  clear hA0
  refine (walk v0 Q0 x1 W hv0 hn0 (Lib.tabBelow_of_tabIs (show Lib.TabIs Tryz.prog W "internal/strconv.uint64pow10" .u64 Lib.pow10Tab from tab hL))).mono fun e W' ⟨he, bel⟩ => ?_
  subst he
  exact ⟨_, rfl, _, _, _, [], _, [], hW', trodAll_mk1 (shut_bool Tryz.underlying4 _), (trodAll_cons_mk (Below.trod laidOut (by kernel_rfl) (of_decide_eq_true (by kernel_rfl)) k0 bel lt0) (trodAll_cons_mk (shut_int Tryz.underlying3 m1) trodAll_mk0)), rfl, bel.frame _, fun h => by cases h⟩

def laidCells (zs : List Int) (k : IntKind) : Obj → Obj
  | .cells _ t frozen => .cells (zs.map fun z => Value.int k z).toArray t frozen
  | x => x

theorem laid_met (os : Os) : laidMet Tryz.prog Rows.fnExactRoundOfRow.laid (({ World.holding Tryz.prog os ⟨#[], #[], []⟩ with heap := ((((World.holding Tryz.prog os ⟨#[], #[], []⟩).heap.modify 2 (laidCells zs0 .u8)).modify 3 (laidCells zs1 .u8)).modify 1 (laidCells zs2 .u64)) } : World).forCall (fun _ _ => 0) ⟨#[], #[.slice none 0 0, .int .i64 0], []⟩).memory :=
  laidMet_of_run' 8 (by kernel_rfl) (by kernel_rfl)

theorem reads (os : Os) {H : Type} (enc : TypeId × Value → H) : ∃ places, DataW.whole enc Tryz.prog (({ World.holding Tryz.prog os ⟨#[], #[], []⟩ with heap := ((((World.holding Tryz.prog os ⟨#[], #[], []⟩).heap.modify 2 (laidCells zs0 .u8)).modify 3 (laidCells zs1 .u8)).modify 1 (laidCells zs2 .u64)) } : World).forCall (fun _ _ => 0) ⟨#[], #[.slice none 0 0, .int .i64 0], []⟩).memory Tryz.f7.params.toList Rows.fnExactRoundOfSpec.vars false (#[.slice none 0 0, .int .i64 0] : Array Value).toList 8 = some ([.nil, .lit (.int .i64 0)], [], places) :=
  ⟨[], by kernel_rfl⟩

set_option maxRecDepth 100000 in
theorem lifted (os : Os) (started : os.Started) (H : Type) (enc : TypeId × Value → H) (F : Stop.Interp) :
    ReturnsInHanded {} Tryz.checked os 7 .any ((OpenSpec.ofChange Rows.fnExactRoundOfSpec).preRow enc Tryz.prog Tryz.f7 Rows.fnExactRoundOfRow.domain false Rows.fnExactRoundOfRow.laid) (((OpenSpec.ofChange Rows.fnExactRoundOfSpec).at F).post enc Tryz.prog Tryz.f7 false true false false) := by
  obtain ⟨places, hx⟩ := reads os enc
  refine returnsInHanded_of_row (C := Tryz.checked) (s := OpenSpec.ofChange Rows.fnExactRoundOfSpec) own started (by kernel_rfl) Tryz.func7
    (witness_row_at (enc := enc) (C := Tryz.checked) false ({ World.holding Tryz.prog os ⟨#[], #[], []⟩ with heap := ((((World.holding Tryz.prog os ⟨#[], #[], []⟩).heap.modify 2 (laidCells zs0 .u8)).modify 3 (laidCells zs1 .u8)).modify 1 (laidCells zs2 .u64)) } : World) #[.slice none 0 0, .int .i64 0] rfl (by kernel_rfl) (by kernel_rfl) (by kernel_rfl)
      (OpenSpec.preRow_of_cond 8 hx (by kernel_rfl) (fun k hk => by cases hk) (by kernel_rfl) (laid_met os))) ?_
  intro W base args ds gs before hval hW _ _ _ hL _ _
  exact contract H enc W base args ds gs before hval hW (plainLaid hL)

theorem said : Rows.FnExactRoundOfSaid :=
  OpenClaim.holds_of_cond 7 Tryz.f7 rfl rfl rfl rfl rfl rfl rfl ⟨rfl, rfl, rfl, rfl, rfl⟩ rfl rfl rfl rfl rfl (by kernel_rfl) Tryz.func7 (by kernel_rfl)
    (of_decide_eq_true (by kernel_rfl)) (by unfold Func.isWrapper; first | (rw [if_pos (by decide +kernel)]; kernel_rfl) | (rw [if_neg (by decide +kernel)]; exact ⟨rfl, rfl⟩))
    (fun os started H enc _ F => by rw [OpenClaim.pre_eq_preRow]; exact lifted os started H enc F)

theorem plain (f : FuncId) (fn : Func) (hf : Tryz.pinned.checked.prog.funcNamed "loop.example/g00105/laws.FnExactRoundOf" = some f) (hfn : Tryz.pinned.checked.prog.funcs[f]? = some fn) :
    false = Tryz.pinned.checked.prog.looks [] ∧ ∀ (j : Nat) t, fn.params[j]? = some t → Tryz.pinned.checked.prog.wantsStandIn t = false := by
  obtain rfl : f = 7 := Option.some.inj ((show Tryz.prog.funcNamed "loop.example/g00105/laws.FnExactRoundOf" = some 7 by kernel_rfl).symm.trans hf) |>.symm
  obtain rfl : fn = Tryz.f7 := (Option.some.inj (Tryz.func7.symm.trans hfn)).symm
  refine ⟨by kernel_rfl, fun j t ht => ?_⟩
  rw [Tryz.params7] at ht
  have hm : t = 22 ∨ t = 3 := by simpa using Array.mem_of_getElem? ht
  rcases hm with rfl | rfl
  · exact (show Tryz.prog.wantsStandIn 22 = false by kernel_rfl)
  · exact (show Tryz.prog.wantsStandIn 3 = false by kernel_rfl)

theorem card : Rows.FnExactRoundOfCardSaid :=
  Claim7.holds_tied_plain_at .later [] _ _ _ _ said (fun _ h => by cases h) (by kernel_rfl) (fun _ h => by cases h) fnExactRoundOf_row_tie rfl ⟨rfl, rfl⟩ (by kernel_rfl) rfl plain (by kernel_rfl)
end Go.Proofs.YtocaodgloiigaaaGreatDoor.fnExactRoundOf
namespace Go.Proofs.YtocaodgloiigaaaGreatDoor
theorem fnExactRoundOf_holds : Rows.FnExactRoundOfCardSaid := fnExactRoundOf.card
#print axioms fnExactRoundOf_holds
end Go.Proofs.YtocaodgloiigaaaGreatDoor
