/-
  impl.PiecesOf answers as the specification; it writes into no argument, and its answer owns its memory. Walk and frame written by program (tools/exactlaw.py).
-/
import Derived.Test.YtejfknkcakeakaaRows
import Derived.Test.YtejfknkcakeakaaLkZ
import Derived.Test.YtejfknkcakeakaaChecked
import Derived.Deep.RegionHeld3
import Derived.ShutString
import Derived.Below
namespace Go.Proofs.Ytejfknkcakeakaa.fnExactPiecesOf
open Go.Proofs.Ytejfknkcakeakaa Go.Proofs.Ytejfknkcakeakaa.Gr
open Go.ChangeShapes Go.WideShapes Go.ChangeAt Go.RowKit
open Go.ChangeMaps (open_string shut_string)

theorem own : ownKnob Try.prog.godebug = none := by kernel_rfl

theorem laidOut : laidOutB Try.prog = true := by kernel_rfl

set_option maxRecDepth 100000 in
set_option maxHeartbeats 4000000 in
theorem walk (v0 : Value) (s0 : Int) (Q0 : List EdgeI) (v1 : Value) (K1 : List Int) (w : World) (hv0 : GrAt w v0 w.heap.size s0 Q0) (hn0 : Q0.length ≤ 9223372036854775807) (hv1 : InAt w v1 w.heap.size K1) (hn1 : K1.length ≤ 9223372036854775807) :
    Calls Try.prog 4 #[v0, v1] w fun e w' => e = .returned (.bool true) ∧ Below w.heap.size w w' := by
  have HV0 := hide hv0
  have HV1 := hide hv1
  have HN0 := hide hn0
  have HN1 := hide hn1
  have sh0 := hv0.shape
  obtain ⟨a0, c0, rfl⟩ := sh0
  have sh1 := hv1.shape
  obtain ⟨a1, c1, rfl⟩ := sh1
  clear hv0 hv1 hn0 hn1
  by_cases hbig1 : (1048576 : Int) < (K1.length : Int)
  · go_enter Try.func4, Try.ntmps4
    go_wp2
    go_ret
    exact ⟨rfl, (Below.refl _ _).alloc (by simp) _⟩
  · have hsm1 : K1.length ≤ 1048576 := by omega
    obtain ⟨W1, hW2⟩ : ∃ W, W = w.alloc (Obj.cells #[Value.int .i64 s0, Value.slice a0 Q0.length c0] 24) := ⟨_, rfl⟩
    have hb3 : Below w.heap.size w W1 := by rw [hW2]; exact below_new _ _
    have HX4 : Hid (CBox W1 w.heap.size #[Value.int .i64 s0, Value.slice a0 Q0.length c0] 24) := by show CBox _ _ _ _; rw [hW2]; exact CBox.new _ _ _
    have hc5 : Below w.heap.size w W1 := hb3
    have hz6 : w.heap.size < W1.heap.size := by rw [hW2]; simp
    clear hb3
    have p7 : W1.cell? ⟨w.heap.size, 0, none⟩ = some (Value.int .i64 s0) := (unhide HX4).cell 0
    have p8 : W1.cell? ⟨w.heap.size, 1, none⟩ = some (Value.slice a0 Q0.length c0) := (unhide HX4).cell 1
    (try rw [hW2] at p7 p8)
    go_enter Try.func4, Try.ntmps4
    go_wp2_with fail
    rw [← hW2]
    clear hW2 p7 p8
    refine (szGraph_gen _ w.heap.size s0 Q0 1048576 (by omega) (by omega) (unhide HN0) W1 ((unhide HV0).below hc5 (Nat.le_refl _))).mono ?_
    rintro e uw10 ⟨⟨z9, rfl, hxz9, hyz9⟩, hb11⟩
    have HX4 := hide ((unhide HX4).below hb11)
    have hc12 : Below w.heap.size w uw10 := hc5.trans (hb11.mono hc5.size)
    have hz13 : W1.heap.size ≤ uw10.heap.size := hb11.size
    clear hb11
    by_cases hnegz9 : z9 < 0
    · go_wp2
      go_ret
      exact ⟨rfl, hc12⟩
    · have htz9 := hyz9 (by omega)
      have hb0 : Q0.length ≤ 1048576 := by omega
      have hb1 : K1.length ≤ 1048576 := by omega
      have TO0 := hide (fun w1 (hb : Below w.heap.size w w1) => toGraph_any _ w.heap.size s0 Q0 hb0 w1 hb.size ((unhide HV0).below hb (Nat.le_refl _)))
      have EQ0 := hide (fun w1 d d1 (hd : GrAt w1 d w1.heap.size s0 Q0) (hd1 : GrAt w1 d1 w1.heap.size s0 Q0) => eqGraph_same d d1 w1.heap.size w1.heap.size s0 Q0 hb0 w1 (Nat.le_refl _) (Nat.le_refl _) hd hd1)
      have TO1 := hide (fun w1 (hb : Below w.heap.size w w1) => toInts_gen _ w.heap.size K1 hb1 w1 hb.size ((unhide HV1).below hb (Nat.le_refl _)))
      have EQ1 := hide (fun w1 d d1 (hd : InAt w1 d w1.heap.size K1) (hd1 : InAt w1 d1 w1.heap.size K1) => eqInts_gen d d1 w1.heap.size w1.heap.size K1 hb1 w1 (Nat.le_refl _) (Nat.le_refl _) hd hd1)
      have SP := hide (fun w1 d0 (hd0 : GrAt w1 d0 w1.heap.size s0 Q0) d1 (hd1 : InAt w1 d1 w1.heap.size K1) => Lk.specPieces_gen w1.heap.size d0 s0 Q0 d1 K1 hb0 hb1 w1 (Nat.le_refl _) hd0 hd1)
      have IM := hide (fun w1 d0 (hd0 : GrAt w1 d0 w1.heap.size s0 Q0) d1 (hd1 : InAt w1 d1 w1.heap.size K1) => Lk.implPieces_gen w1.heap.size d0 s0 Q0 d1 K1 hb0 hb1 w1 (Nat.le_refl _) hd0 hd1)
      have hl0 : Lk.ssz (Lk.piecesR s0 Q0 K1) ≤ 1048576 := by first | omega | (exact Nat.le_trans (Lk.pieces_len s0 Q0 K1) (by omega))
      generalize Lk.piecesR s0 Q0 K1 = KSr0 at SP IM hl0
      have ER0 := hide (fun w1 d d1 (hd : Lk.SsAt w1 d w1.heap.size KSr0) (hd1 : Lk.SsAt w1 d1 w1.heap.size KSr0) => Lk.eqSS_gen d d1 w1.heap.size w1.heap.size KSr0 hl0 w1 (Nat.le_refl _) (Nat.le_refl _) hd hd1)
      have MK0 := hide (fun w1 B d (hd : GrOwn w1 B d s0 Q0) => markGraph_any d B 1 s0 Q0 (by omega) w1 hd)
      obtain ⟨kx0, hkx0⟩ : ∃ k : Nat, k = 1 + Q0.length * 5 := ⟨_, rfl⟩
      rw [← hkx0] at MK0
      have hkn0 : ¬ ((kx0 : Nat) : Int) < 0 := by omega
      have MK1 := hide (fun w1 B d (hd : InOwn w1 B d K1) => markInts_gen d B kx0 K1 (by omega) w1 hd)
      obtain ⟨kx1, hkx1⟩ : ∃ k : Nat, k = kx0 + K1.length := ⟨_, rfl⟩
      rw [← hkx1] at MK1
      have hkn1 : ¬ ((kx1 : Nat) : Int) < 0 := by omega
      have MR0 := hide (fun w1 B d vs (hd : Lk.SsV w1 B d vs KSr0) => Lk.markSS_gen d vs B 1 KSr0 (by omega) hl0 w1 hd)
      have HR0 := hide (fun w1 d (hd : Lk.SsAt w1 d w1.heap.size (Lk.marksSS 1 KSr0)) => Lk.heldSS_gen d w1.heap.size 1 KSr0 (by omega) hl0 w1 (Nat.le_refl _) hd)
      obtain ⟨km0, hkm0⟩ : ∃ k : Nat, k = 1 + KSr0.flatten.length := ⟨_, rfl⟩
      rw [← hkm0] at MR0 HR0
      have hkr0 : ¬ ((km0 : Nat) : Int) < 0 := by omega
      have hkq0 : (((km0 : Nat) : Int) != ((km0 : Nat) : Int)) = false := by simp
      clear hkx0 hkx1 hkm0 hb0 hb1 hl0
      have p14 : uw10.cell? ⟨w.heap.size, 0, none⟩ = some (Value.int .i64 s0) := (unhide HX4).cell 0
      have p15 : uw10.cell? ⟨w.heap.size, 1, none⟩ = some (Value.slice a0 Q0.length c0) := (unhide HX4).cell 1
      go_wp2_with fail
      clear p14 p15
      refine (unhide TO0 uw10 hc12).mono ?_
      rintro e uw18 ⟨⟨d16, rfl, ho17⟩, hb19⟩
      have HX4 := hide ((unhide HX4).below hb19)
      have hc20 : Below w.heap.size w uw18 := hc12.trans (hb19.mono hc12.size)
      have hz21 : uw10.heap.size ≤ uw18.heap.size := hb19.size
      clear hb19
      have HO23 := hide ho17
      have HB24 := hide ho17.blk
      have hs27 := ho17.at.shape
      obtain ⟨a25, c26, rfl⟩ := hs27
      clear ho17
      go_wp2_with fail
      refine (unhide TO1 uw18 hc20).mono ?_
      rintro e uw30 ⟨⟨d28, rfl, ho29⟩, hb31⟩
      have HX4 := hide ((unhide HX4).below hb31)
      have HO23 := hide ((unhide HO23).below hb31)
      have hc32 : Below w.heap.size w uw30 := hc20.trans (hb31.mono hc20.size)
      have hz33 : uw18.heap.size ≤ uw30.heap.size := hb31.size
      clear hb31
      have HO35 := hide ho29
      have HB36 := hide ho29.blk
      have hs39 := ho29.at.shape
      obtain ⟨a37, c38, rfl⟩ := hs39
      clear ho29
      go_wp2_with fail
      refine (unhide SP uw30 _ (unhide HO23).at _ (unhide HO35).at).mono ?_
      rintro e uw42 ⟨⟨d40, rfl, ho41⟩, hb43⟩
      have HX4 := hide ((unhide HX4).below hb43)
      have HO23 := hide ((unhide HO23).below hb43)
      have HO35 := hide ((unhide HO35).below hb43)
      have hc44 : Below w.heap.size w uw42 := hc32.trans (hb43.mono hc32.size)
      have hz45 : uw30.heap.size ≤ uw42.heap.size := hb43.size
      clear hb43
      obtain ⟨vs48, ho41⟩ := ho41
      have HO46 := hide ho41
      have HB47 := hide ho41.blk
      have hs51 := ho41.at.shape
      obtain ⟨a49, c50, rfl⟩ := hs51
      clear ho41
      have p52 : uw42.cell? ⟨w.heap.size, 0, none⟩ = some (Value.int .i64 s0) := (unhide HX4).cell 0
      have p53 : uw42.cell? ⟨w.heap.size, 1, none⟩ = some (Value.slice a0 Q0.length c0) := (unhide HX4).cell 1
      go_wp2_with fail
      clear p52 p53
      refine (unhide TO0 uw42 hc44).mono ?_
      rintro e uw56 ⟨⟨d54, rfl, ho55⟩, hb57⟩
      have HX4 := hide ((unhide HX4).below hb57)
      have HO46 := hide ((unhide HO46).below hb57)
      have hc58 : Below w.heap.size w uw56 := hc44.trans (hb57.mono hc44.size)
      have hz59 : uw42.heap.size ≤ uw56.heap.size := hb57.size
      clear hb57
      have HO60 := hide ho55
      have HB61 := hide ho55.blk
      have hs64 := ho55.at.shape
      obtain ⟨a62, c63, rfl⟩ := hs64
      clear ho55
      obtain ⟨W65, hW66⟩ : ∃ W, W = uw56.alloc (Obj.cells #[Value.int .i64 s0, Value.slice a62 Q0.length c63] 30) := ⟨_, rfl⟩
      have hb67 : Below uw56.heap.size uw56 W65 := by rw [hW66]; exact below_new _ _
      have HX4 := hide ((unhide HX4).below hb67)
      have HO46 := hide ((unhide HO46).below hb67)
      have HO60 := hide ((unhide HO60).below hb67)
      have HX68 : Hid (CBox W65 uw56.heap.size #[Value.int .i64 s0, Value.slice a62 Q0.length c63] 30) := by show CBox _ _ _ _; rw [hW66]; exact CBox.new _ _ _
      have hc69 : Below w.heap.size w W65 := hc58.trans (hb67.mono hc58.size)
      have hz70 : uw56.heap.size < W65.heap.size := by rw [hW66]; simp
      clear hb67
      go_wp2_with fail
      rw [← hW66]
      clear hW66
      refine (unhide TO1 W65 hc69).mono ?_
      rintro e uw73 ⟨⟨d71, rfl, ho72⟩, hb74⟩
      have HX4 := hide ((unhide HX4).below hb74)
      have HO46 := hide ((unhide HO46).below hb74)
      have HO60 := hide ((unhide HO60).below hb74)
      have HX68 := hide ((unhide HX68).below hb74)
      have hc75 : Below w.heap.size w uw73 := hc69.trans (hb74.mono hc69.size)
      have hz76 : W65.heap.size ≤ uw73.heap.size := hb74.size
      clear hb74
      have HO77 := hide ho72
      have HB78 := hide ho72.blk
      have hs81 := ho72.at.shape
      obtain ⟨a79, c80, rfl⟩ := hs81
      clear ho72
      have p82 : uw73.cell? ⟨uw56.heap.size, 0, none⟩ = some (Value.int .i64 s0) := (unhide HX68).cell 0
      have p83 : uw73.cell? ⟨uw56.heap.size, 1, none⟩ = some (Value.slice a62 Q0.length c63) := (unhide HX68).cell 1
      go_wp2_with fail
      clear p82 p83
      refine (unhide IM uw73 _ (unhide HO60).at _ (unhide HO77).at).mono ?_
      rintro e uw86 ⟨⟨d84, rfl, ho85⟩, hb87⟩
      have HX4 := hide ((unhide HX4).below hb87)
      have HO46 := hide ((unhide HO46).below hb87)
      have HO60 := hide ((unhide HO60).below hb87)
      have HX68 := hide ((unhide HX68).below hb87)
      have HO77 := hide ((unhide HO77).below hb87)
      have hc88 : Below w.heap.size w uw86 := hc75.trans (hb87.mono hc75.size)
      have hz89 : uw73.heap.size ≤ uw86.heap.size := hb87.size
      clear hb87
      obtain ⟨vs92, ho85⟩ := ho85
      have HO90 := hide ho85
      have HB91 := hide ho85.blk
      have hs95 := ho85.at.shape
      obtain ⟨a93, c94, rfl⟩ := hs95
      clear ho85
      go_wp2_with fail
      refine (unhide ER0 uw86 _ _ (unhide HO90).at (unhide HO46).at).mono ?_
      rintro e uw96 ⟨rfl, hb97⟩
      have HX4 := hide ((unhide HX4).below hb97)
      have HO46 := hide ((unhide HO46).below hb97)
      have HO60 := hide ((unhide HO60).below hb97)
      have HX68 := hide ((unhide HX68).below hb97)
      have HO77 := hide ((unhide HO77).below hb97)
      have HO90 := hide ((unhide HO90).below hb97)
      have hc98 : Below w.heap.size w uw96 := hc88.trans (hb97.mono hc88.size)
      have hz99 : uw86.heap.size ≤ uw96.heap.size := hb97.size
      clear hb97
      have r0 : uw96.cell? ⟨uw56.heap.size, 0, none⟩ = some (Value.int .i64 s0) := (unhide HX68).cell 0
      have r1 : uw96.cell? ⟨uw56.heap.size, 1, none⟩ = some (Value.slice a62 Q0.length c63) := (unhide HX68).cell 1
      have p0 : uw96.cell? ⟨w.heap.size, 0, none⟩ = some (Value.int .i64 s0) := (unhide HX4).cell 0
      have p1 : uw96.cell? ⟨w.heap.size, 1, none⟩ = some (Value.slice a0 Q0.length c0) := (unhide HX4).cell 1
      have hk0 : uw56.heap.size < uw96.heap.size := (unhide HX68).lt
      have hk1 : w.heap.size < uw96.heap.size := (unhide HX4).lt
      have LIVE := hide (fun w8 (hb : Below uw96.heap.size uw96 w8) => And.intro ((unhide HX4).below hb) (And.intro ((unhide HO46).below hb) (And.intro ((unhide HO60).below hb) (And.intro ((unhide HX68).below hb) (And.intro ((unhide HO77).below hb) ((unhide HO90).below hb))))))
      have HOD := hide ((unhide HO60).at.below ((Below.refl uw96.heap.size uw96).drew) (Nat.le_refl _))
      go_wp2_with fail
      go_region_held3 (fun u => u.cell? ⟨uw56.heap.size, 0, none⟩ = some (Value.int .i64 s0) ∧ u.cell? ⟨uw56.heap.size, 1, none⟩ = some (Value.slice a62 Q0.length c63) ∧ u.cell? ⟨w.heap.size, 0, none⟩ = some (Value.int .i64 s0) ∧ u.cell? ⟨w.heap.size, 1, none⟩ = some (Value.slice a0 Q0.length c0))
        (first | go_keep | exact ⟨(hb9.cell (p := ⟨uw56.heap.size, 0, none⟩) l0).trans qr0, (hb9.cell (p := ⟨uw56.heap.size, 1, none⟩) l0).trans qr1, (hb9.cell (p := ⟨w.heap.size, 0, none⟩) l1).trans qp0, (hb9.cell (p := ⟨w.heap.size, 1, none⟩) l1).trans qp1⟩ | exact ⟨qr0, qr1, qp0, qp1⟩)
        (first
          | (go_at_call 12; refine (unhide TO0 _ hc98.drew).mono ?_; rintro e w8 ⟨⟨d8, rfl, ho8⟩, hb8⟩; have HE8 := hide ho8.at; have hs8 := ho8.at.shape; obtain ⟨a8, c8, rfl⟩ := hs8; have HO8 := hide (((unhide HOD).below hb8 (Nat.le_refl _)).mono (show uw96.heap.size ≤ w8.heap.size from hb8.size)); have qr0 := (hb8.cell (p := ⟨uw56.heap.size, 0, none⟩) hk0).trans r0; have qr1 := (hb8.cell (p := ⟨uw56.heap.size, 1, none⟩) hk0).trans r1; have qp0 := (hb8.cell (p := ⟨w.heap.size, 0, none⟩) hk1).trans p0; have qp1 := (hb8.cell (p := ⟨w.heap.size, 1, none⟩) hk1).trans p1; have l0 : uw56.heap.size < w8.heap.size := Nat.lt_of_lt_of_le hk0 hb8.size; have l1 : w.heap.size < w8.heap.size := Nat.lt_of_lt_of_le hk1 hb8.size; have hc8 : Below w.heap.size w w8 := hc98.drew.trans (hb8.mono hc98.size); have hb78 : Below uw96.heap.size uw96 w8 := (Below.refl uw96.heap.size uw96).drew.trans hb8; clear hb8)
          | (go_at_call 15; refine (unhide EQ0 w8 _ _ (unhide HO8) (unhide HE8)).mono ?_; rintro e w9 ⟨rfl, hb9⟩))
      have hb101 : Below uw96.heap.size uw96 w9 := hb78.trans (hb9.mono hb78.size)
      obtain ⟨zHX4, zHO46, zHO60, zHX68, zHO77, zHO90⟩ := unhide LIVE w9 hb101
      have HX4 := hide zHX4
      have HO46 := hide zHO46
      have HO60 := hide zHO60
      have HX68 := hide zHX68
      have HO77 := hide zHO77
      have HO90 := hide zHO90
      have hc102 : Below w.heap.size w w9 := hc98.trans (hb101.mono hc98.size)
      have hz103 : uw96.heap.size ≤ w9.heap.size := hb101.size
      obtain ⟨uw100, hwn⟩ : ∃ W, W = w9 := ⟨_, rfl⟩
      subst hwn
      clear hb78 hb101 hb9 hc8 LIVE HO8 HE8 HOD hk0 hk1 l0 l1 r0 r1 p0 p1 qr0 qr1 qp0 qp1 zHX4 zHO46 zHO60 zHX68 zHO77 zHO90
      go_wp2_with fail
      refine (unhide TO1 uw100 hc102).mono ?_
      rintro e uw106 ⟨⟨d104, rfl, ho105⟩, hb107⟩
      have HX4 := hide ((unhide HX4).below hb107)
      have HO46 := hide ((unhide HO46).below hb107)
      have HO60 := hide ((unhide HO60).below hb107)
      have HX68 := hide ((unhide HX68).below hb107)
      have HO77 := hide ((unhide HO77).below hb107)
      have HO90 := hide ((unhide HO90).below hb107)
      have hc108 : Below w.heap.size w uw106 := hc102.trans (hb107.mono hc102.size)
      have hz109 : uw100.heap.size ≤ uw106.heap.size := hb107.size
      clear hb107
      have HO111 := hide ho105
      have HB112 := hide ho105.blk
      have hs115 := ho105.at.shape
      obtain ⟨a113, c114, rfl⟩ := hs115
      clear ho105
      go_wp2_with fail
      refine (unhide EQ1 uw106 _ _ (unhide HO77).at (unhide HO111).at).mono ?_
      rintro e uw116 ⟨rfl, hb117⟩
      have HX4 := hide ((unhide HX4).below hb117)
      have HO46 := hide ((unhide HO46).below hb117)
      have HO60 := hide ((unhide HO60).below hb117)
      have HX68 := hide ((unhide HX68).below hb117)
      have HO77 := hide ((unhide HO77).below hb117)
      have HO90 := hide ((unhide HO90).below hb117)
      have HO111 := hide ((unhide HO111).below hb117)
      have hc118 : Below w.heap.size w uw116 := hc108.trans (hb117.mono hc108.size)
      have hz119 : uw106.heap.size ≤ uw116.heap.size := hb117.size
      clear hb117
      have p120 : uw116.cell? ⟨uw56.heap.size, 0, none⟩ = some (Value.int .i64 s0) := (unhide HX68).cell 0
      have p121 : uw116.cell? ⟨uw56.heap.size, 1, none⟩ = some (Value.slice a62 Q0.length c63) := (unhide HX68).cell 1
      go_wp2_with fail
      clear p120 p121
      refine (unhide MK0 uw116 _ _ (unhide HO60)).mono ?_
      rintro e uw122 ⟨rfl, ho124, hk123⟩
      have HX4 := hide ((unhide HX4).kept hk123 (fun h => by have h3 := unhide HB61 _ h; omega))
      have HO46 := hide ((unhide HO46).kept hk123 (fun g h0 h1 => by have h2 := unhide HB47 g h0; have h3 := unhide HB61 g h1; omega))
      have HX68 := hide ((unhide HX68).kept hk123 (fun h => by have h3 := unhide HB61 _ h; omega))
      have HO77 := hide ((unhide HO77).kept hk123 (fun g h0 h1 => by have h2 := unhide HB78 g h0; have h3 := unhide HB61 g h1; omega))
      have HO90 := hide ((unhide HO90).kept hk123 (fun g h0 h1 => by have h2 := unhide HB91 g h0; have h3 := unhide HB61 g h1; omega))
      have HO60 := hide ho124
      have hc125 : Below w.heap.size w uw122 := hc118.trans (hk123.below hc118.size (fun g hg => by have h3 := unhide HB61 g hg; omega))
      have hz126 : uw116.heap.size ≤ uw122.heap.size := hk123.2.2.2.1
      clear ho124 hk123
      go_wp2_with fail
      refine (unhide MK1 uw122 _ _ (unhide HO77)).mono ?_
      rintro e uw127 ⟨rfl, ho129, hk128⟩
      have HX4 := hide ((unhide HX4).kept hk128 (fun h => by have h3 := unhide HB78 _ h; omega))
      have HO46 := hide ((unhide HO46).kept hk128 (fun g h0 h1 => by have h2 := unhide HB47 g h0; have h3 := unhide HB78 g h1; omega))
      have HO60 := hide ((unhide HO60).kept hk128 (fun g h0 h1 => by have h2 := unhide HB61 g h0; have h3 := unhide HB78 g h1; omega))
      have HX68 := hide ((unhide HX68).kept hk128 (fun h => by have h3 := unhide HB78 _ h; omega))
      have HO90 := hide ((unhide HO90).kept hk128 (fun g h0 h1 => by have h2 := unhide HB91 g h0; have h3 := unhide HB78 g h1; omega))
      have HO77 := hide ho129
      have hc130 : Below w.heap.size w uw127 := hc125.trans (hk128.below hc125.size (fun g hg => by have h3 := unhide HB78 g hg; omega))
      have hz131 : uw122.heap.size ≤ uw127.heap.size := hk128.2.2.2.1
      clear ho129 hk128
      go_wp2_with fail
      refine (unhide ER0 uw127 _ _ (unhide HO90).at (unhide HO46).at).mono ?_
      rintro e uw132 ⟨rfl, hb133⟩
      have HX4 := hide ((unhide HX4).below hb133)
      have HO46 := hide ((unhide HO46).below hb133)
      have HO60 := hide ((unhide HO60).below hb133)
      have HX68 := hide ((unhide HX68).below hb133)
      have HO77 := hide ((unhide HO77).below hb133)
      have HO90 := hide ((unhide HO90).below hb133)
      have hc134 : Below w.heap.size w uw132 := hc130.trans (hb133.mono hc130.size)
      have hz135 : uw127.heap.size ≤ uw132.heap.size := hb133.size
      clear hb133
      go_wp2_with fail
      refine (unhide MR0 uw132 _ _ _ (unhide HO90)).mono ?_
      rintro e uw136 ⟨rfl, ho138, hk137⟩
      have HX4 := hide ((unhide HX4).kept hk137 (fun h => by have h3 := unhide HB91 _ h; omega))
      have HO46 := hide ((unhide HO46).kept hk137 (fun g h0 h1 => by have h2 := unhide HB47 g h0; have h3 := unhide HB91 g h1; omega))
      have HO60 := hide ((unhide HO60).kept hk137 (fun g h0 h1 => by have h2 := unhide HB61 g h0; have h3 := unhide HB91 g h1; omega))
      have HX68 := hide ((unhide HX68).kept hk137 (fun h => by have h3 := unhide HB91 _ h; omega))
      have HO77 := hide ((unhide HO77).kept hk137 (fun g h0 h1 => by have h2 := unhide HB78 g h0; have h3 := unhide HB91 g h1; omega))
      have HO90 := hide ho138
      have hc139 : Below w.heap.size w uw136 := hc134.trans (hk137.below hc134.size (fun g hg => by have h3 := unhide HB91 g hg; omega))
      have hz140 : uw132.heap.size ≤ uw136.heap.size := hk137.2.2.2.1
      clear ho138 hk137
      go_wp2_with fail
      refine (unhide HR0 uw136 _ (unhide HO90).at).mono ?_
      rintro e uw141 ⟨rfl, hb142⟩
      have HX4 := hide ((unhide HX4).below hb142)
      have HO46 := hide ((unhide HO46).below hb142)
      have HO60 := hide ((unhide HO60).below hb142)
      have HX68 := hide ((unhide HX68).below hb142)
      have HO77 := hide ((unhide HO77).below hb142)
      have HO90 := hide ((unhide HO90).below hb142)
      have hc143 : Below w.heap.size w uw141 := hc139.trans (hb142.mono hc139.size)
      have hz144 : uw136.heap.size ≤ uw141.heap.size := hb142.size
      clear hb142
      have p145 : uw141.cell? ⟨w.heap.size, 0, none⟩ = some (Value.int .i64 s0) := (unhide HX4).cell 0
      have p146 : uw141.cell? ⟨w.heap.size, 1, none⟩ = some (Value.slice a0 Q0.length c0) := (unhide HX4).cell 1
      go_wp2_with fail
      clear p145 p146
      refine (unhide TO0 uw141 hc143).mono ?_
      rintro e uw149 ⟨⟨d147, rfl, ho148⟩, hb150⟩
      have HX4 := hide ((unhide HX4).below hb150)
      have HO46 := hide ((unhide HO46).below hb150)
      have HO60 := hide ((unhide HO60).below hb150)
      have HX68 := hide ((unhide HX68).below hb150)
      have HO77 := hide ((unhide HO77).below hb150)
      have HO90 := hide ((unhide HO90).below hb150)
      have hc151 : Below w.heap.size w uw149 := hc143.trans (hb150.mono hc143.size)
      have hz152 : uw141.heap.size ≤ uw149.heap.size := hb150.size
      clear hb150
      have HO154 := hide ho148
      have HB155 := hide ho148.blk
      have hs158 := ho148.at.shape
      obtain ⟨a156, c157, rfl⟩ := hs158
      clear ho148
      go_wp2_with fail
      refine (unhide TO1 uw149 hc151).mono ?_
      rintro e uw161 ⟨⟨d159, rfl, ho160⟩, hb162⟩
      have HX4 := hide ((unhide HX4).below hb162)
      have HO46 := hide ((unhide HO46).below hb162)
      have HO60 := hide ((unhide HO60).below hb162)
      have HX68 := hide ((unhide HX68).below hb162)
      have HO77 := hide ((unhide HO77).below hb162)
      have HO90 := hide ((unhide HO90).below hb162)
      have HO154 := hide ((unhide HO154).below hb162)
      have hc163 : Below w.heap.size w uw161 := hc151.trans (hb162.mono hc151.size)
      have hz164 : uw149.heap.size ≤ uw161.heap.size := hb162.size
      clear hb162
      have HO166 := hide ho160
      have HB167 := hide ho160.blk
      have hs170 := ho160.at.shape
      obtain ⟨a168, c169, rfl⟩ := hs170
      clear ho160
      go_wp2_with fail
      refine (unhide IM uw161 _ (unhide HO154).at _ (unhide HO166).at).mono ?_
      rintro e uw173 ⟨⟨d171, rfl, ho172⟩, hb174⟩
      have HX4 := hide ((unhide HX4).below hb174)
      have HO46 := hide ((unhide HO46).below hb174)
      have HO60 := hide ((unhide HO60).below hb174)
      have HX68 := hide ((unhide HX68).below hb174)
      have HO77 := hide ((unhide HO77).below hb174)
      have HO90 := hide ((unhide HO90).below hb174)
      have HO154 := hide ((unhide HO154).below hb174)
      have HO166 := hide ((unhide HO166).below hb174)
      have hc175 : Below w.heap.size w uw173 := hc163.trans (hb174.mono hc163.size)
      have hz176 : uw161.heap.size ≤ uw173.heap.size := hb174.size
      clear hb174
      obtain ⟨vs179, ho172⟩ := ho172
      have HO177 := hide ho172
      have HB178 := hide ho172.blk
      have hs182 := ho172.at.shape
      obtain ⟨a180, c181, rfl⟩ := hs182
      clear ho172
      go_wp2_with fail
      refine (unhide ER0 uw173 _ _ (unhide HO177).at (unhide HO46).at).mono ?_
      rintro e uw183 ⟨rfl, hb184⟩
      have HX4 := hide ((unhide HX4).below hb184)
      have HO46 := hide ((unhide HO46).below hb184)
      have HO60 := hide ((unhide HO60).below hb184)
      have HX68 := hide ((unhide HX68).below hb184)
      have HO77 := hide ((unhide HO77).below hb184)
      have HO90 := hide ((unhide HO90).below hb184)
      have HO177 := hide ((unhide HO177).below hb184)
      have hc185 : Below w.heap.size w uw183 := hc175.trans (hb184.mono hc175.size)
      have hz186 : uw173.heap.size ≤ uw183.heap.size := hb184.size
      clear hb184
      go_wp2_with fail
      refine (unhide HR0 uw183 _ (unhide HO90).at).mono ?_
      rintro e uw187 ⟨rfl, hb188⟩
      have HX4 := hide ((unhide HX4).below hb188)
      have HO46 := hide ((unhide HO46).below hb188)
      have HO60 := hide ((unhide HO60).below hb188)
      have HX68 := hide ((unhide HX68).below hb188)
      have HO77 := hide ((unhide HO77).below hb188)
      have HO90 := hide ((unhide HO90).below hb188)
      have HO177 := hide ((unhide HO177).below hb188)
      have hc189 : Below w.heap.size w uw187 := hc185.trans (hb188.mono hc185.size)
      have hz190 : uw183.heap.size ≤ uw187.heap.size := hb188.size
      clear hb188
      go_wp2
      go_ret
      exact ⟨rfl, hc189⟩

set_option maxRecDepth 100000 in
theorem lifted (os : Os) (started : os.Started) (H : Type) (enc : TypeId × Value → H) :
    ReturnsInHanded {} Try.checked os 4 .any (Rows.fnExactPiecesOfSpec.pre6 enc Try.prog Try.f4 Rows.fnExactPiecesOfRow.domain false) (Rows.fnExactPiecesOfSpec.post enc Try.prog Try.f4 false true false false) := by
  refine returnsInHanded_of_change (C := Try.checked) own started (by kernel_rfl) Try.func4
    (ChangeSpec.witness6 (enc := enc) (C := Try.checked) false ⟨#[], #[.agg #[.int .i64 0, .slice none 0 0], .slice none 0 0], []⟩ 8 (by kernel_rfl) (by kernel_rfl) (by kernel_rfl) (by kernel_rfl)) ?_
  intro W base args ds gs before hval0 hW _ _
  have hval : ∀ (j : Nat) t v, Try.f4.params[j]? = some t → args[j]? = some v → Value.okWide Try.prog W .any base t v := hval0
  have hW' := hW
  obtain ⟨p, q, hA0, hV, rfl, hfz, hnd⟩ := hW
  have hA : DataW.TrodAll enc Try.prog W 0 (fun _ => true) true Try.f4.params.toList args.toList ds p := hA0
  rw [Try.params4] at hA hval
  obtain ⟨v0, vs0, d0, ds0, p0, q0, hargs, rfl, rfl, h0, r0⟩ := trodAll_cons hA
  obtain ⟨v1, vs1, d1, ds1, p1, q1, rfl, rfl, rfl, h1, r1⟩ := trodAll_cons r0
  obtain ⟨rfl, rfl, rfl⟩ := trodAll_nil r1
  obtain rfl : args = #[v0, v1] := by cases args; simp_all
  obtain ⟨rfl, rfl⟩ := trodVars_none hV
  have k0 := h0
  have lt0 : ∀ x ∈ p0, x.block < W.heap.size := by obtain ⟨m, hm⟩ := k0; exact DataW.trod_lt m _ _ _ hm
  obtain ⟨s0, Q0, hv0, hn0⟩ := graph_in (hval 0 24 v0 rfl rfl) h0
  have k1 := h1
  have lt1 : ∀ x ∈ p1, x.block < W.heap.size := by obtain ⟨m, hm⟩ := k1; exact DataW.trod_lt m _ _ _ hm
  obtain ⟨K1, hv1, hn1⟩ := ints_in (hval 1 26 v1 rfl rfl) h1
  clear hA0 hval0
  refine (walk v0 s0 Q0 v1 K1 W hv0 hn0 hv1 hn1).mono fun e W' ⟨he, bel⟩ => ?_
  subst he
  exact ⟨_, rfl, _, _, _, [], _, [], hW', trodAll_mk1 (shut_bool Try.underlying4 _), (trodAll_cons_mk (Below.trod laidOut (by kernel_rfl) (of_decide_eq_true (by kernel_rfl)) k0 bel lt0) (trodAll_cons_mk (Below.trod laidOut (by kernel_rfl) (of_decide_eq_true (by kernel_rfl)) k1 bel lt1) trodAll_mk0)), rfl, bel.frame _, fun h => by cases h⟩

theorem over : Rows.fnExactPiecesOfRow.holds Try.pinned (OpenSpec.ofChange Rows.fnExactPiecesOfSpec) :=
  OpenClaim.holds_of_wide 4 Try.f4 rfl rfl rfl rfl rfl rfl rfl ⟨rfl, rfl, rfl, rfl, rfl⟩ rfl rfl rfl rfl rfl (by kernel_rfl) Try.func4 (by kernel_rfl)
    (of_decide_eq_true (by kernel_rfl)) (by unfold Func.isWrapper; first | (rw [if_pos (by decide +kernel)]; kernel_rfl) | (rw [if_neg (by decide +kernel)]; exact ⟨rfl, rfl⟩))
    (fun os started H enc _ => lifted os started H enc)

end Go.Proofs.Ytejfknkcakeakaa.fnExactPiecesOf
namespace Go.Proofs.Ytejfknkcakeakaa
theorem fnExactPiecesOf_holds : Rows.FnExactPiecesOfSaid := fnExactPiecesOf.over
#print axioms fnExactPiecesOf_holds
end Go.Proofs.Ytejfknkcakeakaa
