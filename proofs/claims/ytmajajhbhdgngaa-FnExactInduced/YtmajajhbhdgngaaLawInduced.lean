/-
  impl.Induced answers as the specification; it writes into no argument, and its answer owns its memory. Walk and frame written by program (tools/exactlaw.py).
-/
import Derived.Test.YtmajajhbhdgngaaRows
import Derived.Test.YtmajajhbhdgngaaGrImpl
import Derived.Test.YtmajajhbhdgngaaChecked
import Derived.Deep.RegionHeld3
import Derived.ShutString
import Derived.Below
namespace Go.Proofs.Ytmajajhbhdgngaa.fnExactInduced
open Go.Proofs.Ytmajajhbhdgngaa Go.Proofs.Ytmajajhbhdgngaa.Gr
open Go.ChangeShapes Go.WideShapes Go.ChangeAt Go.RowKit

theorem own : ownKnob Try.prog.godebug = none := by kernel_rfl

theorem laidOut : laidOutB Try.prog = true := by kernel_rfl

set_option maxRecDepth 100000 in
set_option maxHeartbeats 4000000 in
theorem walk (v0 : Value) (s0 : Int) (Q0 : List EdgeI) (v1 : Value) (K1 : List Int) (w : World) (hv0 : GrAt w v0 w.heap.size s0 Q0) (hn0 : Q0.length ≤ 9223372036854775807) (hv1 : InAt w v1 w.heap.size K1) (hn1 : K1.length ≤ 9223372036854775807) :
    Calls Try.prog 6 #[v0, v1] w fun e w' => e = .returned (.bool true) ∧ Below w.heap.size w w' := by
  have HV0 := hide hv0
  have HV1 := hide hv1
  have HN0 := hide hn0
  have HN1 := hide hn1
  have sh0 := hv0.shape
  obtain ⟨a0, c0, rfl⟩ := sh0
  have sh1 := hv1.shape
  obtain ⟨a1, c1, rfl⟩ := sh1
  clear hv0 hv1 hn0 hn1
  by_cases hbig1 : (1048576 : Int) < (K1.length : Int)
  · go_enter Try.func6, Try.ntmps6
    go_wp2
    go_ret
    exact ⟨rfl, (Below.refl _ _).alloc (by simp) _⟩
  · have hsm1 : K1.length ≤ 1048576 := by omega
    obtain ⟨W1, hW2⟩ : ∃ W, W = w.alloc (Obj.cells #[Value.int .i64 s0, Value.slice a0 Q0.length c0] 24) := ⟨_, rfl⟩
    have hb3 : Below w.heap.size w W1 := by rw [hW2]; exact below_new _ _
    have HX4 : Hid (CBox W1 w.heap.size #[Value.int .i64 s0, Value.slice a0 Q0.length c0] 24) := by show CBox _ _ _ _; rw [hW2]; exact CBox.new _ _ _
    have hc5 : Below w.heap.size w W1 := hb3
    have hz6 : w.heap.size < W1.heap.size := by rw [hW2]; simp
    clear hb3
    have p7 : W1.cell? ⟨w.heap.size, 0, none⟩ = some (Value.int .i64 s0) := (unhide HX4).cell 0
    have p8 : W1.cell? ⟨w.heap.size, 1, none⟩ = some (Value.slice a0 Q0.length c0) := (unhide HX4).cell 1
    (try rw [hW2] at p7 p8)
    go_enter Try.func6, Try.ntmps6
    go_wp2_with fail
    rw [← hW2]
    clear hW2 p7 p8
    refine (szGraph_gen _ w.heap.size s0 Q0 1048576 (by omega) (by omega) (unhide HN0) W1 ((unhide HV0).below hc5 (Nat.le_refl _))).mono ?_
    rintro e uw10 ⟨⟨z9, rfl, hxz9, hyz9⟩, hb11⟩
    have HX4 := hide ((unhide HX4).below hb11)
    have hc12 : Below w.heap.size w uw10 := hc5.trans (hb11.mono hc5.size)
    have hz13 : W1.heap.size ≤ uw10.heap.size := hb11.size
    clear hb11
    by_cases hnegz9 : z9 < 0
    · go_wp2
      go_ret
      exact ⟨rfl, hc12⟩
    · have htz9 := hyz9 (by omega)
      have hb0 : Q0.length ≤ 1048576 := by omega
      have hb1 : K1.length ≤ 1048576 := by omega
      have TO0 := hide (fun w1 (hb : Below w.heap.size w w1) => toGraph_any _ w.heap.size s0 Q0 hb0 w1 hb.size ((unhide HV0).below hb (Nat.le_refl _)))
      have EQ0 := hide (fun w1 d d1 (hd : GrAt w1 d w1.heap.size s0 Q0) (hd1 : GrAt w1 d1 w1.heap.size s0 Q0) => eqGraph_same d d1 w1.heap.size w1.heap.size s0 Q0 hb0 w1 (Nat.le_refl _) (Nat.le_refl _) hd hd1)
      have TO1 := hide (fun w1 (hb : Below w.heap.size w w1) => toInts_gen _ w.heap.size K1 hb1 w1 hb.size ((unhide HV1).below hb (Nat.le_refl _)))
      have EQ1 := hide (fun w1 d d1 (hd : InAt w1 d w1.heap.size K1) (hd1 : InAt w1 d1 w1.heap.size K1) => eqInts_gen d d1 w1.heap.size w1.heap.size K1 hb1 w1 (Nat.le_refl _) (Nat.le_refl _) hd hd1)
      have SP := hide (fun w1 d0 (hd0 : GrAt w1 d0 w1.heap.size s0 Q0) d1 (hd1 : InAt w1 d1 w1.heap.size K1) => specInd_gen w1.heap.size d0 s0 Q0 d1 K1 hb0 hb1 w1 (Nat.le_refl _) hd0 hd1)
      have IM := hide (fun w1 d0 (hd0 : GrAt w1 d0 w1.heap.size s0 Q0) d1 (hd1 : InAt w1 d1 w1.heap.size K1) => implInd_gen w1.heap.size d0 s0 Q0 d1 K1 hb0 hb1 w1 (Nat.le_refl _) hd0 hd1)
      have hl0 : (indQ s0 Q0 K1).length ≤ 1048576 := by first | omega | (exact Nat.le_trans (indQ_length s0 Q0 K1) (by omega))
      generalize indS s0 Q0 K1 = sr0 at SP IM
      generalize indQ s0 Q0 K1 = Qr0 at SP IM hl0
      generalize indOk s0 Q0 K1 = ret1 at SP IM
      have hne1 : (ret1 != ret1) = false := by simp
      have ER0 := hide (fun w1 d d1 (hd : GrAt w1 d w1.heap.size sr0 Qr0) (hd1 : GrAt w1 d1 w1.heap.size sr0 Qr0) => eqGraph_same d d1 w1.heap.size w1.heap.size sr0 Qr0 hl0 w1 (Nat.le_refl _) (Nat.le_refl _) hd hd1)
      have MK0 := hide (fun w1 B d (hd : GrOwn w1 B d s0 Q0) => markGraph_any d B 1 s0 Q0 (by omega) w1 hd)
      obtain ⟨kx0, hkx0⟩ : ∃ k : Nat, k = 1 + Q0.length * 5 := ⟨_, rfl⟩
      rw [← hkx0] at MK0
      have hkn0 : ¬ ((kx0 : Nat) : Int) < 0 := by omega
      have MK1 := hide (fun w1 B d (hd : InOwn w1 B d K1) => markInts_gen d B kx0 K1 (by omega) w1 hd)
      obtain ⟨kx1, hkx1⟩ : ∃ k : Nat, k = kx0 + K1.length := ⟨_, rfl⟩
      rw [← hkx1] at MK1
      have hkn1 : ¬ ((kx1 : Nat) : Int) < 0 := by omega
      have MR0 := hide (fun w1 B d (hd : GrOwn w1 B d sr0 Qr0) => markGraph_any d B 1 sr0 Qr0 (by omega) w1 hd)
      have HR0 := hide (fun w1 d (hd : GrAt w1 d w1.heap.size sr0 (marksEdge 1 Qr0.length)) => heldGraph_any d w1.heap.size 1 Qr0.length sr0 (by omega) w1 (Nat.le_refl _) hd)
      obtain ⟨km0, hkm0⟩ : ∃ k : Nat, k = 1 + Qr0.length * 5 := ⟨_, rfl⟩
      rw [← hkm0] at MR0 HR0
      have hkr0 : ¬ ((km0 : Nat) : Int) < 0 := by omega
      have hkq0 : (((km0 : Nat) : Int) != ((km0 : Nat) : Int)) = false := by simp
      clear hkx0 hkx1 hkm0 hb0 hb1 hl0
      have p14 : uw10.cell? ⟨w.heap.size, 0, none⟩ = some (Value.int .i64 s0) := (unhide HX4).cell 0
      have p15 : uw10.cell? ⟨w.heap.size, 1, none⟩ = some (Value.slice a0 Q0.length c0) := (unhide HX4).cell 1
      go_wp2_with fail
      clear p14 p15
      refine (unhide TO0 uw10 hc12).mono ?_
      rintro e uw18 ⟨⟨d16, rfl, ho17⟩, hb19⟩
      have HX4 := hide ((unhide HX4).below hb19)
      have hc20 : Below w.heap.size w uw18 := hc12.trans (hb19.mono hc12.size)
      have hz21 : uw10.heap.size ≤ uw18.heap.size := hb19.size
      clear hb19
      have HO23 := hide ho17
      have HB24 := hide ho17.blk
      have hs27 := ho17.at.shape
      obtain ⟨a25, c26, rfl⟩ := hs27
      clear ho17
      go_wp2_with fail
      refine (unhide TO1 uw18 hc20).mono ?_
      rintro e uw30 ⟨⟨d28, rfl, ho29⟩, hb31⟩
      have HX4 := hide ((unhide HX4).below hb31)
      have HO23 := hide ((unhide HO23).below hb31)
      have hc32 : Below w.heap.size w uw30 := hc20.trans (hb31.mono hc20.size)
      have hz33 : uw18.heap.size ≤ uw30.heap.size := hb31.size
      clear hb31
      have HO35 := hide ho29
      have HB36 := hide ho29.blk
      have hs39 := ho29.at.shape
      obtain ⟨a37, c38, rfl⟩ := hs39
      clear ho29
      go_wp2_with fail
      refine (unhide SP uw30 _ (unhide HO23).at _ (unhide HO35).at).mono ?_
      rintro e uw42 ⟨⟨d40, rfl, ho41⟩, hb43⟩
      have HX4 := hide ((unhide HX4).below hb43)
      have HO23 := hide ((unhide HO23).below hb43)
      have HO35 := hide ((unhide HO35).below hb43)
      have hc44 : Below w.heap.size w uw42 := hc32.trans (hb43.mono hc32.size)
      have hz45 : uw30.heap.size ≤ uw42.heap.size := hb43.size
      clear hb43
      have HO46 := hide ho41
      have HB47 := hide ho41.blk
      have hs50 := ho41.at.shape
      obtain ⟨a48, c49, rfl⟩ := hs50
      clear ho41
      obtain ⟨W51, hW52⟩ : ∃ W, W = uw42.alloc (Obj.cells #[Value.int .i64 sr0, Value.slice a48 Qr0.length c49] 29) := ⟨_, rfl⟩
      have hb53 : Below uw42.heap.size uw42 W51 := by rw [hW52]; exact below_new _ _
      have HX4 := hide ((unhide HX4).below hb53)
      have HO46 := hide ((unhide HO46).below hb53)
      have HX54 : Hid (CBox W51 uw42.heap.size #[Value.int .i64 sr0, Value.slice a48 Qr0.length c49] 29) := by show CBox _ _ _ _; rw [hW52]; exact CBox.new _ _ _
      have hc55 : Below w.heap.size w W51 := hc44.trans (hb53.mono hc44.size)
      have hz56 : uw42.heap.size < W51.heap.size := by rw [hW52]; simp
      clear hb53
      have p57 : W51.cell? ⟨w.heap.size, 0, none⟩ = some (Value.int .i64 s0) := (unhide HX4).cell 0
      have p58 : W51.cell? ⟨w.heap.size, 1, none⟩ = some (Value.slice a0 Q0.length c0) := (unhide HX4).cell 1
      (try rw [hW52] at p57 p58)
      go_wp2_with fail
      rw [← hW52]
      clear hW52 p57 p58
      refine (unhide TO0 W51 hc55).mono ?_
      rintro e uw61 ⟨⟨d59, rfl, ho60⟩, hb62⟩
      have HX4 := hide ((unhide HX4).below hb62)
      have HO46 := hide ((unhide HO46).below hb62)
      have HX54 := hide ((unhide HX54).below hb62)
      have hc63 : Below w.heap.size w uw61 := hc55.trans (hb62.mono hc55.size)
      have hz64 : W51.heap.size ≤ uw61.heap.size := hb62.size
      clear hb62
      have HO65 := hide ho60
      have HB66 := hide ho60.blk
      have hs69 := ho60.at.shape
      obtain ⟨a67, c68, rfl⟩ := hs69
      clear ho60
      obtain ⟨W70, hW71⟩ : ∃ W, W = uw61.alloc (Obj.cells #[Value.int .i64 s0, Value.slice a67 Q0.length c68] 29) := ⟨_, rfl⟩
      have hb72 : Below uw61.heap.size uw61 W70 := by rw [hW71]; exact below_new _ _
      have HX4 := hide ((unhide HX4).below hb72)
      have HO46 := hide ((unhide HO46).below hb72)
      have HX54 := hide ((unhide HX54).below hb72)
      have HO65 := hide ((unhide HO65).below hb72)
      have HX73 : Hid (CBox W70 uw61.heap.size #[Value.int .i64 s0, Value.slice a67 Q0.length c68] 29) := by show CBox _ _ _ _; rw [hW71]; exact CBox.new _ _ _
      have hc74 : Below w.heap.size w W70 := hc63.trans (hb72.mono hc63.size)
      have hz75 : uw61.heap.size < W70.heap.size := by rw [hW71]; simp
      clear hb72
      go_wp2_with fail
      rw [← hW71]
      clear hW71
      refine (unhide TO1 W70 hc74).mono ?_
      rintro e uw78 ⟨⟨d76, rfl, ho77⟩, hb79⟩
      have HX4 := hide ((unhide HX4).below hb79)
      have HO46 := hide ((unhide HO46).below hb79)
      have HX54 := hide ((unhide HX54).below hb79)
      have HO65 := hide ((unhide HO65).below hb79)
      have HX73 := hide ((unhide HX73).below hb79)
      have hc80 : Below w.heap.size w uw78 := hc74.trans (hb79.mono hc74.size)
      have hz81 : W70.heap.size ≤ uw78.heap.size := hb79.size
      clear hb79
      have HO82 := hide ho77
      have HB83 := hide ho77.blk
      have hs86 := ho77.at.shape
      obtain ⟨a84, c85, rfl⟩ := hs86
      clear ho77
      have p87 : uw78.cell? ⟨uw61.heap.size, 0, none⟩ = some (Value.int .i64 s0) := (unhide HX73).cell 0
      have p88 : uw78.cell? ⟨uw61.heap.size, 1, none⟩ = some (Value.slice a67 Q0.length c68) := (unhide HX73).cell 1
      go_wp2_with fail
      clear p87 p88
      refine (unhide IM uw78 _ (unhide HO65).at _ (unhide HO82).at).mono ?_
      rintro e uw91 ⟨⟨d89, rfl, ho90⟩, hb92⟩
      have HX4 := hide ((unhide HX4).below hb92)
      have HO46 := hide ((unhide HO46).below hb92)
      have HX54 := hide ((unhide HX54).below hb92)
      have HO65 := hide ((unhide HO65).below hb92)
      have HX73 := hide ((unhide HX73).below hb92)
      have HO82 := hide ((unhide HO82).below hb92)
      have hc93 : Below w.heap.size w uw91 := hc80.trans (hb92.mono hc80.size)
      have hz94 : uw78.heap.size ≤ uw91.heap.size := hb92.size
      clear hb92
      have HO95 := hide ho90
      have HB96 := hide ho90.blk
      have hs99 := ho90.at.shape
      obtain ⟨a97, c98, rfl⟩ := hs99
      clear ho90
      obtain ⟨W100, hW101⟩ : ∃ W, W = uw91.alloc (Obj.cells #[Value.int .i64 sr0, Value.slice a97 Qr0.length c98] 29) := ⟨_, rfl⟩
      have hb102 : Below uw91.heap.size uw91 W100 := by rw [hW101]; exact below_new _ _
      have HX4 := hide ((unhide HX4).below hb102)
      have HO46 := hide ((unhide HO46).below hb102)
      have HX54 := hide ((unhide HX54).below hb102)
      have HO65 := hide ((unhide HO65).below hb102)
      have HX73 := hide ((unhide HX73).below hb102)
      have HO82 := hide ((unhide HO82).below hb102)
      have HO95 := hide ((unhide HO95).below hb102)
      have HX103 : Hid (CBox W100 uw91.heap.size #[Value.int .i64 sr0, Value.slice a97 Qr0.length c98] 29) := by show CBox _ _ _ _; rw [hW101]; exact CBox.new _ _ _
      have hc104 : Below w.heap.size w W100 := hc93.trans (hb102.mono hc93.size)
      have hz105 : uw91.heap.size < W100.heap.size := by rw [hW101]; simp
      clear hb102
      have p106 : W100.cell? ⟨uw91.heap.size, 0, none⟩ = some (Value.int .i64 sr0) := (unhide HX103).cell 0
      have p107 : W100.cell? ⟨uw91.heap.size, 1, none⟩ = some (Value.slice a97 Qr0.length c98) := (unhide HX103).cell 1
      have p108 : W100.cell? ⟨uw42.heap.size, 0, none⟩ = some (Value.int .i64 sr0) := (unhide HX54).cell 0
      have p109 : W100.cell? ⟨uw42.heap.size, 1, none⟩ = some (Value.slice a48 Qr0.length c49) := (unhide HX54).cell 1
      (try rw [hW101] at p106 p107 p108 p109)
      go_wp2_with fail
      rw [← hW101]
      clear hW101 p106 p107 p108 p109
      refine (unhide ER0 W100 _ _ (unhide HO95).at (unhide HO46).at).mono ?_
      rintro e uw110 ⟨rfl, hb111⟩
      have HX4 := hide ((unhide HX4).below hb111)
      have HO46 := hide ((unhide HO46).below hb111)
      have HX54 := hide ((unhide HX54).below hb111)
      have HO65 := hide ((unhide HO65).below hb111)
      have HX73 := hide ((unhide HX73).below hb111)
      have HO82 := hide ((unhide HO82).below hb111)
      have HO95 := hide ((unhide HO95).below hb111)
      have HX103 := hide ((unhide HX103).below hb111)
      have hc112 : Below w.heap.size w uw110 := hc104.trans (hb111.mono hc104.size)
      have hz113 : W100.heap.size ≤ uw110.heap.size := hb111.size
      clear hb111
      have r0 : uw110.cell? ⟨uw61.heap.size, 0, none⟩ = some (Value.int .i64 s0) := (unhide HX73).cell 0
      have r1 : uw110.cell? ⟨uw61.heap.size, 1, none⟩ = some (Value.slice a67 Q0.length c68) := (unhide HX73).cell 1
      have p0 : uw110.cell? ⟨w.heap.size, 0, none⟩ = some (Value.int .i64 s0) := (unhide HX4).cell 0
      have p1 : uw110.cell? ⟨w.heap.size, 1, none⟩ = some (Value.slice a0 Q0.length c0) := (unhide HX4).cell 1
      have hk0 : uw61.heap.size < uw110.heap.size := (unhide HX73).lt
      have hk1 : w.heap.size < uw110.heap.size := (unhide HX4).lt
      have LIVE := hide (fun w8 (hb : Below uw110.heap.size uw110 w8) => And.intro ((unhide HX4).below hb) (And.intro ((unhide HO46).below hb) (And.intro ((unhide HX54).below hb) (And.intro ((unhide HO65).below hb) (And.intro ((unhide HX73).below hb) (And.intro ((unhide HO82).below hb) (And.intro ((unhide HO95).below hb) ((unhide HX103).below hb))))))))
      have HOD := hide ((unhide HO65).at.below ((Below.refl uw110.heap.size uw110).drew) (Nat.le_refl _))
      go_wp2_with fail
      go_region_held3 (fun u => u.cell? ⟨uw61.heap.size, 0, none⟩ = some (Value.int .i64 s0) ∧ u.cell? ⟨uw61.heap.size, 1, none⟩ = some (Value.slice a67 Q0.length c68) ∧ u.cell? ⟨w.heap.size, 0, none⟩ = some (Value.int .i64 s0) ∧ u.cell? ⟨w.heap.size, 1, none⟩ = some (Value.slice a0 Q0.length c0))
        (first | go_keep | exact ⟨(hb9.cell (p := ⟨uw61.heap.size, 0, none⟩) l0).trans qr0, (hb9.cell (p := ⟨uw61.heap.size, 1, none⟩) l0).trans qr1, (hb9.cell (p := ⟨w.heap.size, 0, none⟩) l1).trans qp0, (hb9.cell (p := ⟨w.heap.size, 1, none⟩) l1).trans qp1⟩ | exact ⟨qr0, qr1, qp0, qp1⟩)
        (first
          | (go_at_call 10; refine (unhide TO0 _ hc112.drew).mono ?_; rintro e w8 ⟨⟨d8, rfl, ho8⟩, hb8⟩; have HE8 := hide ho8.at; have hs8 := ho8.at.shape; obtain ⟨a8, c8, rfl⟩ := hs8; have HO8 := hide (((unhide HOD).below hb8 (Nat.le_refl _)).mono (show uw110.heap.size ≤ w8.heap.size from hb8.size)); have qr0 := (hb8.cell (p := ⟨uw61.heap.size, 0, none⟩) hk0).trans r0; have qr1 := (hb8.cell (p := ⟨uw61.heap.size, 1, none⟩) hk0).trans r1; have qp0 := (hb8.cell (p := ⟨w.heap.size, 0, none⟩) hk1).trans p0; have qp1 := (hb8.cell (p := ⟨w.heap.size, 1, none⟩) hk1).trans p1; have l0 : uw61.heap.size < w8.heap.size := Nat.lt_of_lt_of_le hk0 hb8.size; have l1 : w.heap.size < w8.heap.size := Nat.lt_of_lt_of_le hk1 hb8.size; have hc8 : Below w.heap.size w w8 := hc112.drew.trans (hb8.mono hc112.size); have hb78 : Below uw110.heap.size uw110 w8 := (Below.refl uw110.heap.size uw110).drew.trans hb8; clear hb8)
          | (go_at_call 12; refine (unhide EQ0 w8 _ _ (unhide HO8) (unhide HE8)).mono ?_; rintro e w9 ⟨rfl, hb9⟩))
      have hb115 : Below uw110.heap.size uw110 w9 := hb78.trans (hb9.mono hb78.size)
      obtain ⟨zHX4, zHO46, zHX54, zHO65, zHX73, zHO82, zHO95, zHX103⟩ := unhide LIVE w9 hb115
      have HX4 := hide zHX4
      have HO46 := hide zHO46
      have HX54 := hide zHX54
      have HO65 := hide zHO65
      have HX73 := hide zHX73
      have HO82 := hide zHO82
      have HO95 := hide zHO95
      have HX103 := hide zHX103
      have hc116 : Below w.heap.size w w9 := hc112.trans (hb115.mono hc112.size)
      have hz117 : uw110.heap.size ≤ w9.heap.size := hb115.size
      obtain ⟨uw114, hwn⟩ : ∃ W, W = w9 := ⟨_, rfl⟩
      subst hwn
      clear hb78 hb115 hb9 hc8 LIVE HO8 HE8 HOD hk0 hk1 l0 l1 r0 r1 p0 p1 qr0 qr1 qp0 qp1 zHX4 zHO46 zHX54 zHO65 zHX73 zHO82 zHO95 zHX103
      go_wp2_with fail
      refine (unhide TO1 uw114 hc116).mono ?_
      rintro e uw120 ⟨⟨d118, rfl, ho119⟩, hb121⟩
      have HX4 := hide ((unhide HX4).below hb121)
      have HO46 := hide ((unhide HO46).below hb121)
      have HX54 := hide ((unhide HX54).below hb121)
      have HO65 := hide ((unhide HO65).below hb121)
      have HX73 := hide ((unhide HX73).below hb121)
      have HO82 := hide ((unhide HO82).below hb121)
      have HO95 := hide ((unhide HO95).below hb121)
      have HX103 := hide ((unhide HX103).below hb121)
      have hc122 : Below w.heap.size w uw120 := hc116.trans (hb121.mono hc116.size)
      have hz123 : uw114.heap.size ≤ uw120.heap.size := hb121.size
      clear hb121
      have HO125 := hide ho119
      have HB126 := hide ho119.blk
      have hs129 := ho119.at.shape
      obtain ⟨a127, c128, rfl⟩ := hs129
      clear ho119
      go_wp2_with fail
      refine (unhide EQ1 uw120 _ _ (unhide HO82).at (unhide HO125).at).mono ?_
      rintro e uw130 ⟨rfl, hb131⟩
      have HX4 := hide ((unhide HX4).below hb131)
      have HO46 := hide ((unhide HO46).below hb131)
      have HX54 := hide ((unhide HX54).below hb131)
      have HO65 := hide ((unhide HO65).below hb131)
      have HX73 := hide ((unhide HX73).below hb131)
      have HO82 := hide ((unhide HO82).below hb131)
      have HO95 := hide ((unhide HO95).below hb131)
      have HX103 := hide ((unhide HX103).below hb131)
      have HO125 := hide ((unhide HO125).below hb131)
      have hc132 : Below w.heap.size w uw130 := hc122.trans (hb131.mono hc122.size)
      have hz133 : uw120.heap.size ≤ uw130.heap.size := hb131.size
      clear hb131
      have p134 : uw130.cell? ⟨uw61.heap.size, 0, none⟩ = some (Value.int .i64 s0) := (unhide HX73).cell 0
      have p135 : uw130.cell? ⟨uw61.heap.size, 1, none⟩ = some (Value.slice a67 Q0.length c68) := (unhide HX73).cell 1
      go_wp2_with fail
      clear p134 p135
      refine (unhide MK0 uw130 _ _ (unhide HO65)).mono ?_
      rintro e uw136 ⟨rfl, ho138, hk137⟩
      have HX4 := hide ((unhide HX4).kept hk137 (fun h => by have h3 := unhide HB66 _ h; omega))
      have HO46 := hide ((unhide HO46).kept hk137 (fun g h0 h1 => by have h2 := unhide HB47 g h0; have h3 := unhide HB66 g h1; omega))
      have HX54 := hide ((unhide HX54).kept hk137 (fun h => by have h3 := unhide HB66 _ h; omega))
      have HX73 := hide ((unhide HX73).kept hk137 (fun h => by have h3 := unhide HB66 _ h; omega))
      have HO82 := hide ((unhide HO82).kept hk137 (fun g h0 h1 => by have h2 := unhide HB83 g h0; have h3 := unhide HB66 g h1; omega))
      have HO95 := hide ((unhide HO95).kept hk137 (fun g h0 h1 => by have h2 := unhide HB96 g h0; have h3 := unhide HB66 g h1; omega))
      have HX103 := hide ((unhide HX103).kept hk137 (fun h => by have h3 := unhide HB66 _ h; omega))
      have HO65 := hide ho138
      have hc139 : Below w.heap.size w uw136 := hc132.trans (hk137.below hc132.size (fun g hg => by have h3 := unhide HB66 g hg; omega))
      have hz140 : uw130.heap.size ≤ uw136.heap.size := hk137.2.2.2.1
      clear ho138 hk137
      go_wp2_with fail
      refine (unhide MK1 uw136 _ _ (unhide HO82)).mono ?_
      rintro e uw141 ⟨rfl, ho143, hk142⟩
      have HX4 := hide ((unhide HX4).kept hk142 (fun h => by have h3 := unhide HB83 _ h; omega))
      have HO46 := hide ((unhide HO46).kept hk142 (fun g h0 h1 => by have h2 := unhide HB47 g h0; have h3 := unhide HB83 g h1; omega))
      have HX54 := hide ((unhide HX54).kept hk142 (fun h => by have h3 := unhide HB83 _ h; omega))
      have HO65 := hide ((unhide HO65).kept hk142 (fun g h0 h1 => by have h2 := unhide HB66 g h0; have h3 := unhide HB83 g h1; omega))
      have HX73 := hide ((unhide HX73).kept hk142 (fun h => by have h3 := unhide HB83 _ h; omega))
      have HO95 := hide ((unhide HO95).kept hk142 (fun g h0 h1 => by have h2 := unhide HB96 g h0; have h3 := unhide HB83 g h1; omega))
      have HX103 := hide ((unhide HX103).kept hk142 (fun h => by have h3 := unhide HB83 _ h; omega))
      have HO82 := hide ho143
      have hc144 : Below w.heap.size w uw141 := hc139.trans (hk142.below hc139.size (fun g hg => by have h3 := unhide HB83 g hg; omega))
      have hz145 : uw136.heap.size ≤ uw141.heap.size := hk142.2.2.2.1
      clear ho143 hk142
      have p146 : uw141.cell? ⟨uw91.heap.size, 0, none⟩ = some (Value.int .i64 sr0) := (unhide HX103).cell 0
      have p147 : uw141.cell? ⟨uw91.heap.size, 1, none⟩ = some (Value.slice a97 Qr0.length c98) := (unhide HX103).cell 1
      have p148 : uw141.cell? ⟨uw42.heap.size, 0, none⟩ = some (Value.int .i64 sr0) := (unhide HX54).cell 0
      have p149 : uw141.cell? ⟨uw42.heap.size, 1, none⟩ = some (Value.slice a48 Qr0.length c49) := (unhide HX54).cell 1
      go_wp2_with fail
      clear p146 p147 p148 p149
      refine (unhide ER0 uw141 _ _ (unhide HO95).at (unhide HO46).at).mono ?_
      rintro e uw150 ⟨rfl, hb151⟩
      have HX4 := hide ((unhide HX4).below hb151)
      have HO46 := hide ((unhide HO46).below hb151)
      have HX54 := hide ((unhide HX54).below hb151)
      have HO65 := hide ((unhide HO65).below hb151)
      have HX73 := hide ((unhide HX73).below hb151)
      have HO82 := hide ((unhide HO82).below hb151)
      have HO95 := hide ((unhide HO95).below hb151)
      have HX103 := hide ((unhide HX103).below hb151)
      have hc152 : Below w.heap.size w uw150 := hc144.trans (hb151.mono hc144.size)
      have hz153 : uw141.heap.size ≤ uw150.heap.size := hb151.size
      clear hb151
      have p154 : uw150.cell? ⟨uw91.heap.size, 0, none⟩ = some (Value.int .i64 sr0) := (unhide HX103).cell 0
      have p155 : uw150.cell? ⟨uw91.heap.size, 1, none⟩ = some (Value.slice a97 Qr0.length c98) := (unhide HX103).cell 1
      go_wp2_with fail
      clear p154 p155
      refine (unhide MR0 uw150 _ _ (unhide HO95)).mono ?_
      rintro e uw156 ⟨rfl, ho158, hk157⟩
      have HX4 := hide ((unhide HX4).kept hk157 (fun h => by have h3 := unhide HB96 _ h; omega))
      have HO46 := hide ((unhide HO46).kept hk157 (fun g h0 h1 => by have h2 := unhide HB47 g h0; have h3 := unhide HB96 g h1; omega))
      have HX54 := hide ((unhide HX54).kept hk157 (fun h => by have h3 := unhide HB96 _ h; omega))
      have HO65 := hide ((unhide HO65).kept hk157 (fun g h0 h1 => by have h2 := unhide HB66 g h0; have h3 := unhide HB96 g h1; omega))
      have HX73 := hide ((unhide HX73).kept hk157 (fun h => by have h3 := unhide HB96 _ h; omega))
      have HO82 := hide ((unhide HO82).kept hk157 (fun g h0 h1 => by have h2 := unhide HB83 g h0; have h3 := unhide HB96 g h1; omega))
      have HX103 := hide ((unhide HX103).kept hk157 (fun h => by have h3 := unhide HB96 _ h; omega))
      have HO95 := hide ho158
      have hc159 : Below w.heap.size w uw156 := hc152.trans (hk157.below hc152.size (fun g hg => by have h3 := unhide HB96 g hg; omega))
      have hz160 : uw150.heap.size ≤ uw156.heap.size := hk157.2.2.2.1
      clear ho158 hk157
      have p161 : uw156.cell? ⟨uw91.heap.size, 0, none⟩ = some (Value.int .i64 sr0) := (unhide HX103).cell 0
      have p162 : uw156.cell? ⟨uw91.heap.size, 1, none⟩ = some (Value.slice a97 Qr0.length c98) := (unhide HX103).cell 1
      go_wp2_with fail
      clear p161 p162
      refine (unhide HR0 uw156 _ (unhide HO95).at).mono ?_
      rintro e uw163 ⟨rfl, hb164⟩
      have HX4 := hide ((unhide HX4).below hb164)
      have HO46 := hide ((unhide HO46).below hb164)
      have HX54 := hide ((unhide HX54).below hb164)
      have HO65 := hide ((unhide HO65).below hb164)
      have HX73 := hide ((unhide HX73).below hb164)
      have HO82 := hide ((unhide HO82).below hb164)
      have HO95 := hide ((unhide HO95).below hb164)
      have HX103 := hide ((unhide HX103).below hb164)
      have hc165 : Below w.heap.size w uw163 := hc159.trans (hb164.mono hc159.size)
      have hz166 : uw156.heap.size ≤ uw163.heap.size := hb164.size
      clear hb164
      have p167 : uw163.cell? ⟨w.heap.size, 0, none⟩ = some (Value.int .i64 s0) := (unhide HX4).cell 0
      have p168 : uw163.cell? ⟨w.heap.size, 1, none⟩ = some (Value.slice a0 Q0.length c0) := (unhide HX4).cell 1
      go_wp2_with fail
      clear p167 p168
      refine (unhide TO0 uw163 hc165).mono ?_
      rintro e uw171 ⟨⟨d169, rfl, ho170⟩, hb172⟩
      have HX4 := hide ((unhide HX4).below hb172)
      have HO46 := hide ((unhide HO46).below hb172)
      have HX54 := hide ((unhide HX54).below hb172)
      have HO65 := hide ((unhide HO65).below hb172)
      have HX73 := hide ((unhide HX73).below hb172)
      have HO82 := hide ((unhide HO82).below hb172)
      have HO95 := hide ((unhide HO95).below hb172)
      have HX103 := hide ((unhide HX103).below hb172)
      have hc173 : Below w.heap.size w uw171 := hc165.trans (hb172.mono hc165.size)
      have hz174 : uw163.heap.size ≤ uw171.heap.size := hb172.size
      clear hb172
      have HO176 := hide ho170
      have HB177 := hide ho170.blk
      have hs180 := ho170.at.shape
      obtain ⟨a178, c179, rfl⟩ := hs180
      clear ho170
      go_wp2_with fail
      refine (unhide TO1 uw171 hc173).mono ?_
      rintro e uw183 ⟨⟨d181, rfl, ho182⟩, hb184⟩
      have HX4 := hide ((unhide HX4).below hb184)
      have HO46 := hide ((unhide HO46).below hb184)
      have HX54 := hide ((unhide HX54).below hb184)
      have HO65 := hide ((unhide HO65).below hb184)
      have HX73 := hide ((unhide HX73).below hb184)
      have HO82 := hide ((unhide HO82).below hb184)
      have HO95 := hide ((unhide HO95).below hb184)
      have HX103 := hide ((unhide HX103).below hb184)
      have HO176 := hide ((unhide HO176).below hb184)
      have hc185 : Below w.heap.size w uw183 := hc173.trans (hb184.mono hc173.size)
      have hz186 : uw171.heap.size ≤ uw183.heap.size := hb184.size
      clear hb184
      have HO188 := hide ho182
      have HB189 := hide ho182.blk
      have hs192 := ho182.at.shape
      obtain ⟨a190, c191, rfl⟩ := hs192
      clear ho182
      go_wp2_with fail
      refine (unhide IM uw183 _ (unhide HO176).at _ (unhide HO188).at).mono ?_
      rintro e uw195 ⟨⟨d193, rfl, ho194⟩, hb196⟩
      have HX4 := hide ((unhide HX4).below hb196)
      have HO46 := hide ((unhide HO46).below hb196)
      have HX54 := hide ((unhide HX54).below hb196)
      have HO65 := hide ((unhide HO65).below hb196)
      have HX73 := hide ((unhide HX73).below hb196)
      have HO82 := hide ((unhide HO82).below hb196)
      have HO95 := hide ((unhide HO95).below hb196)
      have HX103 := hide ((unhide HX103).below hb196)
      have HO176 := hide ((unhide HO176).below hb196)
      have HO188 := hide ((unhide HO188).below hb196)
      have hc197 : Below w.heap.size w uw195 := hc185.trans (hb196.mono hc185.size)
      have hz198 : uw183.heap.size ≤ uw195.heap.size := hb196.size
      clear hb196
      have HO199 := hide ho194
      have HB200 := hide ho194.blk
      have hs203 := ho194.at.shape
      obtain ⟨a201, c202, rfl⟩ := hs203
      clear ho194
      obtain ⟨W204, hW205⟩ : ∃ W, W = uw195.alloc (Obj.cells #[Value.int .i64 sr0, Value.slice a201 Qr0.length c202] 29) := ⟨_, rfl⟩
      have hb206 : Below uw195.heap.size uw195 W204 := by rw [hW205]; exact below_new _ _
      have HX4 := hide ((unhide HX4).below hb206)
      have HO46 := hide ((unhide HO46).below hb206)
      have HX54 := hide ((unhide HX54).below hb206)
      have HO65 := hide ((unhide HO65).below hb206)
      have HX73 := hide ((unhide HX73).below hb206)
      have HO82 := hide ((unhide HO82).below hb206)
      have HO95 := hide ((unhide HO95).below hb206)
      have HX103 := hide ((unhide HX103).below hb206)
      have HO199 := hide ((unhide HO199).below hb206)
      have HX207 : Hid (CBox W204 uw195.heap.size #[Value.int .i64 sr0, Value.slice a201 Qr0.length c202] 29) := by show CBox _ _ _ _; rw [hW205]; exact CBox.new _ _ _
      have hc208 : Below w.heap.size w W204 := hc197.trans (hb206.mono hc197.size)
      have hz209 : uw195.heap.size < W204.heap.size := by rw [hW205]; simp
      clear hb206
      have p210 : W204.cell? ⟨uw195.heap.size, 0, none⟩ = some (Value.int .i64 sr0) := (unhide HX207).cell 0
      have p211 : W204.cell? ⟨uw195.heap.size, 1, none⟩ = some (Value.slice a201 Qr0.length c202) := (unhide HX207).cell 1
      have p212 : W204.cell? ⟨uw42.heap.size, 0, none⟩ = some (Value.int .i64 sr0) := (unhide HX54).cell 0
      have p213 : W204.cell? ⟨uw42.heap.size, 1, none⟩ = some (Value.slice a48 Qr0.length c49) := (unhide HX54).cell 1
      (try rw [hW205] at p210 p211 p212 p213)
      go_wp2_with fail
      rw [← hW205]
      clear hW205 p210 p211 p212 p213
      refine (unhide ER0 W204 _ _ (unhide HO199).at (unhide HO46).at).mono ?_
      rintro e uw214 ⟨rfl, hb215⟩
      have HX4 := hide ((unhide HX4).below hb215)
      have HO46 := hide ((unhide HO46).below hb215)
      have HX54 := hide ((unhide HX54).below hb215)
      have HO65 := hide ((unhide HO65).below hb215)
      have HX73 := hide ((unhide HX73).below hb215)
      have HO82 := hide ((unhide HO82).below hb215)
      have HO95 := hide ((unhide HO95).below hb215)
      have HX103 := hide ((unhide HX103).below hb215)
      have HO199 := hide ((unhide HO199).below hb215)
      have HX207 := hide ((unhide HX207).below hb215)
      have hc216 : Below w.heap.size w uw214 := hc208.trans (hb215.mono hc208.size)
      have hz217 : W204.heap.size ≤ uw214.heap.size := hb215.size
      clear hb215
      have p218 : uw214.cell? ⟨uw91.heap.size, 0, none⟩ = some (Value.int .i64 sr0) := (unhide HX103).cell 0
      have p219 : uw214.cell? ⟨uw91.heap.size, 1, none⟩ = some (Value.slice a97 Qr0.length c98) := (unhide HX103).cell 1
      go_wp2_with fail
      clear p218 p219
      refine (unhide HR0 uw214 _ (unhide HO95).at).mono ?_
      rintro e uw220 ⟨rfl, hb221⟩
      have HX4 := hide ((unhide HX4).below hb221)
      have HO46 := hide ((unhide HO46).below hb221)
      have HX54 := hide ((unhide HX54).below hb221)
      have HO65 := hide ((unhide HO65).below hb221)
      have HX73 := hide ((unhide HX73).below hb221)
      have HO82 := hide ((unhide HO82).below hb221)
      have HO95 := hide ((unhide HO95).below hb221)
      have HX103 := hide ((unhide HX103).below hb221)
      have HO199 := hide ((unhide HO199).below hb221)
      have HX207 := hide ((unhide HX207).below hb221)
      have hc222 : Below w.heap.size w uw220 := hc216.trans (hb221.mono hc216.size)
      have hz223 : uw214.heap.size ≤ uw220.heap.size := hb221.size
      clear hb221
      go_wp2
      go_ret
      exact ⟨rfl, hc222⟩

set_option maxRecDepth 100000 in
theorem lifted (os : Os) (started : os.Started) (H : Type) (enc : TypeId × Value → H) :
    ReturnsInHanded {} Try.checked os 6 .any (Rows.fnExactInducedSpec.pre6 enc Try.prog Try.f6 Rows.fnExactInducedRow.domain false) (Rows.fnExactInducedSpec.post enc Try.prog Try.f6 false true false false) := by
  refine returnsInHanded_of_change (C := Try.checked) own started (by kernel_rfl) Try.func6
    (ChangeSpec.witness6 (enc := enc) (C := Try.checked) false ⟨#[], #[.agg #[.int .i64 0, .slice none 0 0], .slice none 0 0], []⟩ 8 (by kernel_rfl) (by kernel_rfl) (by kernel_rfl) (by kernel_rfl)) ?_
  intro W base args ds gs before hval0 hW _ _
  have hval : ∀ (j : Nat) t v, Try.f6.params[j]? = some t → args[j]? = some v → Value.okWide Try.prog W .any base t v := hval0
  have hW' := hW
  obtain ⟨p, q, hA0, hV, rfl, hfz, hnd⟩ := hW
  have hA : DataW.TrodAll enc Try.prog W 0 (fun _ => true) true Try.f6.params.toList args.toList ds p := hA0
  rw [Try.params6] at hA hval
  obtain ⟨v0, vs0, d0, ds0, p0, q0, hargs, rfl, rfl, h0, r0⟩ := trodAll_cons hA
  obtain ⟨v1, vs1, d1, ds1, p1, q1, rfl, rfl, rfl, h1, r1⟩ := trodAll_cons r0
  obtain ⟨rfl, rfl, rfl⟩ := trodAll_nil r1
  obtain rfl : args = #[v0, v1] := by cases args; simp_all
  obtain ⟨rfl, rfl⟩ := trodVars_none hV
  have k0 := h0
  have lt0 : ∀ x ∈ p0, x.block < W.heap.size := by obtain ⟨m, hm⟩ := k0; exact DataW.trod_lt m _ _ _ hm
  obtain ⟨s0, Q0, hv0, hn0⟩ := graph_in (hval 0 24 v0 rfl rfl) h0
  have k1 := h1
  have lt1 : ∀ x ∈ p1, x.block < W.heap.size := by obtain ⟨m, hm⟩ := k1; exact DataW.trod_lt m _ _ _ hm
  obtain ⟨K1, hv1, hn1⟩ := ints_in (hval 1 41 v1 rfl rfl) h1
  clear hA0 hval0
  refine (walk v0 s0 Q0 v1 K1 W hv0 hn0 hv1 hn1).mono fun e W' ⟨he, bel⟩ => ?_
  subst he
  exact ⟨_, rfl, _, _, _, [], _, [], hW', trodAll_mk1 (shut_bool Try.underlying4 _), (trodAll_cons_mk (Below.trod laidOut (by kernel_rfl) (of_decide_eq_true (by kernel_rfl)) k0 bel lt0) (trodAll_cons_mk (Below.trod laidOut (by kernel_rfl) (of_decide_eq_true (by kernel_rfl)) k1 bel lt1) trodAll_mk0)), rfl, bel.frame _, fun h => by cases h⟩

theorem over : Rows.fnExactInducedRow.holds Try.pinned (OpenSpec.ofChange Rows.fnExactInducedSpec) :=
  OpenClaim.holds_of_wide 6 Try.f6 rfl rfl rfl rfl rfl rfl rfl ⟨rfl, rfl, rfl, rfl, rfl⟩ rfl rfl rfl rfl rfl (by kernel_rfl) Try.func6 (by kernel_rfl)
    (of_decide_eq_true (by kernel_rfl)) (by unfold Func.isWrapper; first | (rw [if_pos (by decide +kernel)]; kernel_rfl) | (rw [if_neg (by decide +kernel)]; exact ⟨rfl, rfl⟩))
    (fun os started H enc _ => lifted os started H enc)

end Go.Proofs.Ytmajajhbhdgngaa.fnExactInduced
namespace Go.Proofs.Ytmajajhbhdgngaa
theorem fnExactInduced_holds : Rows.FnExactInducedSaid := fnExactInduced.over
#print axioms fnExactInduced_holds
end Go.Proofs.Ytmajajhbhdgngaa
