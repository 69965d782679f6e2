/-
  impl.Blocks answers as the specification; it writes into no argument, and its answer owns its memory. Walk and frame written by program (tools/exactlaw.py).
-/
import Derived.Test.YtejfknkcakeakaaRows
import Derived.Test.YtejfknkcakeakaaLkLaw
import Derived.Test.YtejfknkcakeakaaLkB5
import Derived.Test.YtejfknkcakeakaaLkB4
import Derived.Test.YtejfknkcakeakaaChecked
import Derived.Deep.RegionHeld3
import Derived.ShutString
import Derived.Below
namespace Go.Proofs.Ytejfknkcakeakaa.fnExactBlocks
open Go.Proofs.Ytejfknkcakeakaa Go.Proofs.Ytejfknkcakeakaa.Gr
open Go.ChangeShapes Go.WideShapes Go.ChangeAt Go.RowKit
open Go.ChangeMaps (open_string shut_string)

theorem own : ownKnob Try.prog.godebug = none := by kernel_rfl

theorem laidOut : laidOutB Try.prog = true := by kernel_rfl

set_option maxRecDepth 100000 in
set_option maxHeartbeats 4000000 in
theorem walk (v0 : Value) (s0 : Int) (Q0 : List EdgeI) (w : World) (hv0 : GrAt w v0 w.heap.size s0 Q0) (hn0 : Q0.length ≤ 9223372036854775807) :
    Calls Try.prog 7 #[v0] w fun e w' => e = .returned (.bool true) ∧ Below w.heap.size w w' := by
  have HV0 := hide hv0
  have HN0 := hide hn0
  have sh0 := hv0.shape
  obtain ⟨a0, c0, rfl⟩ := sh0
  clear hv0 hn0
  obtain ⟨W1, hW2⟩ : ∃ W, W = w.alloc (Obj.cells #[Value.int .i64 s0, Value.slice a0 Q0.length c0] 24) := ⟨_, rfl⟩
  have hb3 : Below w.heap.size w W1 := by rw [hW2]; exact below_new _ _
  have HX4 : Hid (CBox W1 w.heap.size #[Value.int .i64 s0, Value.slice a0 Q0.length c0] 24) := by show CBox _ _ _ _; rw [hW2]; exact CBox.new _ _ _
  have hc5 : Below w.heap.size w W1 := hb3
  have hz6 : w.heap.size < W1.heap.size := by rw [hW2]; simp
  clear hb3
  have p7 : W1.cell? ⟨w.heap.size, 0, none⟩ = some (Value.int .i64 s0) := (unhide HX4).cell 0
  have p8 : W1.cell? ⟨w.heap.size, 1, none⟩ = some (Value.slice a0 Q0.length c0) := (unhide HX4).cell 1
  (try rw [hW2] at p7 p8)
  go_enter Try.func7, Try.ntmps7
  go_wp2_with fail
  rw [← hW2]
  clear hW2 p7 p8
  refine (szGraph_gen _ w.heap.size s0 Q0 1048576 (by omega) (by omega) (unhide HN0) W1 ((unhide HV0).below hc5 (Nat.le_refl _))).mono ?_
  rintro e uw10 ⟨⟨z9, rfl, hxz9, hyz9⟩, hb11⟩
  have HX4 := hide ((unhide HX4).below hb11)
  have hc12 : Below w.heap.size w uw10 := hc5.trans (hb11.mono hc5.size)
  have hz13 : W1.heap.size ≤ uw10.heap.size := hb11.size
  clear hb11
  by_cases hnegz9 : z9 < 0
  · go_wp2
    go_ret
    exact ⟨rfl, hc12⟩
  · have htz9 := hyz9 (by omega)
    have hb0 : Q0.length ≤ 1048576 := by omega
    have TO0 := hide (fun w1 (hb : Below w.heap.size w w1) => toGraph_any _ w.heap.size s0 Q0 hb0 w1 hb.size ((unhide HV0).below hb (Nat.le_refl _)))
    have EQ0 := hide (fun w1 d d1 (hd : GrAt w1 d w1.heap.size s0 Q0) (hd1 : GrAt w1 d1 w1.heap.size s0 Q0) => eqGraph_same d d1 w1.heap.size w1.heap.size s0 Q0 hb0 w1 (Nat.le_refl _) (Nat.le_refl _) hd hd1)
    have SP := hide (fun w1 d0 (hd0 : GrAt w1 d0 w1.heap.size s0 Q0) => Lk.specBlocks_gen w1.heap.size d0 s0 Q0 hb0 w1 (Nat.le_refl _) hd0)
    have IM := hide (fun w1 d0 (hd0 : GrAt w1 d0 w1.heap.size s0 Q0) => Lk.implBlocks_gen w1.heap.size d0 s0 Q0 hb0 w1 (Nat.le_refl _) hd0)
    have hl0 : (Lk.blocksR s0 Q0).length ≤ 1048576 := by first | omega | (exact Nat.le_trans (Lk.blocks_len s0 Q0) (by omega))
    generalize Lk.blocksR s0 Q0 = Kr0 at SP IM hl0
    have ER0 := hide (fun w1 d d1 (hd : InAt w1 d w1.heap.size Kr0) (hd1 : InAt w1 d1 w1.heap.size Kr0) => eqInts_gen d d1 w1.heap.size w1.heap.size Kr0 hl0 w1 (Nat.le_refl _) (Nat.le_refl _) hd hd1)
    have MK0 := hide (fun w1 B d (hd : GrOwn w1 B d s0 Q0) => markGraph_any d B 1 s0 Q0 (by omega) w1 hd)
    obtain ⟨kx0, hkx0⟩ : ∃ k : Nat, k = 1 + Q0.length * 5 := ⟨_, rfl⟩
    rw [← hkx0] at MK0
    have hkn0 : ¬ ((kx0 : Nat) : Int) < 0 := by omega
    have MR0 := hide (fun w1 B d (hd : InOwn w1 B d Kr0) => markInts_gen d B 1 Kr0 (by omega) w1 hd)
    have HR0 := hide (fun w1 d (hd : InAt w1 d w1.heap.size (marksN 1 Kr0.length)) => heldInts_gen d w1.heap.size 1 Kr0.length (by omega) w1 (Nat.le_refl _) hd)
    obtain ⟨km0, hkm0⟩ : ∃ k : Nat, k = 1 + Kr0.length := ⟨_, rfl⟩
    rw [← hkm0] at MR0 HR0
    have hkr0 : ¬ ((km0 : Nat) : Int) < 0 := by omega
    have hkq0 : (((km0 : Nat) : Int) != ((km0 : Nat) : Int)) = false := by simp
    clear hkx0 hkm0 hb0 hl0
    have p14 : uw10.cell? ⟨w.heap.size, 0, none⟩ = some (Value.int .i64 s0) := (unhide HX4).cell 0
    have p15 : uw10.cell? ⟨w.heap.size, 1, none⟩ = some (Value.slice a0 Q0.length c0) := (unhide HX4).cell 1
    go_wp2_with fail
    clear p14 p15
    refine (unhide TO0 uw10 hc12).mono ?_
    rintro e uw18 ⟨⟨d16, rfl, ho17⟩, hb19⟩
    have HX4 := hide ((unhide HX4).below hb19)
    have hc20 : Below w.heap.size w uw18 := hc12.trans (hb19.mono hc12.size)
    have hz21 : uw10.heap.size ≤ uw18.heap.size := hb19.size
    clear hb19
    have HO23 := hide ho17
    have HB24 := hide ho17.blk
    have hs27 := ho17.at.shape
    obtain ⟨a25, c26, rfl⟩ := hs27
    clear ho17
    go_wp2_with fail
    refine (unhide SP uw18 _ (unhide HO23).at).mono ?_
    rintro e uw30 ⟨⟨d28, rfl, ho29⟩, hb31⟩
    have HX4 := hide ((unhide HX4).below hb31)
    have HO23 := hide ((unhide HO23).below hb31)
    have hc32 : Below w.heap.size w uw30 := hc20.trans (hb31.mono hc20.size)
    have hz33 : uw18.heap.size ≤ uw30.heap.size := hb31.size
    clear hb31
    have HO34 := hide ho29
    have HB35 := hide ho29.blk
    have hs38 := ho29.at.shape
    obtain ⟨a36, c37, rfl⟩ := hs38
    clear ho29
    have p39 : uw30.cell? ⟨w.heap.size, 0, none⟩ = some (Value.int .i64 s0) := (unhide HX4).cell 0
    have p40 : uw30.cell? ⟨w.heap.size, 1, none⟩ = some (Value.slice a0 Q0.length c0) := (unhide HX4).cell 1
    go_wp2_with fail
    clear p39 p40
    refine (unhide TO0 uw30 hc32).mono ?_
    rintro e uw43 ⟨⟨d41, rfl, ho42⟩, hb44⟩
    have HX4 := hide ((unhide HX4).below hb44)
    have HO34 := hide ((unhide HO34).below hb44)
    have hc45 : Below w.heap.size w uw43 := hc32.trans (hb44.mono hc32.size)
    have hz46 : uw30.heap.size ≤ uw43.heap.size := hb44.size
    clear hb44
    have HO47 := hide ho42
    have HB48 := hide ho42.blk
    have hs51 := ho42.at.shape
    obtain ⟨a49, c50, rfl⟩ := hs51
    clear ho42
    obtain ⟨W52, hW53⟩ : ∃ W, W = uw43.alloc (Obj.cells #[Value.int .i64 s0, Value.slice a49 Q0.length c50] 30) := ⟨_, rfl⟩
    have hb54 : Below uw43.heap.size uw43 W52 := by rw [hW53]; exact below_new _ _
    have HX4 := hide ((unhide HX4).below hb54)
    have HO34 := hide ((unhide HO34).below hb54)
    have HO47 := hide ((unhide HO47).below hb54)
    have HX55 : Hid (CBox W52 uw43.heap.size #[Value.int .i64 s0, Value.slice a49 Q0.length c50] 30) := by show CBox _ _ _ _; rw [hW53]; exact CBox.new _ _ _
    have hc56 : Below w.heap.size w W52 := hc45.trans (hb54.mono hc45.size)
    have hz57 : uw43.heap.size < W52.heap.size := by rw [hW53]; simp
    clear hb54
    go_wp2_with fail
    rw [← hW53]
    clear hW53
    refine (unhide IM W52 _ (unhide HO47).at).mono ?_
    rintro e uw60 ⟨⟨d58, rfl, ho59⟩, hb61⟩
    have HX4 := hide ((unhide HX4).below hb61)
    have HO34 := hide ((unhide HO34).below hb61)
    have HO47 := hide ((unhide HO47).below hb61)
    have HX55 := hide ((unhide HX55).below hb61)
    have hc62 : Below w.heap.size w uw60 := hc56.trans (hb61.mono hc56.size)
    have hz63 : W52.heap.size ≤ uw60.heap.size := hb61.size
    clear hb61
    have HO64 := hide ho59
    have HB65 := hide ho59.blk
    have hs68 := ho59.at.shape
    obtain ⟨a66, c67, rfl⟩ := hs68
    clear ho59
    go_wp2_with fail
    refine (unhide ER0 uw60 _ _ (unhide HO64).at (unhide HO34).at).mono ?_
    rintro e uw69 ⟨rfl, hb70⟩
    have HX4 := hide ((unhide HX4).below hb70)
    have HO34 := hide ((unhide HO34).below hb70)
    have HO47 := hide ((unhide HO47).below hb70)
    have HX55 := hide ((unhide HX55).below hb70)
    have HO64 := hide ((unhide HO64).below hb70)
    have hc71 : Below w.heap.size w uw69 := hc62.trans (hb70.mono hc62.size)
    have hz72 : uw60.heap.size ≤ uw69.heap.size := hb70.size
    clear hb70
    have r0 : uw69.cell? ⟨uw43.heap.size, 0, none⟩ = some (Value.int .i64 s0) := (unhide HX55).cell 0
    have r1 : uw69.cell? ⟨uw43.heap.size, 1, none⟩ = some (Value.slice a49 Q0.length c50) := (unhide HX55).cell 1
    have p0 : uw69.cell? ⟨w.heap.size, 0, none⟩ = some (Value.int .i64 s0) := (unhide HX4).cell 0
    have p1 : uw69.cell? ⟨w.heap.size, 1, none⟩ = some (Value.slice a0 Q0.length c0) := (unhide HX4).cell 1
    have hk0 : uw43.heap.size < uw69.heap.size := (unhide HX55).lt
    have hk1 : w.heap.size < uw69.heap.size := (unhide HX4).lt
    have LIVE := hide (fun w8 (hb : Below uw69.heap.size uw69 w8) => And.intro ((unhide HX4).below hb) (And.intro ((unhide HO34).below hb) (And.intro ((unhide HO47).below hb) (And.intro ((unhide HX55).below hb) ((unhide HO64).below hb)))))
    have HOD := hide ((unhide HO47).at.below ((Below.refl uw69.heap.size uw69).drew) (Nat.le_refl _))
    go_wp2_with fail
    go_region_held3 (fun u => u.cell? ⟨uw43.heap.size, 0, none⟩ = some (Value.int .i64 s0) ∧ u.cell? ⟨uw43.heap.size, 1, none⟩ = some (Value.slice a49 Q0.length c50) ∧ u.cell? ⟨w.heap.size, 0, none⟩ = some (Value.int .i64 s0) ∧ u.cell? ⟨w.heap.size, 1, none⟩ = some (Value.slice a0 Q0.length c0))
      (first | go_keep | exact ⟨(hb9.cell (p := ⟨uw43.heap.size, 0, none⟩) l0).trans qr0, (hb9.cell (p := ⟨uw43.heap.size, 1, none⟩) l0).trans qr1, (hb9.cell (p := ⟨w.heap.size, 0, none⟩) l1).trans qp0, (hb9.cell (p := ⟨w.heap.size, 1, none⟩) l1).trans qp1⟩ | exact ⟨qr0, qr1, qp0, qp1⟩)
      (first
        | (go_at_call 12; refine (unhide TO0 _ hc71.drew).mono ?_; rintro e w8 ⟨⟨d8, rfl, ho8⟩, hb8⟩; have HE8 := hide ho8.at; have hs8 := ho8.at.shape; obtain ⟨a8, c8, rfl⟩ := hs8; have HO8 := hide (((unhide HOD).below hb8 (Nat.le_refl _)).mono (show uw69.heap.size ≤ w8.heap.size from hb8.size)); have qr0 := (hb8.cell (p := ⟨uw43.heap.size, 0, none⟩) hk0).trans r0; have qr1 := (hb8.cell (p := ⟨uw43.heap.size, 1, none⟩) hk0).trans r1; have qp0 := (hb8.cell (p := ⟨w.heap.size, 0, none⟩) hk1).trans p0; have qp1 := (hb8.cell (p := ⟨w.heap.size, 1, none⟩) hk1).trans p1; have l0 : uw43.heap.size < w8.heap.size := Nat.lt_of_lt_of_le hk0 hb8.size; have l1 : w.heap.size < w8.heap.size := Nat.lt_of_lt_of_le hk1 hb8.size; have hc8 : Below w.heap.size w w8 := hc71.drew.trans (hb8.mono hc71.size); have hb78 : Below uw69.heap.size uw69 w8 := (Below.refl uw69.heap.size uw69).drew.trans hb8; clear hb8)
        | (go_at_call 15; refine (unhide EQ0 w8 _ _ (unhide HO8) (unhide HE8)).mono ?_; rintro e w9 ⟨rfl, hb9⟩))
    have hb74 : Below uw69.heap.size uw69 w9 := hb78.trans (hb9.mono hb78.size)
    obtain ⟨zHX4, zHO34, zHO47, zHX55, zHO64⟩ := unhide LIVE w9 hb74
    have HX4 := hide zHX4
    have HO34 := hide zHO34
    have HO47 := hide zHO47
    have HX55 := hide zHX55
    have HO64 := hide zHO64
    have hc75 : Below w.heap.size w w9 := hc71.trans (hb74.mono hc71.size)
    have hz76 : uw69.heap.size ≤ w9.heap.size := hb74.size
    obtain ⟨uw73, hwn⟩ : ∃ W, W = w9 := ⟨_, rfl⟩
    subst hwn
    clear hb78 hb74 hb9 hc8 LIVE HO8 HE8 HOD hk0 hk1 l0 l1 r0 r1 p0 p1 qr0 qr1 qp0 qp1 zHX4 zHO34 zHO47 zHX55 zHO64
    have p77 : uw73.cell? ⟨uw43.heap.size, 0, none⟩ = some (Value.int .i64 s0) := (unhide HX55).cell 0
    have p78 : uw73.cell? ⟨uw43.heap.size, 1, none⟩ = some (Value.slice a49 Q0.length c50) := (unhide HX55).cell 1
    go_wp2_with fail
    clear p77 p78
    refine (unhide MK0 uw73 _ _ (unhide HO47)).mono ?_
    rintro e uw79 ⟨rfl, ho81, hk80⟩
    have HX4 := hide ((unhide HX4).kept hk80 (fun h => by have h3 := unhide HB48 _ h; omega))
    have HO34 := hide ((unhide HO34).kept hk80 (fun g h0 h1 => by have h2 := unhide HB35 g h0; have h3 := unhide HB48 g h1; omega))
    have HX55 := hide ((unhide HX55).kept hk80 (fun h => by have h3 := unhide HB48 _ h; omega))
    have HO64 := hide ((unhide HO64).kept hk80 (fun g h0 h1 => by have h2 := unhide HB65 g h0; have h3 := unhide HB48 g h1; omega))
    have HO47 := hide ho81
    have hc82 : Below w.heap.size w uw79 := hc75.trans (hk80.below hc75.size (fun g hg => by have h3 := unhide HB48 g hg; omega))
    have hz83 : uw73.heap.size ≤ uw79.heap.size := hk80.2.2.2.1
    clear ho81 hk80
    go_wp2_with fail
    refine (unhide ER0 uw79 _ _ (unhide HO64).at (unhide HO34).at).mono ?_
    rintro e uw84 ⟨rfl, hb85⟩
    have HX4 := hide ((unhide HX4).below hb85)
    have HO34 := hide ((unhide HO34).below hb85)
    have HO47 := hide ((unhide HO47).below hb85)
    have HX55 := hide ((unhide HX55).below hb85)
    have HO64 := hide ((unhide HO64).below hb85)
    have hc86 : Below w.heap.size w uw84 := hc82.trans (hb85.mono hc82.size)
    have hz87 : uw79.heap.size ≤ uw84.heap.size := hb85.size
    clear hb85
    go_wp2_with fail
    refine (unhide MR0 uw84 _ _ (unhide HO64)).mono ?_
    rintro e uw88 ⟨rfl, ho90, hk89⟩
    have HX4 := hide ((unhide HX4).kept hk89 (fun h => by have h3 := unhide HB65 _ h; omega))
    have HO34 := hide ((unhide HO34).kept hk89 (fun g h0 h1 => by have h2 := unhide HB35 g h0; have h3 := unhide HB65 g h1; omega))
    have HO47 := hide ((unhide HO47).kept hk89 (fun g h0 h1 => by have h2 := unhide HB48 g h0; have h3 := unhide HB65 g h1; omega))
    have HX55 := hide ((unhide HX55).kept hk89 (fun h => by have h3 := unhide HB65 _ h; omega))
    have HO64 := hide ho90
    have hc91 : Below w.heap.size w uw88 := hc86.trans (hk89.below hc86.size (fun g hg => by have h3 := unhide HB65 g hg; omega))
    have hz92 : uw84.heap.size ≤ uw88.heap.size := hk89.2.2.2.1
    clear ho90 hk89
    go_wp2_with fail
    refine (unhide HR0 uw88 _ (unhide HO64).at).mono ?_
    rintro e uw93 ⟨rfl, hb94⟩
    have HX4 := hide ((unhide HX4).below hb94)
    have HO34 := hide ((unhide HO34).below hb94)
    have HO47 := hide ((unhide HO47).below hb94)
    have HX55 := hide ((unhide HX55).below hb94)
    have HO64 := hide ((unhide HO64).below hb94)
    have hc95 : Below w.heap.size w uw93 := hc91.trans (hb94.mono hc91.size)
    have hz96 : uw88.heap.size ≤ uw93.heap.size := hb94.size
    clear hb94
    have p97 : uw93.cell? ⟨w.heap.size, 0, none⟩ = some (Value.int .i64 s0) := (unhide HX4).cell 0
    have p98 : uw93.cell? ⟨w.heap.size, 1, none⟩ = some (Value.slice a0 Q0.length c0) := (unhide HX4).cell 1
    go_wp2_with fail
    clear p97 p98
    refine (unhide TO0 uw93 hc95).mono ?_
    rintro e uw101 ⟨⟨d99, rfl, ho100⟩, hb102⟩
    have HX4 := hide ((unhide HX4).below hb102)
    have HO34 := hide ((unhide HO34).below hb102)
    have HO47 := hide ((unhide HO47).below hb102)
    have HX55 := hide ((unhide HX55).below hb102)
    have HO64 := hide ((unhide HO64).below hb102)
    have hc103 : Below w.heap.size w uw101 := hc95.trans (hb102.mono hc95.size)
    have hz104 : uw93.heap.size ≤ uw101.heap.size := hb102.size
    clear hb102
    have HO106 := hide ho100
    have HB107 := hide ho100.blk
    have hs110 := ho100.at.shape
    obtain ⟨a108, c109, rfl⟩ := hs110
    clear ho100
    go_wp2_with fail
    refine (unhide IM uw101 _ (unhide HO106).at).mono ?_
    rintro e uw113 ⟨⟨d111, rfl, ho112⟩, hb114⟩
    have HX4 := hide ((unhide HX4).below hb114)
    have HO34 := hide ((unhide HO34).below hb114)
    have HO47 := hide ((unhide HO47).below hb114)
    have HX55 := hide ((unhide HX55).below hb114)
    have HO64 := hide ((unhide HO64).below hb114)
    have HO106 := hide ((unhide HO106).below hb114)
    have hc115 : Below w.heap.size w uw113 := hc103.trans (hb114.mono hc103.size)
    have hz116 : uw101.heap.size ≤ uw113.heap.size := hb114.size
    clear hb114
    have HO117 := hide ho112
    have HB118 := hide ho112.blk
    have hs121 := ho112.at.shape
    obtain ⟨a119, c120, rfl⟩ := hs121
    clear ho112
    go_wp2_with fail
    refine (unhide ER0 uw113 _ _ (unhide HO117).at (unhide HO34).at).mono ?_
    rintro e uw122 ⟨rfl, hb123⟩
    have HX4 := hide ((unhide HX4).below hb123)
    have HO34 := hide ((unhide HO34).below hb123)
    have HO47 := hide ((unhide HO47).below hb123)
    have HX55 := hide ((unhide HX55).below hb123)
    have HO64 := hide ((unhide HO64).below hb123)
    have HO117 := hide ((unhide HO117).below hb123)
    have hc124 : Below w.heap.size w uw122 := hc115.trans (hb123.mono hc115.size)
    have hz125 : uw113.heap.size ≤ uw122.heap.size := hb123.size
    clear hb123
    go_wp2_with fail
    refine (unhide HR0 uw122 _ (unhide HO64).at).mono ?_
    rintro e uw126 ⟨rfl, hb127⟩
    have HX4 := hide ((unhide HX4).below hb127)
    have HO34 := hide ((unhide HO34).below hb127)
    have HO47 := hide ((unhide HO47).below hb127)
    have HX55 := hide ((unhide HX55).below hb127)
    have HO64 := hide ((unhide HO64).below hb127)
    have HO117 := hide ((unhide HO117).below hb127)
    have hc128 : Below w.heap.size w uw126 := hc124.trans (hb127.mono hc124.size)
    have hz129 : uw122.heap.size ≤ uw126.heap.size := hb127.size
    clear hb127
    go_wp2
    go_ret
    exact ⟨rfl, hc128⟩

set_option maxRecDepth 100000 in
theorem lifted (os : Os) (started : os.Started) (H : Type) (enc : TypeId × Value → H) :
    ReturnsInHanded {} Try.checked os 7 .any (Rows.fnExactBlocksSpec.pre6 enc Try.prog Try.f7 Rows.fnExactBlocksRow.domain false) (Rows.fnExactBlocksSpec.post enc Try.prog Try.f7 false true false false) := by
  refine returnsInHanded_of_change (C := Try.checked) own started (by kernel_rfl) Try.func7
    (ChangeSpec.witness6 (enc := enc) (C := Try.checked) false ⟨#[], #[.agg #[.int .i64 0, .slice none 0 0]], []⟩ 8 (by kernel_rfl) (by kernel_rfl) (by kernel_rfl) (by kernel_rfl)) ?_
  intro W base args ds gs before hval0 hW _ _
  have hval : ∀ (j : Nat) t v, Try.f7.params[j]? = some t → args[j]? = some v → Value.okWide Try.prog W .any base t v := hval0
  have hW' := hW
  obtain ⟨p, q, hA0, hV, rfl, hfz, hnd⟩ := hW
  have hA : DataW.TrodAll enc Try.prog W 0 (fun _ => true) true Try.f7.params.toList args.toList ds p := hA0
  rw [Try.params7] at hA hval
  obtain ⟨v0, vs0, d0, ds0, p0, q0, hargs, rfl, rfl, h0, r0⟩ := trodAll_cons hA
  obtain ⟨rfl, rfl, rfl⟩ := trodAll_nil r0
  obtain rfl : args = #[v0] := by cases args; simp_all
  obtain ⟨rfl, rfl⟩ := trodVars_none hV
  have k0 := h0
  have lt0 : ∀ x ∈ p0, x.block < W.heap.size := by obtain ⟨m, hm⟩ := k0; exact DataW.trod_lt m _ _ _ hm
  obtain ⟨s0, Q0, hv0, hn0⟩ := graph_in (hval 0 24 v0 rfl rfl) h0
  clear hA0 hval0
  refine (walk v0 s0 Q0 W hv0 hn0).mono fun e W' ⟨he, bel⟩ => ?_
  subst he
  exact ⟨_, rfl, _, _, _, [], _, [], hW', trodAll_mk1 (shut_bool Try.underlying4 _), (trodAll_cons_mk (Below.trod laidOut (by kernel_rfl) (of_decide_eq_true (by kernel_rfl)) k0 bel lt0) trodAll_mk0), rfl, bel.frame _, fun h => by cases h⟩

theorem over : Rows.fnExactBlocksRow.holds Try.pinned (OpenSpec.ofChange Rows.fnExactBlocksSpec) :=
  OpenClaim.holds_of_wide 7 Try.f7 rfl rfl rfl rfl rfl rfl rfl ⟨rfl, rfl, rfl, rfl, rfl⟩ rfl rfl rfl rfl rfl (by kernel_rfl) Try.func7 (by kernel_rfl)
    (of_decide_eq_true (by kernel_rfl)) (by unfold Func.isWrapper; first | (rw [if_pos (by decide +kernel)]; kernel_rfl) | (rw [if_neg (by decide +kernel)]; exact ⟨rfl, rfl⟩))
    (fun os started H enc _ => lifted os started H enc)

end Go.Proofs.Ytejfknkcakeakaa.fnExactBlocks
namespace Go.Proofs.Ytejfknkcakeakaa
theorem fnExactBlocks_holds : Rows.FnExactBlocksSaid := fnExactBlocks.over
#print axioms fnExactBlocks_holds
end Go.Proofs.Ytejfknkcakeakaa
