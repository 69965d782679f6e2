/-
  impl.PoolOf answers as the specification; it writes into no argument, and its answer owns its memory. Walk and frame written by program (tools/exactlaw.py).
-/
import Derived.Test.YtihnaddfpmjpaaaGreatDoorCards
import Derived.Test.YtihnaddfpmjpaaaGreatDoorTie
import Derived.Deep.DeepHandedRow
import Derived.Lib.LaidTab
import Derived.Lib.SmallJoins
import Derived.Stop.LaidErr
import Derived.Test.YtihnaddfpmjpaaaGreatDoorJ44
import Derived.Test.YtihnaddfpmjpaaaGreatDoorChecked
import Derived.Deep.RegionHeld3
import Derived.ShutString
import Derived.Below
namespace Go.Proofs.YtihnaddfpmjpaaaGreatDoor.fnExactPoolOf
open Go.Proofs.YtihnaddfpmjpaaaGreatDoor Go.Proofs.YtihnaddfpmjpaaaGreatDoor.Gr
open Go.ChangeShapes Go.WideShapes Go.ChangeAt Go.RowKit
open Go.ChangeMaps (open_string shut_string)

theorem own : ownKnob Tryz.prog.godebug = none := by kernel_rfl

theorem laidOut : laidOutB Tryz.prog = true := by kernel_rfl

set_option maxRecDepth 100000 in
set_option maxHeartbeats 4000000 in
theorem walk (v0 : Value) (Q0 : List (ByteArray × ByteArray)) (w : World) (hv0 : PaAt w v0 w.heap.size Q0) (hn0 : pasize Q0 ≤ 9223372036854775807) (HT : Hid (Rg.Tab w.heap.size w)) :
    Calls Tryz.prog 5 #[v0] w fun e w' => e = .returned (.bool true) ∧ Below w.heap.size w w' := by
  have HV0 := hide hv0
  have HN0 := hide hn0
  have sh0 := hv0.shape
  obtain ⟨a0, c0, rfl⟩ := sh0
  clear hv0 hn0
  go_enter Tryz.func5, Tryz.ntmps5
  go_wp2_with fail
  refine (szPairS_gen _ w.heap.size Q0 1048576 (by omega) (by omega) (unhide HN0) w (unhide HV0)).mono ?_
  rintro e uw2 ⟨⟨z1, rfl, hxz1, hyz1⟩, hb3⟩
  have hc4 : Below w.heap.size w uw2 := hb3
  have hz5 : w.heap.size ≤ uw2.heap.size := hb3.size
  clear hb3
  by_cases hnegz1 : z1 < 0
  · go_wp2
    go_ret
    exact ⟨rfl, hc4⟩
  · have htz1 := hyz1 (by omega)
    have hb0 : pasize Q0 ≤ 1048576 := by omega
    have TO0 := hide (fun w1 (hb : Below w.heap.size w w1) => toPairS_gen _ w.heap.size Q0 hb0 w1 hb.size ((unhide HV0).below hb (Nat.le_refl _)))
    have EQ0 := hide (fun w1 d d1 (hd : PaAt w1 d w1.heap.size Q0) (hd1 : PaAt w1 d1 w1.heap.size Q0) => eqPairS_gen d d1 w1.heap.size w1.heap.size Q0 hb0 w1 (Nat.le_refl _) (Nat.le_refl _) hd hd1)
    have SP := hide (fun w1 d0 (hd0 : PaAt w1 d0 w1.heap.size Q0) => specPool_gen' w1.heap.size d0 Q0 hb0 w1 (Nat.le_refl _) hd0)
    have IM := hide (fun w1 (hbT : Below w.heap.size w w1) d0 (hd0 : PaAt w1 d0 w1.heap.size Q0) => implPool_gen' w1.heap.size d0 Q0 hb0 w1 (Nat.le_refl _) (((unhide HT).below hbT).mono hbT.size) hd0)
    have hl0 : (Rg.poolIds Q0).length ≤ 1048576 := by first | omega | (exact Nat.le_trans (poolIds_len Q0) (by omega))
    generalize Rg.poolIds Q0 = Kr0 at SP IM hl0
    have hl1 : (Rg.poolE Q0).length ≤ 1048576 := by first | omega | (exact Nat.le_trans (poolE_len Q0) (by omega))
    generalize poolS Q0 = sr1 at SP IM
    generalize Rg.poolE Q0 = Qr1 at SP IM hl1
    generalize Rg.poolOkR Q0 = ret2 at SP IM
    have hne2 : (ret2 != ret2) = false := by simp
    have ER0 := hide (fun w1 d d1 (hd : InAt w1 d w1.heap.size Kr0) (hd1 : InAt w1 d1 w1.heap.size Kr0) => eqInts_gen d d1 w1.heap.size w1.heap.size Kr0 hl0 w1 (Nat.le_refl _) (Nat.le_refl _) hd hd1)
    have ER1 := hide (fun w1 d d1 (hd : GrAt w1 d w1.heap.size sr1 Qr1) (hd1 : GrAt w1 d1 w1.heap.size sr1 Qr1) => eqGraph_same d d1 w1.heap.size w1.heap.size sr1 Qr1 hl1 w1 (Nat.le_refl _) (Nat.le_refl _) hd hd1)
    have MK0 := hide (fun w1 B d (hd : PaOwn w1 B d Q0) => markPairS_gen d B 1 Q0 (by omega) w1 hd)
    obtain ⟨kx0, hkx0⟩ : ∃ k : Nat, k = 1 + Q0.length * 2 := ⟨_, rfl⟩
    rw [← hkx0] at MK0
    have hkn0 : ¬ ((kx0 : Nat) : Int) < 0 := by omega
    have MR0 := hide (fun w1 B d (hd : InOwn w1 B d Kr0) => markInts_gen d B 1 Kr0 (by omega) w1 hd)
    have HR0 := hide (fun w1 d (hd : InAt w1 d w1.heap.size (marksN 1 Kr0.length)) => heldInts_gen d w1.heap.size 1 Kr0.length (by omega) w1 (Nat.le_refl _) hd)
    obtain ⟨km0, hkm0⟩ : ∃ k : Nat, k = 1 + Kr0.length := ⟨_, rfl⟩
    rw [← hkm0] at MR0 HR0
    have hkr0 : ¬ ((km0 : Nat) : Int) < 0 := by omega
    have hkq0 : (((km0 : Nat) : Int) != ((km0 : Nat) : Int)) = false := by simp
    have MR1 := hide (fun w1 B d (hd : GrOwn w1 B d sr1 Qr1) => markGraph_any d B km0 sr1 Qr1 (by omega) w1 hd)
    have HR1 := hide (fun w1 d (hd : GrAt w1 d w1.heap.size sr1 (marksEdge km0 Qr1.length)) => heldGraph_any d w1.heap.size km0 Qr1.length sr1 (by omega) w1 (Nat.le_refl _) hd)
    obtain ⟨km1, hkm1⟩ : ∃ k : Nat, k = km0 + Qr1.length * 5 := ⟨_, rfl⟩
    rw [← hkm1] at MR1 HR1
    have hkr1 : ¬ ((km1 : Nat) : Int) < 0 := by omega
    have hkq1 : (((km1 : Nat) : Int) != ((km1 : Nat) : Int)) = false := by simp
    clear hkx0 hkm0 hkm1 hb0 hl0 hl1
    go_wp2_with fail
    refine (unhide TO0 uw2 hc4).mono ?_
    rintro e uw8 ⟨⟨d6, rfl, ho7⟩, hb9⟩
    have hc10 : Below w.heap.size w uw8 := hc4.trans (hb9.mono hc4.size)
    have hz11 : uw2.heap.size ≤ uw8.heap.size := hb9.size
    clear hb9
    have HO13 := hide ho7
    have HB14 := hide ho7.blk
    have hs17 := ho7.at.shape
    obtain ⟨a15, c16, rfl⟩ := hs17
    clear ho7
    go_wp2_with fail
    refine (unhide SP uw8 _ (unhide HO13).at).mono ?_
    rintro e uw22 ⟨⟨d18, d20, rfl, ho19, ho21⟩, hb23⟩
    have HO13 := hide ((unhide HO13).below hb23)
    have hc24 : Below w.heap.size w uw22 := hc10.trans (hb23.mono hc10.size)
    have hz25 : uw8.heap.size ≤ uw22.heap.size := hb23.size
    clear hb23
    have HO26 := hide ho19
    have HB27 := hide ho19.blk
    have hs30 := ho19.at.shape
    obtain ⟨a28, c29, rfl⟩ := hs30
    clear ho19
    have HO31 := hide ho21
    have HB32 := hide ho21.blk
    have hs35 := ho21.at.shape
    obtain ⟨a33, c34, rfl⟩ := hs35
    clear ho21
    obtain ⟨W36, hW37⟩ : ∃ W, W = uw22.alloc (Obj.cells #[Value.int .i64 sr1, Value.slice a33 Qr1.length c34] 35) := ⟨_, rfl⟩
    have hb38 : Below uw22.heap.size uw22 W36 := by rw [hW37]; exact below_new _ _
    have HO26 := hide ((unhide HO26).below hb38)
    have HO31 := hide ((unhide HO31).below hb38)
    have HX39 : Hid (CBox W36 uw22.heap.size #[Value.int .i64 sr1, Value.slice a33 Qr1.length c34] 35) := by show CBox _ _ _ _; rw [hW37]; exact CBox.new _ _ _
    have hc40 : Below w.heap.size w W36 := hc24.trans (hb38.mono hc24.size)
    have hz41 : uw22.heap.size < W36.heap.size := by rw [hW37]; simp
    clear hb38
    go_wp2_with fail
    rw [← hW37]
    clear hW37
    refine (unhide TO0 W36 hc40).mono ?_
    rintro e uw44 ⟨⟨d42, rfl, ho43⟩, hb45⟩
    have HO26 := hide ((unhide HO26).below hb45)
    have HO31 := hide ((unhide HO31).below hb45)
    have HX39 := hide ((unhide HX39).below hb45)
    have hc46 : Below w.heap.size w uw44 := hc40.trans (hb45.mono hc40.size)
    have hz47 : W36.heap.size ≤ uw44.heap.size := hb45.size
    clear hb45
    have HO48 := hide ho43
    have HB49 := hide ho43.blk
    have hs52 := ho43.at.shape
    obtain ⟨a50, c51, rfl⟩ := hs52
    clear ho43
    go_wp2_with fail
    refine (unhide IM uw44 hc46 _ (unhide HO48).at).mono ?_
    rintro e uw57 ⟨⟨d53, d55, rfl, ho54, ho56⟩, hb58⟩
    have HO26 := hide ((unhide HO26).below hb58)
    have HO31 := hide ((unhide HO31).below hb58)
    have HX39 := hide ((unhide HX39).below hb58)
    have HO48 := hide ((unhide HO48).below hb58)
    have hc59 : Below w.heap.size w uw57 := hc46.trans (hb58.mono hc46.size)
    have hz60 : uw44.heap.size ≤ uw57.heap.size := hb58.size
    clear hb58
    have HO61 := hide ho54
    have HB62 := hide ho54.blk
    have hs65 := ho54.at.shape
    obtain ⟨a63, c64, rfl⟩ := hs65
    clear ho54
    have HO66 := hide ho56
    have HB67 := hide ho56.blk
    have hs70 := ho56.at.shape
    obtain ⟨a68, c69, rfl⟩ := hs70
    clear ho56
    obtain ⟨W71, hW72⟩ : ∃ W, W = uw57.alloc (Obj.cells #[Value.int .i64 sr1, Value.slice a68 Qr1.length c69] 35) := ⟨_, rfl⟩
    have hb73 : Below uw57.heap.size uw57 W71 := by rw [hW72]; exact below_new _ _
    have HO26 := hide ((unhide HO26).below hb73)
    have HO31 := hide ((unhide HO31).below hb73)
    have HX39 := hide ((unhide HX39).below hb73)
    have HO48 := hide ((unhide HO48).below hb73)
    have HO61 := hide ((unhide HO61).below hb73)
    have HO66 := hide ((unhide HO66).below hb73)
    have HX74 : Hid (CBox W71 uw57.heap.size #[Value.int .i64 sr1, Value.slice a68 Qr1.length c69] 35) := by show CBox _ _ _ _; rw [hW72]; exact CBox.new _ _ _
    have hc75 : Below w.heap.size w W71 := hc59.trans (hb73.mono hc59.size)
    have hz76 : uw57.heap.size < W71.heap.size := by rw [hW72]; simp
    clear hb73
    go_wp2_with fail
    rw [← hW72]
    clear hW72
    refine (unhide ER0 W71 _ _ (unhide HO61).at (unhide HO26).at).mono ?_
    rintro e uw77 ⟨rfl, hb78⟩
    have HO26 := hide ((unhide HO26).below hb78)
    have HO31 := hide ((unhide HO31).below hb78)
    have HX39 := hide ((unhide HX39).below hb78)
    have HO48 := hide ((unhide HO48).below hb78)
    have HO61 := hide ((unhide HO61).below hb78)
    have HO66 := hide ((unhide HO66).below hb78)
    have HX74 := hide ((unhide HX74).below hb78)
    have hc79 : Below w.heap.size w uw77 := hc75.trans (hb78.mono hc75.size)
    have hz80 : W71.heap.size ≤ uw77.heap.size := hb78.size
    clear hb78
    have p81 : uw77.cell? ⟨uw57.heap.size, 0, none⟩ = some (Value.int .i64 sr1) := (unhide HX74).cell 0
    have p82 : uw77.cell? ⟨uw57.heap.size, 1, none⟩ = some (Value.slice a68 Qr1.length c69) := (unhide HX74).cell 1
    have p83 : uw77.cell? ⟨uw22.heap.size, 0, none⟩ = some (Value.int .i64 sr1) := (unhide HX39).cell 0
    have p84 : uw77.cell? ⟨uw22.heap.size, 1, none⟩ = some (Value.slice a33 Qr1.length c34) := (unhide HX39).cell 1
    go_wp2_with fail
    clear p81 p82 p83 p84
    refine (unhide ER1 uw77 _ _ (unhide HO66).at (unhide HO31).at).mono ?_
    rintro e uw85 ⟨rfl, hb86⟩
    have HO26 := hide ((unhide HO26).below hb86)
    have HO31 := hide ((unhide HO31).below hb86)
    have HX39 := hide ((unhide HX39).below hb86)
    have HO48 := hide ((unhide HO48).below hb86)
    have HO61 := hide ((unhide HO61).below hb86)
    have HO66 := hide ((unhide HO66).below hb86)
    have HX74 := hide ((unhide HX74).below hb86)
    have hc87 : Below w.heap.size w uw85 := hc79.trans (hb86.mono hc79.size)
    have hz88 : uw77.heap.size ≤ uw85.heap.size := hb86.size
    clear hb86
    go_wp2_with fail
    refine (unhide TO0 uw85 hc87).mono ?_
    rintro e uw91 ⟨⟨d89, rfl, ho90⟩, hb92⟩
    have HO26 := hide ((unhide HO26).below hb92)
    have HO31 := hide ((unhide HO31).below hb92)
    have HX39 := hide ((unhide HX39).below hb92)
    have HO48 := hide ((unhide HO48).below hb92)
    have HO61 := hide ((unhide HO61).below hb92)
    have HO66 := hide ((unhide HO66).below hb92)
    have HX74 := hide ((unhide HX74).below hb92)
    have hc93 : Below w.heap.size w uw91 := hc87.trans (hb92.mono hc87.size)
    have hz94 : uw85.heap.size ≤ uw91.heap.size := hb92.size
    clear hb92
    have HO96 := hide ho90
    have HB97 := hide ho90.blk
    have hs100 := ho90.at.shape
    obtain ⟨a98, c99, rfl⟩ := hs100
    clear ho90
    go_wp2_with fail
    refine (unhide EQ0 uw91 _ _ (unhide HO48).at (unhide HO96).at).mono ?_
    rintro e uw101 ⟨rfl, hb102⟩
    have HO26 := hide ((unhide HO26).below hb102)
    have HO31 := hide ((unhide HO31).below hb102)
    have HX39 := hide ((unhide HX39).below hb102)
    have HO48 := hide ((unhide HO48).below hb102)
    have HO61 := hide ((unhide HO61).below hb102)
    have HO66 := hide ((unhide HO66).below hb102)
    have HX74 := hide ((unhide HX74).below hb102)
    have HO96 := hide ((unhide HO96).below hb102)
    have hc103 : Below w.heap.size w uw101 := hc93.trans (hb102.mono hc93.size)
    have hz104 : uw91.heap.size ≤ uw101.heap.size := hb102.size
    clear hb102
    go_wp2_with fail
    refine (unhide MK0 uw101 _ _ (unhide HO48)).mono ?_
    rintro e uw105 ⟨rfl, ho107, hk106⟩
    have HO26 := hide ((unhide HO26).kept hk106 (fun g h0 h1 => by have h2 := unhide HB27 g h0; have h3 := unhide HB49 g h1; omega))
    have HO31 := hide ((unhide HO31).kept hk106 (fun g h0 h1 => by have h2 := unhide HB32 g h0; have h3 := unhide HB49 g h1; omega))
    have HX39 := hide ((unhide HX39).kept hk106 (fun h => by have h3 := unhide HB49 _ h; omega))
    have HO61 := hide ((unhide HO61).kept hk106 (fun g h0 h1 => by have h2 := unhide HB62 g h0; have h3 := unhide HB49 g h1; omega))
    have HO66 := hide ((unhide HO66).kept hk106 (fun g h0 h1 => by have h2 := unhide HB67 g h0; have h3 := unhide HB49 g h1; omega))
    have HX74 := hide ((unhide HX74).kept hk106 (fun h => by have h3 := unhide HB49 _ h; omega))
    have HO48 := hide ho107
    have hc108 : Below w.heap.size w uw105 := hc103.trans (hk106.below hc103.size (fun g hg => by have h3 := unhide HB49 g hg; omega))
    have hz109 : uw101.heap.size ≤ uw105.heap.size := hk106.2.2.2.1
    clear ho107 hk106
    go_wp2_with fail
    refine (unhide ER0 uw105 _ _ (unhide HO61).at (unhide HO26).at).mono ?_
    rintro e uw110 ⟨rfl, hb111⟩
    have HO26 := hide ((unhide HO26).below hb111)
    have HO31 := hide ((unhide HO31).below hb111)
    have HX39 := hide ((unhide HX39).below hb111)
    have HO48 := hide ((unhide HO48).below hb111)
    have HO61 := hide ((unhide HO61).below hb111)
    have HO66 := hide ((unhide HO66).below hb111)
    have HX74 := hide ((unhide HX74).below hb111)
    have hc112 : Below w.heap.size w uw110 := hc108.trans (hb111.mono hc108.size)
    have hz113 : uw105.heap.size ≤ uw110.heap.size := hb111.size
    clear hb111
    have p114 : uw110.cell? ⟨uw57.heap.size, 0, none⟩ = some (Value.int .i64 sr1) := (unhide HX74).cell 0
    have p115 : uw110.cell? ⟨uw57.heap.size, 1, none⟩ = some (Value.slice a68 Qr1.length c69) := (unhide HX74).cell 1
    have p116 : uw110.cell? ⟨uw22.heap.size, 0, none⟩ = some (Value.int .i64 sr1) := (unhide HX39).cell 0
    have p117 : uw110.cell? ⟨uw22.heap.size, 1, none⟩ = some (Value.slice a33 Qr1.length c34) := (unhide HX39).cell 1
    go_wp2_with fail
    clear p114 p115 p116 p117
    refine (unhide ER1 uw110 _ _ (unhide HO66).at (unhide HO31).at).mono ?_
    rintro e uw118 ⟨rfl, hb119⟩
    have HO26 := hide ((unhide HO26).below hb119)
    have HO31 := hide ((unhide HO31).below hb119)
    have HX39 := hide ((unhide HX39).below hb119)
    have HO48 := hide ((unhide HO48).below hb119)
    have HO61 := hide ((unhide HO61).below hb119)
    have HO66 := hide ((unhide HO66).below hb119)
    have HX74 := hide ((unhide HX74).below hb119)
    have hc120 : Below w.heap.size w uw118 := hc112.trans (hb119.mono hc112.size)
    have hz121 : uw110.heap.size ≤ uw118.heap.size := hb119.size
    clear hb119
    go_wp2_with fail
    refine (unhide MR0 uw118 _ _ (unhide HO61)).mono ?_
    rintro e uw122 ⟨rfl, ho124, hk123⟩
    have HO26 := hide ((unhide HO26).kept hk123 (fun g h0 h1 => by have h2 := unhide HB27 g h0; have h3 := unhide HB62 g h1; omega))
    have HO31 := hide ((unhide HO31).kept hk123 (fun g h0 h1 => by have h2 := unhide HB32 g h0; have h3 := unhide HB62 g h1; omega))
    have HX39 := hide ((unhide HX39).kept hk123 (fun h => by have h3 := unhide HB62 _ h; omega))
    have HO48 := hide ((unhide HO48).kept hk123 (fun g h0 h1 => by have h2 := unhide HB49 g h0; have h3 := unhide HB62 g h1; omega))
    have HO66 := hide ((unhide HO66).kept hk123 (fun g h0 h1 => in_gr_apart (unhide HO61) (unhide HO66) g h1 h0))
    have HX74 := hide ((unhide HX74).kept hk123 (fun h => by have h3 := unhide HB62 _ h; omega))
    have HO61 := hide ho124
    have hc125 : Below w.heap.size w uw122 := hc120.trans (hk123.below hc120.size (fun g hg => by have h3 := unhide HB62 g hg; omega))
    have hz126 : uw118.heap.size ≤ uw122.heap.size := hk123.2.2.2.1
    clear ho124 hk123
    have p127 : uw122.cell? ⟨uw57.heap.size, 0, none⟩ = some (Value.int .i64 sr1) := (unhide HX74).cell 0
    have p128 : uw122.cell? ⟨uw57.heap.size, 1, none⟩ = some (Value.slice a68 Qr1.length c69) := (unhide HX74).cell 1
    go_wp2_with fail
    clear p127 p128
    refine (unhide MR1 uw122 _ _ (unhide HO66)).mono ?_
    rintro e uw129 ⟨rfl, ho131, hk130⟩
    have HO26 := hide ((unhide HO26).kept hk130 (fun g h0 h1 => by have h2 := unhide HB27 g h0; have h3 := unhide HB67 g h1; omega))
    have HO31 := hide ((unhide HO31).kept hk130 (fun g h0 h1 => by have h2 := unhide HB32 g h0; have h3 := unhide HB67 g h1; omega))
    have HX39 := hide ((unhide HX39).kept hk130 (fun h => by have h3 := unhide HB67 _ h; omega))
    have HO48 := hide ((unhide HO48).kept hk130 (fun g h0 h1 => by have h2 := unhide HB49 g h0; have h3 := unhide HB67 g h1; omega))
    have HO61 := hide ((unhide HO61).kept hk130 (fun g h0 h1 => in_gr_apart (unhide HO61) (unhide HO66) g h0 h1))
    have HX74 := hide ((unhide HX74).kept hk130 (fun h => by have h3 := unhide HB67 _ h; omega))
    have HO66 := hide ho131
    have hc132 : Below w.heap.size w uw129 := hc125.trans (hk130.below hc125.size (fun g hg => by have h3 := unhide HB67 g hg; omega))
    have hz133 : uw122.heap.size ≤ uw129.heap.size := hk130.2.2.2.1
    clear ho131 hk130
    go_wp2_with fail
    refine (unhide HR0 uw129 _ (unhide HO61).at).mono ?_
    rintro e uw134 ⟨rfl, hb135⟩
    have HO26 := hide ((unhide HO26).below hb135)
    have HO31 := hide ((unhide HO31).below hb135)
    have HX39 := hide ((unhide HX39).below hb135)
    have HO48 := hide ((unhide HO48).below hb135)
    have HO61 := hide ((unhide HO61).below hb135)
    have HO66 := hide ((unhide HO66).below hb135)
    have HX74 := hide ((unhide HX74).below hb135)
    have hc136 : Below w.heap.size w uw134 := hc132.trans (hb135.mono hc132.size)
    have hz137 : uw129.heap.size ≤ uw134.heap.size := hb135.size
    clear hb135
    have p138 : uw134.cell? ⟨uw57.heap.size, 0, none⟩ = some (Value.int .i64 sr1) := (unhide HX74).cell 0
    have p139 : uw134.cell? ⟨uw57.heap.size, 1, none⟩ = some (Value.slice a68 Qr1.length c69) := (unhide HX74).cell 1
    go_wp2_with fail
    clear p138 p139
    refine (unhide HR1 uw134 _ (unhide HO66).at).mono ?_
    rintro e uw140 ⟨rfl, hb141⟩
    have HO26 := hide ((unhide HO26).below hb141)
    have HO31 := hide ((unhide HO31).below hb141)
    have HX39 := hide ((unhide HX39).below hb141)
    have HO48 := hide ((unhide HO48).below hb141)
    have HO61 := hide ((unhide HO61).below hb141)
    have HO66 := hide ((unhide HO66).below hb141)
    have HX74 := hide ((unhide HX74).below hb141)
    have hc142 : Below w.heap.size w uw140 := hc136.trans (hb141.mono hc136.size)
    have hz143 : uw134.heap.size ≤ uw140.heap.size := hb141.size
    clear hb141
    go_wp2_with fail
    refine (unhide TO0 uw140 hc142).mono ?_
    rintro e uw146 ⟨⟨d144, rfl, ho145⟩, hb147⟩
    have HO26 := hide ((unhide HO26).below hb147)
    have HO31 := hide ((unhide HO31).below hb147)
    have HX39 := hide ((unhide HX39).below hb147)
    have HO48 := hide ((unhide HO48).below hb147)
    have HO61 := hide ((unhide HO61).below hb147)
    have HO66 := hide ((unhide HO66).below hb147)
    have HX74 := hide ((unhide HX74).below hb147)
    have hc148 : Below w.heap.size w uw146 := hc142.trans (hb147.mono hc142.size)
    have hz149 : uw140.heap.size ≤ uw146.heap.size := hb147.size
    clear hb147
    have HO151 := hide ho145
    have HB152 := hide ho145.blk
    have hs155 := ho145.at.shape
    obtain ⟨a153, c154, rfl⟩ := hs155
    clear ho145
    go_wp2_with fail
    refine (unhide IM uw146 hc148 _ (unhide HO151).at).mono ?_
    rintro e uw160 ⟨⟨d156, d158, rfl, ho157, ho159⟩, hb161⟩
    have HO26 := hide ((unhide HO26).below hb161)
    have HO31 := hide ((unhide HO31).below hb161)
    have HX39 := hide ((unhide HX39).below hb161)
    have HO48 := hide ((unhide HO48).below hb161)
    have HO61 := hide ((unhide HO61).below hb161)
    have HO66 := hide ((unhide HO66).below hb161)
    have HX74 := hide ((unhide HX74).below hb161)
    have HO151 := hide ((unhide HO151).below hb161)
    have hc162 : Below w.heap.size w uw160 := hc148.trans (hb161.mono hc148.size)
    have hz163 : uw146.heap.size ≤ uw160.heap.size := hb161.size
    clear hb161
    have HO164 := hide ho157
    have HB165 := hide ho157.blk
    have hs168 := ho157.at.shape
    obtain ⟨a166, c167, rfl⟩ := hs168
    clear ho157
    have HO169 := hide ho159
    have HB170 := hide ho159.blk
    have hs173 := ho159.at.shape
    obtain ⟨a171, c172, rfl⟩ := hs173
    clear ho159
    obtain ⟨W174, hW175⟩ : ∃ W, W = uw160.alloc (Obj.cells #[Value.int .i64 sr1, Value.slice a171 Qr1.length c172] 35) := ⟨_, rfl⟩
    have hb176 : Below uw160.heap.size uw160 W174 := by rw [hW175]; exact below_new _ _
    have HO26 := hide ((unhide HO26).below hb176)
    have HO31 := hide ((unhide HO31).below hb176)
    have HX39 := hide ((unhide HX39).below hb176)
    have HO48 := hide ((unhide HO48).below hb176)
    have HO61 := hide ((unhide HO61).below hb176)
    have HO66 := hide ((unhide HO66).below hb176)
    have HX74 := hide ((unhide HX74).below hb176)
    have HO164 := hide ((unhide HO164).below hb176)
    have HO169 := hide ((unhide HO169).below hb176)
    have HX177 : Hid (CBox W174 uw160.heap.size #[Value.int .i64 sr1, Value.slice a171 Qr1.length c172] 35) := by show CBox _ _ _ _; rw [hW175]; exact CBox.new _ _ _
    have hc178 : Below w.heap.size w W174 := hc162.trans (hb176.mono hc162.size)
    have hz179 : uw160.heap.size < W174.heap.size := by rw [hW175]; simp
    clear hb176
    go_wp2_with fail
    rw [← hW175]
    clear hW175
    refine (unhide ER0 W174 _ _ (unhide HO164).at (unhide HO26).at).mono ?_
    rintro e uw180 ⟨rfl, hb181⟩
    have HO26 := hide ((unhide HO26).below hb181)
    have HO31 := hide ((unhide HO31).below hb181)
    have HX39 := hide ((unhide HX39).below hb181)
    have HO48 := hide ((unhide HO48).below hb181)
    have HO61 := hide ((unhide HO61).below hb181)
    have HO66 := hide ((unhide HO66).below hb181)
    have HX74 := hide ((unhide HX74).below hb181)
    have HO164 := hide ((unhide HO164).below hb181)
    have HO169 := hide ((unhide HO169).below hb181)
    have HX177 := hide ((unhide HX177).below hb181)
    have hc182 : Below w.heap.size w uw180 := hc178.trans (hb181.mono hc178.size)
    have hz183 : W174.heap.size ≤ uw180.heap.size := hb181.size
    clear hb181
    have p184 : uw180.cell? ⟨uw160.heap.size, 0, none⟩ = some (Value.int .i64 sr1) := (unhide HX177).cell 0
    have p185 : uw180.cell? ⟨uw160.heap.size, 1, none⟩ = some (Value.slice a171 Qr1.length c172) := (unhide HX177).cell 1
    have p186 : uw180.cell? ⟨uw22.heap.size, 0, none⟩ = some (Value.int .i64 sr1) := (unhide HX39).cell 0
    have p187 : uw180.cell? ⟨uw22.heap.size, 1, none⟩ = some (Value.slice a33 Qr1.length c34) := (unhide HX39).cell 1
    go_wp2_with fail
    clear p184 p185 p186 p187
    refine (unhide ER1 uw180 _ _ (unhide HO169).at (unhide HO31).at).mono ?_
    rintro e uw188 ⟨rfl, hb189⟩
    have HO26 := hide ((unhide HO26).below hb189)
    have HO31 := hide ((unhide HO31).below hb189)
    have HX39 := hide ((unhide HX39).below hb189)
    have HO48 := hide ((unhide HO48).below hb189)
    have HO61 := hide ((unhide HO61).below hb189)
    have HO66 := hide ((unhide HO66).below hb189)
    have HX74 := hide ((unhide HX74).below hb189)
    have HO164 := hide ((unhide HO164).below hb189)
    have HO169 := hide ((unhide HO169).below hb189)
    have HX177 := hide ((unhide HX177).below hb189)
    have hc190 : Below w.heap.size w uw188 := hc182.trans (hb189.mono hc182.size)
    have hz191 : uw180.heap.size ≤ uw188.heap.size := hb189.size
    clear hb189
    go_wp2_with fail
    refine (unhide HR0 uw188 _ (unhide HO61).at).mono ?_
    rintro e uw192 ⟨rfl, hb193⟩
    have HO26 := hide ((unhide HO26).below hb193)
    have HO31 := hide ((unhide HO31).below hb193)
    have HX39 := hide ((unhide HX39).below hb193)
    have HO48 := hide ((unhide HO48).below hb193)
    have HO61 := hide ((unhide HO61).below hb193)
    have HO66 := hide ((unhide HO66).below hb193)
    have HX74 := hide ((unhide HX74).below hb193)
    have HO164 := hide ((unhide HO164).below hb193)
    have HO169 := hide ((unhide HO169).below hb193)
    have HX177 := hide ((unhide HX177).below hb193)
    have hc194 : Below w.heap.size w uw192 := hc190.trans (hb193.mono hc190.size)
    have hz195 : uw188.heap.size ≤ uw192.heap.size := hb193.size
    clear hb193
    have p196 : uw192.cell? ⟨uw57.heap.size, 0, none⟩ = some (Value.int .i64 sr1) := (unhide HX74).cell 0
    have p197 : uw192.cell? ⟨uw57.heap.size, 1, none⟩ = some (Value.slice a68 Qr1.length c69) := (unhide HX74).cell 1
    go_wp2_with fail
    clear p196 p197
    refine (unhide HR1 uw192 _ (unhide HO66).at).mono ?_
    rintro e uw198 ⟨rfl, hb199⟩
    have HO26 := hide ((unhide HO26).below hb199)
    have HO31 := hide ((unhide HO31).below hb199)
    have HX39 := hide ((unhide HX39).below hb199)
    have HO48 := hide ((unhide HO48).below hb199)
    have HO61 := hide ((unhide HO61).below hb199)
    have HO66 := hide ((unhide HO66).below hb199)
    have HX74 := hide ((unhide HX74).below hb199)
    have HO164 := hide ((unhide HO164).below hb199)
    have HO169 := hide ((unhide HO169).below hb199)
    have HX177 := hide ((unhide HX177).below hb199)
    have hc200 : Below w.heap.size w uw198 := hc194.trans (hb199.mono hc194.size)
    have hz201 : uw192.heap.size ≤ uw198.heap.size := hb199.size
    clear hb199
    go_wp2
    go_ret
    exact ⟨rfl, hc200⟩

theorem g0 : Tryz.prog.globalNamed "math/bits.deBruijn32tab" = some 3 := by kernel_rfl
theorem gt0 : (Tryz.prog.globals[3]?).map (·.type) = some 248 := by kernel_rfl
theorem ct0 : Tryz.prog.cellsOf 248 = 32 := by kernel_rfl
theorem ce0 : Tryz.prog.cellsOf 5 = 1 := by kernel_rfl
def zs0 : List Int := [0, 1, 28, 2, 29, 14, 24, 3, 30, 22, 20, 15, 25, 17, 4, 8, 31, 27, 13, 23, 21, 19, 16, 7, 26, 12, 18, 6, 11, 5, 10, 9]
theorem g1 : Tryz.prog.globalNamed "math/bits.deBruijn64tab" = some 4 := by kernel_rfl
theorem gt1 : (Tryz.prog.globals[4]?).map (·.type) = some 249 := by kernel_rfl
theorem ct1 : Tryz.prog.cellsOf 249 = 64 := by kernel_rfl
theorem ce1 : Tryz.prog.cellsOf 5 = 1 := by kernel_rfl
def zs1 : List Int := [0, 1, 56, 2, 57, 49, 28, 3, 61, 58, 42, 50, 38, 29, 17, 4, 62, 47, 59, 36, 45, 43, 51, 22, 53, 39, 33, 30, 24, 18, 12, 5, 63, 55, 48, 27, 60, 41, 37, 16, 46, 35, 44, 21, 52, 32, 23, 11, 54, 26, 40, 15, 34, 20, 31, 10, 25, 14, 19, 9, 13, 8, 7, 6]
theorem g2 : Tryz.prog.globalNamed "internal/strconv.uint64pow10" = some 2 := by kernel_rfl
theorem gt2 : (Tryz.prog.globals[2]?).map (·.type) = some 244 := by kernel_rfl
theorem ct2 : Tryz.prog.cellsOf 244 = 20 := by kernel_rfl
theorem ce2 : Tryz.prog.cellsOf 238 = 1 := by kernel_rfl
def zs2 : List Int := [1, 10, 100, 1000, 10000, 100000, 1000000, 10000000, 100000000, 1000000000, 10000000000, 100000000000, 1000000000000, 10000000000000, 100000000000000, 1000000000000000, 10000000000000000, 100000000000000000, 1000000000000000000, 10000000000000000000]
set_option maxRecDepth 100000 in
theorem tab {W : World} (h : laidMet Tryz.prog Rows.fnExactPoolOfRow.laid W) : Lib.TabIs Tryz.prog W "internal/strconv.uint64pow10" .u64 zs2 :=
  Lib.tabIs_of_head (zs := zs2) g2 gt2 Tryz.underlying244 Tryz.underlying238 ce2 ct2 (laidMet.tail (laidMet.tail h))
theorem plainLaid {W : World} (h : laidMetH Tryz.prog Rows.fnExactPoolOfRow.laid W) : laidMet Tryz.prog Rows.fnExactPoolOfRow.laid W := h

set_option maxRecDepth 100000 in
theorem contract (H : Type) (enc : TypeId × Value → H) (W : World) (base : Nat) (args : Array Value) (ds gs : List (DataW H)) (before : List MemPlace)
    (hval : ∀ (j : Nat) t v, Tryz.f5.params[j]? = some t → args[j]? = some v → Value.okWide Tryz.prog W .any base t v)
    (hW : DataW.Whole enc Tryz.prog Tryz.f5.params.toList Rows.fnExactPoolOfSpec.vars false W args.toList ds gs before) (hL : laidMet Tryz.prog Rows.fnExactPoolOfRow.laid W) :
    Calls Tryz.prog 5 args W fun e W' => ∃ v, e = .returned v ∧ Rows.fnExactPoolOfSpec.post enc Tryz.prog Tryz.f5 false true false false W args v W' := by
  have hW' := hW
  obtain ⟨p, q, hA0, hV, rfl, hfz, hnd⟩ := hW
  have hA : DataW.TrodAll enc Tryz.prog W 0 (fun _ => true) true Tryz.f5.params.toList args.toList ds p := hA0
  rw [Tryz.params5] at hA hval
  obtain ⟨v0, vs0, d0, ds0, p0, q0, hargs, rfl, rfl, h0, r0⟩ := trodAll_cons hA
  obtain ⟨rfl, rfl, rfl⟩ := trodAll_nil r0
  obtain rfl : args = #[v0] := by cases args; simp_all
  obtain ⟨rfl, rfl⟩ := trodVars_none hV
  have k0 := h0
  have lt0 : ∀ x ∈ p0, x.block < W.heap.size := by obtain ⟨m, hm⟩ := k0; exact DataW.trod_lt m _ _ _ hm
  obtain ⟨Q0, hv0, hn0⟩ := pairs_in (hval 0 22 v0 rfl rfl) h0
  clear hA0
  refine (walk v0 Q0 W hv0 hn0 (Lib.tabBelow_of_tabIs (show Lib.TabIs Tryz.prog W "internal/strconv.uint64pow10" .u64 Lib.pow10Tab from tab hL))).mono fun e W' ⟨he, bel⟩ => ?_
  subst he
  exact ⟨_, rfl, _, _, _, [], _, [], hW', trodAll_mk1 (shut_bool Tryz.underlying4 _), (trodAll_cons_mk (Below.trod laidOut (by kernel_rfl) (of_decide_eq_true (by kernel_rfl)) k0 bel lt0) trodAll_mk0), rfl, bel.frame _, fun h => by cases h⟩

def laidCells (zs : List Int) (k : IntKind) : Obj → Obj
  | .cells _ t frozen => .cells (zs.map fun z => Value.int k z).toArray t frozen
  | x => x

theorem laid_met (os : Os) : laidMet Tryz.prog Rows.fnExactPoolOfRow.laid (({ World.holding Tryz.prog os ⟨#[], #[], []⟩ with heap := ((((World.holding Tryz.prog os ⟨#[], #[], []⟩).heap.modify 3 (laidCells zs0 .u8)).modify 4 (laidCells zs1 .u8)).modify 2 (laidCells zs2 .u64)) } : World).forCall (fun _ _ => 0) ⟨#[], #[.slice none 0 0], []⟩).memory :=
  laidMet_of_run' 8 (by kernel_rfl) (by kernel_rfl)

theorem reads (os : Os) {H : Type} (enc : TypeId × Value → H) : ∃ places, DataW.whole enc Tryz.prog (({ World.holding Tryz.prog os ⟨#[], #[], []⟩ with heap := ((((World.holding Tryz.prog os ⟨#[], #[], []⟩).heap.modify 3 (laidCells zs0 .u8)).modify 4 (laidCells zs1 .u8)).modify 2 (laidCells zs2 .u64)) } : World).forCall (fun _ _ => 0) ⟨#[], #[.slice none 0 0], []⟩).memory Tryz.f5.params.toList Rows.fnExactPoolOfSpec.vars false (#[.slice none 0 0] : Array Value).toList 8 = some ([.nil], [], places) :=
  ⟨[], by kernel_rfl⟩

set_option maxRecDepth 100000 in
theorem lifted (os : Os) (started : os.Started) (H : Type) (enc : TypeId × Value → H) (F : Stop.Interp) :
    ReturnsInHanded {} Tryz.checked os 5 .any ((OpenSpec.ofChange Rows.fnExactPoolOfSpec).preRow enc Tryz.prog Tryz.f5 Rows.fnExactPoolOfRow.domain false Rows.fnExactPoolOfRow.laid) (((OpenSpec.ofChange Rows.fnExactPoolOfSpec).at F).post enc Tryz.prog Tryz.f5 false true false false) := by
  obtain ⟨places, hx⟩ := reads os enc
  refine returnsInHanded_of_row (C := Tryz.checked) (s := OpenSpec.ofChange Rows.fnExactPoolOfSpec) own started (by kernel_rfl) Tryz.func5
    (witness_row_at (enc := enc) (C := Tryz.checked) false ({ World.holding Tryz.prog os ⟨#[], #[], []⟩ with heap := ((((World.holding Tryz.prog os ⟨#[], #[], []⟩).heap.modify 3 (laidCells zs0 .u8)).modify 4 (laidCells zs1 .u8)).modify 2 (laidCells zs2 .u64)) } : World) #[.slice none 0 0] rfl (by kernel_rfl) (by kernel_rfl) (by kernel_rfl)
      (OpenSpec.preRow_of_cond 8 hx (by kernel_rfl) (fun k hk => by cases hk) (by kernel_rfl) (laid_met os))) ?_
  intro W base args ds gs before hval hW _ _ _ hL _ _
  exact contract H enc W base args ds gs before hval hW (plainLaid hL)

theorem said : Rows.FnExactPoolOfSaid :=
  OpenClaim.holds_of_cond 5 Tryz.f5 rfl rfl rfl rfl rfl rfl rfl ⟨rfl, rfl, rfl, rfl, rfl⟩ rfl rfl rfl rfl rfl (by kernel_rfl) Tryz.func5 (by kernel_rfl)
    (of_decide_eq_true (by kernel_rfl)) (by unfold Func.isWrapper; first | (rw [if_pos (by decide +kernel)]; kernel_rfl) | (rw [if_neg (by decide +kernel)]; exact ⟨rfl, rfl⟩))
    (fun os started H enc _ F => by rw [OpenClaim.pre_eq_preRow]; exact lifted os started H enc F)

theorem plain (f : FuncId) (fn : Func) (hf : Tryz.pinned.checked.prog.funcNamed "loop.example/g00105/laws.FnExactPoolOf" = some f) (hfn : Tryz.pinned.checked.prog.funcs[f]? = some fn) :
    true = Tryz.pinned.checked.prog.looks [] ∧ ∀ (j : Nat) t, fn.params[j]? = some t → Tryz.pinned.checked.prog.wantsStandIn t = false := by
  obtain rfl : f = 5 := Option.some.inj ((show Tryz.prog.funcNamed "loop.example/g00105/laws.FnExactPoolOf" = some 5 by kernel_rfl).symm.trans hf) |>.symm
  obtain rfl : fn = Tryz.f5 := (Option.some.inj (Tryz.func5.symm.trans hfn)).symm
  refine ⟨by kernel_rfl, fun j t ht => ?_⟩
  rw [Tryz.params5] at ht
  obtain rfl : t = 22 := by simpa using Array.mem_of_getElem? ht
  exact (show Tryz.prog.wantsStandIn 22 = false by kernel_rfl)

theorem card : Rows.FnExactPoolOfCardSaid :=
  Claim7.holds_tied_plain_at .later [] _ _ _ _ said (fun _ h => by cases h) (by kernel_rfl) (fun _ h => by cases h) fnExactPoolOf_row_tie rfl ⟨rfl, rfl⟩ (by kernel_rfl) rfl plain (by kernel_rfl)
end Go.Proofs.YtihnaddfpmjpaaaGreatDoor.fnExactPoolOf
namespace Go.Proofs.YtihnaddfpmjpaaaGreatDoor
theorem fnExactPoolOf_holds : Rows.FnExactPoolOfCardSaid := fnExactPoolOf.card
#print axioms fnExactPoolOf_holds
end Go.Proofs.YtihnaddfpmjpaaaGreatDoor
