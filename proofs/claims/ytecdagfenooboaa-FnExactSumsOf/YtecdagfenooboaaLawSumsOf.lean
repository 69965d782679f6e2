/-
  impl.SumsOf answers as the specification; it writes into no argument, and its answer owns its memory. Walk and frame written by program (tools/exactlaw.py).
-/
import Derived.Test.YtecdagfenooboaaRows
import Derived.Test.YtecdagfenooboaaGrImpl9
import Derived.Test.YtecdagfenooboaaChecked
import Derived.Deep.RegionHeld3
import Derived.ShutString
import Derived.Below
namespace Go.Proofs.Ytecdagfenooboaa.fnExactSumsOf
open Go.Proofs.Ytecdagfenooboaa Go.Proofs.Ytecdagfenooboaa.Gr
open Go.ChangeShapes Go.WideShapes Go.ChangeAt Go.RowKit

theorem own : ownKnob Try.prog.godebug = none := by kernel_rfl

theorem laidOut : laidOutB Try.prog = true := by kernel_rfl

set_option maxRecDepth 100000 in
set_option maxHeartbeats 4000000 in
theorem walk (v0 : Value) (s0 : Int) (Q0 : List EdgeI) (v1 : Value) (M1 : List CoupleI) (w : World) (hv0 : GrAt w v0 w.heap.size s0 Q0) (hn0 : Q0.length ≤ 9223372036854775807) (hv1 : CoAt w v1 w.heap.size M1) (hn1 : M1.length ≤ 9223372036854775807) :
    Calls Try.prog 4 #[v0, v1] w fun e w' => e = .returned (.bool true) ∧ Below w.heap.size w w' := by
  have HV0 := hide hv0
  have HV1 := hide hv1
  have HN0 := hide hn0
  have HN1 := hide hn1
  have sh0 := hv0.shape
  obtain ⟨a0, c0, rfl⟩ := sh0
  have sh1 := hv1.shape
  obtain ⟨a1, c1, rfl⟩ := sh1
  clear hv0 hv1 hn0 hn1
  obtain ⟨W1, hW2⟩ : ∃ W, W = w.alloc (Obj.cells #[Value.int .i64 s0, Value.slice a0 Q0.length c0] 24) := ⟨_, rfl⟩
  have hb3 : Below w.heap.size w W1 := by rw [hW2]; exact below_new _ _
  have HX4 : Hid (CBox W1 w.heap.size #[Value.int .i64 s0, Value.slice a0 Q0.length c0] 24) := by show CBox _ _ _ _; rw [hW2]; exact CBox.new _ _ _
  have hc5 : Below w.heap.size w W1 := hb3
  have hz6 : w.heap.size < W1.heap.size := by rw [hW2]; simp
  clear hb3
  have p7 : W1.cell? ⟨w.heap.size, 0, none⟩ = some (Value.int .i64 s0) := (unhide HX4).cell 0
  have p8 : W1.cell? ⟨w.heap.size, 1, none⟩ = some (Value.slice a0 Q0.length c0) := (unhide HX4).cell 1
  (try rw [hW2] at p7 p8)
  go_enter Try.func4, Try.ntmps4
  go_wp2_with fail
  rw [← hW2]
  clear hW2 p7 p8
  refine (szGraph_gen _ w.heap.size s0 Q0 1048576 (by omega) (by omega) (unhide HN0) W1 ((unhide HV0).below hc5 (Nat.le_refl _))).mono ?_
  rintro e uw10 ⟨⟨z9, rfl, hxz9, hyz9⟩, hb11⟩
  have HX4 := hide ((unhide HX4).below hb11)
  have hc12 : Below w.heap.size w uw10 := hc5.trans (hb11.mono hc5.size)
  have hz13 : W1.heap.size ≤ uw10.heap.size := hb11.size
  clear hb11
  by_cases hnegz9 : z9 < 0
  · go_wp2
    go_ret
    exact ⟨rfl, hc12⟩
  · have htz9 := hyz9 (by omega)
    go_wp2_with fail
    refine (szCoupleS_gen _ w.heap.size M1 z9 (by omega) (by omega) (unhide HN1) uw10 ((unhide HV1).below hc12 (Nat.le_refl _))).mono ?_
    rintro e uw15 ⟨⟨z14, rfl, hxz14, hyz14⟩, hb16⟩
    have HX4 := hide ((unhide HX4).below hb16)
    have hc17 : Below w.heap.size w uw15 := hc12.trans (hb16.mono hc12.size)
    have hz18 : uw10.heap.size ≤ uw15.heap.size := hb16.size
    clear hb16
    by_cases hnegz14 : z14 < 0
    · go_wp2
      go_ret
      exact ⟨rfl, hc17⟩
    · have htz14 := hyz14 (by omega)
      have hb0 : Q0.length ≤ 1048576 := by omega
      have hb1 : M1.length ≤ 1048576 := by omega
      have TO0 := hide (fun w1 (hb : Below w.heap.size w w1) => toGraph_any _ w.heap.size s0 Q0 hb0 w1 hb.size ((unhide HV0).below hb (Nat.le_refl _)))
      have EQ0 := hide (fun w1 d d1 (hd : GrAt w1 d w1.heap.size s0 Q0) (hd1 : GrAt w1 d1 w1.heap.size s0 Q0) => eqGraph_same d d1 w1.heap.size w1.heap.size s0 Q0 hb0 w1 (Nat.le_refl _) (Nat.le_refl _) hd hd1)
      have TO1 := hide (fun w1 (hb : Below w.heap.size w w1) => toCoupleS_gen _ w.heap.size M1 hb1 w1 hb.size ((unhide HV1).below hb (Nat.le_refl _)))
      have EQ1 := hide (fun w1 d d1 (hd : CoAt w1 d w1.heap.size M1) (hd1 : CoAt w1 d1 w1.heap.size M1) => eqCoupleS_gen d d1 w1.heap.size w1.heap.size M1 hb1 w1 (Nat.le_refl _) (Nat.le_refl _) hd hd1)
      have SP := hide (fun w1 d0 (hd0 : GrAt w1 d0 w1.heap.size s0 Q0) d1 (hd1 : CoAt w1 d1 w1.heap.size M1) => specSumsOf_gen w1.heap.size d0 s0 Q0 d1 M1 hb0 hb1 w1 (Nat.le_refl _) hd0 hd1)
      have IM := hide (fun w1 d0 (hd0 : GrAt w1 d0 w1.heap.size s0 Q0) d1 (hd1 : CoAt w1 d1 w1.heap.size M1) => implSumsOf_gen w1.heap.size d0 s0 Q0 d1 M1 hb0 hb1 w1 (Nat.le_refl _) hd0 hd1)
      generalize sumsR s0 Q0 M1 = xr0 at SP IM
      generalize matchOk s0 Q0 M1 = ret1 at SP IM
      have hne1 : (ret1 != ret1) = false := by simp
      have ER0 := hide (fun w1 d d1 (hd : SuAt w1 d w1.heap.size xr0) (hd1 : SuAt w1 d1 w1.heap.size xr0) => eqSums_gen d d1 w1.heap.size w1.heap.size xr0 w1 (Nat.le_refl _) (Nat.le_refl _) hd hd1)
      clear hb0 hb1
      have p19 : uw15.cell? ⟨w.heap.size, 0, none⟩ = some (Value.int .i64 s0) := (unhide HX4).cell 0
      have p20 : uw15.cell? ⟨w.heap.size, 1, none⟩ = some (Value.slice a0 Q0.length c0) := (unhide HX4).cell 1
      go_wp2_with fail
      clear p19 p20
      refine (unhide TO0 uw15 hc17).mono ?_
      rintro e uw23 ⟨⟨d21, rfl, ho22⟩, hb24⟩
      have HX4 := hide ((unhide HX4).below hb24)
      have hc25 : Below w.heap.size w uw23 := hc17.trans (hb24.mono hc17.size)
      have hz26 : uw15.heap.size ≤ uw23.heap.size := hb24.size
      clear hb24
      have HO28 := hide ho22
      have HB29 := hide ho22.blk
      have hs32 := ho22.at.shape
      obtain ⟨a30, c31, rfl⟩ := hs32
      clear ho22
      go_wp2_with fail
      refine (unhide TO1 uw23 hc25).mono ?_
      rintro e uw35 ⟨⟨d33, rfl, ho34⟩, hb36⟩
      have HX4 := hide ((unhide HX4).below hb36)
      have HO28 := hide ((unhide HO28).below hb36)
      have hc37 : Below w.heap.size w uw35 := hc25.trans (hb36.mono hc25.size)
      have hz38 : uw23.heap.size ≤ uw35.heap.size := hb36.size
      clear hb36
      have HO40 := hide ho34
      have HB41 := hide ho34.blk
      have hs44 := ho34.at.shape
      obtain ⟨a42, c43, rfl⟩ := hs44
      clear ho34
      go_wp2_with fail
      refine (unhide SP uw35 _ (unhide HO28).at _ (unhide HO40).at).mono ?_
      rintro e uw47 ⟨⟨d45, rfl, ho46⟩, hb48⟩
      have HX4 := hide ((unhide HX4).below hb48)
      have HO28 := hide ((unhide HO28).below hb48)
      have HO40 := hide ((unhide HO40).below hb48)
      have hc49 : Below w.heap.size w uw47 := hc37.trans (hb48.mono hc37.size)
      have hz50 : uw35.heap.size ≤ uw47.heap.size := hb48.size
      clear hb48
      have HO51 := hide ho46
      unfold SuOwn at ho46
      subst ho46
      (try unfold SumsI.v)
      obtain ⟨W56, hW57⟩ : ∃ W, W = uw47.alloc (Obj.cells #[Value.int .i64 xr0.W1, Value.int .i64 xr0.W2, Value.int .i64 xr0.W3] 39) := ⟨_, rfl⟩
      have hb58 : Below uw47.heap.size uw47 W56 := by rw [hW57]; exact below_new _ _
      have HX4 := hide ((unhide HX4).below hb58)
      have HO51 := hide ((unhide HO51).below hb58)
      have HX59 : Hid (CBox W56 uw47.heap.size #[Value.int .i64 xr0.W1, Value.int .i64 xr0.W2, Value.int .i64 xr0.W3] 39) := by show CBox _ _ _ _; rw [hW57]; exact CBox.new _ _ _
      have hc60 : Below w.heap.size w W56 := hc49.trans (hb58.mono hc49.size)
      have hz61 : uw47.heap.size < W56.heap.size := by rw [hW57]; simp
      clear hb58
      have p62 : W56.cell? ⟨w.heap.size, 0, none⟩ = some (Value.int .i64 s0) := (unhide HX4).cell 0
      have p63 : W56.cell? ⟨w.heap.size, 1, none⟩ = some (Value.slice a0 Q0.length c0) := (unhide HX4).cell 1
      (try rw [hW57] at p62 p63)
      go_wp2_with fail
      rw [← hW57]
      clear hW57 p62 p63
      refine (unhide TO0 W56 hc60).mono ?_
      rintro e uw66 ⟨⟨d64, rfl, ho65⟩, hb67⟩
      have HX4 := hide ((unhide HX4).below hb67)
      have HO51 := hide ((unhide HO51).below hb67)
      have HX59 := hide ((unhide HX59).below hb67)
      have hc68 : Below w.heap.size w uw66 := hc60.trans (hb67.mono hc60.size)
      have hz69 : W56.heap.size ≤ uw66.heap.size := hb67.size
      clear hb67
      have HO70 := hide ho65
      have HB71 := hide ho65.blk
      have hs74 := ho65.at.shape
      obtain ⟨a72, c73, rfl⟩ := hs74
      clear ho65
      obtain ⟨W75, hW76⟩ : ∃ W, W = uw66.alloc (Obj.cells #[Value.int .i64 s0, Value.slice a72 Q0.length c73] 31) := ⟨_, rfl⟩
      have hb77 : Below uw66.heap.size uw66 W75 := by rw [hW76]; exact below_new _ _
      have HX4 := hide ((unhide HX4).below hb77)
      have HO51 := hide ((unhide HO51).below hb77)
      have HX59 := hide ((unhide HX59).below hb77)
      have HO70 := hide ((unhide HO70).below hb77)
      have HX78 : Hid (CBox W75 uw66.heap.size #[Value.int .i64 s0, Value.slice a72 Q0.length c73] 31) := by show CBox _ _ _ _; rw [hW76]; exact CBox.new _ _ _
      have hc79 : Below w.heap.size w W75 := hc68.trans (hb77.mono hc68.size)
      have hz80 : uw66.heap.size < W75.heap.size := by rw [hW76]; simp
      clear hb77
      go_wp2_with fail
      rw [← hW76]
      clear hW76
      refine (unhide TO1 W75 hc79).mono ?_
      rintro e uw83 ⟨⟨d81, rfl, ho82⟩, hb84⟩
      have HX4 := hide ((unhide HX4).below hb84)
      have HO51 := hide ((unhide HO51).below hb84)
      have HX59 := hide ((unhide HX59).below hb84)
      have HO70 := hide ((unhide HO70).below hb84)
      have HX78 := hide ((unhide HX78).below hb84)
      have hc85 : Below w.heap.size w uw83 := hc79.trans (hb84.mono hc79.size)
      have hz86 : W75.heap.size ≤ uw83.heap.size := hb84.size
      clear hb84
      have HO87 := hide ho82
      have HB88 := hide ho82.blk
      have hs91 := ho82.at.shape
      obtain ⟨a89, c90, rfl⟩ := hs91
      clear ho82
      have p92 : uw83.cell? ⟨uw66.heap.size, 0, none⟩ = some (Value.int .i64 s0) := (unhide HX78).cell 0
      have p93 : uw83.cell? ⟨uw66.heap.size, 1, none⟩ = some (Value.slice a72 Q0.length c73) := (unhide HX78).cell 1
      go_wp2_with fail
      clear p92 p93
      refine (unhide IM uw83 _ (unhide HO70).at _ (unhide HO87).at).mono ?_
      rintro e uw96 ⟨⟨d94, rfl, ho95⟩, hb97⟩
      have HX4 := hide ((unhide HX4).below hb97)
      have HO51 := hide ((unhide HO51).below hb97)
      have HX59 := hide ((unhide HX59).below hb97)
      have HO70 := hide ((unhide HO70).below hb97)
      have HX78 := hide ((unhide HX78).below hb97)
      have HO87 := hide ((unhide HO87).below hb97)
      have hc98 : Below w.heap.size w uw96 := hc85.trans (hb97.mono hc85.size)
      have hz99 : uw83.heap.size ≤ uw96.heap.size := hb97.size
      clear hb97
      have HO100 := hide ho95
      unfold SuOwn at ho95
      subst ho95
      (try unfold SumsI.v)
      obtain ⟨W105, hW106⟩ : ∃ W, W = uw96.alloc (Obj.cells #[Value.int .i64 xr0.W1, Value.int .i64 xr0.W2, Value.int .i64 xr0.W3] 39) := ⟨_, rfl⟩
      have hb107 : Below uw96.heap.size uw96 W105 := by rw [hW106]; exact below_new _ _
      have HX4 := hide ((unhide HX4).below hb107)
      have HO51 := hide ((unhide HO51).below hb107)
      have HX59 := hide ((unhide HX59).below hb107)
      have HO70 := hide ((unhide HO70).below hb107)
      have HX78 := hide ((unhide HX78).below hb107)
      have HO87 := hide ((unhide HO87).below hb107)
      have HO100 := hide ((unhide HO100).below hb107)
      have HX108 : Hid (CBox W105 uw96.heap.size #[Value.int .i64 xr0.W1, Value.int .i64 xr0.W2, Value.int .i64 xr0.W3] 39) := by show CBox _ _ _ _; rw [hW106]; exact CBox.new _ _ _
      have hc109 : Below w.heap.size w W105 := hc98.trans (hb107.mono hc98.size)
      have hz110 : uw96.heap.size < W105.heap.size := by rw [hW106]; simp
      clear hb107
      have p111 : W105.cell? ⟨uw96.heap.size, 0, none⟩ = some (Value.int .i64 xr0.W1) := (unhide HX108).cell 0
      have p112 : W105.cell? ⟨uw96.heap.size, 1, none⟩ = some (Value.int .i64 xr0.W2) := (unhide HX108).cell 1
      have p113 : W105.cell? ⟨uw96.heap.size, 2, none⟩ = some (Value.int .i64 xr0.W3) := (unhide HX108).cell 2
      have p114 : W105.cell? ⟨uw47.heap.size, 0, none⟩ = some (Value.int .i64 xr0.W1) := (unhide HX59).cell 0
      have p115 : W105.cell? ⟨uw47.heap.size, 1, none⟩ = some (Value.int .i64 xr0.W2) := (unhide HX59).cell 1
      have p116 : W105.cell? ⟨uw47.heap.size, 2, none⟩ = some (Value.int .i64 xr0.W3) := (unhide HX59).cell 2
      (try rw [hW106] at p111 p112 p113 p114 p115 p116)
      go_wp2_with fail
      rw [← hW106]
      clear hW106 p111 p112 p113 p114 p115 p116
      refine (unhide ER0 W105 _ _ (unhide HO100).at (unhide HO51).at).mono ?_
      rintro e uw117 ⟨rfl, hb118⟩
      have HX4 := hide ((unhide HX4).below hb118)
      have HO51 := hide ((unhide HO51).below hb118)
      have HX59 := hide ((unhide HX59).below hb118)
      have HO70 := hide ((unhide HO70).below hb118)
      have HX78 := hide ((unhide HX78).below hb118)
      have HO87 := hide ((unhide HO87).below hb118)
      have HO100 := hide ((unhide HO100).below hb118)
      have HX108 := hide ((unhide HX108).below hb118)
      have hc119 : Below w.heap.size w uw117 := hc109.trans (hb118.mono hc109.size)
      have hz120 : W105.heap.size ≤ uw117.heap.size := hb118.size
      clear hb118
      have r0 : uw117.cell? ⟨uw66.heap.size, 0, none⟩ = some (Value.int .i64 s0) := (unhide HX78).cell 0
      have r1 : uw117.cell? ⟨uw66.heap.size, 1, none⟩ = some (Value.slice a72 Q0.length c73) := (unhide HX78).cell 1
      have p0 : uw117.cell? ⟨w.heap.size, 0, none⟩ = some (Value.int .i64 s0) := (unhide HX4).cell 0
      have p1 : uw117.cell? ⟨w.heap.size, 1, none⟩ = some (Value.slice a0 Q0.length c0) := (unhide HX4).cell 1
      have hk0 : uw66.heap.size < uw117.heap.size := (unhide HX78).lt
      have hk1 : w.heap.size < uw117.heap.size := (unhide HX4).lt
      have LIVE := hide (fun w8 (hb : Below uw117.heap.size uw117 w8) => And.intro ((unhide HX4).below hb) (And.intro ((unhide HO51).below hb) (And.intro ((unhide HX59).below hb) (And.intro ((unhide HO70).below hb) (And.intro ((unhide HX78).below hb) (And.intro ((unhide HO87).below hb) (And.intro ((unhide HO100).below hb) ((unhide HX108).below hb))))))))
      have HOD := hide ((unhide HO70).at.below ((Below.refl uw117.heap.size uw117).drew) (Nat.le_refl _))
      go_wp2_with fail
      go_region_held3 (fun u => u.cell? ⟨uw66.heap.size, 0, none⟩ = some (Value.int .i64 s0) ∧ u.cell? ⟨uw66.heap.size, 1, none⟩ = some (Value.slice a72 Q0.length c73) ∧ u.cell? ⟨w.heap.size, 0, none⟩ = some (Value.int .i64 s0) ∧ u.cell? ⟨w.heap.size, 1, none⟩ = some (Value.slice a0 Q0.length c0))
        (first | go_keep | exact ⟨(hb9.cell (p := ⟨uw66.heap.size, 0, none⟩) l0).trans qr0, (hb9.cell (p := ⟨uw66.heap.size, 1, none⟩) l0).trans qr1, (hb9.cell (p := ⟨w.heap.size, 0, none⟩) l1).trans qp0, (hb9.cell (p := ⟨w.heap.size, 1, none⟩) l1).trans qp1⟩ | exact ⟨qr0, qr1, qp0, qp1⟩)
        (first
          | (go_at_call 12; refine (unhide TO0 _ hc119.drew).mono ?_; rintro e w8 ⟨⟨d8, rfl, ho8⟩, hb8⟩; have HE8 := hide ho8.at; have hs8 := ho8.at.shape; obtain ⟨a8, c8, rfl⟩ := hs8; have HO8 := hide (((unhide HOD).below hb8 (Nat.le_refl _)).mono (show uw117.heap.size ≤ w8.heap.size from hb8.size)); have qr0 := (hb8.cell (p := ⟨uw66.heap.size, 0, none⟩) hk0).trans r0; have qr1 := (hb8.cell (p := ⟨uw66.heap.size, 1, none⟩) hk0).trans r1; have qp0 := (hb8.cell (p := ⟨w.heap.size, 0, none⟩) hk1).trans p0; have qp1 := (hb8.cell (p := ⟨w.heap.size, 1, none⟩) hk1).trans p1; have l0 : uw66.heap.size < w8.heap.size := Nat.lt_of_lt_of_le hk0 hb8.size; have l1 : w.heap.size < w8.heap.size := Nat.lt_of_lt_of_le hk1 hb8.size; have hc8 : Below w.heap.size w w8 := hc119.drew.trans (hb8.mono hc119.size); have hb78 : Below uw117.heap.size uw117 w8 := (Below.refl uw117.heap.size uw117).drew.trans hb8; clear hb8)
          | (go_at_call 15; refine (unhide EQ0 w8 _ _ (unhide HO8) (unhide HE8)).mono ?_; rintro e w9 ⟨rfl, hb9⟩))
      have hb122 : Below uw117.heap.size uw117 w9 := hb78.trans (hb9.mono hb78.size)
      obtain ⟨zHX4, zHO51, zHX59, zHO70, zHX78, zHO87, zHO100, zHX108⟩ := unhide LIVE w9 hb122
      have HX4 := hide zHX4
      have HO51 := hide zHO51
      have HX59 := hide zHX59
      have HO70 := hide zHO70
      have HX78 := hide zHX78
      have HO87 := hide zHO87
      have HO100 := hide zHO100
      have HX108 := hide zHX108
      have hc123 : Below w.heap.size w w9 := hc119.trans (hb122.mono hc119.size)
      have hz124 : uw117.heap.size ≤ w9.heap.size := hb122.size
      obtain ⟨uw121, hwn⟩ : ∃ W, W = w9 := ⟨_, rfl⟩
      subst hwn
      clear hb78 hb122 hb9 hc8 LIVE HO8 HE8 HOD hk0 hk1 l0 l1 r0 r1 p0 p1 qr0 qr1 qp0 qp1 zHX4 zHO51 zHX59 zHO70 zHX78 zHO87 zHO100 zHX108
      go_wp2_with fail
      refine (unhide TO1 uw121 hc123).mono ?_
      rintro e uw127 ⟨⟨d125, rfl, ho126⟩, hb128⟩
      have HX4 := hide ((unhide HX4).below hb128)
      have HO51 := hide ((unhide HO51).below hb128)
      have HX59 := hide ((unhide HX59).below hb128)
      have HO70 := hide ((unhide HO70).below hb128)
      have HX78 := hide ((unhide HX78).below hb128)
      have HO87 := hide ((unhide HO87).below hb128)
      have HO100 := hide ((unhide HO100).below hb128)
      have HX108 := hide ((unhide HX108).below hb128)
      have hc129 : Below w.heap.size w uw127 := hc123.trans (hb128.mono hc123.size)
      have hz130 : uw121.heap.size ≤ uw127.heap.size := hb128.size
      clear hb128
      have HO132 := hide ho126
      have HB133 := hide ho126.blk
      have hs136 := ho126.at.shape
      obtain ⟨a134, c135, rfl⟩ := hs136
      clear ho126
      go_wp2_with fail
      refine (unhide EQ1 uw127 _ _ (unhide HO87).at (unhide HO132).at).mono ?_
      rintro e uw137 ⟨rfl, hb138⟩
      have HX4 := hide ((unhide HX4).below hb138)
      have HO51 := hide ((unhide HO51).below hb138)
      have HX59 := hide ((unhide HX59).below hb138)
      have HO70 := hide ((unhide HO70).below hb138)
      have HX78 := hide ((unhide HX78).below hb138)
      have HO87 := hide ((unhide HO87).below hb138)
      have HO100 := hide ((unhide HO100).below hb138)
      have HX108 := hide ((unhide HX108).below hb138)
      have HO132 := hide ((unhide HO132).below hb138)
      have hc139 : Below w.heap.size w uw137 := hc129.trans (hb138.mono hc129.size)
      have hz140 : uw127.heap.size ≤ uw137.heap.size := hb138.size
      clear hb138
      go_wp2
      go_ret
      exact ⟨rfl, hc139⟩

set_option maxRecDepth 100000 in
theorem lifted (os : Os) (started : os.Started) (H : Type) (enc : TypeId × Value → H) :
    ReturnsInHanded {} Try.checked os 4 .any (Rows.fnExactSumsOfSpec.pre6 enc Try.prog Try.f4 Rows.fnExactSumsOfRow.domain false) (Rows.fnExactSumsOfSpec.post enc Try.prog Try.f4 false true false false) := by
  refine returnsInHanded_of_change (C := Try.checked) own started (by kernel_rfl) Try.func4
    (ChangeSpec.witness6 (enc := enc) (C := Try.checked) false ⟨#[], #[.agg #[.int .i64 0, .slice none 0 0], .slice none 0 0], []⟩ 8 (by kernel_rfl) (by kernel_rfl) (by kernel_rfl) (by kernel_rfl)) ?_
  intro W base args ds gs before hval0 hW _ _
  have hval : ∀ (j : Nat) t v, Try.f4.params[j]? = some t → args[j]? = some v → Value.okWide Try.prog W .any base t v := hval0
  have hW' := hW
  obtain ⟨p, q, hA0, hV, rfl, hfz, hnd⟩ := hW
  have hA : DataW.TrodAll enc Try.prog W 0 (fun _ => true) true Try.f4.params.toList args.toList ds p := hA0
  rw [Try.params4] at hA hval
  obtain ⟨v0, vs0, d0, ds0, p0, q0, hargs, rfl, rfl, h0, r0⟩ := trodAll_cons hA
  obtain ⟨v1, vs1, d1, ds1, p1, q1, rfl, rfl, rfl, h1, r1⟩ := trodAll_cons r0
  obtain ⟨rfl, rfl, rfl⟩ := trodAll_nil r1
  obtain rfl : args = #[v0, v1] := by cases args; simp_all
  obtain ⟨rfl, rfl⟩ := trodVars_none hV
  have k0 := h0
  have lt0 : ∀ x ∈ p0, x.block < W.heap.size := by obtain ⟨m, hm⟩ := k0; exact DataW.trod_lt m _ _ _ hm
  obtain ⟨s0, Q0, hv0, hn0⟩ := graph_in (hval 0 24 v0 rfl rfl) h0
  have k1 := h1
  have lt1 : ∀ x ∈ p1, x.block < W.heap.size := by obtain ⟨m, hm⟩ := k1; exact DataW.trod_lt m _ _ _ hm
  obtain ⟨M1, hv1, hn1⟩ := couples_in (hval 1 25 v1 rfl rfl) h1
  clear hA0 hval0
  refine (walk v0 s0 Q0 v1 M1 W hv0 hn0 hv1 hn1).mono fun e W' ⟨he, bel⟩ => ?_
  subst he
  exact ⟨_, rfl, _, _, _, [], _, [], hW', trodAll_mk1 (shut_bool Try.underlying4 _), (trodAll_cons_mk (Below.trod laidOut (by kernel_rfl) (of_decide_eq_true (by kernel_rfl)) k0 bel lt0) (trodAll_cons_mk (Below.trod laidOut (by kernel_rfl) (of_decide_eq_true (by kernel_rfl)) k1 bel lt1) trodAll_mk0)), rfl, bel.frame _, fun h => by cases h⟩

theorem over : Rows.fnExactSumsOfRow.holds Try.pinned (OpenSpec.ofChange Rows.fnExactSumsOfSpec) :=
  OpenClaim.holds_of_wide 4 Try.f4 rfl rfl rfl rfl rfl rfl rfl ⟨rfl, rfl, rfl, rfl, rfl⟩ rfl rfl rfl rfl rfl (by kernel_rfl) Try.func4 (by kernel_rfl)
    (of_decide_eq_true (by kernel_rfl)) (by unfold Func.isWrapper; first | (rw [if_pos (by decide +kernel)]; kernel_rfl) | (rw [if_neg (by decide +kernel)]; exact ⟨rfl, rfl⟩))
    (fun os started H enc _ => lifted os started H enc)

end Go.Proofs.Ytecdagfenooboaa.fnExactSumsOf
namespace Go.Proofs.Ytecdagfenooboaa
theorem fnExactSumsOf_holds : Rows.FnExactSumsOfSaid := fnExactSumsOf.over
#print axioms fnExactSumsOf_holds
end Go.Proofs.Ytecdagfenooboaa
