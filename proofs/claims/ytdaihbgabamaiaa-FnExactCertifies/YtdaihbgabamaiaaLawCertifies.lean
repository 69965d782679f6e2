/-
  impl.Certifies answers as the specification; it writes into no argument, and its answer owns its memory. Walk and frame written by program (tools/exactlaw.py).
-/
import Derived.Test.YtdaihbgabamaiaaRows
import Derived.Test.YtdaihbgabamaiaaJ10
import Derived.Test.YtdaihbgabamaiaaJ4
import Derived.Test.YtdaihbgabamaiaaChecked
import Derived.Deep.RegionHeld3
import Derived.ShutString
import Derived.Below
namespace Go.Proofs.Ytdaihbgabamaiaa.fnExactCertifies
open Go.Proofs.Ytdaihbgabamaiaa Go.Proofs.Ytdaihbgabamaiaa.Gr
open Go.ChangeShapes Go.WideShapes Go.ChangeAt Go.RowKit

theorem own : ownKnob Try.prog.godebug = none := by kernel_rfl

theorem laidOut : laidOutB Try.prog = true := by kernel_rfl

set_option maxRecDepth 100000 in
set_option maxHeartbeats 4000000 in
theorem walk (v0 : Value) (s0 : Int) (Q0 : List EdgeI) (v1 : Value) (M1 : List CoupleI) (v2 : Value) (Y2 : List Int) (G2 : List GrpI) (w : World) (hv0 : GrAt w v0 w.heap.size s0 Q0) (hn0 : Q0.length ≤ 9223372036854775807) (hv1 : CoAt w v1 w.heap.size M1) (hn1 : M1.length ≤ 9223372036854775807) (hv2 : PrAt w v2 w.heap.size Y2 G2) (hn2 : psize Y2 G2 ≤ 9223372036854775807) :
    Calls Try.prog 5 #[v0, v1, v2] w fun e w' => e = .returned (.bool true) ∧ Below w.heap.size w w' := by
  have HV0 := hide hv0
  have HV1 := hide hv1
  have HV2 := hide hv2
  have HN0 := hide hn0
  have HN1 := hide hn1
  have HN2 := hide hn2
  have sh0 := hv0.shape
  obtain ⟨a0, c0, rfl⟩ := sh0
  have sh1 := hv1.shape
  obtain ⟨a1, c1, rfl⟩ := sh1
  have sh2 := hv2.shape
  obtain ⟨a2, c2, a2', c2', rfl⟩ := sh2
  clear hv0 hv1 hv2 hn0 hn1 hn2
  obtain ⟨W1, hW2⟩ : ∃ W, W = w.alloc (Obj.cells #[Value.int .i64 s0, Value.slice a0 Q0.length c0] 24) := ⟨_, rfl⟩
  have hb3 : Below w.heap.size w W1 := by rw [hW2]; exact below_new _ _
  have HX4 : Hid (CBox W1 w.heap.size #[Value.int .i64 s0, Value.slice a0 Q0.length c0] 24) := by show CBox _ _ _ _; rw [hW2]; exact CBox.new _ _ _
  have hc5 : Below w.heap.size w W1 := hb3
  have hz6 : w.heap.size < W1.heap.size := by rw [hW2]; simp
  clear hb3
  obtain ⟨W7, hW8⟩ : ∃ W, W = W1.alloc (Obj.cells #[Value.slice a2 Y2.length c2, Value.slice a2' G2.length c2'] 28) := ⟨_, rfl⟩
  have hb9 : Below W1.heap.size W1 W7 := by rw [hW8]; exact below_new _ _
  have HX4 := hide ((unhide HX4).below hb9)
  have HX10 : Hid (CBox W7 (w.heap.size + 1) #[Value.slice a2 Y2.length c2, Value.slice a2' G2.length c2'] 28) := by
    show CBox _ _ _ _
    have hsz : w.heap.size + 1 = W1.heap.size := by rw [hW2]; simp
    rw [hW8, hsz]
    exact CBox.new _ _ _
  have hc11 : Below w.heap.size w W7 := hc5.trans (hb9.mono hc5.size)
  have hz12 : W1.heap.size < W7.heap.size := by rw [hW8]; simp
  clear hb9
  have p13 : W7.cell? ⟨w.heap.size, 0, none⟩ = some (Value.int .i64 s0) := (unhide HX4).cell 0
  have p14 : W7.cell? ⟨w.heap.size, 1, none⟩ = some (Value.slice a0 Q0.length c0) := (unhide HX4).cell 1
  (try rw [hW8] at p13 p14)
  (try rw [hW2] at p13 p14)
  go_enter Try.func5, Try.ntmps5
  go_wp2_with fail
  rw [← hW2, ← hW8]
  clear hW2 hW8 p13 p14
  refine (szGraph_gen _ w.heap.size s0 Q0 1048576 (by omega) (by omega) (unhide HN0) W7 ((unhide HV0).below hc11 (Nat.le_refl _))).mono ?_
  rintro e uw16 ⟨⟨z15, rfl, hxz15, hyz15⟩, hb17⟩
  have HX4 := hide ((unhide HX4).below hb17)
  have HX10 := hide ((unhide HX10).below hb17)
  have hc18 : Below w.heap.size w uw16 := hc11.trans (hb17.mono hc11.size)
  have hz19 : W7.heap.size ≤ uw16.heap.size := hb17.size
  clear hb17
  by_cases hnegz15 : z15 < 0
  · go_wp2
    go_ret
    exact ⟨rfl, hc18⟩
  · have htz15 := hyz15 (by omega)
    go_wp2_with fail
    refine (szCoupleS_gen _ w.heap.size M1 z15 (by omega) (by omega) (unhide HN1) uw16 ((unhide HV1).below hc18 (Nat.le_refl _))).mono ?_
    rintro e uw21 ⟨⟨z20, rfl, hxz20, hyz20⟩, hb22⟩
    have HX4 := hide ((unhide HX4).below hb22)
    have HX10 := hide ((unhide HX10).below hb22)
    have hc23 : Below w.heap.size w uw21 := hc18.trans (hb22.mono hc18.size)
    have hz24 : uw16.heap.size ≤ uw21.heap.size := hb22.size
    clear hb22
    by_cases hnegz20 : z20 < 0
    · go_wp2
      go_ret
      exact ⟨rfl, hc23⟩
    · have htz20 := hyz20 (by omega)
      have p25 : uw21.cell? ⟨w.heap.size + 1, 0, none⟩ = some (Value.slice a2 Y2.length c2) := (unhide HX10).cell 0
      have p26 : uw21.cell? ⟨w.heap.size + 1, 1, none⟩ = some (Value.slice a2' G2.length c2') := (unhide HX10).cell 1
      go_wp2_with fail
      clear p25 p26
      refine (szProof_gen _ w.heap.size Y2 G2 z20 (by omega) (by omega) (unhide HN2) uw21 ((unhide HV2).below hc23 (Nat.le_refl _))).mono ?_
      rintro e uw28 ⟨⟨z27, rfl, hxz27, hyz27⟩, hb29⟩
      have HX4 := hide ((unhide HX4).below hb29)
      have HX10 := hide ((unhide HX10).below hb29)
      have hc30 : Below w.heap.size w uw28 := hc23.trans (hb29.mono hc23.size)
      have hz31 : uw21.heap.size ≤ uw28.heap.size := hb29.size
      clear hb29
      by_cases hnegz27 : z27 < 0
      · go_wp2
        go_ret
        exact ⟨rfl, hc30⟩
      · have htz27 := hyz27 (by omega)
        have hb0 : Q0.length ≤ 1048576 := by omega
        have hb1 : M1.length ≤ 1048576 := by omega
        have hb2 : psize Y2 G2 ≤ 1048576 := by omega
        have TO0 := hide (fun w1 (hb : Below w.heap.size w w1) => toGraph_any _ w.heap.size s0 Q0 hb0 w1 hb.size ((unhide HV0).below hb (Nat.le_refl _)))
        have EQ0 := hide (fun w1 d d1 (hd : GrAt w1 d w1.heap.size s0 Q0) (hd1 : GrAt w1 d1 w1.heap.size s0 Q0) => eqGraph_same d d1 w1.heap.size w1.heap.size s0 Q0 hb0 w1 (Nat.le_refl _) (Nat.le_refl _) hd hd1)
        have TO1 := hide (fun w1 (hb : Below w.heap.size w w1) => toCoupleS_gen _ w.heap.size M1 hb1 w1 hb.size ((unhide HV1).below hb (Nat.le_refl _)))
        have EQ1 := hide (fun w1 d d1 (hd : CoAt w1 d w1.heap.size M1) (hd1 : CoAt w1 d1 w1.heap.size M1) => eqCoupleS_gen d d1 w1.heap.size w1.heap.size M1 hb1 w1 (Nat.le_refl _) (Nat.le_refl _) hd hd1)
        have TO2 := hide (fun w1 (hb : Below w.heap.size w w1) => toProof_gen _ w.heap.size Y2 G2 hb2 w1 hb.size ((unhide HV2).below hb (Nat.le_refl _)))
        have EQ2 := hide (fun w1 d d1 (hd : PrAt w1 d w1.heap.size Y2 G2) (hd1 : PrAt w1 d1 w1.heap.size Y2 G2) => eqProof_gen d d1 w1.heap.size w1.heap.size Y2 G2 hb2 w1 (Nat.le_refl _) (Nat.le_refl _) hd hd1)
        have SP := hide (fun w1 d0 (hd0 : GrAt w1 d0 w1.heap.size s0 Q0) d1 (hd1 : CoAt w1 d1 w1.heap.size M1) d2 (hd2 : PrAt w1 d2 w1.heap.size Y2 G2) => specCert_gen w1.heap.size d0 s0 Q0 d1 M1 d2 Y2 G2 hb0 hb1 hb2 w1 (Nat.le_refl _) hd0 hd1 hd2)
        have IM := hide (fun w1 d0 (hd0 : GrAt w1 d0 w1.heap.size s0 Q0) d1 (hd1 : CoAt w1 d1 w1.heap.size M1) d2 (hd2 : PrAt w1 d2 w1.heap.size Y2 G2) => implCert_gen w1.heap.size d0 s0 Q0 d1 M1 d2 Y2 G2 hb0 hb1 hb2 w1 (Nat.le_refl _) hd0 hd1 hd2)
        generalize certR s0 Q0 M1 Y2 G2 = ret0 at SP IM
        have hne0 : (ret0 != ret0) = false := by simp
        clear hb0 hb1 hb2
        have hk0 : w.heap.size < uw28.heap.size := (unhide HX4).lt
        have s0_0 : uw28.cell? ⟨w.heap.size, 0, none⟩ = some (Value.int .i64 s0) := (unhide HX4).cell 0
        have s0_1 : uw28.cell? ⟨w.heap.size, 1, none⟩ = some (Value.slice a0 Q0.length c0) := (unhide HX4).cell 1
        have hk2 : w.heap.size + 1 < uw28.heap.size := (unhide HX10).lt
        have s2_0 : uw28.cell? ⟨w.heap.size + 1, 0, none⟩ = some (Value.slice a2 Y2.length c2) := (unhide HX10).cell 0
        have s2_1 : uw28.cell? ⟨w.heap.size + 1, 1, none⟩ = some (Value.slice a2' G2.length c2') := (unhide HX10).cell 1
        have LIVE := hide (fun w8 (hb : Below uw28.heap.size uw28 w8) => And.intro ((unhide HX4).below hb) ((unhide HX10).below hb))
        go_wp2_with fail
        go_region_held3 (fun u => u.cell? ⟨w.heap.size, 0, none⟩ = some (Value.int .i64 s0) ∧ u.cell? ⟨w.heap.size, 1, none⟩ = some (Value.slice a0 Q0.length c0) ∧ u.cell? ⟨w.heap.size + 1, 0, none⟩ = some (Value.slice a2 Y2.length c2) ∧ u.cell? ⟨w.heap.size + 1, 1, none⟩ = some (Value.slice a2' G2.length c2'))
          (first | go_keep | with_reducible exact ⟨s0_0_0, s0_1_0, s2_0_0, s2_1_0⟩ | with_reducible exact ⟨s0_0_1, s0_1_1, s2_0_1, s2_1_1⟩ | with_reducible exact ⟨s0_0_2, s0_1_2, s2_0_2, s2_1_2⟩ | with_reducible exact ⟨s0_0_9, s0_1_9, s2_0_9, s2_1_9⟩)
          (first
            | (go_at_call 9; refine (unhide TO0 _ hc30.drew).mono ?_; rintro e v0_ ⟨⟨d0_, rfl, ho0_⟩, hb0_⟩; have hz0_ : uw28.heap.size ≤ v0_.heap.size := hb0_.size; have hd0_0 := ho0_.at;  have s0_0_0 := (hb0_.cell (p := ⟨w.heap.size, 0, none⟩) hk0).trans s0_0; have s0_1_0 := (hb0_.cell (p := ⟨w.heap.size, 1, none⟩) hk0).trans s0_1; have s2_0_0 := (hb0_.cell (p := ⟨w.heap.size + 1, 0, none⟩) hk2).trans s2_0; have s2_1_0 := (hb0_.cell (p := ⟨w.heap.size + 1, 1, none⟩) hk2).trans s2_1; have l0_0 : w.heap.size < v0_.heap.size := Nat.lt_of_lt_of_le hk0 hz0_; have l2_0 : w.heap.size + 1 < v0_.heap.size := Nat.lt_of_lt_of_le hk2 hz0_; have hc0_ : Below w.heap.size w v0_ := (hc30.drew).trans (hb0_.mono (hc30.drew).size))
            | (go_at_call 18; refine (unhide TO1 _ hc0_).mono ?_; rintro e v1_ ⟨⟨d1_, rfl, ho1_⟩, hb1_⟩; have hz1_ : v0_.heap.size ≤ v1_.heap.size := hb1_.size; have hd1_1 := ho1_.at; have hd0_1 := (hd0_0.below hb1_ (Nat.le_refl _)).mono hb1_.size; have s0_0_1 := (hb1_.cell (p := ⟨w.heap.size, 0, none⟩) l0_0).trans s0_0_0; have s0_1_1 := (hb1_.cell (p := ⟨w.heap.size, 1, none⟩) l0_0).trans s0_1_0; have s2_0_1 := (hb1_.cell (p := ⟨w.heap.size + 1, 0, none⟩) l2_0).trans s2_0_0; have s2_1_1 := (hb1_.cell (p := ⟨w.heap.size + 1, 1, none⟩) l2_0).trans s2_1_0; have l0_1 : w.heap.size < v1_.heap.size := Nat.lt_of_lt_of_le l0_0 hz1_; have l2_1 : w.heap.size + 1 < v1_.heap.size := Nat.lt_of_lt_of_le l2_0 hz1_; have hc1_ : Below w.heap.size w v1_ := (hc0_).trans (hb1_.mono (hc0_).size))
            | (go_at_call 10; refine (unhide TO2 _ hc1_).mono ?_; rintro e v2_ ⟨⟨d2_, rfl, ho2_⟩, hb2_⟩; have hz2_ : v1_.heap.size ≤ v2_.heap.size := hb2_.size; have hd2_2 := ho2_.at; have hd0_2 := (hd0_1.below hb2_ (Nat.le_refl _)).mono hb2_.size; have hd1_2 := (hd1_1.below hb2_ (Nat.le_refl _)).mono hb2_.size; have s0_0_2 := (hb2_.cell (p := ⟨w.heap.size, 0, none⟩) l0_1).trans s0_0_1; have s0_1_2 := (hb2_.cell (p := ⟨w.heap.size, 1, none⟩) l0_1).trans s0_1_1; have s2_0_2 := (hb2_.cell (p := ⟨w.heap.size + 1, 0, none⟩) l2_1).trans s2_0_1; have s2_1_2 := (hb2_.cell (p := ⟨w.heap.size + 1, 1, none⟩) l2_1).trans s2_1_1; have l0_2 : w.heap.size < v2_.heap.size := Nat.lt_of_lt_of_le l0_1 hz2_; have l2_2 : w.heap.size + 1 < v2_.heap.size := Nat.lt_of_lt_of_le l2_1 hz2_; have hc2_ : Below w.heap.size w v2_ := (hc1_).trans (hb2_.mono (hc1_).size))
            | (go_at_call 17; refine (unhide SP v2_ _ hd0_2 _ hd1_2 _ hd2_2).mono ?_; rintro e w9 ⟨rfl, hb9⟩; have s0_0_9 := (hb9.cell (p := ⟨w.heap.size, 0, none⟩) l0_2).trans s0_0_2; have s0_1_9 := (hb9.cell (p := ⟨w.heap.size, 1, none⟩) l0_2).trans s0_1_2; have s2_0_9 := (hb9.cell (p := ⟨w.heap.size + 1, 0, none⟩) l2_2).trans s2_0_2; have s2_1_9 := (hb9.cell (p := ⟨w.heap.size + 1, 1, none⟩) l2_2).trans s2_1_2))
        have hb33 : Below uw28.heap.size uw28 w9 := (((((Below.refl uw28.heap.size uw28).drew).trans (hb0_.mono (show uw28.heap.size ≤ uw28.drew.heap.size from by first | exact Nat.le_refl _ | omega))).trans (hb1_.mono (show uw28.heap.size ≤ v0_.heap.size from by first | exact Nat.le_refl _ | omega))).trans (hb2_.mono (show uw28.heap.size ≤ v1_.heap.size from by first | exact Nat.le_refl _ | omega))).trans (hb9.mono (by omega))
        obtain ⟨zHX4, zHX10⟩ := unhide LIVE w9 hb33
        have HX4 := hide zHX4
        have HX10 := hide zHX10
        have hc34 : Below w.heap.size w w9 := hc30.trans (hb33.mono hc30.size)
        have hz35 : uw28.heap.size ≤ w9.heap.size := hb33.size
        obtain ⟨uw32, hwn⟩ : ∃ W, W = w9 := ⟨_, rfl⟩
        subst hwn
        clear LIVE hb33 hb9 hk0 hk2 hb0_ hz0_ hc0_ ho0_ hd0_0 hb1_ hz1_ hc1_ ho1_ hd0_1 hd1_1 hb2_ hz2_ hc2_ ho2_ hd0_2 hd1_2 hd2_2 s0_0 s0_0_9 s0_0_0 s0_0_1 s0_0_2 s0_1 s0_1_9 s0_1_0 s0_1_1 s0_1_2 s2_0 s2_0_9 s2_0_0 s2_0_1 s2_0_2 s2_1 s2_1_9 s2_1_0 s2_1_1 s2_1_2 l0_0 l0_1 l0_2 l2_0 l2_1 l2_2 zHX4 zHX10
        have p36 : uw32.cell? ⟨w.heap.size, 0, none⟩ = some (Value.int .i64 s0) := (unhide HX4).cell 0
        have p37 : uw32.cell? ⟨w.heap.size, 1, none⟩ = some (Value.slice a0 Q0.length c0) := (unhide HX4).cell 1
        go_wp2_with fail
        clear p36 p37
        refine (unhide TO0 uw32 hc34).mono ?_
        rintro e uw40 ⟨⟨d38, rfl, ho39⟩, hb41⟩
        have HX4 := hide ((unhide HX4).below hb41)
        have HX10 := hide ((unhide HX10).below hb41)
        have hc42 : Below w.heap.size w uw40 := hc34.trans (hb41.mono hc34.size)
        have hz43 : uw32.heap.size ≤ uw40.heap.size := hb41.size
        clear hb41
        have HO44 := hide ho39
        have HB45 := hide ho39.blk
        have hs48 := ho39.at.shape
        obtain ⟨a46, c47, rfl⟩ := hs48
        clear ho39
        obtain ⟨W49, hW50⟩ : ∃ W, W = uw40.alloc (Obj.cells #[Value.int .i64 s0, Value.slice a46 Q0.length c47] 34) := ⟨_, rfl⟩
        have hb51 : Below uw40.heap.size uw40 W49 := by rw [hW50]; exact below_new _ _
        have HX4 := hide ((unhide HX4).below hb51)
        have HX10 := hide ((unhide HX10).below hb51)
        have HO44 := hide ((unhide HO44).below hb51)
        have HX52 : Hid (CBox W49 uw40.heap.size #[Value.int .i64 s0, Value.slice a46 Q0.length c47] 34) := by show CBox _ _ _ _; rw [hW50]; exact CBox.new _ _ _
        have hc53 : Below w.heap.size w W49 := hc42.trans (hb51.mono hc42.size)
        have hz54 : uw40.heap.size < W49.heap.size := by rw [hW50]; simp
        clear hb51
        go_wp2_with fail
        rw [← hW50]
        clear hW50
        refine (unhide TO1 W49 hc53).mono ?_
        rintro e uw57 ⟨⟨d55, rfl, ho56⟩, hb58⟩
        have HX4 := hide ((unhide HX4).below hb58)
        have HX10 := hide ((unhide HX10).below hb58)
        have HO44 := hide ((unhide HO44).below hb58)
        have HX52 := hide ((unhide HX52).below hb58)
        have hc59 : Below w.heap.size w uw57 := hc53.trans (hb58.mono hc53.size)
        have hz60 : W49.heap.size ≤ uw57.heap.size := hb58.size
        clear hb58
        have HO61 := hide ho56
        have HB62 := hide ho56.blk
        have hs65 := ho56.at.shape
        obtain ⟨a63, c64, rfl⟩ := hs65
        clear ho56
        have p66 : uw57.cell? ⟨w.heap.size + 1, 0, none⟩ = some (Value.slice a2 Y2.length c2) := (unhide HX10).cell 0
        have p67 : uw57.cell? ⟨w.heap.size + 1, 1, none⟩ = some (Value.slice a2' G2.length c2') := (unhide HX10).cell 1
        go_wp2_with fail
        clear p66 p67
        refine (unhide TO2 uw57 hc59).mono ?_
        rintro e uw70 ⟨⟨d68, rfl, ho69⟩, hb71⟩
        have HX4 := hide ((unhide HX4).below hb71)
        have HX10 := hide ((unhide HX10).below hb71)
        have HO44 := hide ((unhide HO44).below hb71)
        have HX52 := hide ((unhide HX52).below hb71)
        have HO61 := hide ((unhide HO61).below hb71)
        have hc72 : Below w.heap.size w uw70 := hc59.trans (hb71.mono hc59.size)
        have hz73 : uw57.heap.size ≤ uw70.heap.size := hb71.size
        clear hb71
        have HO74 := hide ho69
        have hs78 := ho69.at.shape
        obtain ⟨a76, c77, a76', c77', rfl⟩ := hs78
        clear ho69
        obtain ⟨W79, hW80⟩ : ∃ W, W = uw70.alloc (Obj.cells #[Value.slice a76 Y2.length c77, Value.slice a76' G2.length c77'] 38) := ⟨_, rfl⟩
        have hb81 : Below uw70.heap.size uw70 W79 := by rw [hW80]; exact below_new _ _
        have HX4 := hide ((unhide HX4).below hb81)
        have HX10 := hide ((unhide HX10).below hb81)
        have HO44 := hide ((unhide HO44).below hb81)
        have HX52 := hide ((unhide HX52).below hb81)
        have HO61 := hide ((unhide HO61).below hb81)
        have HO74 := hide ((unhide HO74).below hb81)
        have HX82 : Hid (CBox W79 uw70.heap.size #[Value.slice a76 Y2.length c77, Value.slice a76' G2.length c77'] 38) := by show CBox _ _ _ _; rw [hW80]; exact CBox.new _ _ _
        have hc83 : Below w.heap.size w W79 := hc72.trans (hb81.mono hc72.size)
        have hz84 : uw70.heap.size < W79.heap.size := by rw [hW80]; simp
        clear hb81
        have p85 : W79.cell? ⟨uw40.heap.size, 0, none⟩ = some (Value.int .i64 s0) := (unhide HX52).cell 0
        have p86 : W79.cell? ⟨uw40.heap.size, 1, none⟩ = some (Value.slice a46 Q0.length c47) := (unhide HX52).cell 1
        (try rw [hW80] at p85 p86)
        go_wp2_with fail
        rw [← hW80]
        clear hW80 p85 p86
        refine (unhide IM W79 _ (unhide HO44).at _ (unhide HO61).at _ (unhide HO74).at).mono ?_
        rintro e uw87 ⟨rfl, hb88⟩
        have HX4 := hide ((unhide HX4).below hb88)
        have HX10 := hide ((unhide HX10).below hb88)
        have HO44 := hide ((unhide HO44).below hb88)
        have HX52 := hide ((unhide HX52).below hb88)
        have HO61 := hide ((unhide HO61).below hb88)
        have HO74 := hide ((unhide HO74).below hb88)
        have HX82 := hide ((unhide HX82).below hb88)
        have hc89 : Below w.heap.size w uw87 := hc83.trans (hb88.mono hc83.size)
        have hz90 : W79.heap.size ≤ uw87.heap.size := hb88.size
        clear hb88
        have r0 : uw87.cell? ⟨uw40.heap.size, 0, none⟩ = some (Value.int .i64 s0) := (unhide HX52).cell 0
        have r1 : uw87.cell? ⟨uw40.heap.size, 1, none⟩ = some (Value.slice a46 Q0.length c47) := (unhide HX52).cell 1
        have p0 : uw87.cell? ⟨w.heap.size, 0, none⟩ = some (Value.int .i64 s0) := (unhide HX4).cell 0
        have p1 : uw87.cell? ⟨w.heap.size, 1, none⟩ = some (Value.slice a0 Q0.length c0) := (unhide HX4).cell 1
        have hk0 : uw40.heap.size < uw87.heap.size := (unhide HX52).lt
        have hk1 : w.heap.size < uw87.heap.size := (unhide HX4).lt
        have LIVE := hide (fun w8 (hb : Below uw87.heap.size uw87 w8) => And.intro ((unhide HX4).below hb) (And.intro ((unhide HX10).below hb) (And.intro ((unhide HO44).below hb) (And.intro ((unhide HX52).below hb) (And.intro ((unhide HO61).below hb) (And.intro ((unhide HO74).below hb) ((unhide HX82).below hb)))))))
        have HOD := hide ((unhide HO44).at.below ((Below.refl uw87.heap.size uw87).drew) (Nat.le_refl _))
        go_wp2_with fail
        go_region_held3 (fun u => u.cell? ⟨uw40.heap.size, 0, none⟩ = some (Value.int .i64 s0) ∧ u.cell? ⟨uw40.heap.size, 1, none⟩ = some (Value.slice a46 Q0.length c47) ∧ u.cell? ⟨w.heap.size, 0, none⟩ = some (Value.int .i64 s0) ∧ u.cell? ⟨w.heap.size, 1, none⟩ = some (Value.slice a0 Q0.length c0))
          (first | go_keep | exact ⟨(hb9.cell (p := ⟨uw40.heap.size, 0, none⟩) l0).trans qr0, (hb9.cell (p := ⟨uw40.heap.size, 1, none⟩) l0).trans qr1, (hb9.cell (p := ⟨w.heap.size, 0, none⟩) l1).trans qp0, (hb9.cell (p := ⟨w.heap.size, 1, none⟩) l1).trans qp1⟩ | exact ⟨qr0, qr1, qp0, qp1⟩)
          (first
            | (go_at_call 9; refine (unhide TO0 _ hc89.drew).mono ?_; rintro e w8 ⟨⟨d8, rfl, ho8⟩, hb8⟩; have HE8 := hide ho8.at; have hs8 := ho8.at.shape; obtain ⟨a8, c8, rfl⟩ := hs8; have HO8 := hide (((unhide HOD).below hb8 (Nat.le_refl _)).mono (show uw87.heap.size ≤ w8.heap.size from hb8.size)); have qr0 := (hb8.cell (p := ⟨uw40.heap.size, 0, none⟩) hk0).trans r0; have qr1 := (hb8.cell (p := ⟨uw40.heap.size, 1, none⟩) hk0).trans r1; have qp0 := (hb8.cell (p := ⟨w.heap.size, 0, none⟩) hk1).trans p0; have qp1 := (hb8.cell (p := ⟨w.heap.size, 1, none⟩) hk1).trans p1; have l0 : uw40.heap.size < w8.heap.size := Nat.lt_of_lt_of_le hk0 hb8.size; have l1 : w.heap.size < w8.heap.size := Nat.lt_of_lt_of_le hk1 hb8.size; have hc8 : Below w.heap.size w w8 := hc89.drew.trans (hb8.mono hc89.size); have hb78 : Below uw87.heap.size uw87 w8 := (Below.refl uw87.heap.size uw87).drew.trans hb8; clear hb8)
            | (go_at_call 12; refine (unhide EQ0 w8 _ _ (unhide HO8) (unhide HE8)).mono ?_; rintro e w9 ⟨rfl, hb9⟩))
        have hb92 : Below uw87.heap.size uw87 w9 := hb78.trans (hb9.mono hb78.size)
        obtain ⟨zHX4, zHX10, zHO44, zHX52, zHO61, zHO74, zHX82⟩ := unhide LIVE w9 hb92
        have HX4 := hide zHX4
        have HX10 := hide zHX10
        have HO44 := hide zHO44
        have HX52 := hide zHX52
        have HO61 := hide zHO61
        have HO74 := hide zHO74
        have HX82 := hide zHX82
        have hc93 : Below w.heap.size w w9 := hc89.trans (hb92.mono hc89.size)
        have hz94 : uw87.heap.size ≤ w9.heap.size := hb92.size
        obtain ⟨uw91, hwn⟩ : ∃ W, W = w9 := ⟨_, rfl⟩
        subst hwn
        clear hb78 hb92 hb9 hc8 LIVE HO8 HE8 HOD hk0 hk1 l0 l1 r0 r1 p0 p1 qr0 qr1 qp0 qp1 zHX4 zHX10 zHO44 zHX52 zHO61 zHO74 zHX82
        go_wp2_with fail
        refine (unhide TO1 uw91 hc93).mono ?_
        rintro e uw97 ⟨⟨d95, rfl, ho96⟩, hb98⟩
        have HX4 := hide ((unhide HX4).below hb98)
        have HX10 := hide ((unhide HX10).below hb98)
        have HO44 := hide ((unhide HO44).below hb98)
        have HX52 := hide ((unhide HX52).below hb98)
        have HO61 := hide ((unhide HO61).below hb98)
        have HO74 := hide ((unhide HO74).below hb98)
        have HX82 := hide ((unhide HX82).below hb98)
        have hc99 : Below w.heap.size w uw97 := hc93.trans (hb98.mono hc93.size)
        have hz100 : uw91.heap.size ≤ uw97.heap.size := hb98.size
        clear hb98
        have HO102 := hide ho96
        have HB103 := hide ho96.blk
        have hs106 := ho96.at.shape
        obtain ⟨a104, c105, rfl⟩ := hs106
        clear ho96
        go_wp2_with fail
        refine (unhide EQ1 uw97 _ _ (unhide HO61).at (unhide HO102).at).mono ?_
        rintro e uw107 ⟨rfl, hb108⟩
        have HX4 := hide ((unhide HX4).below hb108)
        have HX10 := hide ((unhide HX10).below hb108)
        have HO44 := hide ((unhide HO44).below hb108)
        have HX52 := hide ((unhide HX52).below hb108)
        have HO61 := hide ((unhide HO61).below hb108)
        have HO74 := hide ((unhide HO74).below hb108)
        have HX82 := hide ((unhide HX82).below hb108)
        have HO102 := hide ((unhide HO102).below hb108)
        have hc109 : Below w.heap.size w uw107 := hc99.trans (hb108.mono hc99.size)
        have hz110 : uw97.heap.size ≤ uw107.heap.size := hb108.size
        clear hb108
        have r0 : uw107.cell? ⟨uw70.heap.size, 0, none⟩ = some (Value.slice a76 Y2.length c77) := (unhide HX82).cell 0
        have r1 : uw107.cell? ⟨uw70.heap.size, 1, none⟩ = some (Value.slice a76' G2.length c77') := (unhide HX82).cell 1
        have p0 : uw107.cell? ⟨w.heap.size + 1, 0, none⟩ = some (Value.slice a2 Y2.length c2) := (unhide HX10).cell 0
        have p1 : uw107.cell? ⟨w.heap.size + 1, 1, none⟩ = some (Value.slice a2' G2.length c2') := (unhide HX10).cell 1
        have hk0 : uw70.heap.size < uw107.heap.size := (unhide HX82).lt
        have hk1 : w.heap.size + 1 < uw107.heap.size := (unhide HX10).lt
        have LIVE := hide (fun w8 (hb : Below uw107.heap.size uw107 w8) => And.intro ((unhide HX4).below hb) (And.intro ((unhide HX10).below hb) (And.intro ((unhide HO44).below hb) (And.intro ((unhide HX52).below hb) (And.intro ((unhide HO61).below hb) (And.intro ((unhide HO74).below hb) ((unhide HX82).below hb)))))))
        have HOD := hide ((unhide HO74).at.below ((Below.refl uw107.heap.size uw107).drew) (Nat.le_refl _))
        go_wp2_with fail
        go_region_held3 (fun u => u.cell? ⟨uw70.heap.size, 0, none⟩ = some (Value.slice a76 Y2.length c77) ∧ u.cell? ⟨uw70.heap.size, 1, none⟩ = some (Value.slice a76' G2.length c77') ∧ u.cell? ⟨w.heap.size + 1, 0, none⟩ = some (Value.slice a2 Y2.length c2) ∧ u.cell? ⟨w.heap.size + 1, 1, none⟩ = some (Value.slice a2' G2.length c2'))
          (first | go_keep | exact ⟨(hb9.cell (p := ⟨uw70.heap.size, 0, none⟩) l0).trans qr0, (hb9.cell (p := ⟨uw70.heap.size, 1, none⟩) l0).trans qr1, (hb9.cell (p := ⟨w.heap.size + 1, 0, none⟩) l1).trans qp0, (hb9.cell (p := ⟨w.heap.size + 1, 1, none⟩) l1).trans qp1⟩ | exact ⟨qr0, qr1, qp0, qp1⟩)
          (first
            | (go_at_call 10; refine (unhide TO2 _ hc109.drew).mono ?_; rintro e w8 ⟨⟨d8, rfl, ho8⟩, hb8⟩; have HE8 := hide ho8.at; have hs8 := ho8.at.shape; obtain ⟨a8, c8, a8', c8', rfl⟩ := hs8; have HO8 := hide (((unhide HOD).below hb8 (Nat.le_refl _)).mono (show uw107.heap.size ≤ w8.heap.size from hb8.size)); have qr0 := (hb8.cell (p := ⟨uw70.heap.size, 0, none⟩) hk0).trans r0; have qr1 := (hb8.cell (p := ⟨uw70.heap.size, 1, none⟩) hk0).trans r1; have qp0 := (hb8.cell (p := ⟨w.heap.size + 1, 0, none⟩) hk1).trans p0; have qp1 := (hb8.cell (p := ⟨w.heap.size + 1, 1, none⟩) hk1).trans p1; have l0 : uw70.heap.size < w8.heap.size := Nat.lt_of_lt_of_le hk0 hb8.size; have l1 : w.heap.size + 1 < w8.heap.size := Nat.lt_of_lt_of_le hk1 hb8.size; have hc8 : Below w.heap.size w w8 := hc109.drew.trans (hb8.mono hc109.size); have hb78 : Below uw107.heap.size uw107 w8 := (Below.refl uw107.heap.size uw107).drew.trans hb8; clear hb8)
            | (go_at_call 13; refine (unhide EQ2 w8 _ _ (unhide HO8) (unhide HE8)).mono ?_; rintro e w9 ⟨rfl, hb9⟩))
        have hb112 : Below uw107.heap.size uw107 w9 := hb78.trans (hb9.mono hb78.size)
        obtain ⟨zHX4, zHX10, zHO44, zHX52, zHO61, zHO74, zHX82⟩ := unhide LIVE w9 hb112
        have HX4 := hide zHX4
        have HX10 := hide zHX10
        have HO44 := hide zHO44
        have HX52 := hide zHX52
        have HO61 := hide zHO61
        have HO74 := hide zHO74
        have HX82 := hide zHX82
        have hc113 : Below w.heap.size w w9 := hc109.trans (hb112.mono hc109.size)
        have hz114 : uw107.heap.size ≤ w9.heap.size := hb112.size
        obtain ⟨uw111, hwn⟩ : ∃ W, W = w9 := ⟨_, rfl⟩
        subst hwn
        clear hb78 hb112 hb9 hc8 LIVE HO8 HE8 HOD hk0 hk1 l0 l1 r0 r1 p0 p1 qr0 qr1 qp0 qp1 zHX4 zHX10 zHO44 zHX52 zHO61 zHO74 zHX82
        go_wp2
        go_ret
        exact ⟨rfl, hc113⟩

set_option maxRecDepth 100000 in
theorem lifted (os : Os) (started : os.Started) (H : Type) (enc : TypeId × Value → H) :
    ReturnsInHanded {} Try.checked os 5 .any (Rows.fnExactCertifiesSpec.pre6 enc Try.prog Try.f5 Rows.fnExactCertifiesRow.domain false) (Rows.fnExactCertifiesSpec.post enc Try.prog Try.f5 false true false false) := by
  refine returnsInHanded_of_change (C := Try.checked) own started (by kernel_rfl) Try.func5
    (ChangeSpec.witness6 (enc := enc) (C := Try.checked) false ⟨#[], #[.agg #[.int .i64 0, .slice none 0 0], .slice none 0 0, .agg #[.slice none 0 0, .slice none 0 0]], []⟩ 8 (by kernel_rfl) (by kernel_rfl) (by kernel_rfl) (by kernel_rfl)) ?_
  intro W base args ds gs before hval0 hW _ _
  have hval : ∀ (j : Nat) t v, Try.f5.params[j]? = some t → args[j]? = some v → Value.okWide Try.prog W .any base t v := hval0
  have hW' := hW
  obtain ⟨p, q, hA0, hV, rfl, hfz, hnd⟩ := hW
  have hA : DataW.TrodAll enc Try.prog W 0 (fun _ => true) true Try.f5.params.toList args.toList ds p := hA0
  rw [Try.params5] at hA hval
  obtain ⟨v0, vs0, d0, ds0, p0, q0, hargs, rfl, rfl, h0, r0⟩ := trodAll_cons hA
  obtain ⟨v1, vs1, d1, ds1, p1, q1, rfl, rfl, rfl, h1, r1⟩ := trodAll_cons r0
  obtain ⟨v2, vs2, d2, ds2, p2, q2, rfl, rfl, rfl, h2, r2⟩ := trodAll_cons r1
  obtain ⟨rfl, rfl, rfl⟩ := trodAll_nil r2
  obtain rfl : args = #[v0, v1, v2] := by cases args; simp_all
  obtain ⟨rfl, rfl⟩ := trodVars_none hV
  have k0 := h0
  have lt0 : ∀ x ∈ p0, x.block < W.heap.size := by obtain ⟨m, hm⟩ := k0; exact DataW.trod_lt m _ _ _ hm
  obtain ⟨s0, Q0, hv0, hn0⟩ := graph_in (hval 0 24 v0 rfl rfl) h0
  have k1 := h1
  have lt1 : ∀ x ∈ p1, x.block < W.heap.size := by obtain ⟨m, hm⟩ := k1; exact DataW.trod_lt m _ _ _ hm
  obtain ⟨M1, hv1, hn1⟩ := couples_in (hval 1 44 v1 rfl rfl) h1
  have k2 := h2
  have lt2 : ∀ x ∈ p2, x.block < W.heap.size := by obtain ⟨m, hm⟩ := k2; exact DataW.trod_lt m _ _ _ hm
  obtain ⟨Y2, G2, hv2, hn2⟩ := proof_in (hval 2 28 v2 rfl rfl) h2
  clear hA0 hval0
  refine (walk v0 s0 Q0 v1 M1 v2 Y2 G2 W hv0 hn0 hv1 hn1 hv2 hn2).mono fun e W' ⟨he, bel⟩ => ?_
  subst he
  exact ⟨_, rfl, _, _, _, [], _, [], hW', trodAll_mk1 (shut_bool Try.underlying4 _), (trodAll_cons_mk (Below.trod laidOut (by kernel_rfl) (of_decide_eq_true (by kernel_rfl)) k0 bel lt0) (trodAll_cons_mk (Below.trod laidOut (by kernel_rfl) (of_decide_eq_true (by kernel_rfl)) k1 bel lt1) (trodAll_cons_mk (Below.trod laidOut (by kernel_rfl) (of_decide_eq_true (by kernel_rfl)) k2 bel lt2) trodAll_mk0))), rfl, bel.frame _, fun h => by cases h⟩

theorem over : Rows.fnExactCertifiesRow.holds Try.pinned (OpenSpec.ofChange Rows.fnExactCertifiesSpec) :=
  OpenClaim.holds_of_wide 5 Try.f5 rfl rfl rfl rfl rfl rfl rfl ⟨rfl, rfl, rfl, rfl, rfl⟩ rfl rfl rfl rfl rfl (by kernel_rfl) Try.func5 (by kernel_rfl)
    (of_decide_eq_true (by kernel_rfl)) (by unfold Func.isWrapper; first | (rw [if_pos (by decide +kernel)]; kernel_rfl) | (rw [if_neg (by decide +kernel)]; exact ⟨rfl, rfl⟩))
    (fun os started H enc _ => lifted os started H enc)

end Go.Proofs.Ytdaihbgabamaiaa.fnExactCertifies
namespace Go.Proofs.Ytdaihbgabamaiaa
theorem fnExactCertifies_holds : Rows.FnExactCertifiesSaid := fnExactCertifies.over
#print axioms fnExactCertifies_holds
end Go.Proofs.Ytdaihbgabamaiaa
