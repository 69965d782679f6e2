/-
  impl.ProofOk answers as the specification; it writes into no argument, and its answer owns its memory. Walk and frame written by program (tools/exactlaw.py).
-/
import Derived.Test.YtdaihbgabamaiaaRows
import Derived.Test.YtdaihbgabamaiaaJ10
import Derived.Test.YtdaihbgabamaiaaJ4
import Derived.Test.YtdaihbgabamaiaaChecked
import Derived.Deep.RegionHeld3
import Derived.ShutString
import Derived.Below
namespace Go.Proofs.Ytdaihbgabamaiaa.fnExactProofOk
open Go.Proofs.Ytdaihbgabamaiaa Go.Proofs.Ytdaihbgabamaiaa.Gr
open Go.ChangeShapes Go.WideShapes Go.ChangeAt Go.RowKit

theorem own : ownKnob Try.prog.godebug = none := by kernel_rfl

theorem laidOut : laidOutB Try.prog = true := by kernel_rfl

set_option maxRecDepth 100000 in
set_option maxHeartbeats 4000000 in
theorem walk (v0 : Value) (s0 : Int) (Q0 : List EdgeI) (v1 : Value) (Y1 : List Int) (G1 : List GrpI) (w : World) (hv0 : GrAt w v0 w.heap.size s0 Q0) (hn0 : Q0.length ≤ 9223372036854775807) (hv1 : PrAt w v1 w.heap.size Y1 G1) (hn1 : psize Y1 G1 ≤ 9223372036854775807) :
    Calls Try.prog 3 #[v0, v1] w fun e w' => e = .returned (.bool true) ∧ Below w.heap.size w w' := by
  have HV0 := hide hv0
  have HV1 := hide hv1
  have HN0 := hide hn0
  have HN1 := hide hn1
  have sh0 := hv0.shape
  obtain ⟨a0, c0, rfl⟩ := sh0
  have sh1 := hv1.shape
  obtain ⟨a1, c1, a1', c1', rfl⟩ := sh1
  clear hv0 hv1 hn0 hn1
  obtain ⟨W1, hW2⟩ : ∃ W, W = w.alloc (Obj.cells #[Value.int .i64 s0, Value.slice a0 Q0.length c0] 24) := ⟨_, rfl⟩
  have hb3 : Below w.heap.size w W1 := by rw [hW2]; exact below_new _ _
  have HX4 : Hid (CBox W1 w.heap.size #[Value.int .i64 s0, Value.slice a0 Q0.length c0] 24) := by show CBox _ _ _ _; rw [hW2]; exact CBox.new _ _ _
  have hc5 : Below w.heap.size w W1 := hb3
  have hz6 : w.heap.size < W1.heap.size := by rw [hW2]; simp
  clear hb3
  obtain ⟨W7, hW8⟩ : ∃ W, W = W1.alloc (Obj.cells #[Value.slice a1 Y1.length c1, Value.slice a1' G1.length c1'] 28) := ⟨_, rfl⟩
  have hb9 : Below W1.heap.size W1 W7 := by rw [hW8]; exact below_new _ _
  have HX4 := hide ((unhide HX4).below hb9)
  have HX10 : Hid (CBox W7 (w.heap.size + 1) #[Value.slice a1 Y1.length c1, Value.slice a1' G1.length c1'] 28) := by
    show CBox _ _ _ _
    have hsz : w.heap.size + 1 = W1.heap.size := by rw [hW2]; simp
    rw [hW8, hsz]
    exact CBox.new _ _ _
  have hc11 : Below w.heap.size w W7 := hc5.trans (hb9.mono hc5.size)
  have hz12 : W1.heap.size < W7.heap.size := by rw [hW8]; simp
  clear hb9
  have p13 : W7.cell? ⟨w.heap.size, 0, none⟩ = some (Value.int .i64 s0) := (unhide HX4).cell 0
  have p14 : W7.cell? ⟨w.heap.size, 1, none⟩ = some (Value.slice a0 Q0.length c0) := (unhide HX4).cell 1
  (try rw [hW8] at p13 p14)
  (try rw [hW2] at p13 p14)
  go_enter Try.func3, Try.ntmps3
  go_wp2_with fail
  rw [← hW2, ← hW8]
  clear hW2 hW8 p13 p14
  refine (szGraph_gen _ w.heap.size s0 Q0 1048576 (by omega) (by omega) (unhide HN0) W7 ((unhide HV0).below hc11 (Nat.le_refl _))).mono ?_
  rintro e uw16 ⟨⟨z15, rfl, hxz15, hyz15⟩, hb17⟩
  have HX4 := hide ((unhide HX4).below hb17)
  have HX10 := hide ((unhide HX10).below hb17)
  have hc18 : Below w.heap.size w uw16 := hc11.trans (hb17.mono hc11.size)
  have hz19 : W7.heap.size ≤ uw16.heap.size := hb17.size
  clear hb17
  by_cases hnegz15 : z15 < 0
  · go_wp2
    go_ret
    exact ⟨rfl, hc18⟩
  · have htz15 := hyz15 (by omega)
    have p20 : uw16.cell? ⟨w.heap.size + 1, 0, none⟩ = some (Value.slice a1 Y1.length c1) := (unhide HX10).cell 0
    have p21 : uw16.cell? ⟨w.heap.size + 1, 1, none⟩ = some (Value.slice a1' G1.length c1') := (unhide HX10).cell 1
    go_wp2_with fail
    clear p20 p21
    refine (szProof_gen _ w.heap.size Y1 G1 z15 (by omega) (by omega) (unhide HN1) uw16 ((unhide HV1).below hc18 (Nat.le_refl _))).mono ?_
    rintro e uw23 ⟨⟨z22, rfl, hxz22, hyz22⟩, hb24⟩
    have HX4 := hide ((unhide HX4).below hb24)
    have HX10 := hide ((unhide HX10).below hb24)
    have hc25 : Below w.heap.size w uw23 := hc18.trans (hb24.mono hc18.size)
    have hz26 : uw16.heap.size ≤ uw23.heap.size := hb24.size
    clear hb24
    by_cases hnegz22 : z22 < 0
    · go_wp2
      go_ret
      exact ⟨rfl, hc25⟩
    · have htz22 := hyz22 (by omega)
      have hb0 : Q0.length ≤ 1048576 := by omega
      have hb1 : psize Y1 G1 ≤ 1048576 := by omega
      have TO0 := hide (fun w1 (hb : Below w.heap.size w w1) => toGraph_any _ w.heap.size s0 Q0 hb0 w1 hb.size ((unhide HV0).below hb (Nat.le_refl _)))
      have EQ0 := hide (fun w1 d d1 (hd : GrAt w1 d w1.heap.size s0 Q0) (hd1 : GrAt w1 d1 w1.heap.size s0 Q0) => eqGraph_same d d1 w1.heap.size w1.heap.size s0 Q0 hb0 w1 (Nat.le_refl _) (Nat.le_refl _) hd hd1)
      have TO1 := hide (fun w1 (hb : Below w.heap.size w w1) => toProof_gen _ w.heap.size Y1 G1 hb1 w1 hb.size ((unhide HV1).below hb (Nat.le_refl _)))
      have EQ1 := hide (fun w1 d d1 (hd : PrAt w1 d w1.heap.size Y1 G1) (hd1 : PrAt w1 d1 w1.heap.size Y1 G1) => eqProof_gen d d1 w1.heap.size w1.heap.size Y1 G1 hb1 w1 (Nat.le_refl _) (Nat.le_refl _) hd hd1)
      have SP := hide (fun w1 d0 (hd0 : GrAt w1 d0 w1.heap.size s0 Q0) d1 (hd1 : PrAt w1 d1 w1.heap.size Y1 G1) => specProof_gen w1.heap.size d0 s0 Q0 d1 Y1 G1 hb0 hb1 w1 (Nat.le_refl _) hd0 hd1)
      have IM := hide (fun w1 d0 (hd0 : GrAt w1 d0 w1.heap.size s0 Q0) d1 (hd1 : PrAt w1 d1 w1.heap.size Y1 G1) => implProof_gen w1.heap.size d0 s0 Q0 d1 Y1 G1 hb0 hb1 w1 (Nat.le_refl _) hd0 hd1)
      generalize proofOk s0 Q0 Y1 G1 = ret0 at SP IM
      have hne0 : (ret0 != ret0) = false := by simp
      clear hb0 hb1
      have hk0 : w.heap.size < uw23.heap.size := (unhide HX4).lt
      have s0_0 : uw23.cell? ⟨w.heap.size, 0, none⟩ = some (Value.int .i64 s0) := (unhide HX4).cell 0
      have s0_1 : uw23.cell? ⟨w.heap.size, 1, none⟩ = some (Value.slice a0 Q0.length c0) := (unhide HX4).cell 1
      have hk1 : w.heap.size + 1 < uw23.heap.size := (unhide HX10).lt
      have s1_0 : uw23.cell? ⟨w.heap.size + 1, 0, none⟩ = some (Value.slice a1 Y1.length c1) := (unhide HX10).cell 0
      have s1_1 : uw23.cell? ⟨w.heap.size + 1, 1, none⟩ = some (Value.slice a1' G1.length c1') := (unhide HX10).cell 1
      have LIVE := hide (fun w8 (hb : Below uw23.heap.size uw23 w8) => And.intro ((unhide HX4).below hb) ((unhide HX10).below hb))
      go_wp2_with fail
      go_region_held3 (fun u => u.cell? ⟨w.heap.size, 0, none⟩ = some (Value.int .i64 s0) ∧ u.cell? ⟨w.heap.size, 1, none⟩ = some (Value.slice a0 Q0.length c0) ∧ u.cell? ⟨w.heap.size + 1, 0, none⟩ = some (Value.slice a1 Y1.length c1) ∧ u.cell? ⟨w.heap.size + 1, 1, none⟩ = some (Value.slice a1' G1.length c1'))
        (first | go_keep | with_reducible exact ⟨s0_0_0, s0_1_0, s1_0_0, s1_1_0⟩ | with_reducible exact ⟨s0_0_1, s0_1_1, s1_0_1, s1_1_1⟩ | with_reducible exact ⟨s0_0_9, s0_1_9, s1_0_9, s1_1_9⟩)
        (first
          | (go_at_call 9; refine (unhide TO0 _ hc25.drew).mono ?_; rintro e v0_ ⟨⟨d0_, rfl, ho0_⟩, hb0_⟩; have hz0_ : uw23.heap.size ≤ v0_.heap.size := hb0_.size; have hd0_0 := ho0_.at;  have s0_0_0 := (hb0_.cell (p := ⟨w.heap.size, 0, none⟩) hk0).trans s0_0; have s0_1_0 := (hb0_.cell (p := ⟨w.heap.size, 1, none⟩) hk0).trans s0_1; have s1_0_0 := (hb0_.cell (p := ⟨w.heap.size + 1, 0, none⟩) hk1).trans s1_0; have s1_1_0 := (hb0_.cell (p := ⟨w.heap.size + 1, 1, none⟩) hk1).trans s1_1; have l0_0 : w.heap.size < v0_.heap.size := Nat.lt_of_lt_of_le hk0 hz0_; have l1_0 : w.heap.size + 1 < v0_.heap.size := Nat.lt_of_lt_of_le hk1 hz0_; have hc0_ : Below w.heap.size w v0_ := (hc25.drew).trans (hb0_.mono (hc25.drew).size))
          | (go_at_call 10; refine (unhide TO1 _ hc0_).mono ?_; rintro e v1_ ⟨⟨d1_, rfl, ho1_⟩, hb1_⟩; have hz1_ : v0_.heap.size ≤ v1_.heap.size := hb1_.size; have hd1_1 := ho1_.at; have hd0_1 := (hd0_0.below hb1_ (Nat.le_refl _)).mono hb1_.size; have s0_0_1 := (hb1_.cell (p := ⟨w.heap.size, 0, none⟩) l0_0).trans s0_0_0; have s0_1_1 := (hb1_.cell (p := ⟨w.heap.size, 1, none⟩) l0_0).trans s0_1_0; have s1_0_1 := (hb1_.cell (p := ⟨w.heap.size + 1, 0, none⟩) l1_0).trans s1_0_0; have s1_1_1 := (hb1_.cell (p := ⟨w.heap.size + 1, 1, none⟩) l1_0).trans s1_1_0; have l0_1 : w.heap.size < v1_.heap.size := Nat.lt_of_lt_of_le l0_0 hz1_; have l1_1 : w.heap.size + 1 < v1_.heap.size := Nat.lt_of_lt_of_le l1_0 hz1_; have hc1_ : Below w.heap.size w v1_ := (hc0_).trans (hb1_.mono (hc0_).size))
          | (go_at_call 8; refine (unhide SP v1_ _ hd0_1 _ hd1_1).mono ?_; rintro e w9 ⟨rfl, hb9⟩; have s0_0_9 := (hb9.cell (p := ⟨w.heap.size, 0, none⟩) l0_1).trans s0_0_1; have s0_1_9 := (hb9.cell (p := ⟨w.heap.size, 1, none⟩) l0_1).trans s0_1_1; have s1_0_9 := (hb9.cell (p := ⟨w.heap.size + 1, 0, none⟩) l1_1).trans s1_0_1; have s1_1_9 := (hb9.cell (p := ⟨w.heap.size + 1, 1, none⟩) l1_1).trans s1_1_1))
      have hb28 : Below uw23.heap.size uw23 w9 := ((((Below.refl uw23.heap.size uw23).drew).trans (hb0_.mono (show uw23.heap.size ≤ uw23.drew.heap.size from by first | exact Nat.le_refl _ | omega))).trans (hb1_.mono (show uw23.heap.size ≤ v0_.heap.size from by first | exact Nat.le_refl _ | omega))).trans (hb9.mono (by omega))
      obtain ⟨zHX4, zHX10⟩ := unhide LIVE w9 hb28
      have HX4 := hide zHX4
      have HX10 := hide zHX10
      have hc29 : Below w.heap.size w w9 := hc25.trans (hb28.mono hc25.size)
      have hz30 : uw23.heap.size ≤ w9.heap.size := hb28.size
      obtain ⟨uw27, hwn⟩ : ∃ W, W = w9 := ⟨_, rfl⟩
      subst hwn
      clear LIVE hb28 hb9 hk0 hk1 hb0_ hz0_ hc0_ ho0_ hd0_0 hb1_ hz1_ hc1_ ho1_ hd0_1 hd1_1 s0_0 s0_0_9 s0_0_0 s0_0_1 s0_1 s0_1_9 s0_1_0 s0_1_1 s1_0 s1_0_9 s1_0_0 s1_0_1 s1_1 s1_1_9 s1_1_0 s1_1_1 l0_0 l0_1 l1_0 l1_1 zHX4 zHX10
      have p31 : uw27.cell? ⟨w.heap.size, 0, none⟩ = some (Value.int .i64 s0) := (unhide HX4).cell 0
      have p32 : uw27.cell? ⟨w.heap.size, 1, none⟩ = some (Value.slice a0 Q0.length c0) := (unhide HX4).cell 1
      go_wp2_with fail
      clear p31 p32
      refine (unhide TO0 uw27 hc29).mono ?_
      rintro e uw35 ⟨⟨d33, rfl, ho34⟩, hb36⟩
      have HX4 := hide ((unhide HX4).below hb36)
      have HX10 := hide ((unhide HX10).below hb36)
      have hc37 : Below w.heap.size w uw35 := hc29.trans (hb36.mono hc29.size)
      have hz38 : uw27.heap.size ≤ uw35.heap.size := hb36.size
      clear hb36
      have HO39 := hide ho34
      have HB40 := hide ho34.blk
      have hs43 := ho34.at.shape
      obtain ⟨a41, c42, rfl⟩ := hs43
      clear ho34
      obtain ⟨W44, hW45⟩ : ∃ W, W = uw35.alloc (Obj.cells #[Value.int .i64 s0, Value.slice a41 Q0.length c42] 34) := ⟨_, rfl⟩
      have hb46 : Below uw35.heap.size uw35 W44 := by rw [hW45]; exact below_new _ _
      have HX4 := hide ((unhide HX4).below hb46)
      have HX10 := hide ((unhide HX10).below hb46)
      have HO39 := hide ((unhide HO39).below hb46)
      have HX47 : Hid (CBox W44 uw35.heap.size #[Value.int .i64 s0, Value.slice a41 Q0.length c42] 34) := by show CBox _ _ _ _; rw [hW45]; exact CBox.new _ _ _
      have hc48 : Below w.heap.size w W44 := hc37.trans (hb46.mono hc37.size)
      have hz49 : uw35.heap.size < W44.heap.size := by rw [hW45]; simp
      clear hb46
      have p50 : W44.cell? ⟨w.heap.size + 1, 0, none⟩ = some (Value.slice a1 Y1.length c1) := (unhide HX10).cell 0
      have p51 : W44.cell? ⟨w.heap.size + 1, 1, none⟩ = some (Value.slice a1' G1.length c1') := (unhide HX10).cell 1
      (try rw [hW45] at p50 p51)
      go_wp2_with fail
      rw [← hW45]
      clear hW45 p50 p51
      refine (unhide TO1 W44 hc48).mono ?_
      rintro e uw54 ⟨⟨d52, rfl, ho53⟩, hb55⟩
      have HX4 := hide ((unhide HX4).below hb55)
      have HX10 := hide ((unhide HX10).below hb55)
      have HO39 := hide ((unhide HO39).below hb55)
      have HX47 := hide ((unhide HX47).below hb55)
      have hc56 : Below w.heap.size w uw54 := hc48.trans (hb55.mono hc48.size)
      have hz57 : W44.heap.size ≤ uw54.heap.size := hb55.size
      clear hb55
      have HO58 := hide ho53
      have hs62 := ho53.at.shape
      obtain ⟨a60, c61, a60', c61', rfl⟩ := hs62
      clear ho53
      obtain ⟨W63, hW64⟩ : ∃ W, W = uw54.alloc (Obj.cells #[Value.slice a60 Y1.length c61, Value.slice a60' G1.length c61'] 38) := ⟨_, rfl⟩
      have hb65 : Below uw54.heap.size uw54 W63 := by rw [hW64]; exact below_new _ _
      have HX4 := hide ((unhide HX4).below hb65)
      have HX10 := hide ((unhide HX10).below hb65)
      have HO39 := hide ((unhide HO39).below hb65)
      have HX47 := hide ((unhide HX47).below hb65)
      have HO58 := hide ((unhide HO58).below hb65)
      have HX66 : Hid (CBox W63 uw54.heap.size #[Value.slice a60 Y1.length c61, Value.slice a60' G1.length c61'] 38) := by show CBox _ _ _ _; rw [hW64]; exact CBox.new _ _ _
      have hc67 : Below w.heap.size w W63 := hc56.trans (hb65.mono hc56.size)
      have hz68 : uw54.heap.size < W63.heap.size := by rw [hW64]; simp
      clear hb65
      have p69 : W63.cell? ⟨uw35.heap.size, 0, none⟩ = some (Value.int .i64 s0) := (unhide HX47).cell 0
      have p70 : W63.cell? ⟨uw35.heap.size, 1, none⟩ = some (Value.slice a41 Q0.length c42) := (unhide HX47).cell 1
      (try rw [hW64] at p69 p70)
      go_wp2_with fail
      rw [← hW64]
      clear hW64 p69 p70
      refine (unhide IM W63 _ (unhide HO39).at _ (unhide HO58).at).mono ?_
      rintro e uw71 ⟨rfl, hb72⟩
      have HX4 := hide ((unhide HX4).below hb72)
      have HX10 := hide ((unhide HX10).below hb72)
      have HO39 := hide ((unhide HO39).below hb72)
      have HX47 := hide ((unhide HX47).below hb72)
      have HO58 := hide ((unhide HO58).below hb72)
      have HX66 := hide ((unhide HX66).below hb72)
      have hc73 : Below w.heap.size w uw71 := hc67.trans (hb72.mono hc67.size)
      have hz74 : W63.heap.size ≤ uw71.heap.size := hb72.size
      clear hb72
      have r0 : uw71.cell? ⟨uw35.heap.size, 0, none⟩ = some (Value.int .i64 s0) := (unhide HX47).cell 0
      have r1 : uw71.cell? ⟨uw35.heap.size, 1, none⟩ = some (Value.slice a41 Q0.length c42) := (unhide HX47).cell 1
      have p0 : uw71.cell? ⟨w.heap.size, 0, none⟩ = some (Value.int .i64 s0) := (unhide HX4).cell 0
      have p1 : uw71.cell? ⟨w.heap.size, 1, none⟩ = some (Value.slice a0 Q0.length c0) := (unhide HX4).cell 1
      have hk0 : uw35.heap.size < uw71.heap.size := (unhide HX47).lt
      have hk1 : w.heap.size < uw71.heap.size := (unhide HX4).lt
      have LIVE := hide (fun w8 (hb : Below uw71.heap.size uw71 w8) => And.intro ((unhide HX4).below hb) (And.intro ((unhide HX10).below hb) (And.intro ((unhide HO39).below hb) (And.intro ((unhide HX47).below hb) (And.intro ((unhide HO58).below hb) ((unhide HX66).below hb))))))
      have HOD := hide ((unhide HO39).at.below ((Below.refl uw71.heap.size uw71).drew) (Nat.le_refl _))
      go_wp2_with fail
      go_region_held3 (fun u => u.cell? ⟨uw35.heap.size, 0, none⟩ = some (Value.int .i64 s0) ∧ u.cell? ⟨uw35.heap.size, 1, none⟩ = some (Value.slice a41 Q0.length c42) ∧ u.cell? ⟨w.heap.size, 0, none⟩ = some (Value.int .i64 s0) ∧ u.cell? ⟨w.heap.size, 1, none⟩ = some (Value.slice a0 Q0.length c0))
        (first | go_keep | exact ⟨(hb9.cell (p := ⟨uw35.heap.size, 0, none⟩) l0).trans qr0, (hb9.cell (p := ⟨uw35.heap.size, 1, none⟩) l0).trans qr1, (hb9.cell (p := ⟨w.heap.size, 0, none⟩) l1).trans qp0, (hb9.cell (p := ⟨w.heap.size, 1, none⟩) l1).trans qp1⟩ | exact ⟨qr0, qr1, qp0, qp1⟩)
        (first
          | (go_at_call 9; refine (unhide TO0 _ hc73.drew).mono ?_; rintro e w8 ⟨⟨d8, rfl, ho8⟩, hb8⟩; have HE8 := hide ho8.at; have hs8 := ho8.at.shape; obtain ⟨a8, c8, rfl⟩ := hs8; have HO8 := hide (((unhide HOD).below hb8 (Nat.le_refl _)).mono (show uw71.heap.size ≤ w8.heap.size from hb8.size)); have qr0 := (hb8.cell (p := ⟨uw35.heap.size, 0, none⟩) hk0).trans r0; have qr1 := (hb8.cell (p := ⟨uw35.heap.size, 1, none⟩) hk0).trans r1; have qp0 := (hb8.cell (p := ⟨w.heap.size, 0, none⟩) hk1).trans p0; have qp1 := (hb8.cell (p := ⟨w.heap.size, 1, none⟩) hk1).trans p1; have l0 : uw35.heap.size < w8.heap.size := Nat.lt_of_lt_of_le hk0 hb8.size; have l1 : w.heap.size < w8.heap.size := Nat.lt_of_lt_of_le hk1 hb8.size; have hc8 : Below w.heap.size w w8 := hc73.drew.trans (hb8.mono hc73.size); have hb78 : Below uw71.heap.size uw71 w8 := (Below.refl uw71.heap.size uw71).drew.trans hb8; clear hb8)
          | (go_at_call 12; refine (unhide EQ0 w8 _ _ (unhide HO8) (unhide HE8)).mono ?_; rintro e w9 ⟨rfl, hb9⟩))
      have hb76 : Below uw71.heap.size uw71 w9 := hb78.trans (hb9.mono hb78.size)
      obtain ⟨zHX4, zHX10, zHO39, zHX47, zHO58, zHX66⟩ := unhide LIVE w9 hb76
      have HX4 := hide zHX4
      have HX10 := hide zHX10
      have HO39 := hide zHO39
      have HX47 := hide zHX47
      have HO58 := hide zHO58
      have HX66 := hide zHX66
      have hc77 : Below w.heap.size w w9 := hc73.trans (hb76.mono hc73.size)
      have hz78 : uw71.heap.size ≤ w9.heap.size := hb76.size
      obtain ⟨uw75, hwn⟩ : ∃ W, W = w9 := ⟨_, rfl⟩
      subst hwn
      clear hb78 hb76 hb9 hc8 LIVE HO8 HE8 HOD hk0 hk1 l0 l1 r0 r1 p0 p1 qr0 qr1 qp0 qp1 zHX4 zHX10 zHO39 zHX47 zHO58 zHX66
      have r0 : uw75.cell? ⟨uw54.heap.size, 0, none⟩ = some (Value.slice a60 Y1.length c61) := (unhide HX66).cell 0
      have r1 : uw75.cell? ⟨uw54.heap.size, 1, none⟩ = some (Value.slice a60' G1.length c61') := (unhide HX66).cell 1
      have p0 : uw75.cell? ⟨w.heap.size + 1, 0, none⟩ = some (Value.slice a1 Y1.length c1) := (unhide HX10).cell 0
      have p1 : uw75.cell? ⟨w.heap.size + 1, 1, none⟩ = some (Value.slice a1' G1.length c1') := (unhide HX10).cell 1
      have hk0 : uw54.heap.size < uw75.heap.size := (unhide HX66).lt
      have hk1 : w.heap.size + 1 < uw75.heap.size := (unhide HX10).lt
      have LIVE := hide (fun w8 (hb : Below uw75.heap.size uw75 w8) => And.intro ((unhide HX4).below hb) (And.intro ((unhide HX10).below hb) (And.intro ((unhide HO39).below hb) (And.intro ((unhide HX47).below hb) (And.intro ((unhide HO58).below hb) ((unhide HX66).below hb))))))
      have HOD := hide ((unhide HO58).at.below ((Below.refl uw75.heap.size uw75).drew) (Nat.le_refl _))
      go_wp2_with fail
      go_region_held3 (fun u => u.cell? ⟨uw54.heap.size, 0, none⟩ = some (Value.slice a60 Y1.length c61) ∧ u.cell? ⟨uw54.heap.size, 1, none⟩ = some (Value.slice a60' G1.length c61') ∧ u.cell? ⟨w.heap.size + 1, 0, none⟩ = some (Value.slice a1 Y1.length c1) ∧ u.cell? ⟨w.heap.size + 1, 1, none⟩ = some (Value.slice a1' G1.length c1'))
        (first | go_keep | exact ⟨(hb9.cell (p := ⟨uw54.heap.size, 0, none⟩) l0).trans qr0, (hb9.cell (p := ⟨uw54.heap.size, 1, none⟩) l0).trans qr1, (hb9.cell (p := ⟨w.heap.size + 1, 0, none⟩) l1).trans qp0, (hb9.cell (p := ⟨w.heap.size + 1, 1, none⟩) l1).trans qp1⟩ | exact ⟨qr0, qr1, qp0, qp1⟩)
        (first
          | (go_at_call 10; refine (unhide TO1 _ hc77.drew).mono ?_; rintro e w8 ⟨⟨d8, rfl, ho8⟩, hb8⟩; have HE8 := hide ho8.at; have hs8 := ho8.at.shape; obtain ⟨a8, c8, a8', c8', rfl⟩ := hs8; have HO8 := hide (((unhide HOD).below hb8 (Nat.le_refl _)).mono (show uw75.heap.size ≤ w8.heap.size from hb8.size)); have qr0 := (hb8.cell (p := ⟨uw54.heap.size, 0, none⟩) hk0).trans r0; have qr1 := (hb8.cell (p := ⟨uw54.heap.size, 1, none⟩) hk0).trans r1; have qp0 := (hb8.cell (p := ⟨w.heap.size + 1, 0, none⟩) hk1).trans p0; have qp1 := (hb8.cell (p := ⟨w.heap.size + 1, 1, none⟩) hk1).trans p1; have l0 : uw54.heap.size < w8.heap.size := Nat.lt_of_lt_of_le hk0 hb8.size; have l1 : w.heap.size + 1 < w8.heap.size := Nat.lt_of_lt_of_le hk1 hb8.size; have hc8 : Below w.heap.size w w8 := hc77.drew.trans (hb8.mono hc77.size); have hb78 : Below uw75.heap.size uw75 w8 := (Below.refl uw75.heap.size uw75).drew.trans hb8; clear hb8)
          | (go_at_call 13; refine (unhide EQ1 w8 _ _ (unhide HO8) (unhide HE8)).mono ?_; rintro e w9 ⟨rfl, hb9⟩))
      have hb80 : Below uw75.heap.size uw75 w9 := hb78.trans (hb9.mono hb78.size)
      obtain ⟨zHX4, zHX10, zHO39, zHX47, zHO58, zHX66⟩ := unhide LIVE w9 hb80
      have HX4 := hide zHX4
      have HX10 := hide zHX10
      have HO39 := hide zHO39
      have HX47 := hide zHX47
      have HO58 := hide zHO58
      have HX66 := hide zHX66
      have hc81 : Below w.heap.size w w9 := hc77.trans (hb80.mono hc77.size)
      have hz82 : uw75.heap.size ≤ w9.heap.size := hb80.size
      obtain ⟨uw79, hwn⟩ : ∃ W, W = w9 := ⟨_, rfl⟩
      subst hwn
      clear hb78 hb80 hb9 hc8 LIVE HO8 HE8 HOD hk0 hk1 l0 l1 r0 r1 p0 p1 qr0 qr1 qp0 qp1 zHX4 zHX10 zHO39 zHX47 zHO58 zHX66
      go_wp2
      go_ret
      exact ⟨rfl, hc81⟩

set_option maxRecDepth 100000 in
theorem lifted (os : Os) (started : os.Started) (H : Type) (enc : TypeId × Value → H) :
    ReturnsInHanded {} Try.checked os 3 .any (Rows.fnExactProofOkSpec.pre6 enc Try.prog Try.f3 Rows.fnExactProofOkRow.domain false) (Rows.fnExactProofOkSpec.post enc Try.prog Try.f3 false true false false) := by
  refine returnsInHanded_of_change (C := Try.checked) own started (by kernel_rfl) Try.func3
    (ChangeSpec.witness6 (enc := enc) (C := Try.checked) false ⟨#[], #[.agg #[.int .i64 0, .slice none 0 0], .agg #[.slice none 0 0, .slice none 0 0]], []⟩ 8 (by kernel_rfl) (by kernel_rfl) (by kernel_rfl) (by kernel_rfl)) ?_
  intro W base args ds gs before hval0 hW _ _
  have hval : ∀ (j : Nat) t v, Try.f3.params[j]? = some t → args[j]? = some v → Value.okWide Try.prog W .any base t v := hval0
  have hW' := hW
  obtain ⟨p, q, hA0, hV, rfl, hfz, hnd⟩ := hW
  have hA : DataW.TrodAll enc Try.prog W 0 (fun _ => true) true Try.f3.params.toList args.toList ds p := hA0
  rw [Try.params3] at hA hval
  obtain ⟨v0, vs0, d0, ds0, p0, q0, hargs, rfl, rfl, h0, r0⟩ := trodAll_cons hA
  obtain ⟨v1, vs1, d1, ds1, p1, q1, rfl, rfl, rfl, h1, r1⟩ := trodAll_cons r0
  obtain ⟨rfl, rfl, rfl⟩ := trodAll_nil r1
  obtain rfl : args = #[v0, v1] := by cases args; simp_all
  obtain ⟨rfl, rfl⟩ := trodVars_none hV
  have k0 := h0
  have lt0 : ∀ x ∈ p0, x.block < W.heap.size := by obtain ⟨m, hm⟩ := k0; exact DataW.trod_lt m _ _ _ hm
  obtain ⟨s0, Q0, hv0, hn0⟩ := graph_in (hval 0 24 v0 rfl rfl) h0
  have k1 := h1
  have lt1 : ∀ x ∈ p1, x.block < W.heap.size := by obtain ⟨m, hm⟩ := k1; exact DataW.trod_lt m _ _ _ hm
  obtain ⟨Y1, G1, hv1, hn1⟩ := proof_in (hval 1 28 v1 rfl rfl) h1
  clear hA0 hval0
  refine (walk v0 s0 Q0 v1 Y1 G1 W hv0 hn0 hv1 hn1).mono fun e W' ⟨he, bel⟩ => ?_
  subst he
  exact ⟨_, rfl, _, _, _, [], _, [], hW', trodAll_mk1 (shut_bool Try.underlying4 _), (trodAll_cons_mk (Below.trod laidOut (by kernel_rfl) (of_decide_eq_true (by kernel_rfl)) k0 bel lt0) (trodAll_cons_mk (Below.trod laidOut (by kernel_rfl) (of_decide_eq_true (by kernel_rfl)) k1 bel lt1) trodAll_mk0)), rfl, bel.frame _, fun h => by cases h⟩

theorem over : Rows.fnExactProofOkRow.holds Try.pinned (OpenSpec.ofChange Rows.fnExactProofOkSpec) :=
  OpenClaim.holds_of_wide 3 Try.f3 rfl rfl rfl rfl rfl rfl rfl ⟨rfl, rfl, rfl, rfl, rfl⟩ rfl rfl rfl rfl rfl (by kernel_rfl) Try.func3 (by kernel_rfl)
    (of_decide_eq_true (by kernel_rfl)) (by unfold Func.isWrapper; first | (rw [if_pos (by decide +kernel)]; kernel_rfl) | (rw [if_neg (by decide +kernel)]; exact ⟨rfl, rfl⟩))
    (fun os started H enc _ => lifted os started H enc)

end Go.Proofs.Ytdaihbgabamaiaa.fnExactProofOk
namespace Go.Proofs.Ytdaihbgabamaiaa
theorem fnExactProofOk_holds : Rows.FnExactProofOkSaid := fnExactProofOk.over
#print axioms fnExactProofOk_holds
end Go.Proofs.Ytdaihbgabamaiaa
