/-
  impl.Lonely answers as the specification; it writes into no argument, and its answer owns its memory. Walk and frame written by program (tools/exactlaw.py).
-/
import Derived.Test.YtejfknkcakeakaaRows
import Derived.Test.YtejfknkcakeakaaLkLaw
import Derived.Test.YtejfknkcakeakaaLkO
import Derived.Test.YtejfknkcakeakaaChecked
import Derived.Deep.RegionHeld3
import Derived.ShutString
import Derived.Below
namespace Go.Proofs.Ytejfknkcakeakaa.fnExactLonely
open Go.Proofs.Ytejfknkcakeakaa Go.Proofs.Ytejfknkcakeakaa.Gr
open Go.ChangeShapes Go.WideShapes Go.ChangeAt Go.RowKit
open Go.ChangeMaps (open_string shut_string)

theorem own : ownKnob Try.prog.godebug = none := by kernel_rfl

theorem laidOut : laidOutB Try.prog = true := by kernel_rfl

set_option maxRecDepth 100000 in
set_option maxHeartbeats 4000000 in
theorem walk (v0 : Value) (s0 : Int) (Q0 : List EdgeI) (v1 : Value) (M1 : List CoupleI) (w : World) (hv0 : GrAt w v0 w.heap.size s0 Q0) (hn0 : Q0.length ≤ 9223372036854775807) (hv1 : CoAt w v1 w.heap.size M1) (hn1 : M1.length ≤ 9223372036854775807) :
    Calls Try.prog 8 #[v0, v1] w fun e w' => e = .returned (.bool true) ∧ Below w.heap.size w w' := by
  have HV0 := hide hv0
  have HV1 := hide hv1
  have HN0 := hide hn0
  have HN1 := hide hn1
  have sh0 := hv0.shape
  obtain ⟨a0, c0, rfl⟩ := sh0
  have sh1 := hv1.shape
  obtain ⟨a1, c1, rfl⟩ := sh1
  clear hv0 hv1 hn0 hn1
  obtain ⟨W1, hW2⟩ : ∃ W, W = w.alloc (Obj.cells #[Value.int .i64 s0, Value.slice a0 Q0.length c0] 24) := ⟨_, rfl⟩
  have hb3 : Below w.heap.size w W1 := by rw [hW2]; exact below_new _ _
  have HX4 : Hid (CBox W1 w.heap.size #[Value.int .i64 s0, Value.slice a0 Q0.length c0] 24) := by show CBox _ _ _ _; rw [hW2]; exact CBox.new _ _ _
  have hc5 : Below w.heap.size w W1 := hb3
  have hz6 : w.heap.size < W1.heap.size := by rw [hW2]; simp
  clear hb3
  have p7 : W1.cell? ⟨w.heap.size, 0, none⟩ = some (Value.int .i64 s0) := (unhide HX4).cell 0
  have p8 : W1.cell? ⟨w.heap.size, 1, none⟩ = some (Value.slice a0 Q0.length c0) := (unhide HX4).cell 1
  (try rw [hW2] at p7 p8)
  go_enter Try.func8, Try.ntmps8
  go_wp2_with fail
  rw [← hW2]
  clear hW2 p7 p8
  refine (szGraph_gen _ w.heap.size s0 Q0 1048576 (by omega) (by omega) (unhide HN0) W1 ((unhide HV0).below hc5 (Nat.le_refl _))).mono ?_
  rintro e uw10 ⟨⟨z9, rfl, hxz9, hyz9⟩, hb11⟩
  have HX4 := hide ((unhide HX4).below hb11)
  have hc12 : Below w.heap.size w uw10 := hc5.trans (hb11.mono hc5.size)
  have hz13 : W1.heap.size ≤ uw10.heap.size := hb11.size
  clear hb11
  by_cases hnegz9 : z9 < 0
  · go_wp2
    go_ret
    exact ⟨rfl, hc12⟩
  · have htz9 := hyz9 (by omega)
    go_wp2_with fail
    refine (szCoupleS_gen _ w.heap.size M1 z9 (by omega) (by omega) (unhide HN1) uw10 ((unhide HV1).below hc12 (Nat.le_refl _))).mono ?_
    rintro e uw15 ⟨⟨z14, rfl, hxz14, hyz14⟩, hb16⟩
    have HX4 := hide ((unhide HX4).below hb16)
    have hc17 : Below w.heap.size w uw15 := hc12.trans (hb16.mono hc12.size)
    have hz18 : uw10.heap.size ≤ uw15.heap.size := hb16.size
    clear hb16
    by_cases hnegz14 : z14 < 0
    · go_wp2
      go_ret
      exact ⟨rfl, hc17⟩
    · have htz14 := hyz14 (by omega)
      have hb0 : Q0.length ≤ 1048576 := by omega
      have hb1 : M1.length ≤ 1048576 := by omega
      have TO0 := hide (fun w1 (hb : Below w.heap.size w w1) => toGraph_any _ w.heap.size s0 Q0 hb0 w1 hb.size ((unhide HV0).below hb (Nat.le_refl _)))
      have EQ0 := hide (fun w1 d d1 (hd : GrAt w1 d w1.heap.size s0 Q0) (hd1 : GrAt w1 d1 w1.heap.size s0 Q0) => eqGraph_same d d1 w1.heap.size w1.heap.size s0 Q0 hb0 w1 (Nat.le_refl _) (Nat.le_refl _) hd hd1)
      have TO1 := hide (fun w1 (hb : Below w.heap.size w w1) => toCoupleS_gen _ w.heap.size M1 hb1 w1 hb.size ((unhide HV1).below hb (Nat.le_refl _)))
      have EQ1 := hide (fun w1 d d1 (hd : CoAt w1 d w1.heap.size M1) (hd1 : CoAt w1 d1 w1.heap.size M1) => eqCoupleS_gen d d1 w1.heap.size w1.heap.size M1 hb1 w1 (Nat.le_refl _) (Nat.le_refl _) hd hd1)
      have SP := hide (fun w1 d0 (hd0 : GrAt w1 d0 w1.heap.size s0 Q0) d1 (hd1 : CoAt w1 d1 w1.heap.size M1) => Lk.specLone_gen w1.heap.size d0 s0 Q0 d1 M1 hb0 hb1 w1 (Nat.le_refl _) hd0 hd1)
      have IM := hide (fun w1 d0 (hd0 : GrAt w1 d0 w1.heap.size s0 Q0) d1 (hd1 : CoAt w1 d1 w1.heap.size M1) => Lk.implLone_gen w1.heap.size d0 s0 Q0 d1 M1 hb0 hb1 w1 (Nat.le_refl _) hd0 hd1)
      have hl0 : (Lk.loneR s0 Q0 M1).length ≤ 1048576 := by first | omega | (exact Nat.le_trans (Lk.loneR_len s0 Q0 M1) (by omega))
      generalize Lk.loneR s0 Q0 M1 = Kr0 at SP IM hl0
      have ER0 := hide (fun w1 d d1 (hd : InAt w1 d w1.heap.size Kr0) (hd1 : InAt w1 d1 w1.heap.size Kr0) => eqInts_gen d d1 w1.heap.size w1.heap.size Kr0 hl0 w1 (Nat.le_refl _) (Nat.le_refl _) hd hd1)
      have MK0 := hide (fun w1 B d (hd : GrOwn w1 B d s0 Q0) => markGraph_any d B 1 s0 Q0 (by omega) w1 hd)
      obtain ⟨kx0, hkx0⟩ : ∃ k : Nat, k = 1 + Q0.length * 5 := ⟨_, rfl⟩
      rw [← hkx0] at MK0
      have hkn0 : ¬ ((kx0 : Nat) : Int) < 0 := by omega
      have MK1 := hide (fun w1 B d (hd : CoOwn w1 B d M1) => markCoupleS_gen d B kx0 M1 (by omega) w1 hd)
      obtain ⟨kx1, hkx1⟩ : ∃ k : Nat, k = kx0 + M1.length * 2 := ⟨_, rfl⟩
      rw [← hkx1] at MK1
      have hkn1 : ¬ ((kx1 : Nat) : Int) < 0 := by omega
      have MR0 := hide (fun w1 B d (hd : InOwn w1 B d Kr0) => markInts_gen d B 1 Kr0 (by omega) w1 hd)
      have HR0 := hide (fun w1 d (hd : InAt w1 d w1.heap.size (marksN 1 Kr0.length)) => heldInts_gen d w1.heap.size 1 Kr0.length (by omega) w1 (Nat.le_refl _) hd)
      obtain ⟨km0, hkm0⟩ : ∃ k : Nat, k = 1 + Kr0.length := ⟨_, rfl⟩
      rw [← hkm0] at MR0 HR0
      have hkr0 : ¬ ((km0 : Nat) : Int) < 0 := by omega
      have hkq0 : (((km0 : Nat) : Int) != ((km0 : Nat) : Int)) = false := by simp
      clear hkx0 hkx1 hkm0 hb0 hb1 hl0
      have p19 : uw15.cell? ⟨w.heap.size, 0, none⟩ = some (Value.int .i64 s0) := (unhide HX4).cell 0
      have p20 : uw15.cell? ⟨w.heap.size, 1, none⟩ = some (Value.slice a0 Q0.length c0) := (unhide HX4).cell 1
      go_wp2_with fail
      clear p19 p20
      refine (unhide TO0 uw15 hc17).mono ?_
      rintro e uw23 ⟨⟨d21, rfl, ho22⟩, hb24⟩
      have HX4 := hide ((unhide HX4).below hb24)
      have hc25 : Below w.heap.size w uw23 := hc17.trans (hb24.mono hc17.size)
      have hz26 : uw15.heap.size ≤ uw23.heap.size := hb24.size
      clear hb24
      have HO28 := hide ho22
      have HB29 := hide ho22.blk
      have hs32 := ho22.at.shape
      obtain ⟨a30, c31, rfl⟩ := hs32
      clear ho22
      go_wp2_with fail
      refine (unhide TO1 uw23 hc25).mono ?_
      rintro e uw35 ⟨⟨d33, rfl, ho34⟩, hb36⟩
      have HX4 := hide ((unhide HX4).below hb36)
      have HO28 := hide ((unhide HO28).below hb36)
      have hc37 : Below w.heap.size w uw35 := hc25.trans (hb36.mono hc25.size)
      have hz38 : uw23.heap.size ≤ uw35.heap.size := hb36.size
      clear hb36
      have HO40 := hide ho34
      have HB41 := hide ho34.blk
      have hs44 := ho34.at.shape
      obtain ⟨a42, c43, rfl⟩ := hs44
      clear ho34
      go_wp2_with fail
      refine (unhide SP uw35 _ (unhide HO28).at _ (unhide HO40).at).mono ?_
      rintro e uw47 ⟨⟨d45, rfl, ho46⟩, hb48⟩
      have HX4 := hide ((unhide HX4).below hb48)
      have HO28 := hide ((unhide HO28).below hb48)
      have HO40 := hide ((unhide HO40).below hb48)
      have hc49 : Below w.heap.size w uw47 := hc37.trans (hb48.mono hc37.size)
      have hz50 : uw35.heap.size ≤ uw47.heap.size := hb48.size
      clear hb48
      have HO51 := hide ho46
      have HB52 := hide ho46.blk
      have hs55 := ho46.at.shape
      obtain ⟨a53, c54, rfl⟩ := hs55
      clear ho46
      have p56 : uw47.cell? ⟨w.heap.size, 0, none⟩ = some (Value.int .i64 s0) := (unhide HX4).cell 0
      have p57 : uw47.cell? ⟨w.heap.size, 1, none⟩ = some (Value.slice a0 Q0.length c0) := (unhide HX4).cell 1
      go_wp2_with fail
      clear p56 p57
      refine (unhide TO0 uw47 hc49).mono ?_
      rintro e uw60 ⟨⟨d58, rfl, ho59⟩, hb61⟩
      have HX4 := hide ((unhide HX4).below hb61)
      have HO51 := hide ((unhide HO51).below hb61)
      have hc62 : Below w.heap.size w uw60 := hc49.trans (hb61.mono hc49.size)
      have hz63 : uw47.heap.size ≤ uw60.heap.size := hb61.size
      clear hb61
      have HO64 := hide ho59
      have HB65 := hide ho59.blk
      have hs68 := ho59.at.shape
      obtain ⟨a66, c67, rfl⟩ := hs68
      clear ho59
      obtain ⟨W69, hW70⟩ : ∃ W, W = uw60.alloc (Obj.cells #[Value.int .i64 s0, Value.slice a66 Q0.length c67] 30) := ⟨_, rfl⟩
      have hb71 : Below uw60.heap.size uw60 W69 := by rw [hW70]; exact below_new _ _
      have HX4 := hide ((unhide HX4).below hb71)
      have HO51 := hide ((unhide HO51).below hb71)
      have HO64 := hide ((unhide HO64).below hb71)
      have HX72 : Hid (CBox W69 uw60.heap.size #[Value.int .i64 s0, Value.slice a66 Q0.length c67] 30) := by show CBox _ _ _ _; rw [hW70]; exact CBox.new _ _ _
      have hc73 : Below w.heap.size w W69 := hc62.trans (hb71.mono hc62.size)
      have hz74 : uw60.heap.size < W69.heap.size := by rw [hW70]; simp
      clear hb71
      go_wp2_with fail
      rw [← hW70]
      clear hW70
      refine (unhide TO1 W69 hc73).mono ?_
      rintro e uw77 ⟨⟨d75, rfl, ho76⟩, hb78⟩
      have HX4 := hide ((unhide HX4).below hb78)
      have HO51 := hide ((unhide HO51).below hb78)
      have HO64 := hide ((unhide HO64).below hb78)
      have HX72 := hide ((unhide HX72).below hb78)
      have hc79 : Below w.heap.size w uw77 := hc73.trans (hb78.mono hc73.size)
      have hz80 : W69.heap.size ≤ uw77.heap.size := hb78.size
      clear hb78
      have HO81 := hide ho76
      have HB82 := hide ho76.blk
      have hs85 := ho76.at.shape
      obtain ⟨a83, c84, rfl⟩ := hs85
      clear ho76
      have p86 : uw77.cell? ⟨uw60.heap.size, 0, none⟩ = some (Value.int .i64 s0) := (unhide HX72).cell 0
      have p87 : uw77.cell? ⟨uw60.heap.size, 1, none⟩ = some (Value.slice a66 Q0.length c67) := (unhide HX72).cell 1
      go_wp2_with fail
      clear p86 p87
      refine (unhide IM uw77 _ (unhide HO64).at _ (unhide HO81).at).mono ?_
      rintro e uw90 ⟨⟨d88, rfl, ho89⟩, hb91⟩
      have HX4 := hide ((unhide HX4).below hb91)
      have HO51 := hide ((unhide HO51).below hb91)
      have HO64 := hide ((unhide HO64).below hb91)
      have HX72 := hide ((unhide HX72).below hb91)
      have HO81 := hide ((unhide HO81).below hb91)
      have hc92 : Below w.heap.size w uw90 := hc79.trans (hb91.mono hc79.size)
      have hz93 : uw77.heap.size ≤ uw90.heap.size := hb91.size
      clear hb91
      have HO94 := hide ho89
      have HB95 := hide ho89.blk
      have hs98 := ho89.at.shape
      obtain ⟨a96, c97, rfl⟩ := hs98
      clear ho89
      go_wp2_with fail
      refine (unhide ER0 uw90 _ _ (unhide HO94).at (unhide HO51).at).mono ?_
      rintro e uw99 ⟨rfl, hb100⟩
      have HX4 := hide ((unhide HX4).below hb100)
      have HO51 := hide ((unhide HO51).below hb100)
      have HO64 := hide ((unhide HO64).below hb100)
      have HX72 := hide ((unhide HX72).below hb100)
      have HO81 := hide ((unhide HO81).below hb100)
      have HO94 := hide ((unhide HO94).below hb100)
      have hc101 : Below w.heap.size w uw99 := hc92.trans (hb100.mono hc92.size)
      have hz102 : uw90.heap.size ≤ uw99.heap.size := hb100.size
      clear hb100
      have r0 : uw99.cell? ⟨uw60.heap.size, 0, none⟩ = some (Value.int .i64 s0) := (unhide HX72).cell 0
      have r1 : uw99.cell? ⟨uw60.heap.size, 1, none⟩ = some (Value.slice a66 Q0.length c67) := (unhide HX72).cell 1
      have p0 : uw99.cell? ⟨w.heap.size, 0, none⟩ = some (Value.int .i64 s0) := (unhide HX4).cell 0
      have p1 : uw99.cell? ⟨w.heap.size, 1, none⟩ = some (Value.slice a0 Q0.length c0) := (unhide HX4).cell 1
      have hk0 : uw60.heap.size < uw99.heap.size := (unhide HX72).lt
      have hk1 : w.heap.size < uw99.heap.size := (unhide HX4).lt
      have LIVE := hide (fun w8 (hb : Below uw99.heap.size uw99 w8) => And.intro ((unhide HX4).below hb) (And.intro ((unhide HO51).below hb) (And.intro ((unhide HO64).below hb) (And.intro ((unhide HX72).below hb) (And.intro ((unhide HO81).below hb) ((unhide HO94).below hb))))))
      have HOD := hide ((unhide HO64).at.below ((Below.refl uw99.heap.size uw99).drew) (Nat.le_refl _))
      go_wp2_with fail
      go_region_held3 (fun u => u.cell? ⟨uw60.heap.size, 0, none⟩ = some (Value.int .i64 s0) ∧ u.cell? ⟨uw60.heap.size, 1, none⟩ = some (Value.slice a66 Q0.length c67) ∧ u.cell? ⟨w.heap.size, 0, none⟩ = some (Value.int .i64 s0) ∧ u.cell? ⟨w.heap.size, 1, none⟩ = some (Value.slice a0 Q0.length c0))
        (first | go_keep | exact ⟨(hb9.cell (p := ⟨uw60.heap.size, 0, none⟩) l0).trans qr0, (hb9.cell (p := ⟨uw60.heap.size, 1, none⟩) l0).trans qr1, (hb9.cell (p := ⟨w.heap.size, 0, none⟩) l1).trans qp0, (hb9.cell (p := ⟨w.heap.size, 1, none⟩) l1).trans qp1⟩ | exact ⟨qr0, qr1, qp0, qp1⟩)
        (first
          | (go_at_call 12; refine (unhide TO0 _ hc101.drew).mono ?_; rintro e w8 ⟨⟨d8, rfl, ho8⟩, hb8⟩; have HE8 := hide ho8.at; have hs8 := ho8.at.shape; obtain ⟨a8, c8, rfl⟩ := hs8; have HO8 := hide (((unhide HOD).below hb8 (Nat.le_refl _)).mono (show uw99.heap.size ≤ w8.heap.size from hb8.size)); have qr0 := (hb8.cell (p := ⟨uw60.heap.size, 0, none⟩) hk0).trans r0; have qr1 := (hb8.cell (p := ⟨uw60.heap.size, 1, none⟩) hk0).trans r1; have qp0 := (hb8.cell (p := ⟨w.heap.size, 0, none⟩) hk1).trans p0; have qp1 := (hb8.cell (p := ⟨w.heap.size, 1, none⟩) hk1).trans p1; have l0 : uw60.heap.size < w8.heap.size := Nat.lt_of_lt_of_le hk0 hb8.size; have l1 : w.heap.size < w8.heap.size := Nat.lt_of_lt_of_le hk1 hb8.size; have hc8 : Below w.heap.size w w8 := hc101.drew.trans (hb8.mono hc101.size); have hb78 : Below uw99.heap.size uw99 w8 := (Below.refl uw99.heap.size uw99).drew.trans hb8; clear hb8)
          | (go_at_call 15; refine (unhide EQ0 w8 _ _ (unhide HO8) (unhide HE8)).mono ?_; rintro e w9 ⟨rfl, hb9⟩))
      have hb104 : Below uw99.heap.size uw99 w9 := hb78.trans (hb9.mono hb78.size)
      obtain ⟨zHX4, zHO51, zHO64, zHX72, zHO81, zHO94⟩ := unhide LIVE w9 hb104
      have HX4 := hide zHX4
      have HO51 := hide zHO51
      have HO64 := hide zHO64
      have HX72 := hide zHX72
      have HO81 := hide zHO81
      have HO94 := hide zHO94
      have hc105 : Below w.heap.size w w9 := hc101.trans (hb104.mono hc101.size)
      have hz106 : uw99.heap.size ≤ w9.heap.size := hb104.size
      obtain ⟨uw103, hwn⟩ : ∃ W, W = w9 := ⟨_, rfl⟩
      subst hwn
      clear hb78 hb104 hb9 hc8 LIVE HO8 HE8 HOD hk0 hk1 l0 l1 r0 r1 p0 p1 qr0 qr1 qp0 qp1 zHX4 zHO51 zHO64 zHX72 zHO81 zHO94
      go_wp2_with fail
      refine (unhide TO1 uw103 hc105).mono ?_
      rintro e uw109 ⟨⟨d107, rfl, ho108⟩, hb110⟩
      have HX4 := hide ((unhide HX4).below hb110)
      have HO51 := hide ((unhide HO51).below hb110)
      have HO64 := hide ((unhide HO64).below hb110)
      have HX72 := hide ((unhide HX72).below hb110)
      have HO81 := hide ((unhide HO81).below hb110)
      have HO94 := hide ((unhide HO94).below hb110)
      have hc111 : Below w.heap.size w uw109 := hc105.trans (hb110.mono hc105.size)
      have hz112 : uw103.heap.size ≤ uw109.heap.size := hb110.size
      clear hb110
      have HO114 := hide ho108
      have HB115 := hide ho108.blk
      have hs118 := ho108.at.shape
      obtain ⟨a116, c117, rfl⟩ := hs118
      clear ho108
      go_wp2_with fail
      refine (unhide EQ1 uw109 _ _ (unhide HO81).at (unhide HO114).at).mono ?_
      rintro e uw119 ⟨rfl, hb120⟩
      have HX4 := hide ((unhide HX4).below hb120)
      have HO51 := hide ((unhide HO51).below hb120)
      have HO64 := hide ((unhide HO64).below hb120)
      have HX72 := hide ((unhide HX72).below hb120)
      have HO81 := hide ((unhide HO81).below hb120)
      have HO94 := hide ((unhide HO94).below hb120)
      have HO114 := hide ((unhide HO114).below hb120)
      have hc121 : Below w.heap.size w uw119 := hc111.trans (hb120.mono hc111.size)
      have hz122 : uw109.heap.size ≤ uw119.heap.size := hb120.size
      clear hb120
      have p123 : uw119.cell? ⟨uw60.heap.size, 0, none⟩ = some (Value.int .i64 s0) := (unhide HX72).cell 0
      have p124 : uw119.cell? ⟨uw60.heap.size, 1, none⟩ = some (Value.slice a66 Q0.length c67) := (unhide HX72).cell 1
      go_wp2_with fail
      clear p123 p124
      refine (unhide MK0 uw119 _ _ (unhide HO64)).mono ?_
      rintro e uw125 ⟨rfl, ho127, hk126⟩
      have HX4 := hide ((unhide HX4).kept hk126 (fun h => by have h3 := unhide HB65 _ h; omega))
      have HO51 := hide ((unhide HO51).kept hk126 (fun g h0 h1 => by have h2 := unhide HB52 g h0; have h3 := unhide HB65 g h1; omega))
      have HX72 := hide ((unhide HX72).kept hk126 (fun h => by have h3 := unhide HB65 _ h; omega))
      have HO81 := hide ((unhide HO81).kept hk126 (fun g h0 h1 => by have h2 := unhide HB82 g h0; have h3 := unhide HB65 g h1; omega))
      have HO94 := hide ((unhide HO94).kept hk126 (fun g h0 h1 => by have h2 := unhide HB95 g h0; have h3 := unhide HB65 g h1; omega))
      have HO64 := hide ho127
      have hc128 : Below w.heap.size w uw125 := hc121.trans (hk126.below hc121.size (fun g hg => by have h3 := unhide HB65 g hg; omega))
      have hz129 : uw119.heap.size ≤ uw125.heap.size := hk126.2.2.2.1
      clear ho127 hk126
      go_wp2_with fail
      refine (unhide MK1 uw125 _ _ (unhide HO81)).mono ?_
      rintro e uw130 ⟨rfl, ho132, hk131⟩
      have HX4 := hide ((unhide HX4).kept hk131 (fun h => by have h3 := unhide HB82 _ h; omega))
      have HO51 := hide ((unhide HO51).kept hk131 (fun g h0 h1 => by have h2 := unhide HB52 g h0; have h3 := unhide HB82 g h1; omega))
      have HO64 := hide ((unhide HO64).kept hk131 (fun g h0 h1 => by have h2 := unhide HB65 g h0; have h3 := unhide HB82 g h1; omega))
      have HX72 := hide ((unhide HX72).kept hk131 (fun h => by have h3 := unhide HB82 _ h; omega))
      have HO94 := hide ((unhide HO94).kept hk131 (fun g h0 h1 => by have h2 := unhide HB95 g h0; have h3 := unhide HB82 g h1; omega))
      have HO81 := hide ho132
      have hc133 : Below w.heap.size w uw130 := hc128.trans (hk131.below hc128.size (fun g hg => by have h3 := unhide HB82 g hg; omega))
      have hz134 : uw125.heap.size ≤ uw130.heap.size := hk131.2.2.2.1
      clear ho132 hk131
      go_wp2_with fail
      refine (unhide ER0 uw130 _ _ (unhide HO94).at (unhide HO51).at).mono ?_
      rintro e uw135 ⟨rfl, hb136⟩
      have HX4 := hide ((unhide HX4).below hb136)
      have HO51 := hide ((unhide HO51).below hb136)
      have HO64 := hide ((unhide HO64).below hb136)
      have HX72 := hide ((unhide HX72).below hb136)
      have HO81 := hide ((unhide HO81).below hb136)
      have HO94 := hide ((unhide HO94).below hb136)
      have hc137 : Below w.heap.size w uw135 := hc133.trans (hb136.mono hc133.size)
      have hz138 : uw130.heap.size ≤ uw135.heap.size := hb136.size
      clear hb136
      go_wp2_with fail
      refine (unhide MR0 uw135 _ _ (unhide HO94)).mono ?_
      rintro e uw139 ⟨rfl, ho141, hk140⟩
      have HX4 := hide ((unhide HX4).kept hk140 (fun h => by have h3 := unhide HB95 _ h; omega))
      have HO51 := hide ((unhide HO51).kept hk140 (fun g h0 h1 => by have h2 := unhide HB52 g h0; have h3 := unhide HB95 g h1; omega))
      have HO64 := hide ((unhide HO64).kept hk140 (fun g h0 h1 => by have h2 := unhide HB65 g h0; have h3 := unhide HB95 g h1; omega))
      have HX72 := hide ((unhide HX72).kept hk140 (fun h => by have h3 := unhide HB95 _ h; omega))
      have HO81 := hide ((unhide HO81).kept hk140 (fun g h0 h1 => by have h2 := unhide HB82 g h0; have h3 := unhide HB95 g h1; omega))
      have HO94 := hide ho141
      have hc142 : Below w.heap.size w uw139 := hc137.trans (hk140.below hc137.size (fun g hg => by have h3 := unhide HB95 g hg; omega))
      have hz143 : uw135.heap.size ≤ uw139.heap.size := hk140.2.2.2.1
      clear ho141 hk140
      go_wp2_with fail
      refine (unhide HR0 uw139 _ (unhide HO94).at).mono ?_
      rintro e uw144 ⟨rfl, hb145⟩
      have HX4 := hide ((unhide HX4).below hb145)
      have HO51 := hide ((unhide HO51).below hb145)
      have HO64 := hide ((unhide HO64).below hb145)
      have HX72 := hide ((unhide HX72).below hb145)
      have HO81 := hide ((unhide HO81).below hb145)
      have HO94 := hide ((unhide HO94).below hb145)
      have hc146 : Below w.heap.size w uw144 := hc142.trans (hb145.mono hc142.size)
      have hz147 : uw139.heap.size ≤ uw144.heap.size := hb145.size
      clear hb145
      have p148 : uw144.cell? ⟨w.heap.size, 0, none⟩ = some (Value.int .i64 s0) := (unhide HX4).cell 0
      have p149 : uw144.cell? ⟨w.heap.size, 1, none⟩ = some (Value.slice a0 Q0.length c0) := (unhide HX4).cell 1
      go_wp2_with fail
      clear p148 p149
      refine (unhide TO0 uw144 hc146).mono ?_
      rintro e uw152 ⟨⟨d150, rfl, ho151⟩, hb153⟩
      have HX4 := hide ((unhide HX4).below hb153)
      have HO51 := hide ((unhide HO51).below hb153)
      have HO64 := hide ((unhide HO64).below hb153)
      have HX72 := hide ((unhide HX72).below hb153)
      have HO81 := hide ((unhide HO81).below hb153)
      have HO94 := hide ((unhide HO94).below hb153)
      have hc154 : Below w.heap.size w uw152 := hc146.trans (hb153.mono hc146.size)
      have hz155 : uw144.heap.size ≤ uw152.heap.size := hb153.size
      clear hb153
      have HO157 := hide ho151
      have HB158 := hide ho151.blk
      have hs161 := ho151.at.shape
      obtain ⟨a159, c160, rfl⟩ := hs161
      clear ho151
      go_wp2_with fail
      refine (unhide TO1 uw152 hc154).mono ?_
      rintro e uw164 ⟨⟨d162, rfl, ho163⟩, hb165⟩
      have HX4 := hide ((unhide HX4).below hb165)
      have HO51 := hide ((unhide HO51).below hb165)
      have HO64 := hide ((unhide HO64).below hb165)
      have HX72 := hide ((unhide HX72).below hb165)
      have HO81 := hide ((unhide HO81).below hb165)
      have HO94 := hide ((unhide HO94).below hb165)
      have HO157 := hide ((unhide HO157).below hb165)
      have hc166 : Below w.heap.size w uw164 := hc154.trans (hb165.mono hc154.size)
      have hz167 : uw152.heap.size ≤ uw164.heap.size := hb165.size
      clear hb165
      have HO169 := hide ho163
      have HB170 := hide ho163.blk
      have hs173 := ho163.at.shape
      obtain ⟨a171, c172, rfl⟩ := hs173
      clear ho163
      go_wp2_with fail
      refine (unhide IM uw164 _ (unhide HO157).at _ (unhide HO169).at).mono ?_
      rintro e uw176 ⟨⟨d174, rfl, ho175⟩, hb177⟩
      have HX4 := hide ((unhide HX4).below hb177)
      have HO51 := hide ((unhide HO51).below hb177)
      have HO64 := hide ((unhide HO64).below hb177)
      have HX72 := hide ((unhide HX72).below hb177)
      have HO81 := hide ((unhide HO81).below hb177)
      have HO94 := hide ((unhide HO94).below hb177)
      have HO157 := hide ((unhide HO157).below hb177)
      have HO169 := hide ((unhide HO169).below hb177)
      have hc178 : Below w.heap.size w uw176 := hc166.trans (hb177.mono hc166.size)
      have hz179 : uw164.heap.size ≤ uw176.heap.size := hb177.size
      clear hb177
      have HO180 := hide ho175
      have HB181 := hide ho175.blk
      have hs184 := ho175.at.shape
      obtain ⟨a182, c183, rfl⟩ := hs184
      clear ho175
      go_wp2_with fail
      refine (unhide ER0 uw176 _ _ (unhide HO180).at (unhide HO51).at).mono ?_
      rintro e uw185 ⟨rfl, hb186⟩
      have HX4 := hide ((unhide HX4).below hb186)
      have HO51 := hide ((unhide HO51).below hb186)
      have HO64 := hide ((unhide HO64).below hb186)
      have HX72 := hide ((unhide HX72).below hb186)
      have HO81 := hide ((unhide HO81).below hb186)
      have HO94 := hide ((unhide HO94).below hb186)
      have HO180 := hide ((unhide HO180).below hb186)
      have hc187 : Below w.heap.size w uw185 := hc178.trans (hb186.mono hc178.size)
      have hz188 : uw176.heap.size ≤ uw185.heap.size := hb186.size
      clear hb186
      go_wp2_with fail
      refine (unhide HR0 uw185 _ (unhide HO94).at).mono ?_
      rintro e uw189 ⟨rfl, hb190⟩
      have HX4 := hide ((unhide HX4).below hb190)
      have HO51 := hide ((unhide HO51).below hb190)
      have HO64 := hide ((unhide HO64).below hb190)
      have HX72 := hide ((unhide HX72).below hb190)
      have HO81 := hide ((unhide HO81).below hb190)
      have HO94 := hide ((unhide HO94).below hb190)
      have HO180 := hide ((unhide HO180).below hb190)
      have hc191 : Below w.heap.size w uw189 := hc187.trans (hb190.mono hc187.size)
      have hz192 : uw185.heap.size ≤ uw189.heap.size := hb190.size
      clear hb190
      go_wp2
      go_ret
      exact ⟨rfl, hc191⟩

set_option maxRecDepth 100000 in
theorem lifted (os : Os) (started : os.Started) (H : Type) (enc : TypeId × Value → H) :
    ReturnsInHanded {} Try.checked os 8 .any (Rows.fnExactLonelySpec.pre6 enc Try.prog Try.f8 Rows.fnExactLonelyRow.domain false) (Rows.fnExactLonelySpec.post enc Try.prog Try.f8 false true false false) := by
  refine returnsInHanded_of_change (C := Try.checked) own started (by kernel_rfl) Try.func8
    (ChangeSpec.witness6 (enc := enc) (C := Try.checked) false ⟨#[], #[.agg #[.int .i64 0, .slice none 0 0], .slice none 0 0], []⟩ 8 (by kernel_rfl) (by kernel_rfl) (by kernel_rfl) (by kernel_rfl)) ?_
  intro W base args ds gs before hval0 hW _ _
  have hval : ∀ (j : Nat) t v, Try.f8.params[j]? = some t → args[j]? = some v → Value.okWide Try.prog W .any base t v := hval0
  have hW' := hW
  obtain ⟨p, q, hA0, hV, rfl, hfz, hnd⟩ := hW
  have hA : DataW.TrodAll enc Try.prog W 0 (fun _ => true) true Try.f8.params.toList args.toList ds p := hA0
  rw [Try.params8] at hA hval
  obtain ⟨v0, vs0, d0, ds0, p0, q0, hargs, rfl, rfl, h0, r0⟩ := trodAll_cons hA
  obtain ⟨v1, vs1, d1, ds1, p1, q1, rfl, rfl, rfl, h1, r1⟩ := trodAll_cons r0
  obtain ⟨rfl, rfl, rfl⟩ := trodAll_nil r1
  obtain rfl : args = #[v0, v1] := by cases args; simp_all
  obtain ⟨rfl, rfl⟩ := trodVars_none hV
  have k0 := h0
  have lt0 : ∀ x ∈ p0, x.block < W.heap.size := by obtain ⟨m, hm⟩ := k0; exact DataW.trod_lt m _ _ _ hm
  obtain ⟨s0, Q0, hv0, hn0⟩ := graph_in (hval 0 24 v0 rfl rfl) h0
  have k1 := h1
  have lt1 : ∀ x ∈ p1, x.block < W.heap.size := by obtain ⟨m, hm⟩ := k1; exact DataW.trod_lt m _ _ _ hm
  obtain ⟨M1, hv1, hn1⟩ := couples_in (hval 1 47 v1 rfl rfl) h1
  clear hA0 hval0
  refine (walk v0 s0 Q0 v1 M1 W hv0 hn0 hv1 hn1).mono fun e W' ⟨he, bel⟩ => ?_
  subst he
  exact ⟨_, rfl, _, _, _, [], _, [], hW', trodAll_mk1 (shut_bool Try.underlying4 _), (trodAll_cons_mk (Below.trod laidOut (by kernel_rfl) (of_decide_eq_true (by kernel_rfl)) k0 bel lt0) (trodAll_cons_mk (Below.trod laidOut (by kernel_rfl) (of_decide_eq_true (by kernel_rfl)) k1 bel lt1) trodAll_mk0)), rfl, bel.frame _, fun h => by cases h⟩

theorem over : Rows.fnExactLonelyRow.holds Try.pinned (OpenSpec.ofChange Rows.fnExactLonelySpec) :=
  OpenClaim.holds_of_wide 8 Try.f8 rfl rfl rfl rfl rfl rfl rfl ⟨rfl, rfl, rfl, rfl, rfl⟩ rfl rfl rfl rfl rfl (by kernel_rfl) Try.func8 (by kernel_rfl)
    (of_decide_eq_true (by kernel_rfl)) (by unfold Func.isWrapper; first | (rw [if_pos (by decide +kernel)]; kernel_rfl) | (rw [if_neg (by decide +kernel)]; exact ⟨rfl, rfl⟩))
    (fun os started H enc _ => lifted os started H enc)

end Go.Proofs.Ytejfknkcakeakaa.fnExactLonely
namespace Go.Proofs.Ytejfknkcakeakaa
theorem fnExactLonely_holds : Rows.FnExactLonelySaid := fnExactLonely.over
#print axioms fnExactLonely_holds
end Go.Proofs.Ytejfknkcakeakaa
