/-
  impl.Swapped answers as the specification; it writes into no argument, and its answer owns its memory. Walk and frame written by program (tools/exactlaw.py).
-/
import Derived.Test.YtejfknkcakeakaaRows
import Derived.Test.YtejfknkcakeakaaLkLaw
import Derived.Test.YtejfknkcakeakaaLkD3
import Derived.Test.YtejfknkcakeakaaChecked
import Derived.Deep.RegionHeld3
import Derived.ShutString
import Derived.Below
namespace Go.Proofs.Ytejfknkcakeakaa.fnExactSwapped
open Go.Proofs.Ytejfknkcakeakaa Go.Proofs.Ytejfknkcakeakaa.Gr
open Go.ChangeShapes Go.WideShapes Go.ChangeAt Go.RowKit
open Go.ChangeMaps (open_string shut_string)

theorem own : ownKnob Try.prog.godebug = none := by kernel_rfl

theorem laidOut : laidOutB Try.prog = true := by kernel_rfl

set_option maxRecDepth 100000 in
set_option maxHeartbeats 4000000 in
theorem walk (v0 : Value) (s0 : Int) (Q0 : List EdgeI) (v1 : Value) (M1 : List CoupleI) (v2 : Value) (M2 : List CoupleI) (w : World) (hv0 : GrAt w v0 w.heap.size s0 Q0) (hn0 : Q0.length ≤ 9223372036854775807) (hv1 : CoAt w v1 w.heap.size M1) (hn1 : M1.length ≤ 9223372036854775807) (hv2 : CoAt w v2 w.heap.size M2) (hn2 : M2.length ≤ 9223372036854775807) :
    Calls Try.prog 9 #[v0, v1, v2] w fun e w' => e = .returned (.bool true) ∧ Below w.heap.size w w' := by
  have HV0 := hide hv0
  have HV1 := hide hv1
  have HV2 := hide hv2
  have HN0 := hide hn0
  have HN1 := hide hn1
  have HN2 := hide hn2
  have sh0 := hv0.shape
  obtain ⟨a0, c0, rfl⟩ := sh0
  have sh1 := hv1.shape
  obtain ⟨a1, c1, rfl⟩ := sh1
  have sh2 := hv2.shape
  obtain ⟨a2, c2, rfl⟩ := sh2
  clear hv0 hv1 hv2 hn0 hn1 hn2
  obtain ⟨W1, hW2⟩ : ∃ W, W = w.alloc (Obj.cells #[Value.int .i64 s0, Value.slice a0 Q0.length c0] 24) := ⟨_, rfl⟩
  have hb3 : Below w.heap.size w W1 := by rw [hW2]; exact below_new _ _
  have HX4 : Hid (CBox W1 w.heap.size #[Value.int .i64 s0, Value.slice a0 Q0.length c0] 24) := by show CBox _ _ _ _; rw [hW2]; exact CBox.new _ _ _
  have hc5 : Below w.heap.size w W1 := hb3
  have hz6 : w.heap.size < W1.heap.size := by rw [hW2]; simp
  clear hb3
  have p7 : W1.cell? ⟨w.heap.size, 0, none⟩ = some (Value.int .i64 s0) := (unhide HX4).cell 0
  have p8 : W1.cell? ⟨w.heap.size, 1, none⟩ = some (Value.slice a0 Q0.length c0) := (unhide HX4).cell 1
  (try rw [hW2] at p7 p8)
  go_enter Try.func9, Try.ntmps9
  go_wp2_with fail
  rw [← hW2]
  clear hW2 p7 p8
  refine (szGraph_gen _ w.heap.size s0 Q0 1048576 (by omega) (by omega) (unhide HN0) W1 ((unhide HV0).below hc5 (Nat.le_refl _))).mono ?_
  rintro e uw10 ⟨⟨z9, rfl, hxz9, hyz9⟩, hb11⟩
  have HX4 := hide ((unhide HX4).below hb11)
  have hc12 : Below w.heap.size w uw10 := hc5.trans (hb11.mono hc5.size)
  have hz13 : W1.heap.size ≤ uw10.heap.size := hb11.size
  clear hb11
  by_cases hnegz9 : z9 < 0
  · go_wp2
    go_ret
    exact ⟨rfl, hc12⟩
  · have htz9 := hyz9 (by omega)
    go_wp2_with fail
    refine (szCoupleS_gen _ w.heap.size M1 z9 (by omega) (by omega) (unhide HN1) uw10 ((unhide HV1).below hc12 (Nat.le_refl _))).mono ?_
    rintro e uw15 ⟨⟨z14, rfl, hxz14, hyz14⟩, hb16⟩
    have HX4 := hide ((unhide HX4).below hb16)
    have hc17 : Below w.heap.size w uw15 := hc12.trans (hb16.mono hc12.size)
    have hz18 : uw10.heap.size ≤ uw15.heap.size := hb16.size
    clear hb16
    by_cases hnegz14 : z14 < 0
    · go_wp2
      go_ret
      exact ⟨rfl, hc17⟩
    · have htz14 := hyz14 (by omega)
      go_wp2_with fail
      refine (szCoupleS_gen _ w.heap.size M2 z14 (by omega) (by omega) (unhide HN2) uw15 ((unhide HV2).below hc17 (Nat.le_refl _))).mono ?_
      rintro e uw20 ⟨⟨z19, rfl, hxz19, hyz19⟩, hb21⟩
      have HX4 := hide ((unhide HX4).below hb21)
      have hc22 : Below w.heap.size w uw20 := hc17.trans (hb21.mono hc17.size)
      have hz23 : uw15.heap.size ≤ uw20.heap.size := hb21.size
      clear hb21
      by_cases hnegz19 : z19 < 0
      · go_wp2
        go_ret
        exact ⟨rfl, hc22⟩
      · have htz19 := hyz19 (by omega)
        have hb0 : Q0.length ≤ 1048576 := by omega
        have hb1 : M1.length ≤ 1048576 := by omega
        have hb2 : M2.length ≤ 1048576 := by omega
        have TO0 := hide (fun w1 (hb : Below w.heap.size w w1) => toGraph_any _ w.heap.size s0 Q0 hb0 w1 hb.size ((unhide HV0).below hb (Nat.le_refl _)))
        have EQ0 := hide (fun w1 d d1 (hd : GrAt w1 d w1.heap.size s0 Q0) (hd1 : GrAt w1 d1 w1.heap.size s0 Q0) => eqGraph_same d d1 w1.heap.size w1.heap.size s0 Q0 hb0 w1 (Nat.le_refl _) (Nat.le_refl _) hd hd1)
        have TO1 := hide (fun w1 (hb : Below w.heap.size w w1) => toCoupleS_gen _ w.heap.size M1 hb1 w1 hb.size ((unhide HV1).below hb (Nat.le_refl _)))
        have EQ1 := hide (fun w1 d d1 (hd : CoAt w1 d w1.heap.size M1) (hd1 : CoAt w1 d1 w1.heap.size M1) => eqCoupleS_gen d d1 w1.heap.size w1.heap.size M1 hb1 w1 (Nat.le_refl _) (Nat.le_refl _) hd hd1)
        have TO2 := hide (fun w1 (hb : Below w.heap.size w w1) => toCoupleS_gen _ w.heap.size M2 hb2 w1 hb.size ((unhide HV2).below hb (Nat.le_refl _)))
        have EQ2 := hide (fun w1 d d1 (hd : CoAt w1 d w1.heap.size M2) (hd1 : CoAt w1 d1 w1.heap.size M2) => eqCoupleS_gen d d1 w1.heap.size w1.heap.size M2 hb2 w1 (Nat.le_refl _) (Nat.le_refl _) hd hd1)
        have SP := hide (fun w1 d0 (hd0 : GrAt w1 d0 w1.heap.size s0 Q0) d1 (hd1 : CoAt w1 d1 w1.heap.size M1) d2 (hd2 : CoAt w1 d2 w1.heap.size M2) => Lk.specSwap_gen w1.heap.size d0 s0 Q0 d1 M1 d2 M2 hb0 hb1 hb2 w1 (Nat.le_refl _) hd0 hd1 hd2)
        have IM := hide (fun w1 d0 (hd0 : GrAt w1 d0 w1.heap.size s0 Q0) d1 (hd1 : CoAt w1 d1 w1.heap.size M1) d2 (hd2 : CoAt w1 d2 w1.heap.size M2) => Lk.implSwap_gen w1.heap.size d0 s0 Q0 d1 M1 d2 M2 hb0 hb1 hb2 w1 (Nat.le_refl _) hd0 hd1 hd2)
        have hl0 : Lk.ssz (Lk.swapR s0 Q0 M1 M2) ≤ 1048576 := by first | omega | (exact Nat.le_trans (Lk.swap_len s0 Q0 M1 M2) (by omega))
        generalize Lk.swapR s0 Q0 M1 M2 = KSr0 at SP IM hl0
        have ER0 := hide (fun w1 d d1 (hd : Lk.SsAt w1 d w1.heap.size KSr0) (hd1 : Lk.SsAt w1 d1 w1.heap.size KSr0) => Lk.eqSS_gen d d1 w1.heap.size w1.heap.size KSr0 hl0 w1 (Nat.le_refl _) (Nat.le_refl _) hd hd1)
        have MK0 := hide (fun w1 B d (hd : GrOwn w1 B d s0 Q0) => markGraph_any d B 1 s0 Q0 (by omega) w1 hd)
        obtain ⟨kx0, hkx0⟩ : ∃ k : Nat, k = 1 + Q0.length * 5 := ⟨_, rfl⟩
        rw [← hkx0] at MK0
        have hkn0 : ¬ ((kx0 : Nat) : Int) < 0 := by omega
        have MK1 := hide (fun w1 B d (hd : CoOwn w1 B d M1) => markCoupleS_gen d B kx0 M1 (by omega) w1 hd)
        obtain ⟨kx1, hkx1⟩ : ∃ k : Nat, k = kx0 + M1.length * 2 := ⟨_, rfl⟩
        rw [← hkx1] at MK1
        have hkn1 : ¬ ((kx1 : Nat) : Int) < 0 := by omega
        have MK2 := hide (fun w1 B d (hd : CoOwn w1 B d M2) => markCoupleS_gen d B kx1 M2 (by omega) w1 hd)
        obtain ⟨kx2, hkx2⟩ : ∃ k : Nat, k = kx1 + M2.length * 2 := ⟨_, rfl⟩
        rw [← hkx2] at MK2
        have hkn2 : ¬ ((kx2 : Nat) : Int) < 0 := by omega
        have MR0 := hide (fun w1 B d vs (hd : Lk.SsV w1 B d vs KSr0) => Lk.markSS_gen d vs B 1 KSr0 (by omega) hl0 w1 hd)
        have HR0 := hide (fun w1 d (hd : Lk.SsAt w1 d w1.heap.size (Lk.marksSS 1 KSr0)) => Lk.heldSS_gen d w1.heap.size 1 KSr0 (by omega) hl0 w1 (Nat.le_refl _) hd)
        obtain ⟨km0, hkm0⟩ : ∃ k : Nat, k = 1 + KSr0.flatten.length := ⟨_, rfl⟩
        rw [← hkm0] at MR0 HR0
        have hkr0 : ¬ ((km0 : Nat) : Int) < 0 := by omega
        have hkq0 : (((km0 : Nat) : Int) != ((km0 : Nat) : Int)) = false := by simp
        clear hkx0 hkx1 hkx2 hkm0 hb0 hb1 hb2 hl0
        have p24 : uw20.cell? ⟨w.heap.size, 0, none⟩ = some (Value.int .i64 s0) := (unhide HX4).cell 0
        have p25 : uw20.cell? ⟨w.heap.size, 1, none⟩ = some (Value.slice a0 Q0.length c0) := (unhide HX4).cell 1
        go_wp2_with fail
        clear p24 p25
        refine (unhide TO0 uw20 hc22).mono ?_
        rintro e uw28 ⟨⟨d26, rfl, ho27⟩, hb29⟩
        have HX4 := hide ((unhide HX4).below hb29)
        have hc30 : Below w.heap.size w uw28 := hc22.trans (hb29.mono hc22.size)
        have hz31 : uw20.heap.size ≤ uw28.heap.size := hb29.size
        clear hb29
        have HO33 := hide ho27
        have HB34 := hide ho27.blk
        have hs37 := ho27.at.shape
        obtain ⟨a35, c36, rfl⟩ := hs37
        clear ho27
        go_wp2_with fail
        refine (unhide TO1 uw28 hc30).mono ?_
        rintro e uw40 ⟨⟨d38, rfl, ho39⟩, hb41⟩
        have HX4 := hide ((unhide HX4).below hb41)
        have HO33 := hide ((unhide HO33).below hb41)
        have hc42 : Below w.heap.size w uw40 := hc30.trans (hb41.mono hc30.size)
        have hz43 : uw28.heap.size ≤ uw40.heap.size := hb41.size
        clear hb41
        have HO45 := hide ho39
        have HB46 := hide ho39.blk
        have hs49 := ho39.at.shape
        obtain ⟨a47, c48, rfl⟩ := hs49
        clear ho39
        go_wp2_with fail
        refine (unhide TO2 uw40 hc42).mono ?_
        rintro e uw52 ⟨⟨d50, rfl, ho51⟩, hb53⟩
        have HX4 := hide ((unhide HX4).below hb53)
        have HO33 := hide ((unhide HO33).below hb53)
        have HO45 := hide ((unhide HO45).below hb53)
        have hc54 : Below w.heap.size w uw52 := hc42.trans (hb53.mono hc42.size)
        have hz55 : uw40.heap.size ≤ uw52.heap.size := hb53.size
        clear hb53
        have HO57 := hide ho51
        have HB58 := hide ho51.blk
        have hs61 := ho51.at.shape
        obtain ⟨a59, c60, rfl⟩ := hs61
        clear ho51
        go_wp2_with fail
        refine (unhide SP uw52 _ (unhide HO33).at _ (unhide HO45).at _ (unhide HO57).at).mono ?_
        rintro e uw64 ⟨⟨d62, rfl, ho63⟩, hb65⟩
        have HX4 := hide ((unhide HX4).below hb65)
        have HO33 := hide ((unhide HO33).below hb65)
        have HO45 := hide ((unhide HO45).below hb65)
        have HO57 := hide ((unhide HO57).below hb65)
        have hc66 : Below w.heap.size w uw64 := hc54.trans (hb65.mono hc54.size)
        have hz67 : uw52.heap.size ≤ uw64.heap.size := hb65.size
        clear hb65
        obtain ⟨vs70, ho63⟩ := ho63
        have HO68 := hide ho63
        have HB69 := hide ho63.blk
        have hs73 := ho63.at.shape
        obtain ⟨a71, c72, rfl⟩ := hs73
        clear ho63
        have p74 : uw64.cell? ⟨w.heap.size, 0, none⟩ = some (Value.int .i64 s0) := (unhide HX4).cell 0
        have p75 : uw64.cell? ⟨w.heap.size, 1, none⟩ = some (Value.slice a0 Q0.length c0) := (unhide HX4).cell 1
        go_wp2_with fail
        clear p74 p75
        refine (unhide TO0 uw64 hc66).mono ?_
        rintro e uw78 ⟨⟨d76, rfl, ho77⟩, hb79⟩
        have HX4 := hide ((unhide HX4).below hb79)
        have HO68 := hide ((unhide HO68).below hb79)
        have hc80 : Below w.heap.size w uw78 := hc66.trans (hb79.mono hc66.size)
        have hz81 : uw64.heap.size ≤ uw78.heap.size := hb79.size
        clear hb79
        have HO82 := hide ho77
        have HB83 := hide ho77.blk
        have hs86 := ho77.at.shape
        obtain ⟨a84, c85, rfl⟩ := hs86
        clear ho77
        obtain ⟨W87, hW88⟩ : ∃ W, W = uw78.alloc (Obj.cells #[Value.int .i64 s0, Value.slice a84 Q0.length c85] 30) := ⟨_, rfl⟩
        have hb89 : Below uw78.heap.size uw78 W87 := by rw [hW88]; exact below_new _ _
        have HX4 := hide ((unhide HX4).below hb89)
        have HO68 := hide ((unhide HO68).below hb89)
        have HO82 := hide ((unhide HO82).below hb89)
        have HX90 : Hid (CBox W87 uw78.heap.size #[Value.int .i64 s0, Value.slice a84 Q0.length c85] 30) := by show CBox _ _ _ _; rw [hW88]; exact CBox.new _ _ _
        have hc91 : Below w.heap.size w W87 := hc80.trans (hb89.mono hc80.size)
        have hz92 : uw78.heap.size < W87.heap.size := by rw [hW88]; simp
        clear hb89
        go_wp2_with fail
        rw [← hW88]
        clear hW88
        refine (unhide TO1 W87 hc91).mono ?_
        rintro e uw95 ⟨⟨d93, rfl, ho94⟩, hb96⟩
        have HX4 := hide ((unhide HX4).below hb96)
        have HO68 := hide ((unhide HO68).below hb96)
        have HO82 := hide ((unhide HO82).below hb96)
        have HX90 := hide ((unhide HX90).below hb96)
        have hc97 : Below w.heap.size w uw95 := hc91.trans (hb96.mono hc91.size)
        have hz98 : W87.heap.size ≤ uw95.heap.size := hb96.size
        clear hb96
        have HO99 := hide ho94
        have HB100 := hide ho94.blk
        have hs103 := ho94.at.shape
        obtain ⟨a101, c102, rfl⟩ := hs103
        clear ho94
        go_wp2_with fail
        refine (unhide TO2 uw95 hc97).mono ?_
        rintro e uw106 ⟨⟨d104, rfl, ho105⟩, hb107⟩
        have HX4 := hide ((unhide HX4).below hb107)
        have HO68 := hide ((unhide HO68).below hb107)
        have HO82 := hide ((unhide HO82).below hb107)
        have HX90 := hide ((unhide HX90).below hb107)
        have HO99 := hide ((unhide HO99).below hb107)
        have hc108 : Below w.heap.size w uw106 := hc97.trans (hb107.mono hc97.size)
        have hz109 : uw95.heap.size ≤ uw106.heap.size := hb107.size
        clear hb107
        have HO110 := hide ho105
        have HB111 := hide ho105.blk
        have hs114 := ho105.at.shape
        obtain ⟨a112, c113, rfl⟩ := hs114
        clear ho105
        have p115 : uw106.cell? ⟨uw78.heap.size, 0, none⟩ = some (Value.int .i64 s0) := (unhide HX90).cell 0
        have p116 : uw106.cell? ⟨uw78.heap.size, 1, none⟩ = some (Value.slice a84 Q0.length c85) := (unhide HX90).cell 1
        go_wp2_with fail
        clear p115 p116
        refine (unhide IM uw106 _ (unhide HO82).at _ (unhide HO99).at _ (unhide HO110).at).mono ?_
        rintro e uw119 ⟨⟨d117, rfl, ho118⟩, hb120⟩
        have HX4 := hide ((unhide HX4).below hb120)
        have HO68 := hide ((unhide HO68).below hb120)
        have HO82 := hide ((unhide HO82).below hb120)
        have HX90 := hide ((unhide HX90).below hb120)
        have HO99 := hide ((unhide HO99).below hb120)
        have HO110 := hide ((unhide HO110).below hb120)
        have hc121 : Below w.heap.size w uw119 := hc108.trans (hb120.mono hc108.size)
        have hz122 : uw106.heap.size ≤ uw119.heap.size := hb120.size
        clear hb120
        obtain ⟨vs125, ho118⟩ := ho118
        have HO123 := hide ho118
        have HB124 := hide ho118.blk
        have hs128 := ho118.at.shape
        obtain ⟨a126, c127, rfl⟩ := hs128
        clear ho118
        go_wp2_with fail
        refine (unhide ER0 uw119 _ _ (unhide HO123).at (unhide HO68).at).mono ?_
        rintro e uw129 ⟨rfl, hb130⟩
        have HX4 := hide ((unhide HX4).below hb130)
        have HO68 := hide ((unhide HO68).below hb130)
        have HO82 := hide ((unhide HO82).below hb130)
        have HX90 := hide ((unhide HX90).below hb130)
        have HO99 := hide ((unhide HO99).below hb130)
        have HO110 := hide ((unhide HO110).below hb130)
        have HO123 := hide ((unhide HO123).below hb130)
        have hc131 : Below w.heap.size w uw129 := hc121.trans (hb130.mono hc121.size)
        have hz132 : uw119.heap.size ≤ uw129.heap.size := hb130.size
        clear hb130
        have r0 : uw129.cell? ⟨uw78.heap.size, 0, none⟩ = some (Value.int .i64 s0) := (unhide HX90).cell 0
        have r1 : uw129.cell? ⟨uw78.heap.size, 1, none⟩ = some (Value.slice a84 Q0.length c85) := (unhide HX90).cell 1
        have p0 : uw129.cell? ⟨w.heap.size, 0, none⟩ = some (Value.int .i64 s0) := (unhide HX4).cell 0
        have p1 : uw129.cell? ⟨w.heap.size, 1, none⟩ = some (Value.slice a0 Q0.length c0) := (unhide HX4).cell 1
        have hk0 : uw78.heap.size < uw129.heap.size := (unhide HX90).lt
        have hk1 : w.heap.size < uw129.heap.size := (unhide HX4).lt
        have LIVE := hide (fun w8 (hb : Below uw129.heap.size uw129 w8) => And.intro ((unhide HX4).below hb) (And.intro ((unhide HO68).below hb) (And.intro ((unhide HO82).below hb) (And.intro ((unhide HX90).below hb) (And.intro ((unhide HO99).below hb) (And.intro ((unhide HO110).below hb) ((unhide HO123).below hb)))))))
        have HOD := hide ((unhide HO82).at.below ((Below.refl uw129.heap.size uw129).drew) (Nat.le_refl _))
        go_wp2_with fail
        go_region_held3 (fun u => u.cell? ⟨uw78.heap.size, 0, none⟩ = some (Value.int .i64 s0) ∧ u.cell? ⟨uw78.heap.size, 1, none⟩ = some (Value.slice a84 Q0.length c85) ∧ u.cell? ⟨w.heap.size, 0, none⟩ = some (Value.int .i64 s0) ∧ u.cell? ⟨w.heap.size, 1, none⟩ = some (Value.slice a0 Q0.length c0))
          (first | go_keep | exact ⟨(hb9.cell (p := ⟨uw78.heap.size, 0, none⟩) l0).trans qr0, (hb9.cell (p := ⟨uw78.heap.size, 1, none⟩) l0).trans qr1, (hb9.cell (p := ⟨w.heap.size, 0, none⟩) l1).trans qp0, (hb9.cell (p := ⟨w.heap.size, 1, none⟩) l1).trans qp1⟩ | exact ⟨qr0, qr1, qp0, qp1⟩)
          (first
            | (go_at_call 12; refine (unhide TO0 _ hc131.drew).mono ?_; rintro e w8 ⟨⟨d8, rfl, ho8⟩, hb8⟩; have HE8 := hide ho8.at; have hs8 := ho8.at.shape; obtain ⟨a8, c8, rfl⟩ := hs8; have HO8 := hide (((unhide HOD).below hb8 (Nat.le_refl _)).mono (show uw129.heap.size ≤ w8.heap.size from hb8.size)); have qr0 := (hb8.cell (p := ⟨uw78.heap.size, 0, none⟩) hk0).trans r0; have qr1 := (hb8.cell (p := ⟨uw78.heap.size, 1, none⟩) hk0).trans r1; have qp0 := (hb8.cell (p := ⟨w.heap.size, 0, none⟩) hk1).trans p0; have qp1 := (hb8.cell (p := ⟨w.heap.size, 1, none⟩) hk1).trans p1; have l0 : uw78.heap.size < w8.heap.size := Nat.lt_of_lt_of_le hk0 hb8.size; have l1 : w.heap.size < w8.heap.size := Nat.lt_of_lt_of_le hk1 hb8.size; have hc8 : Below w.heap.size w w8 := hc131.drew.trans (hb8.mono hc131.size); have hb78 : Below uw129.heap.size uw129 w8 := (Below.refl uw129.heap.size uw129).drew.trans hb8; clear hb8)
            | (go_at_call 15; refine (unhide EQ0 w8 _ _ (unhide HO8) (unhide HE8)).mono ?_; rintro e w9 ⟨rfl, hb9⟩))
        have hb134 : Below uw129.heap.size uw129 w9 := hb78.trans (hb9.mono hb78.size)
        obtain ⟨zHX4, zHO68, zHO82, zHX90, zHO99, zHO110, zHO123⟩ := unhide LIVE w9 hb134
        have HX4 := hide zHX4
        have HO68 := hide zHO68
        have HO82 := hide zHO82
        have HX90 := hide zHX90
        have HO99 := hide zHO99
        have HO110 := hide zHO110
        have HO123 := hide zHO123
        have hc135 : Below w.heap.size w w9 := hc131.trans (hb134.mono hc131.size)
        have hz136 : uw129.heap.size ≤ w9.heap.size := hb134.size
        obtain ⟨uw133, hwn⟩ : ∃ W, W = w9 := ⟨_, rfl⟩
        subst hwn
        clear hb78 hb134 hb9 hc8 LIVE HO8 HE8 HOD hk0 hk1 l0 l1 r0 r1 p0 p1 qr0 qr1 qp0 qp1 zHX4 zHO68 zHO82 zHX90 zHO99 zHO110 zHO123
        go_wp2_with fail
        refine (unhide TO1 uw133 hc135).mono ?_
        rintro e uw139 ⟨⟨d137, rfl, ho138⟩, hb140⟩
        have HX4 := hide ((unhide HX4).below hb140)
        have HO68 := hide ((unhide HO68).below hb140)
        have HO82 := hide ((unhide HO82).below hb140)
        have HX90 := hide ((unhide HX90).below hb140)
        have HO99 := hide ((unhide HO99).below hb140)
        have HO110 := hide ((unhide HO110).below hb140)
        have HO123 := hide ((unhide HO123).below hb140)
        have hc141 : Below w.heap.size w uw139 := hc135.trans (hb140.mono hc135.size)
        have hz142 : uw133.heap.size ≤ uw139.heap.size := hb140.size
        clear hb140
        have HO144 := hide ho138
        have HB145 := hide ho138.blk
        have hs148 := ho138.at.shape
        obtain ⟨a146, c147, rfl⟩ := hs148
        clear ho138
        go_wp2_with fail
        refine (unhide EQ1 uw139 _ _ (unhide HO99).at (unhide HO144).at).mono ?_
        rintro e uw149 ⟨rfl, hb150⟩
        have HX4 := hide ((unhide HX4).below hb150)
        have HO68 := hide ((unhide HO68).below hb150)
        have HO82 := hide ((unhide HO82).below hb150)
        have HX90 := hide ((unhide HX90).below hb150)
        have HO99 := hide ((unhide HO99).below hb150)
        have HO110 := hide ((unhide HO110).below hb150)
        have HO123 := hide ((unhide HO123).below hb150)
        have HO144 := hide ((unhide HO144).below hb150)
        have hc151 : Below w.heap.size w uw149 := hc141.trans (hb150.mono hc141.size)
        have hz152 : uw139.heap.size ≤ uw149.heap.size := hb150.size
        clear hb150
        go_wp2_with fail
        refine (unhide TO2 uw149 hc151).mono ?_
        rintro e uw155 ⟨⟨d153, rfl, ho154⟩, hb156⟩
        have HX4 := hide ((unhide HX4).below hb156)
        have HO68 := hide ((unhide HO68).below hb156)
        have HO82 := hide ((unhide HO82).below hb156)
        have HX90 := hide ((unhide HX90).below hb156)
        have HO99 := hide ((unhide HO99).below hb156)
        have HO110 := hide ((unhide HO110).below hb156)
        have HO123 := hide ((unhide HO123).below hb156)
        have hc157 : Below w.heap.size w uw155 := hc151.trans (hb156.mono hc151.size)
        have hz158 : uw149.heap.size ≤ uw155.heap.size := hb156.size
        clear hb156
        have HO160 := hide ho154
        have HB161 := hide ho154.blk
        have hs164 := ho154.at.shape
        obtain ⟨a162, c163, rfl⟩ := hs164
        clear ho154
        go_wp2_with fail
        refine (unhide EQ2 uw155 _ _ (unhide HO110).at (unhide HO160).at).mono ?_
        rintro e uw165 ⟨rfl, hb166⟩
        have HX4 := hide ((unhide HX4).below hb166)
        have HO68 := hide ((unhide HO68).below hb166)
        have HO82 := hide ((unhide HO82).below hb166)
        have HX90 := hide ((unhide HX90).below hb166)
        have HO99 := hide ((unhide HO99).below hb166)
        have HO110 := hide ((unhide HO110).below hb166)
        have HO123 := hide ((unhide HO123).below hb166)
        have HO160 := hide ((unhide HO160).below hb166)
        have hc167 : Below w.heap.size w uw165 := hc157.trans (hb166.mono hc157.size)
        have hz168 : uw155.heap.size ≤ uw165.heap.size := hb166.size
        clear hb166
        have p169 : uw165.cell? ⟨uw78.heap.size, 0, none⟩ = some (Value.int .i64 s0) := (unhide HX90).cell 0
        have p170 : uw165.cell? ⟨uw78.heap.size, 1, none⟩ = some (Value.slice a84 Q0.length c85) := (unhide HX90).cell 1
        go_wp2_with fail
        clear p169 p170
        refine (unhide MK0 uw165 _ _ (unhide HO82)).mono ?_
        rintro e uw171 ⟨rfl, ho173, hk172⟩
        have HX4 := hide ((unhide HX4).kept hk172 (fun h => by have h3 := unhide HB83 _ h; omega))
        have HO68 := hide ((unhide HO68).kept hk172 (fun g h0 h1 => by have h2 := unhide HB69 g h0; have h3 := unhide HB83 g h1; omega))
        have HX90 := hide ((unhide HX90).kept hk172 (fun h => by have h3 := unhide HB83 _ h; omega))
        have HO99 := hide ((unhide HO99).kept hk172 (fun g h0 h1 => by have h2 := unhide HB100 g h0; have h3 := unhide HB83 g h1; omega))
        have HO110 := hide ((unhide HO110).kept hk172 (fun g h0 h1 => by have h2 := unhide HB111 g h0; have h3 := unhide HB83 g h1; omega))
        have HO123 := hide ((unhide HO123).kept hk172 (fun g h0 h1 => by have h2 := unhide HB124 g h0; have h3 := unhide HB83 g h1; omega))
        have HO82 := hide ho173
        have hc174 : Below w.heap.size w uw171 := hc167.trans (hk172.below hc167.size (fun g hg => by have h3 := unhide HB83 g hg; omega))
        have hz175 : uw165.heap.size ≤ uw171.heap.size := hk172.2.2.2.1
        clear ho173 hk172
        go_wp2_with fail
        refine (unhide MK1 uw171 _ _ (unhide HO99)).mono ?_
        rintro e uw176 ⟨rfl, ho178, hk177⟩
        have HX4 := hide ((unhide HX4).kept hk177 (fun h => by have h3 := unhide HB100 _ h; omega))
        have HO68 := hide ((unhide HO68).kept hk177 (fun g h0 h1 => by have h2 := unhide HB69 g h0; have h3 := unhide HB100 g h1; omega))
        have HO82 := hide ((unhide HO82).kept hk177 (fun g h0 h1 => by have h2 := unhide HB83 g h0; have h3 := unhide HB100 g h1; omega))
        have HX90 := hide ((unhide HX90).kept hk177 (fun h => by have h3 := unhide HB100 _ h; omega))
        have HO110 := hide ((unhide HO110).kept hk177 (fun g h0 h1 => by have h2 := unhide HB111 g h0; have h3 := unhide HB100 g h1; omega))
        have HO123 := hide ((unhide HO123).kept hk177 (fun g h0 h1 => by have h2 := unhide HB124 g h0; have h3 := unhide HB100 g h1; omega))
        have HO99 := hide ho178
        have hc179 : Below w.heap.size w uw176 := hc174.trans (hk177.below hc174.size (fun g hg => by have h3 := unhide HB100 g hg; omega))
        have hz180 : uw171.heap.size ≤ uw176.heap.size := hk177.2.2.2.1
        clear ho178 hk177
        go_wp2_with fail
        refine (unhide MK2 uw176 _ _ (unhide HO110)).mono ?_
        rintro e uw181 ⟨rfl, ho183, hk182⟩
        have HX4 := hide ((unhide HX4).kept hk182 (fun h => by have h3 := unhide HB111 _ h; omega))
        have HO68 := hide ((unhide HO68).kept hk182 (fun g h0 h1 => by have h2 := unhide HB69 g h0; have h3 := unhide HB111 g h1; omega))
        have HO82 := hide ((unhide HO82).kept hk182 (fun g h0 h1 => by have h2 := unhide HB83 g h0; have h3 := unhide HB111 g h1; omega))
        have HX90 := hide ((unhide HX90).kept hk182 (fun h => by have h3 := unhide HB111 _ h; omega))
        have HO99 := hide ((unhide HO99).kept hk182 (fun g h0 h1 => by have h2 := unhide HB100 g h0; have h3 := unhide HB111 g h1; omega))
        have HO123 := hide ((unhide HO123).kept hk182 (fun g h0 h1 => by have h2 := unhide HB124 g h0; have h3 := unhide HB111 g h1; omega))
        have HO110 := hide ho183
        have hc184 : Below w.heap.size w uw181 := hc179.trans (hk182.below hc179.size (fun g hg => by have h3 := unhide HB111 g hg; omega))
        have hz185 : uw176.heap.size ≤ uw181.heap.size := hk182.2.2.2.1
        clear ho183 hk182
        go_wp2_with fail
        refine (unhide ER0 uw181 _ _ (unhide HO123).at (unhide HO68).at).mono ?_
        rintro e uw186 ⟨rfl, hb187⟩
        have HX4 := hide ((unhide HX4).below hb187)
        have HO68 := hide ((unhide HO68).below hb187)
        have HO82 := hide ((unhide HO82).below hb187)
        have HX90 := hide ((unhide HX90).below hb187)
        have HO99 := hide ((unhide HO99).below hb187)
        have HO110 := hide ((unhide HO110).below hb187)
        have HO123 := hide ((unhide HO123).below hb187)
        have hc188 : Below w.heap.size w uw186 := hc184.trans (hb187.mono hc184.size)
        have hz189 : uw181.heap.size ≤ uw186.heap.size := hb187.size
        clear hb187
        go_wp2_with fail
        refine (unhide MR0 uw186 _ _ _ (unhide HO123)).mono ?_
        rintro e uw190 ⟨rfl, ho192, hk191⟩
        have HX4 := hide ((unhide HX4).kept hk191 (fun h => by have h3 := unhide HB124 _ h; omega))
        have HO68 := hide ((unhide HO68).kept hk191 (fun g h0 h1 => by have h2 := unhide HB69 g h0; have h3 := unhide HB124 g h1; omega))
        have HO82 := hide ((unhide HO82).kept hk191 (fun g h0 h1 => by have h2 := unhide HB83 g h0; have h3 := unhide HB124 g h1; omega))
        have HX90 := hide ((unhide HX90).kept hk191 (fun h => by have h3 := unhide HB124 _ h; omega))
        have HO99 := hide ((unhide HO99).kept hk191 (fun g h0 h1 => by have h2 := unhide HB100 g h0; have h3 := unhide HB124 g h1; omega))
        have HO110 := hide ((unhide HO110).kept hk191 (fun g h0 h1 => by have h2 := unhide HB111 g h0; have h3 := unhide HB124 g h1; omega))
        have HO123 := hide ho192
        have hc193 : Below w.heap.size w uw190 := hc188.trans (hk191.below hc188.size (fun g hg => by have h3 := unhide HB124 g hg; omega))
        have hz194 : uw186.heap.size ≤ uw190.heap.size := hk191.2.2.2.1
        clear ho192 hk191
        go_wp2_with fail
        refine (unhide HR0 uw190 _ (unhide HO123).at).mono ?_
        rintro e uw195 ⟨rfl, hb196⟩
        have HX4 := hide ((unhide HX4).below hb196)
        have HO68 := hide ((unhide HO68).below hb196)
        have HO82 := hide ((unhide HO82).below hb196)
        have HX90 := hide ((unhide HX90).below hb196)
        have HO99 := hide ((unhide HO99).below hb196)
        have HO110 := hide ((unhide HO110).below hb196)
        have HO123 := hide ((unhide HO123).below hb196)
        have hc197 : Below w.heap.size w uw195 := hc193.trans (hb196.mono hc193.size)
        have hz198 : uw190.heap.size ≤ uw195.heap.size := hb196.size
        clear hb196
        have p199 : uw195.cell? ⟨w.heap.size, 0, none⟩ = some (Value.int .i64 s0) := (unhide HX4).cell 0
        have p200 : uw195.cell? ⟨w.heap.size, 1, none⟩ = some (Value.slice a0 Q0.length c0) := (unhide HX4).cell 1
        go_wp2_with fail
        clear p199 p200
        refine (unhide TO0 uw195 hc197).mono ?_
        rintro e uw203 ⟨⟨d201, rfl, ho202⟩, hb204⟩
        have HX4 := hide ((unhide HX4).below hb204)
        have HO68 := hide ((unhide HO68).below hb204)
        have HO82 := hide ((unhide HO82).below hb204)
        have HX90 := hide ((unhide HX90).below hb204)
        have HO99 := hide ((unhide HO99).below hb204)
        have HO110 := hide ((unhide HO110).below hb204)
        have HO123 := hide ((unhide HO123).below hb204)
        have hc205 : Below w.heap.size w uw203 := hc197.trans (hb204.mono hc197.size)
        have hz206 : uw195.heap.size ≤ uw203.heap.size := hb204.size
        clear hb204
        have HO208 := hide ho202
        have HB209 := hide ho202.blk
        have hs212 := ho202.at.shape
        obtain ⟨a210, c211, rfl⟩ := hs212
        clear ho202
        go_wp2_with fail
        refine (unhide TO1 uw203 hc205).mono ?_
        rintro e uw215 ⟨⟨d213, rfl, ho214⟩, hb216⟩
        have HX4 := hide ((unhide HX4).below hb216)
        have HO68 := hide ((unhide HO68).below hb216)
        have HO82 := hide ((unhide HO82).below hb216)
        have HX90 := hide ((unhide HX90).below hb216)
        have HO99 := hide ((unhide HO99).below hb216)
        have HO110 := hide ((unhide HO110).below hb216)
        have HO123 := hide ((unhide HO123).below hb216)
        have HO208 := hide ((unhide HO208).below hb216)
        have hc217 : Below w.heap.size w uw215 := hc205.trans (hb216.mono hc205.size)
        have hz218 : uw203.heap.size ≤ uw215.heap.size := hb216.size
        clear hb216
        have HO220 := hide ho214
        have HB221 := hide ho214.blk
        have hs224 := ho214.at.shape
        obtain ⟨a222, c223, rfl⟩ := hs224
        clear ho214
        go_wp2_with fail
        refine (unhide TO2 uw215 hc217).mono ?_
        rintro e uw227 ⟨⟨d225, rfl, ho226⟩, hb228⟩
        have HX4 := hide ((unhide HX4).below hb228)
        have HO68 := hide ((unhide HO68).below hb228)
        have HO82 := hide ((unhide HO82).below hb228)
        have HX90 := hide ((unhide HX90).below hb228)
        have HO99 := hide ((unhide HO99).below hb228)
        have HO110 := hide ((unhide HO110).below hb228)
        have HO123 := hide ((unhide HO123).below hb228)
        have HO208 := hide ((unhide HO208).below hb228)
        have HO220 := hide ((unhide HO220).below hb228)
        have hc229 : Below w.heap.size w uw227 := hc217.trans (hb228.mono hc217.size)
        have hz230 : uw215.heap.size ≤ uw227.heap.size := hb228.size
        clear hb228
        have HO232 := hide ho226
        have HB233 := hide ho226.blk
        have hs236 := ho226.at.shape
        obtain ⟨a234, c235, rfl⟩ := hs236
        clear ho226
        go_wp2_with fail
        refine (unhide IM uw227 _ (unhide HO208).at _ (unhide HO220).at _ (unhide HO232).at).mono ?_
        rintro e uw239 ⟨⟨d237, rfl, ho238⟩, hb240⟩
        have HX4 := hide ((unhide HX4).below hb240)
        have HO68 := hide ((unhide HO68).below hb240)
        have HO82 := hide ((unhide HO82).below hb240)
        have HX90 := hide ((unhide HX90).below hb240)
        have HO99 := hide ((unhide HO99).below hb240)
        have HO110 := hide ((unhide HO110).below hb240)
        have HO123 := hide ((unhide HO123).below hb240)
        have HO208 := hide ((unhide HO208).below hb240)
        have HO220 := hide ((unhide HO220).below hb240)
        have HO232 := hide ((unhide HO232).below hb240)
        have hc241 : Below w.heap.size w uw239 := hc229.trans (hb240.mono hc229.size)
        have hz242 : uw227.heap.size ≤ uw239.heap.size := hb240.size
        clear hb240
        obtain ⟨vs245, ho238⟩ := ho238
        have HO243 := hide ho238
        have HB244 := hide ho238.blk
        have hs248 := ho238.at.shape
        obtain ⟨a246, c247, rfl⟩ := hs248
        clear ho238
        go_wp2_with fail
        refine (unhide ER0 uw239 _ _ (unhide HO243).at (unhide HO68).at).mono ?_
        rintro e uw249 ⟨rfl, hb250⟩
        have HX4 := hide ((unhide HX4).below hb250)
        have HO68 := hide ((unhide HO68).below hb250)
        have HO82 := hide ((unhide HO82).below hb250)
        have HX90 := hide ((unhide HX90).below hb250)
        have HO99 := hide ((unhide HO99).below hb250)
        have HO110 := hide ((unhide HO110).below hb250)
        have HO123 := hide ((unhide HO123).below hb250)
        have HO243 := hide ((unhide HO243).below hb250)
        have hc251 : Below w.heap.size w uw249 := hc241.trans (hb250.mono hc241.size)
        have hz252 : uw239.heap.size ≤ uw249.heap.size := hb250.size
        clear hb250
        go_wp2_with fail
        refine (unhide HR0 uw249 _ (unhide HO123).at).mono ?_
        rintro e uw253 ⟨rfl, hb254⟩
        have HX4 := hide ((unhide HX4).below hb254)
        have HO68 := hide ((unhide HO68).below hb254)
        have HO82 := hide ((unhide HO82).below hb254)
        have HX90 := hide ((unhide HX90).below hb254)
        have HO99 := hide ((unhide HO99).below hb254)
        have HO110 := hide ((unhide HO110).below hb254)
        have HO123 := hide ((unhide HO123).below hb254)
        have HO243 := hide ((unhide HO243).below hb254)
        have hc255 : Below w.heap.size w uw253 := hc251.trans (hb254.mono hc251.size)
        have hz256 : uw249.heap.size ≤ uw253.heap.size := hb254.size
        clear hb254
        go_wp2
        go_ret
        exact ⟨rfl, hc255⟩

set_option maxRecDepth 100000 in
theorem lifted (os : Os) (started : os.Started) (H : Type) (enc : TypeId × Value → H) :
    ReturnsInHanded {} Try.checked os 9 .any (Rows.fnExactSwappedSpec.pre6 enc Try.prog Try.f9 Rows.fnExactSwappedRow.domain false) (Rows.fnExactSwappedSpec.post enc Try.prog Try.f9 false true false false) := by
  refine returnsInHanded_of_change (C := Try.checked) own started (by kernel_rfl) Try.func9
    (ChangeSpec.witness6 (enc := enc) (C := Try.checked) false ⟨#[], #[.agg #[.int .i64 0, .slice none 0 0], .slice none 0 0, .slice none 0 0], []⟩ 8 (by kernel_rfl) (by kernel_rfl) (by kernel_rfl) (by kernel_rfl)) ?_
  intro W base args ds gs before hval0 hW _ _
  have hval : ∀ (j : Nat) t v, Try.f9.params[j]? = some t → args[j]? = some v → Value.okWide Try.prog W .any base t v := hval0
  have hW' := hW
  obtain ⟨p, q, hA0, hV, rfl, hfz, hnd⟩ := hW
  have hA : DataW.TrodAll enc Try.prog W 0 (fun _ => true) true Try.f9.params.toList args.toList ds p := hA0
  rw [Try.params9] at hA hval
  obtain ⟨v0, vs0, d0, ds0, p0, q0, hargs, rfl, rfl, h0, r0⟩ := trodAll_cons hA
  obtain ⟨v1, vs1, d1, ds1, p1, q1, rfl, rfl, rfl, h1, r1⟩ := trodAll_cons r0
  obtain ⟨v2, vs2, d2, ds2, p2, q2, rfl, rfl, rfl, h2, r2⟩ := trodAll_cons r1
  obtain ⟨rfl, rfl, rfl⟩ := trodAll_nil r2
  obtain rfl : args = #[v0, v1, v2] := by cases args; simp_all
  obtain ⟨rfl, rfl⟩ := trodVars_none hV
  have k0 := h0
  have lt0 : ∀ x ∈ p0, x.block < W.heap.size := by obtain ⟨m, hm⟩ := k0; exact DataW.trod_lt m _ _ _ hm
  obtain ⟨s0, Q0, hv0, hn0⟩ := graph_in (hval 0 24 v0 rfl rfl) h0
  have k1 := h1
  have lt1 : ∀ x ∈ p1, x.block < W.heap.size := by obtain ⟨m, hm⟩ := k1; exact DataW.trod_lt m _ _ _ hm
  obtain ⟨M1, hv1, hn1⟩ := couples_in (hval 1 47 v1 rfl rfl) h1
  have k2 := h2
  have lt2 : ∀ x ∈ p2, x.block < W.heap.size := by obtain ⟨m, hm⟩ := k2; exact DataW.trod_lt m _ _ _ hm
  obtain ⟨M2, hv2, hn2⟩ := couples_in (hval 2 47 v2 rfl rfl) h2
  clear hA0 hval0
  refine (walk v0 s0 Q0 v1 M1 v2 M2 W hv0 hn0 hv1 hn1 hv2 hn2).mono fun e W' ⟨he, bel⟩ => ?_
  subst he
  exact ⟨_, rfl, _, _, _, [], _, [], hW', trodAll_mk1 (shut_bool Try.underlying4 _), (trodAll_cons_mk (Below.trod laidOut (by kernel_rfl) (of_decide_eq_true (by kernel_rfl)) k0 bel lt0) (trodAll_cons_mk (Below.trod laidOut (by kernel_rfl) (of_decide_eq_true (by kernel_rfl)) k1 bel lt1) (trodAll_cons_mk (Below.trod laidOut (by kernel_rfl) (of_decide_eq_true (by kernel_rfl)) k2 bel lt2) trodAll_mk0))), rfl, bel.frame _, fun h => by cases h⟩

theorem over : Rows.fnExactSwappedRow.holds Try.pinned (OpenSpec.ofChange Rows.fnExactSwappedSpec) :=
  OpenClaim.holds_of_wide 9 Try.f9 rfl rfl rfl rfl rfl rfl rfl ⟨rfl, rfl, rfl, rfl, rfl⟩ rfl rfl rfl rfl rfl (by kernel_rfl) Try.func9 (by kernel_rfl)
    (of_decide_eq_true (by kernel_rfl)) (by unfold Func.isWrapper; first | (rw [if_pos (by decide +kernel)]; kernel_rfl) | (rw [if_neg (by decide +kernel)]; exact ⟨rfl, rfl⟩))
    (fun os started H enc _ => lifted os started H enc)

end Go.Proofs.Ytejfknkcakeakaa.fnExactSwapped
namespace Go.Proofs.Ytejfknkcakeakaa
theorem fnExactSwapped_holds : Rows.FnExactSwappedSaid := fnExactSwapped.over
#print axioms fnExactSwapped_holds
end Go.Proofs.Ytejfknkcakeakaa
