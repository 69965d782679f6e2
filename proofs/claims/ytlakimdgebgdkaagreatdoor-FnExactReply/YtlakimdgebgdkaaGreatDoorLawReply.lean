/-
  impl.Reply answers as the specification; it writes into no argument, and its answer owns its memory. Walk and frame written by program (tools/exactlaw.py).
-/
import Derived.Test.YtlakimdgebgdkaaGreatDoorCards
import Derived.Test.YtlakimdgebgdkaaGreatDoorTie
import Derived.Deep.DeepHandedRow
import Derived.Lib.LaidTab
import Derived.Lib.SmallJoins
import Derived.Stop.LaidErr
import Derived.Test.YtlakimdgebgdkaaGreatDoorJ51
import Derived.Test.YtlakimdgebgdkaaGreatDoorChecked
import Derived.Deep.RegionHeld3
import Derived.ShutString
import Derived.Below
namespace Go.Proofs.YtlakimdgebgdkaaGreatDoor.fnExactReply
open Go.Proofs.YtlakimdgebgdkaaGreatDoor Go.Proofs.YtlakimdgebgdkaaGreatDoor.Gr
open Go.ChangeShapes Go.WideShapes Go.ChangeAt Go.RowKit
open Go.ChangeMaps (open_string shut_string)

theorem own : ownKnob Tryz.prog.godebug = none := by kernel_rfl

theorem laidOut : laidOutB Tryz.prog = true := by kernel_rfl

set_option maxRecDepth 100000 in
set_option maxHeartbeats 4000000 in
theorem walk (v0 : Value) (Q0 : List (ByteArray × ByteArray)) (v1 : Value) (x1 : AskI) (x2 : Int) (w : World) (hv0 : PaAt w v0 w.heap.size Q0) (hn0 : pasize Q0 ≤ 9223372036854775807) (hv1 : AkAt w v1 w.heap.size x1) (hx2 : -9223372036854775808 ≤ x2 ∧ x2 ≤ 9223372036854775807) (HT : Hid (Rg.Tab w.heap.size w)) :
    Calls Tryz.prog 3 #[v0, v1, .int .i64 x2] w fun e w' => e = .returned (.bool true) ∧ Below w.heap.size w w' := by
  have HV0 := hide hv0
  have HV1 := hide hv1
  have HN0 := hide hn0
  have sh0 := hv0.shape
  obtain ⟨a0, c0, rfl⟩ := sh0
  have sh1 := hv1.shape
  unfold AkAt at hv1
  subst hv1
  clear hv0 hn0
  obtain ⟨W1, hW2⟩ : ∃ W, W = w.alloc (Obj.cells #[Value.int .i64 x1.Op, Value.int .i64 x1.A, Value.int .i64 x1.B, Value.int .i64 x1.W1, Value.int .i64 x1.W2, Value.int .i64 x1.W3] 24) := ⟨_, rfl⟩
  have hb3 : Below w.heap.size w W1 := by rw [hW2]; exact below_new _ _
  have HX4 : Hid (CBox W1 w.heap.size #[Value.int .i64 x1.Op, Value.int .i64 x1.A, Value.int .i64 x1.B, Value.int .i64 x1.W1, Value.int .i64 x1.W2, Value.int .i64 x1.W3] 24) := by show CBox _ _ _ _; rw [hW2]; exact CBox.new _ _ _
  have hc5 : Below w.heap.size w W1 := hb3
  have hz6 : w.heap.size < W1.heap.size := by rw [hW2]; simp
  clear hb3
  (try unfold AskI.v)
  go_enter Tryz.func3, Tryz.ntmps3
  go_wp2_with fail
  rw [← hW2]
  clear hW2
  refine (szPairS_gen _ w.heap.size Q0 1048576 (by omega) (by omega) (unhide HN0) W1 ((unhide HV0).below hc5 (Nat.le_refl _))).mono ?_
  rintro e uw8 ⟨⟨z7, rfl, hxz7, hyz7⟩, hb9⟩
  have HX4 := hide ((unhide HX4).below hb9)
  have hc10 : Below w.heap.size w uw8 := hc5.trans (hb9.mono hc5.size)
  have hz11 : W1.heap.size ≤ uw8.heap.size := hb9.size
  clear hb9
  by_cases hnegz7 : z7 < 0
  · go_wp2
    go_ret
    exact ⟨rfl, hc10⟩
  · have htz7 := hyz7 (by omega)
    have hb0 : pasize Q0 ≤ 1048576 := by omega
    have TO0 := hide (fun w1 (hb : Below w.heap.size w w1) => toPairS_gen _ w.heap.size Q0 hb0 w1 hb.size ((unhide HV0).below hb (Nat.le_refl _)))
    have EQ0 := hide (fun w1 d d1 (hd : PaAt w1 d w1.heap.size Q0) (hd1 : PaAt w1 d1 w1.heap.size Q0) => eqPairS_gen d d1 w1.heap.size w1.heap.size Q0 hb0 w1 (Nat.le_refl _) (Nat.le_refl _) hd hd1)
    have TO1 := hide (fun w1 (hb : Below w.heap.size w w1) => toAsk_gen _ w.heap.size x1 w1 hb.size ((unhide HV1).below hb (Nat.le_refl _)))
    have SP := hide (fun w1 d0 (hd0 : PaAt w1 d0 w1.heap.size Q0) d1 (hd1 : AkAt w1 d1 w1.heap.size x1) => specReply_gen x2 hx2 w1.heap.size d0 Q0 d1 x1 hb0 w1 (Nat.le_refl _) hd0 hd1)
    have IM := hide (fun w1 (hbT : Below w.heap.size w w1) d0 (hd0 : PaAt w1 d0 w1.heap.size Q0) d1 (hd1 : AkAt w1 d1 w1.heap.size x1) => implReply_gen x2 hx2 w1.heap.size d0 Q0 d1 x1 hb0 w1 (Nat.le_refl _) (((unhide HT).below hbT).mono hbT.size) hd0 hd1)
    generalize Rg.replyT Q0 x1.Op x1.A x2 = ret0 at SP IM
    clear hb0
    have hk1 : w.heap.size < uw8.heap.size := (unhide HX4).lt
    have s1_0 : uw8.cell? ⟨w.heap.size, 0, none⟩ = some (Value.int .i64 x1.Op) := (unhide HX4).cell 0
    have s1_1 : uw8.cell? ⟨w.heap.size, 1, none⟩ = some (Value.int .i64 x1.A) := (unhide HX4).cell 1
    have s1_2 : uw8.cell? ⟨w.heap.size, 2, none⟩ = some (Value.int .i64 x1.B) := (unhide HX4).cell 2
    have s1_3 : uw8.cell? ⟨w.heap.size, 3, none⟩ = some (Value.int .i64 x1.W1) := (unhide HX4).cell 3
    have s1_4 : uw8.cell? ⟨w.heap.size, 4, none⟩ = some (Value.int .i64 x1.W2) := (unhide HX4).cell 4
    have s1_5 : uw8.cell? ⟨w.heap.size, 5, none⟩ = some (Value.int .i64 x1.W3) := (unhide HX4).cell 5
    have LIVE := hide (fun w8 (hb : Below uw8.heap.size uw8 w8) => (unhide HX4).below hb)
    go_wp2_with fail
    go_region_held3 (fun u => u.cell? ⟨w.heap.size, 0, none⟩ = some (Value.int .i64 x1.Op) ∧ u.cell? ⟨w.heap.size, 1, none⟩ = some (Value.int .i64 x1.A) ∧ u.cell? ⟨w.heap.size, 2, none⟩ = some (Value.int .i64 x1.B) ∧ u.cell? ⟨w.heap.size, 3, none⟩ = some (Value.int .i64 x1.W1) ∧ u.cell? ⟨w.heap.size, 4, none⟩ = some (Value.int .i64 x1.W2) ∧ u.cell? ⟨w.heap.size, 5, none⟩ = some (Value.int .i64 x1.W3))
      (first | go_keep | with_reducible exact ⟨s1_0_0, s1_1_0, s1_2_0, s1_3_0, s1_4_0, s1_5_0⟩ | with_reducible exact ⟨s1_0_1, s1_1_1, s1_2_1, s1_3_1, s1_4_1, s1_5_1⟩ | with_reducible exact ⟨s1_0_9, s1_1_9, s1_2_9, s1_3_9, s1_4_9, s1_5_9⟩)
      (first
        | (go_at_call 6; refine (unhide TO0 _ hc10.drew).mono ?_; rintro e v0_ ⟨⟨d0_, rfl, ho0_⟩, hb0_⟩; have hz0_ : uw8.heap.size ≤ v0_.heap.size := hb0_.size; have hd0_0 := ho0_.at;  have s1_0_0 := (hb0_.cell (p := ⟨w.heap.size, 0, none⟩) hk1).trans s1_0; have s1_1_0 := (hb0_.cell (p := ⟨w.heap.size, 1, none⟩) hk1).trans s1_1; have s1_2_0 := (hb0_.cell (p := ⟨w.heap.size, 2, none⟩) hk1).trans s1_2; have s1_3_0 := (hb0_.cell (p := ⟨w.heap.size, 3, none⟩) hk1).trans s1_3; have s1_4_0 := (hb0_.cell (p := ⟨w.heap.size, 4, none⟩) hk1).trans s1_4; have s1_5_0 := (hb0_.cell (p := ⟨w.heap.size, 5, none⟩) hk1).trans s1_5; have l1_0 : w.heap.size < v0_.heap.size := Nat.lt_of_lt_of_le hk1 hz0_; have hc0_ : Below w.heap.size w v0_ := (hc10.drew).trans (hb0_.mono (hc10.drew).size))
        | (go_at_call 7; refine (unhide TO1 _ hc0_).mono ?_; rintro e v1_ ⟨⟨d1_, rfl, ho1_⟩, hb1_⟩; have hz1_ : v0_.heap.size ≤ v1_.heap.size := hb1_.size; have hd1_1 := ho1_.at; have hd0_1 := (hd0_0.below hb1_ (Nat.le_refl _)).mono hb1_.size; have s1_0_1 := (hb1_.cell (p := ⟨w.heap.size, 0, none⟩) l1_0).trans s1_0_0; have s1_1_1 := (hb1_.cell (p := ⟨w.heap.size, 1, none⟩) l1_0).trans s1_1_0; have s1_2_1 := (hb1_.cell (p := ⟨w.heap.size, 2, none⟩) l1_0).trans s1_2_0; have s1_3_1 := (hb1_.cell (p := ⟨w.heap.size, 3, none⟩) l1_0).trans s1_3_0; have s1_4_1 := (hb1_.cell (p := ⟨w.heap.size, 4, none⟩) l1_0).trans s1_4_0; have s1_5_1 := (hb1_.cell (p := ⟨w.heap.size, 5, none⟩) l1_0).trans s1_5_0; have l1_1 : w.heap.size < v1_.heap.size := Nat.lt_of_lt_of_le l1_0 hz1_; have hc1_ : Below w.heap.size w v1_ := (hc0_).trans (hb1_.mono (hc0_).size))
        | (go_at_call 5; refine (unhide SP v1_ _ hd0_1 _ hd1_1).mono ?_; rintro e w9 ⟨rfl, hb9⟩; have s1_0_9 := (hb9.cell (p := ⟨w.heap.size, 0, none⟩) l1_1).trans s1_0_1; have s1_1_9 := (hb9.cell (p := ⟨w.heap.size, 1, none⟩) l1_1).trans s1_1_1; have s1_2_9 := (hb9.cell (p := ⟨w.heap.size, 2, none⟩) l1_1).trans s1_2_1; have s1_3_9 := (hb9.cell (p := ⟨w.heap.size, 3, none⟩) l1_1).trans s1_3_1; have s1_4_9 := (hb9.cell (p := ⟨w.heap.size, 4, none⟩) l1_1).trans s1_4_1; have s1_5_9 := (hb9.cell (p := ⟨w.heap.size, 5, none⟩) l1_1).trans s1_5_1))
    have hb13 : Below uw8.heap.size uw8 w9 := ((((Below.refl uw8.heap.size uw8).drew).trans (hb0_.mono (show uw8.heap.size ≤ uw8.drew.heap.size from by first | exact Nat.le_refl _ | omega))).trans (hb1_.mono (show uw8.heap.size ≤ v0_.heap.size from by first | exact Nat.le_refl _ | omega))).trans (hb9.mono (by omega))
    have zHX4 := unhide LIVE w9 hb13
    have HX4 := hide zHX4
    have hc14 : Below w.heap.size w w9 := hc10.trans (hb13.mono hc10.size)
    have hz15 : uw8.heap.size ≤ w9.heap.size := hb13.size
    obtain ⟨uw12, hwn⟩ : ∃ W, W = w9 := ⟨_, rfl⟩
    subst hwn
    clear LIVE hb13 hb9 hk1 hb0_ hz0_ hc0_ ho0_ hd0_0 hb1_ hz1_ hc1_ ho1_ hd0_1 hd1_1 s1_0 s1_0_9 s1_0_0 s1_0_1 s1_1 s1_1_9 s1_1_0 s1_1_1 s1_2 s1_2_9 s1_2_0 s1_2_1 s1_3 s1_3_9 s1_3_0 s1_3_1 s1_4 s1_4_9 s1_4_0 s1_4_1 s1_5 s1_5_9 s1_5_0 s1_5_1 l1_0 l1_1 zHX4
    go_wp2_with fail
    refine (unhide TO0 uw12 hc14).mono ?_
    rintro e uw18 ⟨⟨d16, rfl, ho17⟩, hb19⟩
    have HX4 := hide ((unhide HX4).below hb19)
    have hc20 : Below w.heap.size w uw18 := hc14.trans (hb19.mono hc14.size)
    have hz21 : uw12.heap.size ≤ uw18.heap.size := hb19.size
    clear hb19
    have HO22 := hide ho17
    have HB23 := hide ho17.blk
    have hs26 := ho17.at.shape
    obtain ⟨a24, c25, rfl⟩ := hs26
    clear ho17
    have p27 : uw18.cell? ⟨w.heap.size, 0, none⟩ = some (Value.int .i64 x1.Op) := (unhide HX4).cell 0
    have p28 : uw18.cell? ⟨w.heap.size, 1, none⟩ = some (Value.int .i64 x1.A) := (unhide HX4).cell 1
    have p29 : uw18.cell? ⟨w.heap.size, 2, none⟩ = some (Value.int .i64 x1.B) := (unhide HX4).cell 2
    have p30 : uw18.cell? ⟨w.heap.size, 3, none⟩ = some (Value.int .i64 x1.W1) := (unhide HX4).cell 3
    have p31 : uw18.cell? ⟨w.heap.size, 4, none⟩ = some (Value.int .i64 x1.W2) := (unhide HX4).cell 4
    have p32 : uw18.cell? ⟨w.heap.size, 5, none⟩ = some (Value.int .i64 x1.W3) := (unhide HX4).cell 5
    go_wp2_with fail
    clear p27 p28 p29 p30 p31 p32
    refine (unhide TO1 uw18 hc20).mono ?_
    rintro e uw35 ⟨⟨d33, rfl, ho34⟩, hb36⟩
    have HX4 := hide ((unhide HX4).below hb36)
    have HO22 := hide ((unhide HO22).below hb36)
    have hc37 : Below w.heap.size w uw35 := hc20.trans (hb36.mono hc20.size)
    have hz38 : uw18.heap.size ≤ uw35.heap.size := hb36.size
    clear hb36
    have HO40 := hide ho34
    unfold AkOwn at ho34
    subst ho34
    (try unfold AskI.v)
    go_wp2_with fail
    refine (unhide IM uw35 hc37 _ (unhide HO22).at _ (unhide HO40).at).mono ?_
    rintro e uw45 ⟨rfl, hb46⟩
    have HX4 := hide ((unhide HX4).below hb46)
    have HO22 := hide ((unhide HO22).below hb46)
    have HO40 := hide ((unhide HO40).below hb46)
    have hc47 : Below w.heap.size w uw45 := hc37.trans (hb46.mono hc37.size)
    have hz48 : uw35.heap.size ≤ uw45.heap.size := hb46.size
    clear hb46
    go_wp2_with fail
    refine (unhide TO0 uw45 hc47).mono ?_
    rintro e uw51 ⟨⟨d49, rfl, ho50⟩, hb52⟩
    have HX4 := hide ((unhide HX4).below hb52)
    have HO22 := hide ((unhide HO22).below hb52)
    have hc53 : Below w.heap.size w uw51 := hc47.trans (hb52.mono hc47.size)
    have hz54 : uw45.heap.size ≤ uw51.heap.size := hb52.size
    clear hb52
    have HO56 := hide ho50
    have HB57 := hide ho50.blk
    have hs60 := ho50.at.shape
    obtain ⟨a58, c59, rfl⟩ := hs60
    clear ho50
    go_wp2_with fail
    refine (unhide EQ0 uw51 _ _ (unhide HO22).at (unhide HO56).at).mono ?_
    rintro e uw61 ⟨rfl, hb62⟩
    have HX4 := hide ((unhide HX4).below hb62)
    have HO22 := hide ((unhide HO22).below hb62)
    have HO56 := hide ((unhide HO56).below hb62)
    have hc63 : Below w.heap.size w uw61 := hc53.trans (hb62.mono hc53.size)
    have hz64 : uw51.heap.size ≤ uw61.heap.size := hb62.size
    clear hb62
    go_wp2
    go_ret
    exact ⟨rfl, hc63⟩

theorem g0 : Tryz.prog.globalNamed "math/bits.deBruijn32tab" = some 2 := by kernel_rfl
theorem gt0 : (Tryz.prog.globals[2]?).map (·.type) = some 187 := by kernel_rfl
theorem ct0 : Tryz.prog.cellsOf 187 = 32 := by kernel_rfl
theorem ce0 : Tryz.prog.cellsOf 5 = 1 := by kernel_rfl
def zs0 : List Int := [0, 1, 28, 2, 29, 14, 24, 3, 30, 22, 20, 15, 25, 17, 4, 8, 31, 27, 13, 23, 21, 19, 16, 7, 26, 12, 18, 6, 11, 5, 10, 9]
theorem g1 : Tryz.prog.globalNamed "math/bits.deBruijn64tab" = some 3 := by kernel_rfl
theorem gt1 : (Tryz.prog.globals[3]?).map (·.type) = some 188 := by kernel_rfl
theorem ct1 : Tryz.prog.cellsOf 188 = 64 := by kernel_rfl
theorem ce1 : Tryz.prog.cellsOf 5 = 1 := by kernel_rfl
def zs1 : List Int := [0, 1, 56, 2, 57, 49, 28, 3, 61, 58, 42, 50, 38, 29, 17, 4, 62, 47, 59, 36, 45, 43, 51, 22, 53, 39, 33, 30, 24, 18, 12, 5, 63, 55, 48, 27, 60, 41, 37, 16, 46, 35, 44, 21, 52, 32, 23, 11, 54, 26, 40, 15, 34, 20, 31, 10, 25, 14, 19, 9, 13, 8, 7, 6]
theorem g2 : Tryz.prog.globalNamed "internal/strconv.uint64pow10" = some 0 := by kernel_rfl
theorem gt2 : (Tryz.prog.globals[0]?).map (·.type) = some 161 := by kernel_rfl
theorem ct2 : Tryz.prog.cellsOf 161 = 20 := by kernel_rfl
theorem ce2 : Tryz.prog.cellsOf 150 = 1 := by kernel_rfl
def zs2 : List Int := [1, 10, 100, 1000, 10000, 100000, 1000000, 10000000, 100000000, 1000000000, 10000000000, 100000000000, 1000000000000, 10000000000000, 100000000000000, 1000000000000000, 10000000000000000, 100000000000000000, 1000000000000000000, 10000000000000000000]
set_option maxRecDepth 100000 in
theorem tab {W : World} (h : laidMet Tryz.prog Rows.fnExactReplyRow.laid W) : Lib.TabIs Tryz.prog W "internal/strconv.uint64pow10" .u64 zs2 :=
  Lib.tabIs_of_head (zs := zs2) g2 gt2 Tryz.underlying161 Tryz.underlying150 ce2 ct2 (laidMet.tail (laidMet.tail h))
theorem plainLaid {W : World} (h : laidMetH Tryz.prog Rows.fnExactReplyRow.laid W) : laidMet Tryz.prog Rows.fnExactReplyRow.laid W := h

set_option maxRecDepth 100000 in
theorem contract (H : Type) (enc : TypeId × Value → H) (W : World) (base : Nat) (args : Array Value) (ds gs : List (DataW H)) (before : List MemPlace)
    (hval : ∀ (j : Nat) t v, Tryz.f3.params[j]? = some t → args[j]? = some v → Value.okWide Tryz.prog W .any base t v)
    (hW : DataW.Whole enc Tryz.prog Tryz.f3.params.toList Rows.fnExactReplySpec.vars false W args.toList ds gs before) (hL : laidMet Tryz.prog Rows.fnExactReplyRow.laid W) :
    Calls Tryz.prog 3 args W fun e W' => ∃ v, e = .returned v ∧ Rows.fnExactReplySpec.post enc Tryz.prog Tryz.f3 false true false false W args v W' := by
  have hW' := hW
  obtain ⟨p, q, hA0, hV, rfl, hfz, hnd⟩ := hW
  have hA : DataW.TrodAll enc Tryz.prog W 0 (fun _ => true) true Tryz.f3.params.toList args.toList ds p := hA0
  rw [Tryz.params3] at hA hval
  obtain ⟨v0, vs0, d0, ds0, p0, q0, hargs, rfl, rfl, h0, r0⟩ := trodAll_cons hA
  obtain ⟨v1, vs1, d1, ds1, p1, q1, rfl, rfl, rfl, h1, r1⟩ := trodAll_cons r0
  obtain ⟨v2, vs2, d2, ds2, p2, q2, rfl, rfl, rfl, h2, r2⟩ := trodAll_cons r1
  obtain ⟨rfl, rfl, rfl⟩ := trodAll_nil r2
  obtain rfl : args = #[v0, v1, v2] := by cases args; simp_all
  obtain ⟨rfl, rfl⟩ := trodVars_none hV
  have k0 := h0
  have lt0 : ∀ x ∈ p0, x.block < W.heap.size := by obtain ⟨m, hm⟩ := k0; exact DataW.trod_lt m _ _ _ hm
  obtain ⟨Q0, hv0, hn0⟩ := pairs_in (hval 0 22 v0 rfl rfl) h0
  have k1 := h1
  have lt1 : ∀ x ∈ p1, x.block < W.heap.size := by obtain ⟨m, hm⟩ := k1; exact DataW.trod_lt m _ _ _ hm
  obtain ⟨x1, hv1⟩ := Ask_in (hval 1 24 v1 rfl rfl) h1
  obtain ⟨x2, rfl, rfl, rfl, m2⟩ := open_int Tryz.underlying3 (hval 2 3 v2 rfl rfl) h2
  clear hA0
  refine (walk v0 Q0 v1 x1 x2 W hv0 hn0 hv1 (by simpa [Lit.wf, IntKind.min, IntKind.max, IntKind.signed, IntKind.bits] using m2) (Lib.tabBelow_of_tabIs (show Lib.TabIs Tryz.prog W "internal/strconv.uint64pow10" .u64 Lib.pow10Tab from tab hL))).mono fun e W' ⟨he, bel⟩ => ?_
  subst he
  exact ⟨_, rfl, _, _, _, [], _, [], hW', trodAll_mk1 (shut_bool Tryz.underlying4 _), (trodAll_cons_mk (Below.trod laidOut (by kernel_rfl) (of_decide_eq_true (by kernel_rfl)) k0 bel lt0) (trodAll_cons_mk (Below.trod laidOut (by kernel_rfl) (of_decide_eq_true (by kernel_rfl)) k1 bel lt1) (trodAll_cons_mk (shut_int Tryz.underlying3 m2) trodAll_mk0))), rfl, bel.frame _, fun h => by cases h⟩

def laidCells (zs : List Int) (k : IntKind) : Obj → Obj
  | .cells _ t frozen => .cells (zs.map fun z => Value.int k z).toArray t frozen
  | x => x

theorem laid_met (os : Os) : laidMet Tryz.prog Rows.fnExactReplyRow.laid (({ World.holding Tryz.prog os ⟨#[], #[], []⟩ with heap := ((((World.holding Tryz.prog os ⟨#[], #[], []⟩).heap.modify 2 (laidCells zs0 .u8)).modify 3 (laidCells zs1 .u8)).modify 0 (laidCells zs2 .u64)) } : World).forCall (fun _ _ => 0) ⟨#[], #[.slice none 0 0, .agg #[.int .i64 0, .int .i64 0, .int .i64 0, .int .i64 0, .int .i64 0, .int .i64 0], .int .i64 0], []⟩).memory :=
  laidMet_of_run' 8 (by kernel_rfl) (by kernel_rfl)

theorem reads (os : Os) {H : Type} (enc : TypeId × Value → H) : ∃ places, DataW.whole enc Tryz.prog (({ World.holding Tryz.prog os ⟨#[], #[], []⟩ with heap := ((((World.holding Tryz.prog os ⟨#[], #[], []⟩).heap.modify 2 (laidCells zs0 .u8)).modify 3 (laidCells zs1 .u8)).modify 0 (laidCells zs2 .u64)) } : World).forCall (fun _ _ => 0) ⟨#[], #[.slice none 0 0, .agg #[.int .i64 0, .int .i64 0, .int .i64 0, .int .i64 0, .int .i64 0, .int .i64 0], .int .i64 0], []⟩).memory Tryz.f3.params.toList Rows.fnExactReplySpec.vars false (#[.slice none 0 0, .agg #[.int .i64 0, .int .i64 0, .int .i64 0, .int .i64 0, .int .i64 0, .int .i64 0], .int .i64 0] : Array Value).toList 8 = some ([.nil, .agg [.lit (.int .i64 0), .lit (.int .i64 0), .lit (.int .i64 0), .lit (.int .i64 0), .lit (.int .i64 0), .lit (.int .i64 0)], .lit (.int .i64 0)], [], places) :=
  ⟨[], by kernel_rfl⟩

set_option maxRecDepth 100000 in
theorem lifted (os : Os) (started : os.Started) (H : Type) (enc : TypeId × Value → H) (F : Stop.Interp) :
    ReturnsInHanded {} Tryz.checked os 3 .any ((OpenSpec.ofChange Rows.fnExactReplySpec).preRow enc Tryz.prog Tryz.f3 Rows.fnExactReplyRow.domain false Rows.fnExactReplyRow.laid) (((OpenSpec.ofChange Rows.fnExactReplySpec).at F).post enc Tryz.prog Tryz.f3 false true false false) := by
  obtain ⟨places, hx⟩ := reads os enc
  refine returnsInHanded_of_row (C := Tryz.checked) (s := OpenSpec.ofChange Rows.fnExactReplySpec) own started (by kernel_rfl) Tryz.func3
    (witness_row_at (enc := enc) (C := Tryz.checked) false ({ World.holding Tryz.prog os ⟨#[], #[], []⟩ with heap := ((((World.holding Tryz.prog os ⟨#[], #[], []⟩).heap.modify 2 (laidCells zs0 .u8)).modify 3 (laidCells zs1 .u8)).modify 0 (laidCells zs2 .u64)) } : World) #[.slice none 0 0, .agg #[.int .i64 0, .int .i64 0, .int .i64 0, .int .i64 0, .int .i64 0, .int .i64 0], .int .i64 0] rfl (by kernel_rfl) (by kernel_rfl) (by kernel_rfl)
      (OpenSpec.preRow_of_cond 8 hx (by kernel_rfl) (fun k hk => by cases hk) (by kernel_rfl) (laid_met os))) ?_
  intro W base args ds gs before hval hW _ _ _ hL _ _
  exact contract H enc W base args ds gs before hval hW (plainLaid hL)

theorem said : Rows.FnExactReplySaid :=
  OpenClaim.holds_of_cond 3 Tryz.f3 rfl rfl rfl rfl rfl rfl rfl ⟨rfl, rfl, rfl, rfl, rfl⟩ rfl rfl rfl rfl rfl (by kernel_rfl) Tryz.func3 (by kernel_rfl)
    (of_decide_eq_true (by kernel_rfl)) (by unfold Func.isWrapper; first | (rw [if_pos (by decide +kernel)]; kernel_rfl) | (rw [if_neg (by decide +kernel)]; exact ⟨rfl, rfl⟩))
    (fun os started H enc _ F => by rw [OpenClaim.pre_eq_preRow]; exact lifted os started H enc F)

theorem plain (f : FuncId) (fn : Func) (hf : Tryz.pinned.checked.prog.funcNamed "loop.example/g00105/laws.FnExactReply" = some f) (hfn : Tryz.pinned.checked.prog.funcs[f]? = some fn) :
    false = Tryz.pinned.checked.prog.looks [] ∧ ∀ (j : Nat) t, fn.params[j]? = some t → Tryz.pinned.checked.prog.wantsStandIn t = false := by
  obtain rfl : f = 3 := Option.some.inj ((show Tryz.prog.funcNamed "loop.example/g00105/laws.FnExactReply" = some 3 by kernel_rfl).symm.trans hf) |>.symm
  obtain rfl : fn = Tryz.f3 := (Option.some.inj (Tryz.func3.symm.trans hfn)).symm
  refine ⟨by kernel_rfl, fun j t ht => ?_⟩
  rw [Tryz.params3] at ht
  have hm : t = 22 ∨ t = 24 ∨ t = 3 := by simpa using Array.mem_of_getElem? ht
  rcases hm with rfl | rfl | rfl
  · exact (show Tryz.prog.wantsStandIn 22 = false by kernel_rfl)
  · exact (show Tryz.prog.wantsStandIn 24 = false by kernel_rfl)
  · exact (show Tryz.prog.wantsStandIn 3 = false by kernel_rfl)

theorem card : Rows.FnExactReplyCardSaid :=
  Claim7.holds_tied_plain_at .later [] _ _ _ _ said (fun _ h => by cases h) (by kernel_rfl) (fun _ h => by cases h) fnExactReply_row_tie rfl ⟨rfl, rfl⟩ (by kernel_rfl) rfl plain (by kernel_rfl)
end Go.Proofs.YtlakimdgebgdkaaGreatDoor.fnExactReply
namespace Go.Proofs.YtlakimdgebgdkaaGreatDoor
theorem fnExactReply_holds : Rows.FnExactReplyCardSaid := fnExactReply.card
#print axioms fnExactReply_holds
end Go.Proofs.YtlakimdgebgdkaaGreatDoor
