/-
  impl.OddParts answers as the specification; it writes into no argument, and its answer owns its memory. Walk and frame written by program (tools/exactlaw.py).
-/
import Derived.Test.YtejfknkcakeakaaRows
import Derived.Test.YtejfknkcakeakaaLkY
import Derived.Test.YtejfknkcakeakaaChecked
import Derived.Deep.RegionHeld3
import Derived.ShutString
import Derived.Below
namespace Go.Proofs.Ytejfknkcakeakaa.fnExactOddParts
open Go.Proofs.Ytejfknkcakeakaa Go.Proofs.Ytejfknkcakeakaa.Gr
open Go.ChangeShapes Go.WideShapes Go.ChangeAt Go.RowKit
open Go.ChangeMaps (open_string shut_string)

theorem own : ownKnob Try.prog.godebug = none := by kernel_rfl

theorem laidOut : laidOutB Try.prog = true := by kernel_rfl

set_option maxRecDepth 100000 in
set_option maxHeartbeats 4000000 in
theorem walk (v0 : Value) (s0 : Int) (Q0 : List EdgeI) (v1 : Value) (K1 : List Int) (w : World) (hv0 : GrAt w v0 w.heap.size s0 Q0) (hn0 : Q0.length ≤ 9223372036854775807) (hv1 : InAt w v1 w.heap.size K1) (hn1 : K1.length ≤ 9223372036854775807) :
    Calls Try.prog 5 #[v0, v1] w fun e w' => e = .returned (.bool true) ∧ Below w.heap.size w w' := by
  have HV0 := hide hv0
  have HV1 := hide hv1
  have HN0 := hide hn0
  have HN1 := hide hn1
  have sh0 := hv0.shape
  obtain ⟨a0, c0, rfl⟩ := sh0
  have sh1 := hv1.shape
  obtain ⟨a1, c1, rfl⟩ := sh1
  clear hv0 hv1 hn0 hn1
  by_cases hbig1 : (1048576 : Int) < (K1.length : Int)
  · go_enter Try.func5, Try.ntmps5
    go_wp2
    go_ret
    exact ⟨rfl, (Below.refl _ _).alloc (by simp) _⟩
  · have hsm1 : K1.length ≤ 1048576 := by omega
    obtain ⟨W1, hW2⟩ : ∃ W, W = w.alloc (Obj.cells #[Value.int .i64 s0, Value.slice a0 Q0.length c0] 24) := ⟨_, rfl⟩
    have hb3 : Below w.heap.size w W1 := by rw [hW2]; exact below_new _ _
    have HX4 : Hid (CBox W1 w.heap.size #[Value.int .i64 s0, Value.slice a0 Q0.length c0] 24) := by show CBox _ _ _ _; rw [hW2]; exact CBox.new _ _ _
    have hc5 : Below w.heap.size w W1 := hb3
    have hz6 : w.heap.size < W1.heap.size := by rw [hW2]; simp
    clear hb3
    have p7 : W1.cell? ⟨w.heap.size, 0, none⟩ = some (Value.int .i64 s0) := (unhide HX4).cell 0
    have p8 : W1.cell? ⟨w.heap.size, 1, none⟩ = some (Value.slice a0 Q0.length c0) := (unhide HX4).cell 1
    (try rw [hW2] at p7 p8)
    go_enter Try.func5, Try.ntmps5
    go_wp2_with fail
    rw [← hW2]
    clear hW2 p7 p8
    refine (szGraph_gen _ w.heap.size s0 Q0 1048576 (by omega) (by omega) (unhide HN0) W1 ((unhide HV0).below hc5 (Nat.le_refl _))).mono ?_
    rintro e uw10 ⟨⟨z9, rfl, hxz9, hyz9⟩, hb11⟩
    have HX4 := hide ((unhide HX4).below hb11)
    have hc12 : Below w.heap.size w uw10 := hc5.trans (hb11.mono hc5.size)
    have hz13 : W1.heap.size ≤ uw10.heap.size := hb11.size
    clear hb11
    by_cases hnegz9 : z9 < 0
    · go_wp2
      go_ret
      exact ⟨rfl, hc12⟩
    · have htz9 := hyz9 (by omega)
      have hb0 : Q0.length ≤ 1048576 := by omega
      have hb1 : K1.length ≤ 1048576 := by omega
      have TO0 := hide (fun w1 (hb : Below w.heap.size w w1) => toGraph_any _ w.heap.size s0 Q0 hb0 w1 hb.size ((unhide HV0).below hb (Nat.le_refl _)))
      have EQ0 := hide (fun w1 d d1 (hd : GrAt w1 d w1.heap.size s0 Q0) (hd1 : GrAt w1 d1 w1.heap.size s0 Q0) => eqGraph_same d d1 w1.heap.size w1.heap.size s0 Q0 hb0 w1 (Nat.le_refl _) (Nat.le_refl _) hd hd1)
      have TO1 := hide (fun w1 (hb : Below w.heap.size w w1) => toInts_gen _ w.heap.size K1 hb1 w1 hb.size ((unhide HV1).below hb (Nat.le_refl _)))
      have EQ1 := hide (fun w1 d d1 (hd : InAt w1 d w1.heap.size K1) (hd1 : InAt w1 d1 w1.heap.size K1) => eqInts_gen d d1 w1.heap.size w1.heap.size K1 hb1 w1 (Nat.le_refl _) (Nat.le_refl _) hd hd1)
      have SP := hide (fun w1 d0 (hd0 : GrAt w1 d0 w1.heap.size s0 Q0) d1 (hd1 : InAt w1 d1 w1.heap.size K1) => Lk.specOdd_gen w1.heap.size d0 s0 Q0 d1 K1 hb0 hb1 w1 (Nat.le_refl _) hd0 hd1)
      have IM := hide (fun w1 d0 (hd0 : GrAt w1 d0 w1.heap.size s0 Q0) d1 (hd1 : InAt w1 d1 w1.heap.size K1) => Lk.implOdd_gen w1.heap.size d0 s0 Q0 d1 K1 hb0 hb1 w1 (Nat.le_refl _) hd0 hd1)
      generalize Lk.oddR s0 Q0 K1 = ret0 at SP IM
      have hne0 : (ret0 != ret0) = false := by simp
      clear hb0 hb1
      have p14 : uw10.cell? ⟨w.heap.size, 0, none⟩ = some (Value.int .i64 s0) := (unhide HX4).cell 0
      have p15 : uw10.cell? ⟨w.heap.size, 1, none⟩ = some (Value.slice a0 Q0.length c0) := (unhide HX4).cell 1
      go_wp2_with fail
      clear p14 p15
      refine (unhide TO0 uw10 hc12).mono ?_
      rintro e uw18 ⟨⟨d16, rfl, ho17⟩, hb19⟩
      have HX4 := hide ((unhide HX4).below hb19)
      have hc20 : Below w.heap.size w uw18 := hc12.trans (hb19.mono hc12.size)
      have hz21 : uw10.heap.size ≤ uw18.heap.size := hb19.size
      clear hb19
      have HO23 := hide ho17
      have HB24 := hide ho17.blk
      have hs27 := ho17.at.shape
      obtain ⟨a25, c26, rfl⟩ := hs27
      clear ho17
      go_wp2_with fail
      refine (unhide TO1 uw18 hc20).mono ?_
      rintro e uw30 ⟨⟨d28, rfl, ho29⟩, hb31⟩
      have HX4 := hide ((unhide HX4).below hb31)
      have HO23 := hide ((unhide HO23).below hb31)
      have hc32 : Below w.heap.size w uw30 := hc20.trans (hb31.mono hc20.size)
      have hz33 : uw18.heap.size ≤ uw30.heap.size := hb31.size
      clear hb31
      have HO35 := hide ho29
      have HB36 := hide ho29.blk
      have hs39 := ho29.at.shape
      obtain ⟨a37, c38, rfl⟩ := hs39
      clear ho29
      go_wp2_with fail
      refine (unhide SP uw30 _ (unhide HO23).at _ (unhide HO35).at).mono ?_
      rintro e uw40 ⟨rfl, hb41⟩
      have HX4 := hide ((unhide HX4).below hb41)
      have HO23 := hide ((unhide HO23).below hb41)
      have HO35 := hide ((unhide HO35).below hb41)
      have hc42 : Below w.heap.size w uw40 := hc32.trans (hb41.mono hc32.size)
      have hz43 : uw30.heap.size ≤ uw40.heap.size := hb41.size
      clear hb41
      have p44 : uw40.cell? ⟨w.heap.size, 0, none⟩ = some (Value.int .i64 s0) := (unhide HX4).cell 0
      have p45 : uw40.cell? ⟨w.heap.size, 1, none⟩ = some (Value.slice a0 Q0.length c0) := (unhide HX4).cell 1
      go_wp2_with fail
      clear p44 p45
      refine (unhide TO0 uw40 hc42).mono ?_
      rintro e uw48 ⟨⟨d46, rfl, ho47⟩, hb49⟩
      have HX4 := hide ((unhide HX4).below hb49)
      have hc50 : Below w.heap.size w uw48 := hc42.trans (hb49.mono hc42.size)
      have hz51 : uw40.heap.size ≤ uw48.heap.size := hb49.size
      clear hb49
      have HO52 := hide ho47
      have HB53 := hide ho47.blk
      have hs56 := ho47.at.shape
      obtain ⟨a54, c55, rfl⟩ := hs56
      clear ho47
      obtain ⟨W57, hW58⟩ : ∃ W, W = uw48.alloc (Obj.cells #[Value.int .i64 s0, Value.slice a54 Q0.length c55] 30) := ⟨_, rfl⟩
      have hb59 : Below uw48.heap.size uw48 W57 := by rw [hW58]; exact below_new _ _
      have HX4 := hide ((unhide HX4).below hb59)
      have HO52 := hide ((unhide HO52).below hb59)
      have HX60 : Hid (CBox W57 uw48.heap.size #[Value.int .i64 s0, Value.slice a54 Q0.length c55] 30) := by show CBox _ _ _ _; rw [hW58]; exact CBox.new _ _ _
      have hc61 : Below w.heap.size w W57 := hc50.trans (hb59.mono hc50.size)
      have hz62 : uw48.heap.size < W57.heap.size := by rw [hW58]; simp
      clear hb59
      go_wp2_with fail
      rw [← hW58]
      clear hW58
      refine (unhide TO1 W57 hc61).mono ?_
      rintro e uw65 ⟨⟨d63, rfl, ho64⟩, hb66⟩
      have HX4 := hide ((unhide HX4).below hb66)
      have HO52 := hide ((unhide HO52).below hb66)
      have HX60 := hide ((unhide HX60).below hb66)
      have hc67 : Below w.heap.size w uw65 := hc61.trans (hb66.mono hc61.size)
      have hz68 : W57.heap.size ≤ uw65.heap.size := hb66.size
      clear hb66
      have HO69 := hide ho64
      have HB70 := hide ho64.blk
      have hs73 := ho64.at.shape
      obtain ⟨a71, c72, rfl⟩ := hs73
      clear ho64
      have p74 : uw65.cell? ⟨uw48.heap.size, 0, none⟩ = some (Value.int .i64 s0) := (unhide HX60).cell 0
      have p75 : uw65.cell? ⟨uw48.heap.size, 1, none⟩ = some (Value.slice a54 Q0.length c55) := (unhide HX60).cell 1
      go_wp2_with fail
      clear p74 p75
      refine (unhide IM uw65 _ (unhide HO52).at _ (unhide HO69).at).mono ?_
      rintro e uw76 ⟨rfl, hb77⟩
      have HX4 := hide ((unhide HX4).below hb77)
      have HO52 := hide ((unhide HO52).below hb77)
      have HX60 := hide ((unhide HX60).below hb77)
      have HO69 := hide ((unhide HO69).below hb77)
      have hc78 : Below w.heap.size w uw76 := hc67.trans (hb77.mono hc67.size)
      have hz79 : uw65.heap.size ≤ uw76.heap.size := hb77.size
      clear hb77
      have r0 : uw76.cell? ⟨uw48.heap.size, 0, none⟩ = some (Value.int .i64 s0) := (unhide HX60).cell 0
      have r1 : uw76.cell? ⟨uw48.heap.size, 1, none⟩ = some (Value.slice a54 Q0.length c55) := (unhide HX60).cell 1
      have p0 : uw76.cell? ⟨w.heap.size, 0, none⟩ = some (Value.int .i64 s0) := (unhide HX4).cell 0
      have p1 : uw76.cell? ⟨w.heap.size, 1, none⟩ = some (Value.slice a0 Q0.length c0) := (unhide HX4).cell 1
      have hk0 : uw48.heap.size < uw76.heap.size := (unhide HX60).lt
      have hk1 : w.heap.size < uw76.heap.size := (unhide HX4).lt
      have LIVE := hide (fun w8 (hb : Below uw76.heap.size uw76 w8) => And.intro ((unhide HX4).below hb) (And.intro ((unhide HO52).below hb) (And.intro ((unhide HX60).below hb) ((unhide HO69).below hb))))
      have HOD := hide ((unhide HO52).at.below ((Below.refl uw76.heap.size uw76).drew) (Nat.le_refl _))
      go_wp2_with fail
      go_region_held3 (fun u => u.cell? ⟨uw48.heap.size, 0, none⟩ = some (Value.int .i64 s0) ∧ u.cell? ⟨uw48.heap.size, 1, none⟩ = some (Value.slice a54 Q0.length c55) ∧ u.cell? ⟨w.heap.size, 0, none⟩ = some (Value.int .i64 s0) ∧ u.cell? ⟨w.heap.size, 1, none⟩ = some (Value.slice a0 Q0.length c0))
        (first | go_keep | exact ⟨(hb9.cell (p := ⟨uw48.heap.size, 0, none⟩) l0).trans qr0, (hb9.cell (p := ⟨uw48.heap.size, 1, none⟩) l0).trans qr1, (hb9.cell (p := ⟨w.heap.size, 0, none⟩) l1).trans qp0, (hb9.cell (p := ⟨w.heap.size, 1, none⟩) l1).trans qp1⟩ | exact ⟨qr0, qr1, qp0, qp1⟩)
        (first
          | (go_at_call 12; refine (unhide TO0 _ hc78.drew).mono ?_; rintro e w8 ⟨⟨d8, rfl, ho8⟩, hb8⟩; have HE8 := hide ho8.at; have hs8 := ho8.at.shape; obtain ⟨a8, c8, rfl⟩ := hs8; have HO8 := hide (((unhide HOD).below hb8 (Nat.le_refl _)).mono (show uw76.heap.size ≤ w8.heap.size from hb8.size)); have qr0 := (hb8.cell (p := ⟨uw48.heap.size, 0, none⟩) hk0).trans r0; have qr1 := (hb8.cell (p := ⟨uw48.heap.size, 1, none⟩) hk0).trans r1; have qp0 := (hb8.cell (p := ⟨w.heap.size, 0, none⟩) hk1).trans p0; have qp1 := (hb8.cell (p := ⟨w.heap.size, 1, none⟩) hk1).trans p1; have l0 : uw48.heap.size < w8.heap.size := Nat.lt_of_lt_of_le hk0 hb8.size; have l1 : w.heap.size < w8.heap.size := Nat.lt_of_lt_of_le hk1 hb8.size; have hc8 : Below w.heap.size w w8 := hc78.drew.trans (hb8.mono hc78.size); have hb78 : Below uw76.heap.size uw76 w8 := (Below.refl uw76.heap.size uw76).drew.trans hb8; clear hb8)
          | (go_at_call 15; refine (unhide EQ0 w8 _ _ (unhide HO8) (unhide HE8)).mono ?_; rintro e w9 ⟨rfl, hb9⟩))
      have hb81 : Below uw76.heap.size uw76 w9 := hb78.trans (hb9.mono hb78.size)
      obtain ⟨zHX4, zHO52, zHX60, zHO69⟩ := unhide LIVE w9 hb81
      have HX4 := hide zHX4
      have HO52 := hide zHO52
      have HX60 := hide zHX60
      have HO69 := hide zHO69
      have hc82 : Below w.heap.size w w9 := hc78.trans (hb81.mono hc78.size)
      have hz83 : uw76.heap.size ≤ w9.heap.size := hb81.size
      obtain ⟨uw80, hwn⟩ : ∃ W, W = w9 := ⟨_, rfl⟩
      subst hwn
      clear hb78 hb81 hb9 hc8 LIVE HO8 HE8 HOD hk0 hk1 l0 l1 r0 r1 p0 p1 qr0 qr1 qp0 qp1 zHX4 zHO52 zHX60 zHO69
      go_wp2_with fail
      refine (unhide TO1 uw80 hc82).mono ?_
      rintro e uw86 ⟨⟨d84, rfl, ho85⟩, hb87⟩
      have HX4 := hide ((unhide HX4).below hb87)
      have HO52 := hide ((unhide HO52).below hb87)
      have HX60 := hide ((unhide HX60).below hb87)
      have HO69 := hide ((unhide HO69).below hb87)
      have hc88 : Below w.heap.size w uw86 := hc82.trans (hb87.mono hc82.size)
      have hz89 : uw80.heap.size ≤ uw86.heap.size := hb87.size
      clear hb87
      have HO91 := hide ho85
      have HB92 := hide ho85.blk
      have hs95 := ho85.at.shape
      obtain ⟨a93, c94, rfl⟩ := hs95
      clear ho85
      go_wp2_with fail
      refine (unhide EQ1 uw86 _ _ (unhide HO69).at (unhide HO91).at).mono ?_
      rintro e uw96 ⟨rfl, hb97⟩
      have HX4 := hide ((unhide HX4).below hb97)
      have HO52 := hide ((unhide HO52).below hb97)
      have HX60 := hide ((unhide HX60).below hb97)
      have HO69 := hide ((unhide HO69).below hb97)
      have HO91 := hide ((unhide HO91).below hb97)
      have hc98 : Below w.heap.size w uw96 := hc88.trans (hb97.mono hc88.size)
      have hz99 : uw86.heap.size ≤ uw96.heap.size := hb97.size
      clear hb97
      go_wp2
      go_ret
      exact ⟨rfl, hc98⟩

set_option maxRecDepth 100000 in
theorem lifted (os : Os) (started : os.Started) (H : Type) (enc : TypeId × Value → H) :
    ReturnsInHanded {} Try.checked os 5 .any (Rows.fnExactOddPartsSpec.pre6 enc Try.prog Try.f5 Rows.fnExactOddPartsRow.domain false) (Rows.fnExactOddPartsSpec.post enc Try.prog Try.f5 false true false false) := by
  refine returnsInHanded_of_change (C := Try.checked) own started (by kernel_rfl) Try.func5
    (ChangeSpec.witness6 (enc := enc) (C := Try.checked) false ⟨#[], #[.agg #[.int .i64 0, .slice none 0 0], .slice none 0 0], []⟩ 8 (by kernel_rfl) (by kernel_rfl) (by kernel_rfl) (by kernel_rfl)) ?_
  intro W base args ds gs before hval0 hW _ _
  have hval : ∀ (j : Nat) t v, Try.f5.params[j]? = some t → args[j]? = some v → Value.okWide Try.prog W .any base t v := hval0
  have hW' := hW
  obtain ⟨p, q, hA0, hV, rfl, hfz, hnd⟩ := hW
  have hA : DataW.TrodAll enc Try.prog W 0 (fun _ => true) true Try.f5.params.toList args.toList ds p := hA0
  rw [Try.params5] at hA hval
  obtain ⟨v0, vs0, d0, ds0, p0, q0, hargs, rfl, rfl, h0, r0⟩ := trodAll_cons hA
  obtain ⟨v1, vs1, d1, ds1, p1, q1, rfl, rfl, rfl, h1, r1⟩ := trodAll_cons r0
  obtain ⟨rfl, rfl, rfl⟩ := trodAll_nil r1
  obtain rfl : args = #[v0, v1] := by cases args; simp_all
  obtain ⟨rfl, rfl⟩ := trodVars_none hV
  have k0 := h0
  have lt0 : ∀ x ∈ p0, x.block < W.heap.size := by obtain ⟨m, hm⟩ := k0; exact DataW.trod_lt m _ _ _ hm
  obtain ⟨s0, Q0, hv0, hn0⟩ := graph_in (hval 0 24 v0 rfl rfl) h0
  have k1 := h1
  have lt1 : ∀ x ∈ p1, x.block < W.heap.size := by obtain ⟨m, hm⟩ := k1; exact DataW.trod_lt m _ _ _ hm
  obtain ⟨K1, hv1, hn1⟩ := ints_in (hval 1 26 v1 rfl rfl) h1
  clear hA0 hval0
  refine (walk v0 s0 Q0 v1 K1 W hv0 hn0 hv1 hn1).mono fun e W' ⟨he, bel⟩ => ?_
  subst he
  exact ⟨_, rfl, _, _, _, [], _, [], hW', trodAll_mk1 (shut_bool Try.underlying4 _), (trodAll_cons_mk (Below.trod laidOut (by kernel_rfl) (of_decide_eq_true (by kernel_rfl)) k0 bel lt0) (trodAll_cons_mk (Below.trod laidOut (by kernel_rfl) (of_decide_eq_true (by kernel_rfl)) k1 bel lt1) trodAll_mk0)), rfl, bel.frame _, fun h => by cases h⟩

theorem over : Rows.fnExactOddPartsRow.holds Try.pinned (OpenSpec.ofChange Rows.fnExactOddPartsSpec) :=
  OpenClaim.holds_of_wide 5 Try.f5 rfl rfl rfl rfl rfl rfl rfl ⟨rfl, rfl, rfl, rfl, rfl⟩ rfl rfl rfl rfl rfl (by kernel_rfl) Try.func5 (by kernel_rfl)
    (of_decide_eq_true (by kernel_rfl)) (by unfold Func.isWrapper; first | (rw [if_pos (by decide +kernel)]; kernel_rfl) | (rw [if_neg (by decide +kernel)]; exact ⟨rfl, rfl⟩))
    (fun os started H enc _ => lifted os started H enc)

end Go.Proofs.Ytejfknkcakeakaa.fnExactOddParts
namespace Go.Proofs.Ytejfknkcakeakaa
theorem fnExactOddParts_holds : Rows.FnExactOddPartsSaid := fnExactOddParts.over
#print axioms fnExactOddParts_holds
end Go.Proofs.Ytejfknkcakeakaa
