/-
  impl.MatchOk answers as the specification; it writes into no argument, and its answer owns its memory. Walk and frame written by program (tools/exactlaw.py).
-/
import Derived.Test.YtecdagfenooboaaRows
import Derived.Test.YtecdagfenooboaaGrImpl9
import Derived.Test.YtecdagfenooboaaChecked
import Derived.Deep.RegionHeld3
import Derived.ShutString
import Derived.Below
namespace Go.Proofs.Ytecdagfenooboaa.fnExactMatchOk
open Go.Proofs.Ytecdagfenooboaa Go.Proofs.Ytecdagfenooboaa.Gr
open Go.ChangeShapes Go.WideShapes Go.ChangeAt Go.RowKit

theorem own : ownKnob Try.prog.godebug = none := by kernel_rfl

theorem laidOut : laidOutB Try.prog = true := by kernel_rfl

set_option maxRecDepth 100000 in
set_option maxHeartbeats 4000000 in
theorem walk (v0 : Value) (s0 : Int) (Q0 : List EdgeI) (v1 : Value) (M1 : List CoupleI) (w : World) (hv0 : GrAt w v0 w.heap.size s0 Q0) (hn0 : Q0.length ≤ 9223372036854775807) (hv1 : CoAt w v1 w.heap.size M1) (hn1 : M1.length ≤ 9223372036854775807) :
    Calls Try.prog 3 #[v0, v1] w fun e w' => e = .returned (.bool true) ∧ Below w.heap.size w w' := by
  have HV0 := hide hv0
  have HV1 := hide hv1
  have HN0 := hide hn0
  have HN1 := hide hn1
  have sh0 := hv0.shape
  obtain ⟨a0, c0, rfl⟩ := sh0
  have sh1 := hv1.shape
  obtain ⟨a1, c1, rfl⟩ := sh1
  clear hv0 hv1 hn0 hn1
  obtain ⟨W1, hW2⟩ : ∃ W, W = w.alloc (Obj.cells #[Value.int .i64 s0, Value.slice a0 Q0.length c0] 24) := ⟨_, rfl⟩
  have hb3 : Below w.heap.size w W1 := by rw [hW2]; exact below_new _ _
  have HX4 : Hid (CBox W1 w.heap.size #[Value.int .i64 s0, Value.slice a0 Q0.length c0] 24) := by show CBox _ _ _ _; rw [hW2]; exact CBox.new _ _ _
  have hc5 : Below w.heap.size w W1 := hb3
  have hz6 : w.heap.size < W1.heap.size := by rw [hW2]; simp
  clear hb3
  have p7 : W1.cell? ⟨w.heap.size, 0, none⟩ = some (Value.int .i64 s0) := (unhide HX4).cell 0
  have p8 : W1.cell? ⟨w.heap.size, 1, none⟩ = some (Value.slice a0 Q0.length c0) := (unhide HX4).cell 1
  (try rw [hW2] at p7 p8)
  go_enter Try.func3, Try.ntmps3
  go_wp2_with fail
  rw [← hW2]
  clear hW2 p7 p8
  refine (szGraph_gen _ w.heap.size s0 Q0 1048576 (by omega) (by omega) (unhide HN0) W1 ((unhide HV0).below hc5 (Nat.le_refl _))).mono ?_
  rintro e uw10 ⟨⟨z9, rfl, hxz9, hyz9⟩, hb11⟩
  have HX4 := hide ((unhide HX4).below hb11)
  have hc12 : Below w.heap.size w uw10 := hc5.trans (hb11.mono hc5.size)
  have hz13 : W1.heap.size ≤ uw10.heap.size := hb11.size
  clear hb11
  by_cases hnegz9 : z9 < 0
  · go_wp2
    go_ret
    exact ⟨rfl, hc12⟩
  · have htz9 := hyz9 (by omega)
    go_wp2_with fail
    refine (szCoupleS_gen _ w.heap.size M1 z9 (by omega) (by omega) (unhide HN1) uw10 ((unhide HV1).below hc12 (Nat.le_refl _))).mono ?_
    rintro e uw15 ⟨⟨z14, rfl, hxz14, hyz14⟩, hb16⟩
    have HX4 := hide ((unhide HX4).below hb16)
    have hc17 : Below w.heap.size w uw15 := hc12.trans (hb16.mono hc12.size)
    have hz18 : uw10.heap.size ≤ uw15.heap.size := hb16.size
    clear hb16
    by_cases hnegz14 : z14 < 0
    · go_wp2
      go_ret
      exact ⟨rfl, hc17⟩
    · have htz14 := hyz14 (by omega)
      have hb0 : Q0.length ≤ 1048576 := by omega
      have hb1 : M1.length ≤ 1048576 := by omega
      have TO0 := hide (fun w1 (hb : Below w.heap.size w w1) => toGraph_any _ w.heap.size s0 Q0 hb0 w1 hb.size ((unhide HV0).below hb (Nat.le_refl _)))
      have EQ0 := hide (fun w1 d d1 (hd : GrAt w1 d w1.heap.size s0 Q0) (hd1 : GrAt w1 d1 w1.heap.size s0 Q0) => eqGraph_same d d1 w1.heap.size w1.heap.size s0 Q0 hb0 w1 (Nat.le_refl _) (Nat.le_refl _) hd hd1)
      have TO1 := hide (fun w1 (hb : Below w.heap.size w w1) => toCoupleS_gen _ w.heap.size M1 hb1 w1 hb.size ((unhide HV1).below hb (Nat.le_refl _)))
      have EQ1 := hide (fun w1 d d1 (hd : CoAt w1 d w1.heap.size M1) (hd1 : CoAt w1 d1 w1.heap.size M1) => eqCoupleS_gen d d1 w1.heap.size w1.heap.size M1 hb1 w1 (Nat.le_refl _) (Nat.le_refl _) hd hd1)
      have SP := hide (fun w1 d0 (hd0 : GrAt w1 d0 w1.heap.size s0 Q0) d1 (hd1 : CoAt w1 d1 w1.heap.size M1) => specMatch_gen w1.heap.size d0 s0 Q0 d1 M1 hb0 hb1 w1 (Nat.le_refl _) hd0 hd1)
      have IM := hide (fun w1 d0 (hd0 : GrAt w1 d0 w1.heap.size s0 Q0) d1 (hd1 : CoAt w1 d1 w1.heap.size M1) => implMatch_gen w1.heap.size d0 s0 Q0 d1 M1 hb0 hb1 w1 (Nat.le_refl _) hd0 hd1)
      generalize matchOk s0 Q0 M1 = ret0 at SP IM
      have hne0 : (ret0 != ret0) = false := by simp
      clear hb0 hb1
      have p19 : uw15.cell? ⟨w.heap.size, 0, none⟩ = some (Value.int .i64 s0) := (unhide HX4).cell 0
      have p20 : uw15.cell? ⟨w.heap.size, 1, none⟩ = some (Value.slice a0 Q0.length c0) := (unhide HX4).cell 1
      go_wp2_with fail
      clear p19 p20
      refine (unhide TO0 uw15 hc17).mono ?_
      rintro e uw23 ⟨⟨d21, rfl, ho22⟩, hb24⟩
      have HX4 := hide ((unhide HX4).below hb24)
      have hc25 : Below w.heap.size w uw23 := hc17.trans (hb24.mono hc17.size)
      have hz26 : uw15.heap.size ≤ uw23.heap.size := hb24.size
      clear hb24
      have HO28 := hide ho22
      have HB29 := hide ho22.blk
      have hs32 := ho22.at.shape
      obtain ⟨a30, c31, rfl⟩ := hs32
      clear ho22
      go_wp2_with fail
      refine (unhide TO1 uw23 hc25).mono ?_
      rintro e uw35 ⟨⟨d33, rfl, ho34⟩, hb36⟩
      have HX4 := hide ((unhide HX4).below hb36)
      have HO28 := hide ((unhide HO28).below hb36)
      have hc37 : Below w.heap.size w uw35 := hc25.trans (hb36.mono hc25.size)
      have hz38 : uw23.heap.size ≤ uw35.heap.size := hb36.size
      clear hb36
      have HO40 := hide ho34
      have HB41 := hide ho34.blk
      have hs44 := ho34.at.shape
      obtain ⟨a42, c43, rfl⟩ := hs44
      clear ho34
      go_wp2_with fail
      refine (unhide SP uw35 _ (unhide HO28).at _ (unhide HO40).at).mono ?_
      rintro e uw45 ⟨rfl, hb46⟩
      have HX4 := hide ((unhide HX4).below hb46)
      have HO28 := hide ((unhide HO28).below hb46)
      have HO40 := hide ((unhide HO40).below hb46)
      have hc47 : Below w.heap.size w uw45 := hc37.trans (hb46.mono hc37.size)
      have hz48 : uw35.heap.size ≤ uw45.heap.size := hb46.size
      clear hb46
      have p49 : uw45.cell? ⟨w.heap.size, 0, none⟩ = some (Value.int .i64 s0) := (unhide HX4).cell 0
      have p50 : uw45.cell? ⟨w.heap.size, 1, none⟩ = some (Value.slice a0 Q0.length c0) := (unhide HX4).cell 1
      go_wp2_with fail
      clear p49 p50
      refine (unhide TO0 uw45 hc47).mono ?_
      rintro e uw53 ⟨⟨d51, rfl, ho52⟩, hb54⟩
      have HX4 := hide ((unhide HX4).below hb54)
      have hc55 : Below w.heap.size w uw53 := hc47.trans (hb54.mono hc47.size)
      have hz56 : uw45.heap.size ≤ uw53.heap.size := hb54.size
      clear hb54
      have HO57 := hide ho52
      have HB58 := hide ho52.blk
      have hs61 := ho52.at.shape
      obtain ⟨a59, c60, rfl⟩ := hs61
      clear ho52
      obtain ⟨W62, hW63⟩ : ∃ W, W = uw53.alloc (Obj.cells #[Value.int .i64 s0, Value.slice a59 Q0.length c60] 31) := ⟨_, rfl⟩
      have hb64 : Below uw53.heap.size uw53 W62 := by rw [hW63]; exact below_new _ _
      have HX4 := hide ((unhide HX4).below hb64)
      have HO57 := hide ((unhide HO57).below hb64)
      have HX65 : Hid (CBox W62 uw53.heap.size #[Value.int .i64 s0, Value.slice a59 Q0.length c60] 31) := by show CBox _ _ _ _; rw [hW63]; exact CBox.new _ _ _
      have hc66 : Below w.heap.size w W62 := hc55.trans (hb64.mono hc55.size)
      have hz67 : uw53.heap.size < W62.heap.size := by rw [hW63]; simp
      clear hb64
      go_wp2_with fail
      rw [← hW63]
      clear hW63
      refine (unhide TO1 W62 hc66).mono ?_
      rintro e uw70 ⟨⟨d68, rfl, ho69⟩, hb71⟩
      have HX4 := hide ((unhide HX4).below hb71)
      have HO57 := hide ((unhide HO57).below hb71)
      have HX65 := hide ((unhide HX65).below hb71)
      have hc72 : Below w.heap.size w uw70 := hc66.trans (hb71.mono hc66.size)
      have hz73 : W62.heap.size ≤ uw70.heap.size := hb71.size
      clear hb71
      have HO74 := hide ho69
      have HB75 := hide ho69.blk
      have hs78 := ho69.at.shape
      obtain ⟨a76, c77, rfl⟩ := hs78
      clear ho69
      have p79 : uw70.cell? ⟨uw53.heap.size, 0, none⟩ = some (Value.int .i64 s0) := (unhide HX65).cell 0
      have p80 : uw70.cell? ⟨uw53.heap.size, 1, none⟩ = some (Value.slice a59 Q0.length c60) := (unhide HX65).cell 1
      go_wp2_with fail
      clear p79 p80
      refine (unhide IM uw70 _ (unhide HO57).at _ (unhide HO74).at).mono ?_
      rintro e uw81 ⟨rfl, hb82⟩
      have HX4 := hide ((unhide HX4).below hb82)
      have HO57 := hide ((unhide HO57).below hb82)
      have HX65 := hide ((unhide HX65).below hb82)
      have HO74 := hide ((unhide HO74).below hb82)
      have hc83 : Below w.heap.size w uw81 := hc72.trans (hb82.mono hc72.size)
      have hz84 : uw70.heap.size ≤ uw81.heap.size := hb82.size
      clear hb82
      have r0 : uw81.cell? ⟨uw53.heap.size, 0, none⟩ = some (Value.int .i64 s0) := (unhide HX65).cell 0
      have r1 : uw81.cell? ⟨uw53.heap.size, 1, none⟩ = some (Value.slice a59 Q0.length c60) := (unhide HX65).cell 1
      have p0 : uw81.cell? ⟨w.heap.size, 0, none⟩ = some (Value.int .i64 s0) := (unhide HX4).cell 0
      have p1 : uw81.cell? ⟨w.heap.size, 1, none⟩ = some (Value.slice a0 Q0.length c0) := (unhide HX4).cell 1
      have hk0 : uw53.heap.size < uw81.heap.size := (unhide HX65).lt
      have hk1 : w.heap.size < uw81.heap.size := (unhide HX4).lt
      have LIVE := hide (fun w8 (hb : Below uw81.heap.size uw81 w8) => And.intro ((unhide HX4).below hb) (And.intro ((unhide HO57).below hb) (And.intro ((unhide HX65).below hb) ((unhide HO74).below hb))))
      have HOD := hide ((unhide HO57).at.below ((Below.refl uw81.heap.size uw81).drew) (Nat.le_refl _))
      go_wp2_with fail
      go_region_held3 (fun u => u.cell? ⟨uw53.heap.size, 0, none⟩ = some (Value.int .i64 s0) ∧ u.cell? ⟨uw53.heap.size, 1, none⟩ = some (Value.slice a59 Q0.length c60) ∧ u.cell? ⟨w.heap.size, 0, none⟩ = some (Value.int .i64 s0) ∧ u.cell? ⟨w.heap.size, 1, none⟩ = some (Value.slice a0 Q0.length c0))
        (first | go_keep | exact ⟨(hb9.cell (p := ⟨uw53.heap.size, 0, none⟩) l0).trans qr0, (hb9.cell (p := ⟨uw53.heap.size, 1, none⟩) l0).trans qr1, (hb9.cell (p := ⟨w.heap.size, 0, none⟩) l1).trans qp0, (hb9.cell (p := ⟨w.heap.size, 1, none⟩) l1).trans qp1⟩ | exact ⟨qr0, qr1, qp0, qp1⟩)
        (first
          | (go_at_call 12; refine (unhide TO0 _ hc83.drew).mono ?_; rintro e w8 ⟨⟨d8, rfl, ho8⟩, hb8⟩; have HE8 := hide ho8.at; have hs8 := ho8.at.shape; obtain ⟨a8, c8, rfl⟩ := hs8; have HO8 := hide (((unhide HOD).below hb8 (Nat.le_refl _)).mono (show uw81.heap.size ≤ w8.heap.size from hb8.size)); have qr0 := (hb8.cell (p := ⟨uw53.heap.size, 0, none⟩) hk0).trans r0; have qr1 := (hb8.cell (p := ⟨uw53.heap.size, 1, none⟩) hk0).trans r1; have qp0 := (hb8.cell (p := ⟨w.heap.size, 0, none⟩) hk1).trans p0; have qp1 := (hb8.cell (p := ⟨w.heap.size, 1, none⟩) hk1).trans p1; have l0 : uw53.heap.size < w8.heap.size := Nat.lt_of_lt_of_le hk0 hb8.size; have l1 : w.heap.size < w8.heap.size := Nat.lt_of_lt_of_le hk1 hb8.size; have hc8 : Below w.heap.size w w8 := hc83.drew.trans (hb8.mono hc83.size); have hb78 : Below uw81.heap.size uw81 w8 := (Below.refl uw81.heap.size uw81).drew.trans hb8; clear hb8)
          | (go_at_call 15; refine (unhide EQ0 w8 _ _ (unhide HO8) (unhide HE8)).mono ?_; rintro e w9 ⟨rfl, hb9⟩))
      have hb86 : Below uw81.heap.size uw81 w9 := hb78.trans (hb9.mono hb78.size)
      obtain ⟨zHX4, zHO57, zHX65, zHO74⟩ := unhide LIVE w9 hb86
      have HX4 := hide zHX4
      have HO57 := hide zHO57
      have HX65 := hide zHX65
      have HO74 := hide zHO74
      have hc87 : Below w.heap.size w w9 := hc83.trans (hb86.mono hc83.size)
      have hz88 : uw81.heap.size ≤ w9.heap.size := hb86.size
      obtain ⟨uw85, hwn⟩ : ∃ W, W = w9 := ⟨_, rfl⟩
      subst hwn
      clear hb78 hb86 hb9 hc8 LIVE HO8 HE8 HOD hk0 hk1 l0 l1 r0 r1 p0 p1 qr0 qr1 qp0 qp1 zHX4 zHO57 zHX65 zHO74
      go_wp2_with fail
      refine (unhide TO1 uw85 hc87).mono ?_
      rintro e uw91 ⟨⟨d89, rfl, ho90⟩, hb92⟩
      have HX4 := hide ((unhide HX4).below hb92)
      have HO57 := hide ((unhide HO57).below hb92)
      have HX65 := hide ((unhide HX65).below hb92)
      have HO74 := hide ((unhide HO74).below hb92)
      have hc93 : Below w.heap.size w uw91 := hc87.trans (hb92.mono hc87.size)
      have hz94 : uw85.heap.size ≤ uw91.heap.size := hb92.size
      clear hb92
      have HO96 := hide ho90
      have HB97 := hide ho90.blk
      have hs100 := ho90.at.shape
      obtain ⟨a98, c99, rfl⟩ := hs100
      clear ho90
      go_wp2_with fail
      refine (unhide EQ1 uw91 _ _ (unhide HO74).at (unhide HO96).at).mono ?_
      rintro e uw101 ⟨rfl, hb102⟩
      have HX4 := hide ((unhide HX4).below hb102)
      have HO57 := hide ((unhide HO57).below hb102)
      have HX65 := hide ((unhide HX65).below hb102)
      have HO74 := hide ((unhide HO74).below hb102)
      have HO96 := hide ((unhide HO96).below hb102)
      have hc103 : Below w.heap.size w uw101 := hc93.trans (hb102.mono hc93.size)
      have hz104 : uw91.heap.size ≤ uw101.heap.size := hb102.size
      clear hb102
      go_wp2
      go_ret
      exact ⟨rfl, hc103⟩

set_option maxRecDepth 100000 in
theorem lifted (os : Os) (started : os.Started) (H : Type) (enc : TypeId × Value → H) :
    ReturnsInHanded {} Try.checked os 3 .any (Rows.fnExactMatchOkSpec.pre6 enc Try.prog Try.f3 Rows.fnExactMatchOkRow.domain false) (Rows.fnExactMatchOkSpec.post enc Try.prog Try.f3 false true false false) := by
  refine returnsInHanded_of_change (C := Try.checked) own started (by kernel_rfl) Try.func3
    (ChangeSpec.witness6 (enc := enc) (C := Try.checked) false ⟨#[], #[.agg #[.int .i64 0, .slice none 0 0], .slice none 0 0], []⟩ 8 (by kernel_rfl) (by kernel_rfl) (by kernel_rfl) (by kernel_rfl)) ?_
  intro W base args ds gs before hval0 hW _ _
  have hval : ∀ (j : Nat) t v, Try.f3.params[j]? = some t → args[j]? = some v → Value.okWide Try.prog W .any base t v := hval0
  have hW' := hW
  obtain ⟨p, q, hA0, hV, rfl, hfz, hnd⟩ := hW
  have hA : DataW.TrodAll enc Try.prog W 0 (fun _ => true) true Try.f3.params.toList args.toList ds p := hA0
  rw [Try.params3] at hA hval
  obtain ⟨v0, vs0, d0, ds0, p0, q0, hargs, rfl, rfl, h0, r0⟩ := trodAll_cons hA
  obtain ⟨v1, vs1, d1, ds1, p1, q1, rfl, rfl, rfl, h1, r1⟩ := trodAll_cons r0
  obtain ⟨rfl, rfl, rfl⟩ := trodAll_nil r1
  obtain rfl : args = #[v0, v1] := by cases args; simp_all
  obtain ⟨rfl, rfl⟩ := trodVars_none hV
  have k0 := h0
  have lt0 : ∀ x ∈ p0, x.block < W.heap.size := by obtain ⟨m, hm⟩ := k0; exact DataW.trod_lt m _ _ _ hm
  obtain ⟨s0, Q0, hv0, hn0⟩ := graph_in (hval 0 24 v0 rfl rfl) h0
  have k1 := h1
  have lt1 : ∀ x ∈ p1, x.block < W.heap.size := by obtain ⟨m, hm⟩ := k1; exact DataW.trod_lt m _ _ _ hm
  obtain ⟨M1, hv1, hn1⟩ := couples_in (hval 1 25 v1 rfl rfl) h1
  clear hA0 hval0
  refine (walk v0 s0 Q0 v1 M1 W hv0 hn0 hv1 hn1).mono fun e W' ⟨he, bel⟩ => ?_
  subst he
  exact ⟨_, rfl, _, _, _, [], _, [], hW', trodAll_mk1 (shut_bool Try.underlying4 _), (trodAll_cons_mk (Below.trod laidOut (by kernel_rfl) (of_decide_eq_true (by kernel_rfl)) k0 bel lt0) (trodAll_cons_mk (Below.trod laidOut (by kernel_rfl) (of_decide_eq_true (by kernel_rfl)) k1 bel lt1) trodAll_mk0)), rfl, bel.frame _, fun h => by cases h⟩

theorem over : Rows.fnExactMatchOkRow.holds Try.pinned (OpenSpec.ofChange Rows.fnExactMatchOkSpec) :=
  OpenClaim.holds_of_wide 3 Try.f3 rfl rfl rfl rfl rfl rfl rfl ⟨rfl, rfl, rfl, rfl, rfl⟩ rfl rfl rfl rfl rfl (by kernel_rfl) Try.func3 (by kernel_rfl)
    (of_decide_eq_true (by kernel_rfl)) (by unfold Func.isWrapper; first | (rw [if_pos (by decide +kernel)]; kernel_rfl) | (rw [if_neg (by decide +kernel)]; exact ⟨rfl, rfl⟩))
    (fun os started H enc _ => lifted os started H enc)

end Go.Proofs.Ytecdagfenooboaa.fnExactMatchOk
namespace Go.Proofs.Ytecdagfenooboaa
theorem fnExactMatchOk_holds : Rows.FnExactMatchOkSaid := fnExactMatchOk.over
#print axioms fnExactMatchOk_holds
end Go.Proofs.Ytecdagfenooboaa
