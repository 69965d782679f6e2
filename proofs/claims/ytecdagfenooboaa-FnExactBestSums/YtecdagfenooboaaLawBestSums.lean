/-
  impl.BestSums answers as the specification; it writes into no argument, and its answer owns its memory. Walk and frame written by program (tools/exactlaw.py).
-/
import Derived.Test.YtecdagfenooboaaRows
import Derived.Test.YtecdagfenooboaaGrImpl9
import Derived.Test.YtecdagfenooboaaChecked
import Derived.Deep.RegionHeld3
import Derived.ShutString
import Derived.Below
namespace Go.Proofs.Ytecdagfenooboaa.fnExactBestSums
open Go.Proofs.Ytecdagfenooboaa Go.Proofs.Ytecdagfenooboaa.Gr
open Go.ChangeShapes Go.WideShapes Go.ChangeAt Go.RowKit

theorem own : ownKnob Try.prog.godebug = none := by kernel_rfl

theorem laidOut : laidOutB Try.prog = true := by kernel_rfl

set_option maxRecDepth 100000 in
set_option maxHeartbeats 4000000 in
theorem walk (v0 : Value) (s0 : Int) (Q0 : List EdgeI) (w : World) (hv0 : GrAt w v0 w.heap.size s0 Q0) (hn0 : Q0.length ≤ 9223372036854775807) :
    Calls Try.prog 6 #[v0] w fun e w' => e = .returned (.bool true) ∧ Below w.heap.size w w' := by
  have HV0 := hide hv0
  have HN0 := hide hn0
  have sh0 := hv0.shape
  obtain ⟨a0, c0, rfl⟩ := sh0
  clear hv0 hn0
  obtain ⟨W1, hW2⟩ : ∃ W, W = w.alloc (Obj.cells #[Value.int .i64 s0, Value.slice a0 Q0.length c0] 24) := ⟨_, rfl⟩
  have hb3 : Below w.heap.size w W1 := by rw [hW2]; exact below_new _ _
  have HX4 : Hid (CBox W1 w.heap.size #[Value.int .i64 s0, Value.slice a0 Q0.length c0] 24) := by show CBox _ _ _ _; rw [hW2]; exact CBox.new _ _ _
  have hc5 : Below w.heap.size w W1 := hb3
  have hz6 : w.heap.size < W1.heap.size := by rw [hW2]; simp
  clear hb3
  have p7 : W1.cell? ⟨w.heap.size, 0, none⟩ = some (Value.int .i64 s0) := (unhide HX4).cell 0
  have p8 : W1.cell? ⟨w.heap.size, 1, none⟩ = some (Value.slice a0 Q0.length c0) := (unhide HX4).cell 1
  (try rw [hW2] at p7 p8)
  go_enter Try.func6, Try.ntmps6
  go_wp2_with fail
  rw [← hW2]
  clear hW2 p7 p8
  refine (szGraph_gen _ w.heap.size s0 Q0 1048576 (by omega) (by omega) (unhide HN0) W1 ((unhide HV0).below hc5 (Nat.le_refl _))).mono ?_
  rintro e uw10 ⟨⟨z9, rfl, hxz9, hyz9⟩, hb11⟩
  have HX4 := hide ((unhide HX4).below hb11)
  have hc12 : Below w.heap.size w uw10 := hc5.trans (hb11.mono hc5.size)
  have hz13 : W1.heap.size ≤ uw10.heap.size := hb11.size
  clear hb11
  by_cases hnegz9 : z9 < 0
  · go_wp2
    go_ret
    exact ⟨rfl, hc12⟩
  · have htz9 := hyz9 (by omega)
    have hb0 : Q0.length ≤ 1048576 := by omega
    have TO0 := hide (fun w1 (hb : Below w.heap.size w w1) => toGraph_any _ w.heap.size s0 Q0 hb0 w1 hb.size ((unhide HV0).below hb (Nat.le_refl _)))
    have EQ0 := hide (fun w1 d d1 (hd : GrAt w1 d w1.heap.size s0 Q0) (hd1 : GrAt w1 d1 w1.heap.size s0 Q0) => eqGraph_same d d1 w1.heap.size w1.heap.size s0 Q0 hb0 w1 (Nat.le_refl _) (Nat.le_refl _) hd hd1)
    have SP := hide (fun w1 d0 (hd0 : GrAt w1 d0 w1.heap.size s0 Q0) => specBestSums_gen w1.heap.size d0 s0 Q0 hb0 w1 (Nat.le_refl _) hd0)
    have IM := hide (fun w1 d0 (hd0 : GrAt w1 d0 w1.heap.size s0 Q0) => implBestSums_gen w1.heap.size d0 s0 Q0 hb0 w1 (Nat.le_refl _) hd0)
    generalize bestR s0 Q0 = xr0 at SP IM
    generalize graphOk s0 Q0 = ret1 at SP IM
    have hne1 : (ret1 != ret1) = false := by simp
    have ER0 := hide (fun w1 d d1 (hd : SuAt w1 d w1.heap.size xr0) (hd1 : SuAt w1 d1 w1.heap.size xr0) => eqSums_gen d d1 w1.heap.size w1.heap.size xr0 w1 (Nat.le_refl _) (Nat.le_refl _) hd hd1)
    clear hb0
    have p14 : uw10.cell? ⟨w.heap.size, 0, none⟩ = some (Value.int .i64 s0) := (unhide HX4).cell 0
    have p15 : uw10.cell? ⟨w.heap.size, 1, none⟩ = some (Value.slice a0 Q0.length c0) := (unhide HX4).cell 1
    go_wp2_with fail
    clear p14 p15
    refine (unhide TO0 uw10 hc12).mono ?_
    rintro e uw18 ⟨⟨d16, rfl, ho17⟩, hb19⟩
    have HX4 := hide ((unhide HX4).below hb19)
    have hc20 : Below w.heap.size w uw18 := hc12.trans (hb19.mono hc12.size)
    have hz21 : uw10.heap.size ≤ uw18.heap.size := hb19.size
    clear hb19
    have HO23 := hide ho17
    have HB24 := hide ho17.blk
    have hs27 := ho17.at.shape
    obtain ⟨a25, c26, rfl⟩ := hs27
    clear ho17
    go_wp2_with fail
    refine (unhide SP uw18 _ (unhide HO23).at).mono ?_
    rintro e uw30 ⟨⟨d28, rfl, ho29⟩, hb31⟩
    have HX4 := hide ((unhide HX4).below hb31)
    have HO23 := hide ((unhide HO23).below hb31)
    have hc32 : Below w.heap.size w uw30 := hc20.trans (hb31.mono hc20.size)
    have hz33 : uw18.heap.size ≤ uw30.heap.size := hb31.size
    clear hb31
    have HO34 := hide ho29
    unfold SuOwn at ho29
    subst ho29
    (try unfold SumsI.v)
    obtain ⟨W39, hW40⟩ : ∃ W, W = uw30.alloc (Obj.cells #[Value.int .i64 xr0.W1, Value.int .i64 xr0.W2, Value.int .i64 xr0.W3] 39) := ⟨_, rfl⟩
    have hb41 : Below uw30.heap.size uw30 W39 := by rw [hW40]; exact below_new _ _
    have HX4 := hide ((unhide HX4).below hb41)
    have HO34 := hide ((unhide HO34).below hb41)
    have HX42 : Hid (CBox W39 uw30.heap.size #[Value.int .i64 xr0.W1, Value.int .i64 xr0.W2, Value.int .i64 xr0.W3] 39) := by show CBox _ _ _ _; rw [hW40]; exact CBox.new _ _ _
    have hc43 : Below w.heap.size w W39 := hc32.trans (hb41.mono hc32.size)
    have hz44 : uw30.heap.size < W39.heap.size := by rw [hW40]; simp
    clear hb41
    have p45 : W39.cell? ⟨w.heap.size, 0, none⟩ = some (Value.int .i64 s0) := (unhide HX4).cell 0
    have p46 : W39.cell? ⟨w.heap.size, 1, none⟩ = some (Value.slice a0 Q0.length c0) := (unhide HX4).cell 1
    (try rw [hW40] at p45 p46)
    go_wp2_with fail
    rw [← hW40]
    clear hW40 p45 p46
    refine (unhide TO0 W39 hc43).mono ?_
    rintro e uw49 ⟨⟨d47, rfl, ho48⟩, hb50⟩
    have HX4 := hide ((unhide HX4).below hb50)
    have HO34 := hide ((unhide HO34).below hb50)
    have HX42 := hide ((unhide HX42).below hb50)
    have hc51 : Below w.heap.size w uw49 := hc43.trans (hb50.mono hc43.size)
    have hz52 : W39.heap.size ≤ uw49.heap.size := hb50.size
    clear hb50
    have HO53 := hide ho48
    have HB54 := hide ho48.blk
    have hs57 := ho48.at.shape
    obtain ⟨a55, c56, rfl⟩ := hs57
    clear ho48
    obtain ⟨W58, hW59⟩ : ∃ W, W = uw49.alloc (Obj.cells #[Value.int .i64 s0, Value.slice a55 Q0.length c56] 31) := ⟨_, rfl⟩
    have hb60 : Below uw49.heap.size uw49 W58 := by rw [hW59]; exact below_new _ _
    have HX4 := hide ((unhide HX4).below hb60)
    have HO34 := hide ((unhide HO34).below hb60)
    have HX42 := hide ((unhide HX42).below hb60)
    have HO53 := hide ((unhide HO53).below hb60)
    have HX61 : Hid (CBox W58 uw49.heap.size #[Value.int .i64 s0, Value.slice a55 Q0.length c56] 31) := by show CBox _ _ _ _; rw [hW59]; exact CBox.new _ _ _
    have hc62 : Below w.heap.size w W58 := hc51.trans (hb60.mono hc51.size)
    have hz63 : uw49.heap.size < W58.heap.size := by rw [hW59]; simp
    clear hb60
    go_wp2_with fail
    rw [← hW59]
    clear hW59
    refine (unhide IM W58 _ (unhide HO53).at).mono ?_
    rintro e uw66 ⟨⟨d64, rfl, ho65⟩, hb67⟩
    have HX4 := hide ((unhide HX4).below hb67)
    have HO34 := hide ((unhide HO34).below hb67)
    have HX42 := hide ((unhide HX42).below hb67)
    have HO53 := hide ((unhide HO53).below hb67)
    have HX61 := hide ((unhide HX61).below hb67)
    have hc68 : Below w.heap.size w uw66 := hc62.trans (hb67.mono hc62.size)
    have hz69 : W58.heap.size ≤ uw66.heap.size := hb67.size
    clear hb67
    have HO70 := hide ho65
    unfold SuOwn at ho65
    subst ho65
    (try unfold SumsI.v)
    obtain ⟨W75, hW76⟩ : ∃ W, W = uw66.alloc (Obj.cells #[Value.int .i64 xr0.W1, Value.int .i64 xr0.W2, Value.int .i64 xr0.W3] 39) := ⟨_, rfl⟩
    have hb77 : Below uw66.heap.size uw66 W75 := by rw [hW76]; exact below_new _ _
    have HX4 := hide ((unhide HX4).below hb77)
    have HO34 := hide ((unhide HO34).below hb77)
    have HX42 := hide ((unhide HX42).below hb77)
    have HO53 := hide ((unhide HO53).below hb77)
    have HX61 := hide ((unhide HX61).below hb77)
    have HO70 := hide ((unhide HO70).below hb77)
    have HX78 : Hid (CBox W75 uw66.heap.size #[Value.int .i64 xr0.W1, Value.int .i64 xr0.W2, Value.int .i64 xr0.W3] 39) := by show CBox _ _ _ _; rw [hW76]; exact CBox.new _ _ _
    have hc79 : Below w.heap.size w W75 := hc68.trans (hb77.mono hc68.size)
    have hz80 : uw66.heap.size < W75.heap.size := by rw [hW76]; simp
    clear hb77
    have p81 : W75.cell? ⟨uw66.heap.size, 0, none⟩ = some (Value.int .i64 xr0.W1) := (unhide HX78).cell 0
    have p82 : W75.cell? ⟨uw66.heap.size, 1, none⟩ = some (Value.int .i64 xr0.W2) := (unhide HX78).cell 1
    have p83 : W75.cell? ⟨uw66.heap.size, 2, none⟩ = some (Value.int .i64 xr0.W3) := (unhide HX78).cell 2
    have p84 : W75.cell? ⟨uw30.heap.size, 0, none⟩ = some (Value.int .i64 xr0.W1) := (unhide HX42).cell 0
    have p85 : W75.cell? ⟨uw30.heap.size, 1, none⟩ = some (Value.int .i64 xr0.W2) := (unhide HX42).cell 1
    have p86 : W75.cell? ⟨uw30.heap.size, 2, none⟩ = some (Value.int .i64 xr0.W3) := (unhide HX42).cell 2
    (try rw [hW76] at p81 p82 p83 p84 p85 p86)
    go_wp2_with fail
    rw [← hW76]
    clear hW76 p81 p82 p83 p84 p85 p86
    refine (unhide ER0 W75 _ _ (unhide HO70).at (unhide HO34).at).mono ?_
    rintro e uw87 ⟨rfl, hb88⟩
    have HX4 := hide ((unhide HX4).below hb88)
    have HO34 := hide ((unhide HO34).below hb88)
    have HX42 := hide ((unhide HX42).below hb88)
    have HO53 := hide ((unhide HO53).below hb88)
    have HX61 := hide ((unhide HX61).below hb88)
    have HO70 := hide ((unhide HO70).below hb88)
    have HX78 := hide ((unhide HX78).below hb88)
    have hc89 : Below w.heap.size w uw87 := hc79.trans (hb88.mono hc79.size)
    have hz90 : W75.heap.size ≤ uw87.heap.size := hb88.size
    clear hb88
    have r0 : uw87.cell? ⟨uw49.heap.size, 0, none⟩ = some (Value.int .i64 s0) := (unhide HX61).cell 0
    have r1 : uw87.cell? ⟨uw49.heap.size, 1, none⟩ = some (Value.slice a55 Q0.length c56) := (unhide HX61).cell 1
    have p0 : uw87.cell? ⟨w.heap.size, 0, none⟩ = some (Value.int .i64 s0) := (unhide HX4).cell 0
    have p1 : uw87.cell? ⟨w.heap.size, 1, none⟩ = some (Value.slice a0 Q0.length c0) := (unhide HX4).cell 1
    have hk0 : uw49.heap.size < uw87.heap.size := (unhide HX61).lt
    have hk1 : w.heap.size < uw87.heap.size := (unhide HX4).lt
    have LIVE := hide (fun w8 (hb : Below uw87.heap.size uw87 w8) => And.intro ((unhide HX4).below hb) (And.intro ((unhide HO34).below hb) (And.intro ((unhide HX42).below hb) (And.intro ((unhide HO53).below hb) (And.intro ((unhide HX61).below hb) (And.intro ((unhide HO70).below hb) ((unhide HX78).below hb)))))))
    have HOD := hide ((unhide HO53).at.below ((Below.refl uw87.heap.size uw87).drew) (Nat.le_refl _))
    go_wp2_with fail
    go_region_held3 (fun u => u.cell? ⟨uw49.heap.size, 0, none⟩ = some (Value.int .i64 s0) ∧ u.cell? ⟨uw49.heap.size, 1, none⟩ = some (Value.slice a55 Q0.length c56) ∧ u.cell? ⟨w.heap.size, 0, none⟩ = some (Value.int .i64 s0) ∧ u.cell? ⟨w.heap.size, 1, none⟩ = some (Value.slice a0 Q0.length c0))
      (first | go_keep | exact ⟨(hb9.cell (p := ⟨uw49.heap.size, 0, none⟩) l0).trans qr0, (hb9.cell (p := ⟨uw49.heap.size, 1, none⟩) l0).trans qr1, (hb9.cell (p := ⟨w.heap.size, 0, none⟩) l1).trans qp0, (hb9.cell (p := ⟨w.heap.size, 1, none⟩) l1).trans qp1⟩ | exact ⟨qr0, qr1, qp0, qp1⟩)
      (first
        | (go_at_call 12; refine (unhide TO0 _ hc89.drew).mono ?_; rintro e w8 ⟨⟨d8, rfl, ho8⟩, hb8⟩; have HE8 := hide ho8.at; have hs8 := ho8.at.shape; obtain ⟨a8, c8, rfl⟩ := hs8; have HO8 := hide (((unhide HOD).below hb8 (Nat.le_refl _)).mono (show uw87.heap.size ≤ w8.heap.size from hb8.size)); have qr0 := (hb8.cell (p := ⟨uw49.heap.size, 0, none⟩) hk0).trans r0; have qr1 := (hb8.cell (p := ⟨uw49.heap.size, 1, none⟩) hk0).trans r1; have qp0 := (hb8.cell (p := ⟨w.heap.size, 0, none⟩) hk1).trans p0; have qp1 := (hb8.cell (p := ⟨w.heap.size, 1, none⟩) hk1).trans p1; have l0 : uw49.heap.size < w8.heap.size := Nat.lt_of_lt_of_le hk0 hb8.size; have l1 : w.heap.size < w8.heap.size := Nat.lt_of_lt_of_le hk1 hb8.size; have hc8 : Below w.heap.size w w8 := hc89.drew.trans (hb8.mono hc89.size); have hb78 : Below uw87.heap.size uw87 w8 := (Below.refl uw87.heap.size uw87).drew.trans hb8; clear hb8)
        | (go_at_call 15; refine (unhide EQ0 w8 _ _ (unhide HO8) (unhide HE8)).mono ?_; rintro e w9 ⟨rfl, hb9⟩))
    have hb92 : Below uw87.heap.size uw87 w9 := hb78.trans (hb9.mono hb78.size)
    obtain ⟨zHX4, zHO34, zHX42, zHO53, zHX61, zHO70, zHX78⟩ := unhide LIVE w9 hb92
    have HX4 := hide zHX4
    have HO34 := hide zHO34
    have HX42 := hide zHX42
    have HO53 := hide zHO53
    have HX61 := hide zHX61
    have HO70 := hide zHO70
    have HX78 := hide zHX78
    have hc93 : Below w.heap.size w w9 := hc89.trans (hb92.mono hc89.size)
    have hz94 : uw87.heap.size ≤ w9.heap.size := hb92.size
    obtain ⟨uw91, hwn⟩ : ∃ W, W = w9 := ⟨_, rfl⟩
    subst hwn
    clear hb78 hb92 hb9 hc8 LIVE HO8 HE8 HOD hk0 hk1 l0 l1 r0 r1 p0 p1 qr0 qr1 qp0 qp1 zHX4 zHO34 zHX42 zHO53 zHX61 zHO70 zHX78
    go_wp2
    go_ret
    exact ⟨rfl, hc93⟩

set_option maxRecDepth 100000 in
theorem lifted (os : Os) (started : os.Started) (H : Type) (enc : TypeId × Value → H) :
    ReturnsInHanded {} Try.checked os 6 .any (Rows.fnExactBestSumsSpec.pre6 enc Try.prog Try.f6 Rows.fnExactBestSumsRow.domain false) (Rows.fnExactBestSumsSpec.post enc Try.prog Try.f6 false true false false) := by
  refine returnsInHanded_of_change (C := Try.checked) own started (by kernel_rfl) Try.func6
    (ChangeSpec.witness6 (enc := enc) (C := Try.checked) false ⟨#[], #[.agg #[.int .i64 0, .slice none 0 0]], []⟩ 8 (by kernel_rfl) (by kernel_rfl) (by kernel_rfl) (by kernel_rfl)) ?_
  intro W base args ds gs before hval0 hW _ _
  have hval : ∀ (j : Nat) t v, Try.f6.params[j]? = some t → args[j]? = some v → Value.okWide Try.prog W .any base t v := hval0
  have hW' := hW
  obtain ⟨p, q, hA0, hV, rfl, hfz, hnd⟩ := hW
  have hA : DataW.TrodAll enc Try.prog W 0 (fun _ => true) true Try.f6.params.toList args.toList ds p := hA0
  rw [Try.params6] at hA hval
  obtain ⟨v0, vs0, d0, ds0, p0, q0, hargs, rfl, rfl, h0, r0⟩ := trodAll_cons hA
  obtain ⟨rfl, rfl, rfl⟩ := trodAll_nil r0
  obtain rfl : args = #[v0] := by cases args; simp_all
  obtain ⟨rfl, rfl⟩ := trodVars_none hV
  have k0 := h0
  have lt0 : ∀ x ∈ p0, x.block < W.heap.size := by obtain ⟨m, hm⟩ := k0; exact DataW.trod_lt m _ _ _ hm
  obtain ⟨s0, Q0, hv0, hn0⟩ := graph_in (hval 0 24 v0 rfl rfl) h0
  clear hA0 hval0
  refine (walk v0 s0 Q0 W hv0 hn0).mono fun e W' ⟨he, bel⟩ => ?_
  subst he
  exact ⟨_, rfl, _, _, _, [], _, [], hW', trodAll_mk1 (shut_bool Try.underlying4 _), (trodAll_cons_mk (Below.trod laidOut (by kernel_rfl) (of_decide_eq_true (by kernel_rfl)) k0 bel lt0) trodAll_mk0), rfl, bel.frame _, fun h => by cases h⟩

theorem over : Rows.fnExactBestSumsRow.holds Try.pinned (OpenSpec.ofChange Rows.fnExactBestSumsSpec) :=
  OpenClaim.holds_of_wide 6 Try.f6 rfl rfl rfl rfl rfl rfl rfl ⟨rfl, rfl, rfl, rfl, rfl⟩ rfl rfl rfl rfl rfl (by kernel_rfl) Try.func6 (by kernel_rfl)
    (of_decide_eq_true (by kernel_rfl)) (by unfold Func.isWrapper; first | (rw [if_pos (by decide +kernel)]; kernel_rfl) | (rw [if_neg (by decide +kernel)]; exact ⟨rfl, rfl⟩))
    (fun os started H enc _ => lifted os started H enc)

end Go.Proofs.Ytecdagfenooboaa.fnExactBestSums
namespace Go.Proofs.Ytecdagfenooboaa
theorem fnExactBestSums_holds : Rows.FnExactBestSumsSaid := fnExactBestSums.over
#print axioms fnExactBestSums_holds
end Go.Proofs.Ytecdagfenooboaa
