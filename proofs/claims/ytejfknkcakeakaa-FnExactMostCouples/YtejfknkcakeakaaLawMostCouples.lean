/-
  impl.MostCouples answers as the specification; it writes into no argument, and its answer owns its memory. Walk and frame written by program (tools/exactlaw.py).
-/
import Derived.Test.YtejfknkcakeakaaRows
import Derived.Test.YtejfknkcakeakaaLkC
import Derived.Test.YtejfknkcakeakaaChecked
import Derived.Deep.RegionHeld3
import Derived.ShutString
import Derived.Below
namespace Go.Proofs.Ytejfknkcakeakaa.fnExactMostCouples
open Go.Proofs.Ytejfknkcakeakaa Go.Proofs.Ytejfknkcakeakaa.Gr
open Go.ChangeShapes Go.WideShapes Go.ChangeAt Go.RowKit
open Go.ChangeMaps (open_string shut_string)

theorem own : ownKnob Try.prog.godebug = none := by kernel_rfl

theorem laidOut : laidOutB Try.prog = true := by kernel_rfl

set_option maxRecDepth 100000 in
set_option maxHeartbeats 4000000 in
theorem walk (v0 : Value) (s0 : Int) (Q0 : List EdgeI) (w : World) (hv0 : GrAt w v0 w.heap.size s0 Q0) (hn0 : Q0.length ≤ 9223372036854775807) :
    Calls Try.prog 6 #[v0] w fun e w' => e = .returned (.bool true) ∧ Below w.heap.size w w' := by
  have HV0 := hide hv0
  have HN0 := hide hn0
  have sh0 := hv0.shape
  obtain ⟨a0, c0, rfl⟩ := sh0
  clear hv0 hn0
  obtain ⟨W1, hW2⟩ : ∃ W, W = w.alloc (Obj.cells #[Value.int .i64 s0, Value.slice a0 Q0.length c0] 24) := ⟨_, rfl⟩
  have hb3 : Below w.heap.size w W1 := by rw [hW2]; exact below_new _ _
  have HX4 : Hid (CBox W1 w.heap.size #[Value.int .i64 s0, Value.slice a0 Q0.length c0] 24) := by show CBox _ _ _ _; rw [hW2]; exact CBox.new _ _ _
  have hc5 : Below w.heap.size w W1 := hb3
  have hz6 : w.heap.size < W1.heap.size := by rw [hW2]; simp
  clear hb3
  have p7 : W1.cell? ⟨w.heap.size, 0, none⟩ = some (Value.int .i64 s0) := (unhide HX4).cell 0
  have p8 : W1.cell? ⟨w.heap.size, 1, none⟩ = some (Value.slice a0 Q0.length c0) := (unhide HX4).cell 1
  (try rw [hW2] at p7 p8)
  go_enter Try.func6, Try.ntmps6
  go_wp2_with fail
  rw [← hW2]
  clear hW2 p7 p8
  refine (szGraph_gen _ w.heap.size s0 Q0 1048576 (by omega) (by omega) (unhide HN0) W1 ((unhide HV0).below hc5 (Nat.le_refl _))).mono ?_
  rintro e uw10 ⟨⟨z9, rfl, hxz9, hyz9⟩, hb11⟩
  have HX4 := hide ((unhide HX4).below hb11)
  have hc12 : Below w.heap.size w uw10 := hc5.trans (hb11.mono hc5.size)
  have hz13 : W1.heap.size ≤ uw10.heap.size := hb11.size
  clear hb11
  by_cases hnegz9 : z9 < 0
  · go_wp2
    go_ret
    exact ⟨rfl, hc12⟩
  · have htz9 := hyz9 (by omega)
    have hb0 : Q0.length ≤ 1048576 := by omega
    have TO0 := hide (fun w1 (hb : Below w.heap.size w w1) => toGraph_any _ w.heap.size s0 Q0 hb0 w1 hb.size ((unhide HV0).below hb (Nat.le_refl _)))
    have EQ0 := hide (fun w1 d d1 (hd : GrAt w1 d w1.heap.size s0 Q0) (hd1 : GrAt w1 d1 w1.heap.size s0 Q0) => eqGraph_same d d1 w1.heap.size w1.heap.size s0 Q0 hb0 w1 (Nat.le_refl _) (Nat.le_refl _) hd hd1)
    have SP := hide (fun w1 d0 (hd0 : GrAt w1 d0 w1.heap.size s0 Q0) => Lk.specMost_gen w1.heap.size d0 s0 Q0 hb0 w1 (Nat.le_refl _) hd0)
    have IM := hide (fun w1 d0 (hd0 : GrAt w1 d0 w1.heap.size s0 Q0) => Lk.implMost_gen w1.heap.size d0 s0 Q0 hb0 w1 (Nat.le_refl _) hd0)
    generalize Lk.mostC s0 Q0 = ret0 at SP IM
    have hne0 : (ret0 != ret0) = false := by simp
    clear hb0
    have p14 : uw10.cell? ⟨w.heap.size, 0, none⟩ = some (Value.int .i64 s0) := (unhide HX4).cell 0
    have p15 : uw10.cell? ⟨w.heap.size, 1, none⟩ = some (Value.slice a0 Q0.length c0) := (unhide HX4).cell 1
    go_wp2_with fail
    clear p14 p15
    refine (unhide TO0 uw10 hc12).mono ?_
    rintro e uw18 ⟨⟨d16, rfl, ho17⟩, hb19⟩
    have HX4 := hide ((unhide HX4).below hb19)
    have hc20 : Below w.heap.size w uw18 := hc12.trans (hb19.mono hc12.size)
    have hz21 : uw10.heap.size ≤ uw18.heap.size := hb19.size
    clear hb19
    have HO23 := hide ho17
    have HB24 := hide ho17.blk
    have hs27 := ho17.at.shape
    obtain ⟨a25, c26, rfl⟩ := hs27
    clear ho17
    go_wp2_with fail
    refine (unhide SP uw18 _ (unhide HO23).at).mono ?_
    rintro e uw28 ⟨rfl, hb29⟩
    have HX4 := hide ((unhide HX4).below hb29)
    have HO23 := hide ((unhide HO23).below hb29)
    have hc30 : Below w.heap.size w uw28 := hc20.trans (hb29.mono hc20.size)
    have hz31 : uw18.heap.size ≤ uw28.heap.size := hb29.size
    clear hb29
    have p32 : uw28.cell? ⟨w.heap.size, 0, none⟩ = some (Value.int .i64 s0) := (unhide HX4).cell 0
    have p33 : uw28.cell? ⟨w.heap.size, 1, none⟩ = some (Value.slice a0 Q0.length c0) := (unhide HX4).cell 1
    go_wp2_with fail
    clear p32 p33
    refine (unhide TO0 uw28 hc30).mono ?_
    rintro e uw36 ⟨⟨d34, rfl, ho35⟩, hb37⟩
    have HX4 := hide ((unhide HX4).below hb37)
    have hc38 : Below w.heap.size w uw36 := hc30.trans (hb37.mono hc30.size)
    have hz39 : uw28.heap.size ≤ uw36.heap.size := hb37.size
    clear hb37
    have HO40 := hide ho35
    have HB41 := hide ho35.blk
    have hs44 := ho35.at.shape
    obtain ⟨a42, c43, rfl⟩ := hs44
    clear ho35
    obtain ⟨W45, hW46⟩ : ∃ W, W = uw36.alloc (Obj.cells #[Value.int .i64 s0, Value.slice a42 Q0.length c43] 30) := ⟨_, rfl⟩
    have hb47 : Below uw36.heap.size uw36 W45 := by rw [hW46]; exact below_new _ _
    have HX4 := hide ((unhide HX4).below hb47)
    have HO40 := hide ((unhide HO40).below hb47)
    have HX48 : Hid (CBox W45 uw36.heap.size #[Value.int .i64 s0, Value.slice a42 Q0.length c43] 30) := by show CBox _ _ _ _; rw [hW46]; exact CBox.new _ _ _
    have hc49 : Below w.heap.size w W45 := hc38.trans (hb47.mono hc38.size)
    have hz50 : uw36.heap.size < W45.heap.size := by rw [hW46]; simp
    clear hb47
    go_wp2_with fail
    rw [← hW46]
    clear hW46
    refine (unhide IM W45 _ (unhide HO40).at).mono ?_
    rintro e uw51 ⟨rfl, hb52⟩
    have HX4 := hide ((unhide HX4).below hb52)
    have HO40 := hide ((unhide HO40).below hb52)
    have HX48 := hide ((unhide HX48).below hb52)
    have hc53 : Below w.heap.size w uw51 := hc49.trans (hb52.mono hc49.size)
    have hz54 : W45.heap.size ≤ uw51.heap.size := hb52.size
    clear hb52
    have r0 : uw51.cell? ⟨uw36.heap.size, 0, none⟩ = some (Value.int .i64 s0) := (unhide HX48).cell 0
    have r1 : uw51.cell? ⟨uw36.heap.size, 1, none⟩ = some (Value.slice a42 Q0.length c43) := (unhide HX48).cell 1
    have p0 : uw51.cell? ⟨w.heap.size, 0, none⟩ = some (Value.int .i64 s0) := (unhide HX4).cell 0
    have p1 : uw51.cell? ⟨w.heap.size, 1, none⟩ = some (Value.slice a0 Q0.length c0) := (unhide HX4).cell 1
    have hk0 : uw36.heap.size < uw51.heap.size := (unhide HX48).lt
    have hk1 : w.heap.size < uw51.heap.size := (unhide HX4).lt
    have LIVE := hide (fun w8 (hb : Below uw51.heap.size uw51 w8) => And.intro ((unhide HX4).below hb) (And.intro ((unhide HO40).below hb) ((unhide HX48).below hb)))
    have HOD := hide ((unhide HO40).at.below ((Below.refl uw51.heap.size uw51).drew) (Nat.le_refl _))
    go_wp2_with fail
    go_region_held3 (fun u => u.cell? ⟨uw36.heap.size, 0, none⟩ = some (Value.int .i64 s0) ∧ u.cell? ⟨uw36.heap.size, 1, none⟩ = some (Value.slice a42 Q0.length c43) ∧ u.cell? ⟨w.heap.size, 0, none⟩ = some (Value.int .i64 s0) ∧ u.cell? ⟨w.heap.size, 1, none⟩ = some (Value.slice a0 Q0.length c0))
      (first | go_keep | exact ⟨(hb9.cell (p := ⟨uw36.heap.size, 0, none⟩) l0).trans qr0, (hb9.cell (p := ⟨uw36.heap.size, 1, none⟩) l0).trans qr1, (hb9.cell (p := ⟨w.heap.size, 0, none⟩) l1).trans qp0, (hb9.cell (p := ⟨w.heap.size, 1, none⟩) l1).trans qp1⟩ | exact ⟨qr0, qr1, qp0, qp1⟩)
      (first
        | (go_at_call 12; refine (unhide TO0 _ hc53.drew).mono ?_; rintro e w8 ⟨⟨d8, rfl, ho8⟩, hb8⟩; have HE8 := hide ho8.at; have hs8 := ho8.at.shape; obtain ⟨a8, c8, rfl⟩ := hs8; have HO8 := hide (((unhide HOD).below hb8 (Nat.le_refl _)).mono (show uw51.heap.size ≤ w8.heap.size from hb8.size)); have qr0 := (hb8.cell (p := ⟨uw36.heap.size, 0, none⟩) hk0).trans r0; have qr1 := (hb8.cell (p := ⟨uw36.heap.size, 1, none⟩) hk0).trans r1; have qp0 := (hb8.cell (p := ⟨w.heap.size, 0, none⟩) hk1).trans p0; have qp1 := (hb8.cell (p := ⟨w.heap.size, 1, none⟩) hk1).trans p1; have l0 : uw36.heap.size < w8.heap.size := Nat.lt_of_lt_of_le hk0 hb8.size; have l1 : w.heap.size < w8.heap.size := Nat.lt_of_lt_of_le hk1 hb8.size; have hc8 : Below w.heap.size w w8 := hc53.drew.trans (hb8.mono hc53.size); have hb78 : Below uw51.heap.size uw51 w8 := (Below.refl uw51.heap.size uw51).drew.trans hb8; clear hb8)
        | (go_at_call 15; refine (unhide EQ0 w8 _ _ (unhide HO8) (unhide HE8)).mono ?_; rintro e w9 ⟨rfl, hb9⟩))
    have hb56 : Below uw51.heap.size uw51 w9 := hb78.trans (hb9.mono hb78.size)
    obtain ⟨zHX4, zHO40, zHX48⟩ := unhide LIVE w9 hb56
    have HX4 := hide zHX4
    have HO40 := hide zHO40
    have HX48 := hide zHX48
    have hc57 : Below w.heap.size w w9 := hc53.trans (hb56.mono hc53.size)
    have hz58 : uw51.heap.size ≤ w9.heap.size := hb56.size
    obtain ⟨uw55, hwn⟩ : ∃ W, W = w9 := ⟨_, rfl⟩
    subst hwn
    clear hb78 hb56 hb9 hc8 LIVE HO8 HE8 HOD hk0 hk1 l0 l1 r0 r1 p0 p1 qr0 qr1 qp0 qp1 zHX4 zHO40 zHX48
    go_wp2
    go_ret
    exact ⟨rfl, hc57⟩

set_option maxRecDepth 100000 in
theorem lifted (os : Os) (started : os.Started) (H : Type) (enc : TypeId × Value → H) :
    ReturnsInHanded {} Try.checked os 6 .any (Rows.fnExactMostCouplesSpec.pre6 enc Try.prog Try.f6 Rows.fnExactMostCouplesRow.domain false) (Rows.fnExactMostCouplesSpec.post enc Try.prog Try.f6 false true false false) := by
  refine returnsInHanded_of_change (C := Try.checked) own started (by kernel_rfl) Try.func6
    (ChangeSpec.witness6 (enc := enc) (C := Try.checked) false ⟨#[], #[.agg #[.int .i64 0, .slice none 0 0]], []⟩ 8 (by kernel_rfl) (by kernel_rfl) (by kernel_rfl) (by kernel_rfl)) ?_
  intro W base args ds gs before hval0 hW _ _
  have hval : ∀ (j : Nat) t v, Try.f6.params[j]? = some t → args[j]? = some v → Value.okWide Try.prog W .any base t v := hval0
  have hW' := hW
  obtain ⟨p, q, hA0, hV, rfl, hfz, hnd⟩ := hW
  have hA : DataW.TrodAll enc Try.prog W 0 (fun _ => true) true Try.f6.params.toList args.toList ds p := hA0
  rw [Try.params6] at hA hval
  obtain ⟨v0, vs0, d0, ds0, p0, q0, hargs, rfl, rfl, h0, r0⟩ := trodAll_cons hA
  obtain ⟨rfl, rfl, rfl⟩ := trodAll_nil r0
  obtain rfl : args = #[v0] := by cases args; simp_all
  obtain ⟨rfl, rfl⟩ := trodVars_none hV
  have k0 := h0
  have lt0 : ∀ x ∈ p0, x.block < W.heap.size := by obtain ⟨m, hm⟩ := k0; exact DataW.trod_lt m _ _ _ hm
  obtain ⟨s0, Q0, hv0, hn0⟩ := graph_in (hval 0 24 v0 rfl rfl) h0
  clear hA0 hval0
  refine (walk v0 s0 Q0 W hv0 hn0).mono fun e W' ⟨he, bel⟩ => ?_
  subst he
  exact ⟨_, rfl, _, _, _, [], _, [], hW', trodAll_mk1 (shut_bool Try.underlying4 _), (trodAll_cons_mk (Below.trod laidOut (by kernel_rfl) (of_decide_eq_true (by kernel_rfl)) k0 bel lt0) trodAll_mk0), rfl, bel.frame _, fun h => by cases h⟩

theorem over : Rows.fnExactMostCouplesRow.holds Try.pinned (OpenSpec.ofChange Rows.fnExactMostCouplesSpec) :=
  OpenClaim.holds_of_wide 6 Try.f6 rfl rfl rfl rfl rfl rfl rfl ⟨rfl, rfl, rfl, rfl, rfl⟩ rfl rfl rfl rfl rfl (by kernel_rfl) Try.func6 (by kernel_rfl)
    (of_decide_eq_true (by kernel_rfl)) (by unfold Func.isWrapper; first | (rw [if_pos (by decide +kernel)]; kernel_rfl) | (rw [if_neg (by decide +kernel)]; exact ⟨rfl, rfl⟩))
    (fun os started H enc _ => lifted os started H enc)

end Go.Proofs.Ytejfknkcakeakaa.fnExactMostCouples
namespace Go.Proofs.Ytejfknkcakeakaa
theorem fnExactMostCouples_holds : Rows.FnExactMostCouplesSaid := fnExactMostCouples.over
#print axioms fnExactMostCouples_holds
end Go.Proofs.Ytejfknkcakeakaa
