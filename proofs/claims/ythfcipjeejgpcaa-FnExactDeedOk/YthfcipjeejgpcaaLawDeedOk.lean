/-
  impl.DeedOk answers as the specification; it writes into no argument, and its answer owns its memory. Walk and frame written by program (tools/exactlaw.py).
-/
import Derived.Test.YthfcipjeejgpcaaRows
import Derived.Test.YthfcipjeejgpcaaGrDeed
import Derived.Test.YthfcipjeejgpcaaChecked
import Derived.Deep.RegionHeld3
import Derived.ShutString
import Derived.Below
namespace Go.Proofs.Ythfcipjeejgpcaa.fnExactDeedOk
open Go.Proofs.Ythfcipjeejgpcaa Go.Proofs.Ythfcipjeejgpcaa.Gr
open Go.ChangeShapes Go.WideShapes Go.ChangeAt Go.RowKit
open Go.ChangeMaps (open_string shut_string)

theorem own : ownKnob Try.prog.godebug = none := by kernel_rfl

theorem laidOut : laidOutB Try.prog = true := by kernel_rfl

set_option maxRecDepth 100000 in
set_option maxHeartbeats 4000000 in
theorem walk (v0 : Value) (x0 : DeedI) (K0 : List Int) (w : World) (hv0 : DeAt w v0 w.heap.size x0 K0) (hn0 : dsize x0 K0 ≤ 9223372036854775807) :
    Calls Try.prog 3 #[v0] w fun e w' => e = .returned (.bool true) ∧ Below w.heap.size w w' := by
  have HV0 := hide hv0
  have HN0 := hide hn0
  have sh0 := hv0.shape
  obtain ⟨a0, c0, rfl⟩ := sh0
  clear hv0 hn0
  obtain ⟨W1, hW2⟩ : ∃ W, W = w.alloc (Obj.cells #[Value.string x0.T, Value.bool x0.c, Value.int .i64 x0.s, Value.slice a0 K0.length c0, Value.int .i64 x0.o, Value.int .i64 x0.p] 24) := ⟨_, rfl⟩
  have hb3 : Below w.heap.size w W1 := by rw [hW2]; exact below_new _ _
  have HX4 : Hid (CBox W1 w.heap.size #[Value.string x0.T, Value.bool x0.c, Value.int .i64 x0.s, Value.slice a0 K0.length c0, Value.int .i64 x0.o, Value.int .i64 x0.p] 24) := by show CBox _ _ _ _; rw [hW2]; exact CBox.new _ _ _
  have hc5 : Below w.heap.size w W1 := hb3
  have hz6 : w.heap.size < W1.heap.size := by rw [hW2]; simp
  clear hb3
  have p7 : W1.cell? ⟨w.heap.size, 0, none⟩ = some (Value.string x0.T) := (unhide HX4).cell 0
  have p8 : W1.cell? ⟨w.heap.size, 1, none⟩ = some (Value.bool x0.c) := (unhide HX4).cell 1
  have p9 : W1.cell? ⟨w.heap.size, 2, none⟩ = some (Value.int .i64 x0.s) := (unhide HX4).cell 2
  have p10 : W1.cell? ⟨w.heap.size, 3, none⟩ = some (Value.slice a0 K0.length c0) := (unhide HX4).cell 3
  have p11 : W1.cell? ⟨w.heap.size, 4, none⟩ = some (Value.int .i64 x0.o) := (unhide HX4).cell 4
  have p12 : W1.cell? ⟨w.heap.size, 5, none⟩ = some (Value.int .i64 x0.p) := (unhide HX4).cell 5
  (try rw [hW2] at p7 p8 p9 p10 p11 p12)
  go_enter Try.func3, Try.ntmps3
  go_wp2_with fail
  rw [← hW2]
  clear hW2 p7 p8 p9 p10 p11 p12
  refine (szDeed_gen _ w.heap.size x0 K0 1048576 (by omega) (by omega) (unhide HN0) W1 ((unhide HV0).below hc5 (Nat.le_refl _))).mono ?_
  rintro e uw14 ⟨⟨z13, rfl, hxz13, hyz13⟩, hb15⟩
  have HX4 := hide ((unhide HX4).below hb15)
  have hc16 : Below w.heap.size w uw14 := hc5.trans (hb15.mono hc5.size)
  have hz17 : W1.heap.size ≤ uw14.heap.size := hb15.size
  clear hb15
  by_cases hnegz13 : z13 < 0
  · go_wp2
    go_ret
    exact ⟨rfl, hc16⟩
  · have htz13 := hyz13 (by omega)
    have hb0 : dsize x0 K0 ≤ 1048576 := by omega
    have TO0 := hide (fun w1 (hb : Below w.heap.size w w1) => toDeed_gen _ w.heap.size x0 K0 hb0 w1 hb.size ((unhide HV0).below hb (Nat.le_refl _)))
    have EQ0 := hide (fun w1 d d1 (hd : DeAt w1 d w1.heap.size x0 K0) (hd1 : DeAt w1 d1 w1.heap.size x0 K0) => eqDeed_gen d d1 w1.heap.size w1.heap.size x0 K0 hb0 w1 (Nat.le_refl _) (Nat.le_refl _) hd hd1)
    have SP := hide (fun w1 d0 (hd0 : DeAt w1 d0 w1.heap.size x0 K0) => specDeed_gen w1.heap.size d0 x0 K0 hb0 w1 (Nat.le_refl _) hd0)
    have IM := hide (fun w1 d0 (hd0 : DeAt w1 d0 w1.heap.size x0 K0) => implDeed_gen w1.heap.size d0 x0 K0 hb0 w1 (Nat.le_refl _) hd0)
    generalize deedOk x0 K0 = ret0 at SP IM
    have hne0 : (ret0 != ret0) = false := by simp
    clear hb0
    have p18 : uw14.cell? ⟨w.heap.size, 0, none⟩ = some (Value.string x0.T) := (unhide HX4).cell 0
    have p19 : uw14.cell? ⟨w.heap.size, 1, none⟩ = some (Value.bool x0.c) := (unhide HX4).cell 1
    have p20 : uw14.cell? ⟨w.heap.size, 2, none⟩ = some (Value.int .i64 x0.s) := (unhide HX4).cell 2
    have p21 : uw14.cell? ⟨w.heap.size, 3, none⟩ = some (Value.slice a0 K0.length c0) := (unhide HX4).cell 3
    have p22 : uw14.cell? ⟨w.heap.size, 4, none⟩ = some (Value.int .i64 x0.o) := (unhide HX4).cell 4
    have p23 : uw14.cell? ⟨w.heap.size, 5, none⟩ = some (Value.int .i64 x0.p) := (unhide HX4).cell 5
    go_wp2_with fail
    clear p18 p19 p20 p21 p22 p23
    refine (unhide TO0 uw14 hc16).mono ?_
    rintro e uw26 ⟨⟨d24, rfl, ho25⟩, hb27⟩
    have HX4 := hide ((unhide HX4).below hb27)
    have hc28 : Below w.heap.size w uw26 := hc16.trans (hb27.mono hc16.size)
    have hz29 : uw14.heap.size ≤ uw26.heap.size := hb27.size
    clear hb27
    have HO31 := hide ho25
    have hs35 := ho25.at.shape
    obtain ⟨a33, c34, rfl⟩ := hs35
    clear ho25
    go_wp2_with fail
    refine (unhide SP uw26 _ (unhide HO31).at).mono ?_
    rintro e uw36 ⟨rfl, hb37⟩
    have HX4 := hide ((unhide HX4).below hb37)
    have HO31 := hide ((unhide HO31).below hb37)
    have hc38 : Below w.heap.size w uw36 := hc28.trans (hb37.mono hc28.size)
    have hz39 : uw26.heap.size ≤ uw36.heap.size := hb37.size
    clear hb37
    have p40 : uw36.cell? ⟨w.heap.size, 0, none⟩ = some (Value.string x0.T) := (unhide HX4).cell 0
    have p41 : uw36.cell? ⟨w.heap.size, 1, none⟩ = some (Value.bool x0.c) := (unhide HX4).cell 1
    have p42 : uw36.cell? ⟨w.heap.size, 2, none⟩ = some (Value.int .i64 x0.s) := (unhide HX4).cell 2
    have p43 : uw36.cell? ⟨w.heap.size, 3, none⟩ = some (Value.slice a0 K0.length c0) := (unhide HX4).cell 3
    have p44 : uw36.cell? ⟨w.heap.size, 4, none⟩ = some (Value.int .i64 x0.o) := (unhide HX4).cell 4
    have p45 : uw36.cell? ⟨w.heap.size, 5, none⟩ = some (Value.int .i64 x0.p) := (unhide HX4).cell 5
    go_wp2_with fail
    clear p40 p41 p42 p43 p44 p45
    refine (unhide TO0 uw36 hc38).mono ?_
    rintro e uw48 ⟨⟨d46, rfl, ho47⟩, hb49⟩
    have HX4 := hide ((unhide HX4).below hb49)
    have hc50 : Below w.heap.size w uw48 := hc38.trans (hb49.mono hc38.size)
    have hz51 : uw36.heap.size ≤ uw48.heap.size := hb49.size
    clear hb49
    have HO52 := hide ho47
    have hs56 := ho47.at.shape
    obtain ⟨a54, c55, rfl⟩ := hs56
    clear ho47
    obtain ⟨W57, hW58⟩ : ∃ W, W = uw48.alloc (Obj.cells #[Value.string x0.T, Value.bool x0.c, Value.int .i64 x0.s, Value.slice a54 K0.length c55, Value.int .i64 x0.o, Value.int .i64 x0.p] 27) := ⟨_, rfl⟩
    have hb59 : Below uw48.heap.size uw48 W57 := by rw [hW58]; exact below_new _ _
    have HX4 := hide ((unhide HX4).below hb59)
    have HO52 := hide ((unhide HO52).below hb59)
    have HX60 : Hid (CBox W57 uw48.heap.size #[Value.string x0.T, Value.bool x0.c, Value.int .i64 x0.s, Value.slice a54 K0.length c55, Value.int .i64 x0.o, Value.int .i64 x0.p] 27) := by show CBox _ _ _ _; rw [hW58]; exact CBox.new _ _ _
    have hc61 : Below w.heap.size w W57 := hc50.trans (hb59.mono hc50.size)
    have hz62 : uw48.heap.size < W57.heap.size := by rw [hW58]; simp
    clear hb59
    go_wp2_with fail
    rw [← hW58]
    clear hW58
    refine (unhide IM W57 _ (unhide HO52).at).mono ?_
    rintro e uw63 ⟨rfl, hb64⟩
    have HX4 := hide ((unhide HX4).below hb64)
    have HO52 := hide ((unhide HO52).below hb64)
    have HX60 := hide ((unhide HX60).below hb64)
    have hc65 : Below w.heap.size w uw63 := hc61.trans (hb64.mono hc61.size)
    have hz66 : W57.heap.size ≤ uw63.heap.size := hb64.size
    clear hb64
    have r0 : uw63.cell? ⟨uw48.heap.size, 0, none⟩ = some (Value.string x0.T) := (unhide HX60).cell 0
    have r1 : uw63.cell? ⟨uw48.heap.size, 1, none⟩ = some (Value.bool x0.c) := (unhide HX60).cell 1
    have r2 : uw63.cell? ⟨uw48.heap.size, 2, none⟩ = some (Value.int .i64 x0.s) := (unhide HX60).cell 2
    have r3 : uw63.cell? ⟨uw48.heap.size, 3, none⟩ = some (Value.slice a54 K0.length c55) := (unhide HX60).cell 3
    have r4 : uw63.cell? ⟨uw48.heap.size, 4, none⟩ = some (Value.int .i64 x0.o) := (unhide HX60).cell 4
    have r5 : uw63.cell? ⟨uw48.heap.size, 5, none⟩ = some (Value.int .i64 x0.p) := (unhide HX60).cell 5
    have p0 : uw63.cell? ⟨w.heap.size, 0, none⟩ = some (Value.string x0.T) := (unhide HX4).cell 0
    have p1 : uw63.cell? ⟨w.heap.size, 1, none⟩ = some (Value.bool x0.c) := (unhide HX4).cell 1
    have p2 : uw63.cell? ⟨w.heap.size, 2, none⟩ = some (Value.int .i64 x0.s) := (unhide HX4).cell 2
    have p3 : uw63.cell? ⟨w.heap.size, 3, none⟩ = some (Value.slice a0 K0.length c0) := (unhide HX4).cell 3
    have p4 : uw63.cell? ⟨w.heap.size, 4, none⟩ = some (Value.int .i64 x0.o) := (unhide HX4).cell 4
    have p5 : uw63.cell? ⟨w.heap.size, 5, none⟩ = some (Value.int .i64 x0.p) := (unhide HX4).cell 5
    have hk0 : uw48.heap.size < uw63.heap.size := (unhide HX60).lt
    have hk1 : w.heap.size < uw63.heap.size := (unhide HX4).lt
    have LIVE := hide (fun w8 (hb : Below uw63.heap.size uw63 w8) => And.intro ((unhide HX4).below hb) (And.intro ((unhide HO52).below hb) ((unhide HX60).below hb)))
    have HOD := hide ((unhide HO52).at.below ((Below.refl uw63.heap.size uw63).drew) (Nat.le_refl _))
    go_wp2_with fail
    go_region_held3 (fun u => u.cell? ⟨uw48.heap.size, 0, none⟩ = some (Value.string x0.T) ∧ u.cell? ⟨uw48.heap.size, 1, none⟩ = some (Value.bool x0.c) ∧ u.cell? ⟨uw48.heap.size, 2, none⟩ = some (Value.int .i64 x0.s) ∧ u.cell? ⟨uw48.heap.size, 3, none⟩ = some (Value.slice a54 K0.length c55) ∧ u.cell? ⟨uw48.heap.size, 4, none⟩ = some (Value.int .i64 x0.o) ∧ u.cell? ⟨uw48.heap.size, 5, none⟩ = some (Value.int .i64 x0.p) ∧ u.cell? ⟨w.heap.size, 0, none⟩ = some (Value.string x0.T) ∧ u.cell? ⟨w.heap.size, 1, none⟩ = some (Value.bool x0.c) ∧ u.cell? ⟨w.heap.size, 2, none⟩ = some (Value.int .i64 x0.s) ∧ u.cell? ⟨w.heap.size, 3, none⟩ = some (Value.slice a0 K0.length c0) ∧ u.cell? ⟨w.heap.size, 4, none⟩ = some (Value.int .i64 x0.o) ∧ u.cell? ⟨w.heap.size, 5, none⟩ = some (Value.int .i64 x0.p))
      (first | go_keep | exact ⟨(hb9.cell (p := ⟨uw48.heap.size, 0, none⟩) l0).trans qr0, (hb9.cell (p := ⟨uw48.heap.size, 1, none⟩) l0).trans qr1, (hb9.cell (p := ⟨uw48.heap.size, 2, none⟩) l0).trans qr2, (hb9.cell (p := ⟨uw48.heap.size, 3, none⟩) l0).trans qr3, (hb9.cell (p := ⟨uw48.heap.size, 4, none⟩) l0).trans qr4, (hb9.cell (p := ⟨uw48.heap.size, 5, none⟩) l0).trans qr5, (hb9.cell (p := ⟨w.heap.size, 0, none⟩) l1).trans qp0, (hb9.cell (p := ⟨w.heap.size, 1, none⟩) l1).trans qp1, (hb9.cell (p := ⟨w.heap.size, 2, none⟩) l1).trans qp2, (hb9.cell (p := ⟨w.heap.size, 3, none⟩) l1).trans qp3, (hb9.cell (p := ⟨w.heap.size, 4, none⟩) l1).trans qp4, (hb9.cell (p := ⟨w.heap.size, 5, none⟩) l1).trans qp5⟩ | exact ⟨qr0, qr1, qr2, qr3, qr4, qr5, qp0, qp1, qp2, qp3, qp4, qp5⟩)
      (first
        | (go_at_call 6; refine (unhide TO0 _ hc65.drew).mono ?_; rintro e w8 ⟨⟨d8, rfl, ho8⟩, hb8⟩; have HE8 := hide ho8.at; have hs8 := ho8.at.shape; obtain ⟨a8, c8, rfl⟩ := hs8; have HO8 := hide (((unhide HOD).below hb8 (Nat.le_refl _)).mono (show uw63.heap.size ≤ w8.heap.size from hb8.size)); have qr0 := (hb8.cell (p := ⟨uw48.heap.size, 0, none⟩) hk0).trans r0; have qr1 := (hb8.cell (p := ⟨uw48.heap.size, 1, none⟩) hk0).trans r1; have qr2 := (hb8.cell (p := ⟨uw48.heap.size, 2, none⟩) hk0).trans r2; have qr3 := (hb8.cell (p := ⟨uw48.heap.size, 3, none⟩) hk0).trans r3; have qr4 := (hb8.cell (p := ⟨uw48.heap.size, 4, none⟩) hk0).trans r4; have qr5 := (hb8.cell (p := ⟨uw48.heap.size, 5, none⟩) hk0).trans r5; have qp0 := (hb8.cell (p := ⟨w.heap.size, 0, none⟩) hk1).trans p0; have qp1 := (hb8.cell (p := ⟨w.heap.size, 1, none⟩) hk1).trans p1; have qp2 := (hb8.cell (p := ⟨w.heap.size, 2, none⟩) hk1).trans p2; have qp3 := (hb8.cell (p := ⟨w.heap.size, 3, none⟩) hk1).trans p3; have qp4 := (hb8.cell (p := ⟨w.heap.size, 4, none⟩) hk1).trans p4; have qp5 := (hb8.cell (p := ⟨w.heap.size, 5, none⟩) hk1).trans p5; have l0 : uw48.heap.size < w8.heap.size := Nat.lt_of_lt_of_le hk0 hb8.size; have l1 : w.heap.size < w8.heap.size := Nat.lt_of_lt_of_le hk1 hb8.size; have hc8 : Below w.heap.size w w8 := hc65.drew.trans (hb8.mono hc65.size); have hb78 : Below uw63.heap.size uw63 w8 := (Below.refl uw63.heap.size uw63).drew.trans hb8; clear hb8)
        | (go_at_call 8; refine (unhide EQ0 w8 _ _ (unhide HO8) (unhide HE8)).mono ?_; rintro e w9 ⟨rfl, hb9⟩))
    have hb68 : Below uw63.heap.size uw63 w9 := hb78.trans (hb9.mono hb78.size)
    obtain ⟨zHX4, zHO52, zHX60⟩ := unhide LIVE w9 hb68
    have HX4 := hide zHX4
    have HO52 := hide zHO52
    have HX60 := hide zHX60
    have hc69 : Below w.heap.size w w9 := hc65.trans (hb68.mono hc65.size)
    have hz70 : uw63.heap.size ≤ w9.heap.size := hb68.size
    obtain ⟨uw67, hwn⟩ : ∃ W, W = w9 := ⟨_, rfl⟩
    subst hwn
    clear hb78 hb68 hb9 hc8 LIVE HO8 HE8 HOD hk0 hk1 l0 l1 r0 r1 r2 r3 r4 r5 p0 p1 p2 p3 p4 p5 qr0 qr1 qr2 qr3 qr4 qr5 qp0 qp1 qp2 qp3 qp4 qp5 zHX4 zHO52 zHX60
    go_wp2
    go_ret
    exact ⟨rfl, hc69⟩

set_option maxRecDepth 100000 in
theorem lifted (os : Os) (started : os.Started) (H : Type) (enc : TypeId × Value → H) :
    ReturnsInHanded {} Try.checked os 3 .any (Rows.fnExactDeedOkSpec.pre6 enc Try.prog Try.f3 Rows.fnExactDeedOkRow.domain false) (Rows.fnExactDeedOkSpec.post enc Try.prog Try.f3 false true false false) := by
  refine returnsInHanded_of_change (C := Try.checked) own started (by kernel_rfl) Try.func3
    (ChangeSpec.witness6 (enc := enc) (C := Try.checked) false ⟨#[], #[.agg #[.string .empty, .bool false, .int .i64 0, .slice none 0 0, .int .i64 0, .int .i64 0]], []⟩ 8 (by kernel_rfl) (by kernel_rfl) (by kernel_rfl) (by kernel_rfl)) ?_
  intro W base args ds gs before hval0 hW _ _
  have hval : ∀ (j : Nat) t v, Try.f3.params[j]? = some t → args[j]? = some v → Value.okWide Try.prog W .any base t v := hval0
  have hW' := hW
  obtain ⟨p, q, hA0, hV, rfl, hfz, hnd⟩ := hW
  have hA : DataW.TrodAll enc Try.prog W 0 (fun _ => true) true Try.f3.params.toList args.toList ds p := hA0
  rw [Try.params3] at hA hval
  obtain ⟨v0, vs0, d0, ds0, p0, q0, hargs, rfl, rfl, h0, r0⟩ := trodAll_cons hA
  obtain ⟨rfl, rfl, rfl⟩ := trodAll_nil r0
  obtain rfl : args = #[v0] := by cases args; simp_all
  obtain ⟨rfl, rfl⟩ := trodVars_none hV
  have k0 := h0
  have lt0 : ∀ x ∈ p0, x.block < W.heap.size := by obtain ⟨m, hm⟩ := k0; exact DataW.trod_lt m _ _ _ hm
  obtain ⟨x0, K0, hv0, hn0⟩ := deed_in (hval 0 24 v0 rfl rfl) h0
  clear hA0 hval0
  refine (walk v0 x0 K0 W hv0 hn0).mono fun e W' ⟨he, bel⟩ => ?_
  subst he
  exact ⟨_, rfl, _, _, _, [], _, [], hW', trodAll_mk1 (shut_bool Try.underlying4 _), (trodAll_cons_mk (Below.trod laidOut (by kernel_rfl) (of_decide_eq_true (by kernel_rfl)) k0 bel lt0) trodAll_mk0), rfl, bel.frame _, fun h => by cases h⟩

theorem over : Rows.fnExactDeedOkRow.holds Try.pinned (OpenSpec.ofChange Rows.fnExactDeedOkSpec) :=
  OpenClaim.holds_of_wide 3 Try.f3 rfl rfl rfl rfl rfl rfl rfl ⟨rfl, rfl, rfl, rfl, rfl⟩ rfl rfl rfl rfl rfl (by kernel_rfl) Try.func3 (by kernel_rfl)
    (of_decide_eq_true (by kernel_rfl)) (by unfold Func.isWrapper; first | (rw [if_pos (by decide +kernel)]; kernel_rfl) | (rw [if_neg (by decide +kernel)]; exact ⟨rfl, rfl⟩))
    (fun os started H enc _ => lifted os started H enc)

end Go.Proofs.Ythfcipjeejgpcaa.fnExactDeedOk
namespace Go.Proofs.Ythfcipjeejgpcaa
theorem fnExactDeedOk_holds : Rows.FnExactDeedOkSaid := fnExactDeedOk.over
#print axioms fnExactDeedOk_holds
end Go.Proofs.Ythfcipjeejgpcaa
