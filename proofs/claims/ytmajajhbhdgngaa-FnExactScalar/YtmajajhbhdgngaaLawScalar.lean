/-
  impl.Scalar answers as the specification; it writes into no argument, and its answer owns its memory. Walk and frame written by program (tools/exactlaw.py).
-/
import Derived.Test.YtmajajhbhdgngaaRows
import Derived.Test.YtmajajhbhdgngaaGrImpl
import Derived.Test.YtmajajhbhdgngaaChecked
import Derived.Deep.RegionHeld3
import Derived.ShutString
import Derived.Below
namespace Go.Proofs.Ytmajajhbhdgngaa.fnExactScalar
open Go.Proofs.Ytmajajhbhdgngaa Go.Proofs.Ytmajajhbhdgngaa.Gr
open Go.ChangeShapes Go.WideShapes Go.ChangeAt Go.RowKit

theorem own : ownKnob Try.prog.godebug = none := by kernel_rfl

theorem laidOut : laidOutB Try.prog = true := by kernel_rfl

set_option maxRecDepth 100000 in
set_option maxHeartbeats 4000000 in
theorem walk (v0 : Value) (x0 : EdgeI) (w : World) (hv0 : EdAt w v0 w.heap.size x0) :
    Calls Try.prog 4 #[v0] w fun e w' => e = .returned (.bool true) ∧ Below w.heap.size w w' := by
  have HV0 := hide hv0
  have sh0 := hv0.shape
  unfold EdAt at hv0
  subst hv0
  have TO0 := hide (fun w1 (hb : Below w.heap.size w w1) => toEdge_gen _ w.heap.size x0 w1 hb.size ((unhide HV0).below hb (Nat.le_refl _)))
  have EQ0 := hide (fun w1 d d1 (hd : EdAt w1 d w1.heap.size x0) (hd1 : EdAt w1 d1 w1.heap.size x0) => eqEdge_gen d d1 w1.heap.size w1.heap.size x0 w1 (Nat.le_refl _) (Nat.le_refl _) hd hd1)
  have SP := hide (fun w1 d0 (hd0 : EdAt w1 d0 w1.heap.size x0) => specScalar_gen w1.heap.size d0 x0  w1 (Nat.le_refl _) hd0)
  have IM := hide (fun w1 d0 (hd0 : EdAt w1 d0 w1.heap.size x0) => implScalar_gen w1.heap.size d0 x0  w1 (Nat.le_refl _) hd0)
  generalize scal x0 = ret0 at SP IM
  have hne0 : (ret0 != ret0) = false := by simp
  obtain ⟨W1, hW2⟩ : ∃ W, W = w.alloc (Obj.cells #[Value.int .i64 x0.A, Value.int .i64 x0.B, Value.int .i64 x0.W1, Value.int .i64 x0.W2, Value.int .i64 x0.W3] 34) := ⟨_, rfl⟩
  have hb3 : Below w.heap.size w W1 := by rw [hW2]; exact below_new _ _
  have HX4 : Hid (CBox W1 w.heap.size #[Value.int .i64 x0.A, Value.int .i64 x0.B, Value.int .i64 x0.W1, Value.int .i64 x0.W2, Value.int .i64 x0.W3] 34) := by show CBox _ _ _ _; rw [hW2]; exact CBox.new _ _ _
  have hc5 : Below w.heap.size w W1 := hb3
  have hz6 : w.heap.size < W1.heap.size := by rw [hW2]; simp
  clear hb3
  have p7 : W1.cell? ⟨w.heap.size, 0, none⟩ = some (Value.int .i64 x0.A) := (unhide HX4).cell 0
  have p8 : W1.cell? ⟨w.heap.size, 1, none⟩ = some (Value.int .i64 x0.B) := (unhide HX4).cell 1
  have p9 : W1.cell? ⟨w.heap.size, 2, none⟩ = some (Value.int .i64 x0.W1) := (unhide HX4).cell 2
  have p10 : W1.cell? ⟨w.heap.size, 3, none⟩ = some (Value.int .i64 x0.W2) := (unhide HX4).cell 3
  have p11 : W1.cell? ⟨w.heap.size, 4, none⟩ = some (Value.int .i64 x0.W3) := (unhide HX4).cell 4
  (try rw [hW2] at p7 p8 p9 p10 p11)
  go_enter Try.func4, Try.ntmps4
  go_wp2_with fail
  rw [← hW2]
  clear hW2 p7 p8 p9 p10 p11
  refine (unhide TO0 W1 hc5).mono ?_
  rintro e uw14 ⟨⟨d12, rfl, ho13⟩, hb15⟩
  have HX4 := hide ((unhide HX4).below hb15)
  have hc16 : Below w.heap.size w uw14 := hc5.trans (hb15.mono hc5.size)
  have hz17 : W1.heap.size ≤ uw14.heap.size := hb15.size
  clear hb15
  have HO19 := hide ho13
  unfold EdOwn at ho13
  subst ho13
  go_wp2_with fail
  refine (unhide SP uw14 _ (unhide HO19).at).mono ?_
  rintro e uw24 ⟨rfl, hb25⟩
  have HX4 := hide ((unhide HX4).below hb25)
  have HO19 := hide ((unhide HO19).below hb25)
  have hc26 : Below w.heap.size w uw24 := hc16.trans (hb25.mono hc16.size)
  have hz27 : uw14.heap.size ≤ uw24.heap.size := hb25.size
  clear hb25
  have p28 : uw24.cell? ⟨w.heap.size, 0, none⟩ = some (Value.int .i64 x0.A) := (unhide HX4).cell 0
  have p29 : uw24.cell? ⟨w.heap.size, 1, none⟩ = some (Value.int .i64 x0.B) := (unhide HX4).cell 1
  have p30 : uw24.cell? ⟨w.heap.size, 2, none⟩ = some (Value.int .i64 x0.W1) := (unhide HX4).cell 2
  have p31 : uw24.cell? ⟨w.heap.size, 3, none⟩ = some (Value.int .i64 x0.W2) := (unhide HX4).cell 3
  have p32 : uw24.cell? ⟨w.heap.size, 4, none⟩ = some (Value.int .i64 x0.W3) := (unhide HX4).cell 4
  go_wp2_with fail
  clear p28 p29 p30 p31 p32
  refine (unhide TO0 uw24 hc26).mono ?_
  rintro e uw35 ⟨⟨d33, rfl, ho34⟩, hb36⟩
  have HX4 := hide ((unhide HX4).below hb36)
  have hc37 : Below w.heap.size w uw35 := hc26.trans (hb36.mono hc26.size)
  have hz38 : uw24.heap.size ≤ uw35.heap.size := hb36.size
  clear hb36
  have HO40 := hide ho34
  unfold EdOwn at ho34
  subst ho34
  go_wp2_with fail
  refine (unhide IM uw35 _ (unhide HO40).at).mono ?_
  rintro e uw45 ⟨rfl, hb46⟩
  have HX4 := hide ((unhide HX4).below hb46)
  have HO40 := hide ((unhide HO40).below hb46)
  have hc47 : Below w.heap.size w uw45 := hc37.trans (hb46.mono hc37.size)
  have hz48 : uw35.heap.size ≤ uw45.heap.size := hb46.size
  clear hb46
  go_wp2
  go_ret
  exact ⟨rfl, hc47⟩

set_option maxRecDepth 100000 in
theorem lifted (os : Os) (started : os.Started) (H : Type) (enc : TypeId × Value → H) :
    ReturnsInHanded {} Try.checked os 4 .any (Rows.fnExactScalarSpec.pre6 enc Try.prog Try.f4 Rows.fnExactScalarRow.domain false) (Rows.fnExactScalarSpec.post enc Try.prog Try.f4 false true false false) := by
  refine returnsInHanded_of_change (C := Try.checked) own started (by kernel_rfl) Try.func4
    (ChangeSpec.witness6 (enc := enc) (C := Try.checked) false ⟨#[], #[.agg #[.int .i64 0, .int .i64 0, .int .i64 0, .int .i64 0, .int .i64 0]], []⟩ 8 (by kernel_rfl) (by kernel_rfl) (by kernel_rfl) (by kernel_rfl)) ?_
  intro W base args ds gs before hval0 hW _ _
  have hval : ∀ (j : Nat) t v, Try.f4.params[j]? = some t → args[j]? = some v → Value.okWide Try.prog W .any base t v := hval0
  have hW' := hW
  obtain ⟨p, q, hA0, hV, rfl, hfz, hnd⟩ := hW
  have hA : DataW.TrodAll enc Try.prog W 0 (fun _ => true) true Try.f4.params.toList args.toList ds p := hA0
  rw [Try.params4] at hA hval
  obtain ⟨v0, vs0, d0, ds0, p0, q0, hargs, rfl, rfl, h0, r0⟩ := trodAll_cons hA
  obtain ⟨rfl, rfl, rfl⟩ := trodAll_nil r0
  obtain rfl : args = #[v0] := by cases args; simp_all
  obtain ⟨rfl, rfl⟩ := trodVars_none hV
  have k0 := h0
  have lt0 : ∀ x ∈ p0, x.block < W.heap.size := by obtain ⟨m, hm⟩ := k0; exact DataW.trod_lt m _ _ _ hm
  obtain ⟨x0, hv0⟩ := edge_in (hval 0 34 v0 rfl rfl) h0
  clear hA0 hval0
  refine (walk v0 x0 W hv0).mono fun e W' ⟨he, bel⟩ => ?_
  subst he
  exact ⟨_, rfl, _, _, _, [], _, [], hW', trodAll_mk1 (shut_bool Try.underlying4 _), (trodAll_cons_mk (Below.trod laidOut (by kernel_rfl) (of_decide_eq_true (by kernel_rfl)) k0 bel lt0) trodAll_mk0), rfl, bel.frame _, fun h => by cases h⟩

theorem over : Rows.fnExactScalarRow.holds Try.pinned (OpenSpec.ofChange Rows.fnExactScalarSpec) :=
  OpenClaim.holds_of_wide 4 Try.f4 rfl rfl rfl rfl rfl rfl rfl ⟨rfl, rfl, rfl, rfl, rfl⟩ rfl rfl rfl rfl rfl (by kernel_rfl) Try.func4 (by kernel_rfl)
    (of_decide_eq_true (by kernel_rfl)) (by unfold Func.isWrapper; first | (rw [if_pos (by decide +kernel)]; kernel_rfl) | (rw [if_neg (by decide +kernel)]; exact ⟨rfl, rfl⟩))
    (fun os started H enc _ => lifted os started H enc)

end Go.Proofs.Ytmajajhbhdgngaa.fnExactScalar
namespace Go.Proofs.Ytmajajhbhdgngaa
theorem fnExactScalar_holds : Rows.FnExactScalarSaid := fnExactScalar.over
#print axioms fnExactScalar_holds
end Go.Proofs.Ytmajajhbhdgngaa
