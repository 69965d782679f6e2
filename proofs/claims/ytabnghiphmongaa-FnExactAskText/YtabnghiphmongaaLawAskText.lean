/-
  impl.AskText answers as the specification; it writes into no argument, and its answer owns its memory. Walk and frame written by program (tools/exactlaw.py).
-/
import Derived.Test.YtabnghiphmongaaRows
import Derived.Test.YtabnghiphmongaaAkGen
import Derived.Test.YtabnghiphmongaaGrBox
import Derived.Test.YtabnghiphmongaaAkImpl
import Derived.Test.YtabnghiphmongaaChecked
import Derived.Deep.RegionHeld3
import Derived.ShutString
import Derived.Below
namespace Go.Proofs.Ytabnghiphmongaa.fnExactAskText
open Go.Proofs.Ytabnghiphmongaa Go.Proofs.Ytabnghiphmongaa.Gr
open Go.ChangeShapes Go.WideShapes Go.ChangeAt Go.RowKit
open Go.ChangeMaps (open_string shut_string)

theorem own : ownKnob Try.prog.godebug = none := by kernel_rfl

theorem laidOut : laidOutB Try.prog = true := by kernel_rfl

set_option maxRecDepth 100000 in
set_option maxHeartbeats 4000000 in
theorem walk (v0 : Value) (x0 : AskI) (w : World) (hv0 : AkAt w v0 w.heap.size x0) :
    Calls Try.prog 3 #[v0] w fun e w' => e = .returned (.bool true) ∧ Below w.heap.size w w' := by
  have HV0 := hide hv0
  have sh0 := hv0.shape
  unfold AkAt at hv0
  subst hv0
  have TO0 := hide (fun w1 (hb : Below w.heap.size w w1) => toAsk_gen _ w.heap.size x0 w1 hb.size ((unhide HV0).below hb (Nat.le_refl _)))
  have EQ0 := hide (fun w1 d d1 (hd : AkAt w1 d w1.heap.size x0) (hd1 : AkAt w1 d1 w1.heap.size x0) => eqAsk_gen d d1 w1.heap.size w1.heap.size x0 w1 (Nat.le_refl _) (Nat.le_refl _) hd hd1)
  have SP := hide (fun w1 d0 (hd0 : AkAt w1 d0 w1.heap.size x0) => specAskText_gen w1.heap.size d0 x0  w1 (Nat.le_refl _) hd0)
  have IM := hide (fun w1 d0 (hd0 : AkAt w1 d0 w1.heap.size x0) => implAskText_gen w1.heap.size d0 x0  w1 (Nat.le_refl _) hd0)
  generalize askT x0 = ret0 at SP IM
  generalize askOk x0 = ret1 at SP IM
  have hne1 : (ret1 != ret1) = false := by simp
  obtain ⟨W1, hW2⟩ : ∃ W, W = w.alloc (Obj.cells #[Value.int .i64 x0.Op, Value.int .i64 x0.A, Value.int .i64 x0.B, Value.int .i64 x0.W1, Value.int .i64 x0.W2, Value.int .i64 x0.W3] 23) := ⟨_, rfl⟩
  have hb3 : Below w.heap.size w W1 := by rw [hW2]; exact below_new _ _
  have HX4 : Hid (CBox W1 w.heap.size #[Value.int .i64 x0.Op, Value.int .i64 x0.A, Value.int .i64 x0.B, Value.int .i64 x0.W1, Value.int .i64 x0.W2, Value.int .i64 x0.W3] 23) := by show CBox _ _ _ _; rw [hW2]; exact CBox.new _ _ _
  have hc5 : Below w.heap.size w W1 := hb3
  have hz6 : w.heap.size < W1.heap.size := by rw [hW2]; simp
  clear hb3
  have p7 : W1.cell? ⟨w.heap.size, 0, none⟩ = some (Value.int .i64 x0.Op) := (unhide HX4).cell 0
  have p8 : W1.cell? ⟨w.heap.size, 1, none⟩ = some (Value.int .i64 x0.A) := (unhide HX4).cell 1
  have p9 : W1.cell? ⟨w.heap.size, 2, none⟩ = some (Value.int .i64 x0.B) := (unhide HX4).cell 2
  have p10 : W1.cell? ⟨w.heap.size, 3, none⟩ = some (Value.int .i64 x0.W1) := (unhide HX4).cell 3
  have p11 : W1.cell? ⟨w.heap.size, 4, none⟩ = some (Value.int .i64 x0.W2) := (unhide HX4).cell 4
  have p12 : W1.cell? ⟨w.heap.size, 5, none⟩ = some (Value.int .i64 x0.W3) := (unhide HX4).cell 5
  (try rw [hW2] at p7 p8 p9 p10 p11 p12)
  (try unfold AskI.v)
  go_enter Try.func3, Try.ntmps3
  go_wp2_with fail
  rw [← hW2]
  clear hW2 p7 p8 p9 p10 p11 p12
  refine (unhide TO0 W1 hc5).mono ?_
  rintro e uw15 ⟨⟨d13, rfl, ho14⟩, hb16⟩
  have HX4 := hide ((unhide HX4).below hb16)
  have hc17 : Below w.heap.size w uw15 := hc5.trans (hb16.mono hc5.size)
  have hz18 : W1.heap.size ≤ uw15.heap.size := hb16.size
  clear hb16
  have HO20 := hide ho14
  unfold AkOwn at ho14
  subst ho14
  (try unfold AskI.v)
  go_wp2_with fail
  refine (unhide SP uw15 _ (unhide HO20).at).mono ?_
  rintro e uw25 ⟨rfl, hb26⟩
  have HX4 := hide ((unhide HX4).below hb26)
  have HO20 := hide ((unhide HO20).below hb26)
  have hc27 : Below w.heap.size w uw25 := hc17.trans (hb26.mono hc17.size)
  have hz28 : uw15.heap.size ≤ uw25.heap.size := hb26.size
  clear hb26
  have p29 : uw25.cell? ⟨w.heap.size, 0, none⟩ = some (Value.int .i64 x0.Op) := (unhide HX4).cell 0
  have p30 : uw25.cell? ⟨w.heap.size, 1, none⟩ = some (Value.int .i64 x0.A) := (unhide HX4).cell 1
  have p31 : uw25.cell? ⟨w.heap.size, 2, none⟩ = some (Value.int .i64 x0.B) := (unhide HX4).cell 2
  have p32 : uw25.cell? ⟨w.heap.size, 3, none⟩ = some (Value.int .i64 x0.W1) := (unhide HX4).cell 3
  have p33 : uw25.cell? ⟨w.heap.size, 4, none⟩ = some (Value.int .i64 x0.W2) := (unhide HX4).cell 4
  have p34 : uw25.cell? ⟨w.heap.size, 5, none⟩ = some (Value.int .i64 x0.W3) := (unhide HX4).cell 5
  go_wp2_with fail
  clear p29 p30 p31 p32 p33 p34
  refine (unhide TO0 uw25 hc27).mono ?_
  rintro e uw37 ⟨⟨d35, rfl, ho36⟩, hb38⟩
  have HX4 := hide ((unhide HX4).below hb38)
  have hc39 : Below w.heap.size w uw37 := hc27.trans (hb38.mono hc27.size)
  have hz40 : uw25.heap.size ≤ uw37.heap.size := hb38.size
  clear hb38
  have HO42 := hide ho36
  unfold AkOwn at ho36
  subst ho36
  (try unfold AskI.v)
  go_wp2_with fail
  refine (unhide IM uw37 _ (unhide HO42).at).mono ?_
  rintro e uw47 ⟨rfl, hb48⟩
  have HX4 := hide ((unhide HX4).below hb48)
  have HO42 := hide ((unhide HO42).below hb48)
  have hc49 : Below w.heap.size w uw47 := hc39.trans (hb48.mono hc39.size)
  have hz50 : uw37.heap.size ≤ uw47.heap.size := hb48.size
  clear hb48
  go_wp2
  go_ret
  exact ⟨rfl, hc49⟩

set_option maxRecDepth 100000 in
theorem lifted (os : Os) (started : os.Started) (H : Type) (enc : TypeId × Value → H) :
    ReturnsInHanded {} Try.checked os 3 .any (Rows.fnExactAskTextSpec.pre6 enc Try.prog Try.f3 Rows.fnExactAskTextRow.domain false) (Rows.fnExactAskTextSpec.post enc Try.prog Try.f3 false true false false) := by
  refine returnsInHanded_of_change (C := Try.checked) own started (by kernel_rfl) Try.func3
    (ChangeSpec.witness6 (enc := enc) (C := Try.checked) false ⟨#[], #[.agg #[.int .i64 0, .int .i64 0, .int .i64 0, .int .i64 0, .int .i64 0, .int .i64 0]], []⟩ 8 (by kernel_rfl) (by kernel_rfl) (by kernel_rfl) (by kernel_rfl)) ?_
  intro W base args ds gs before hval0 hW _ _
  have hval : ∀ (j : Nat) t v, Try.f3.params[j]? = some t → args[j]? = some v → Value.okWide Try.prog W .any base t v := hval0
  have hW' := hW
  obtain ⟨p, q, hA0, hV, rfl, hfz, hnd⟩ := hW
  have hA : DataW.TrodAll enc Try.prog W 0 (fun _ => true) true Try.f3.params.toList args.toList ds p := hA0
  rw [Try.params3] at hA hval
  obtain ⟨v0, vs0, d0, ds0, p0, q0, hargs, rfl, rfl, h0, r0⟩ := trodAll_cons hA
  obtain ⟨rfl, rfl, rfl⟩ := trodAll_nil r0
  obtain rfl : args = #[v0] := by cases args; simp_all
  obtain ⟨rfl, rfl⟩ := trodVars_none hV
  have k0 := h0
  have lt0 : ∀ x ∈ p0, x.block < W.heap.size := by obtain ⟨m, hm⟩ := k0; exact DataW.trod_lt m _ _ _ hm
  obtain ⟨x0, hv0⟩ := Ask_in (hval 0 23 v0 rfl rfl) h0
  clear hA0 hval0
  refine (walk v0 x0 W hv0).mono fun e W' ⟨he, bel⟩ => ?_
  subst he
  exact ⟨_, rfl, _, _, _, [], _, [], hW', trodAll_mk1 (shut_bool Try.underlying4 _), (trodAll_cons_mk (Below.trod laidOut (by kernel_rfl) (of_decide_eq_true (by kernel_rfl)) k0 bel lt0) trodAll_mk0), rfl, bel.frame _, fun h => by cases h⟩

theorem over : Rows.fnExactAskTextRow.holds Try.pinned (OpenSpec.ofChange Rows.fnExactAskTextSpec) :=
  OpenClaim.holds_of_wide 3 Try.f3 rfl rfl rfl rfl rfl rfl rfl ⟨rfl, rfl, rfl, rfl, rfl⟩ rfl rfl rfl rfl rfl (by kernel_rfl) Try.func3 (by kernel_rfl)
    (of_decide_eq_true (by kernel_rfl)) (by unfold Func.isWrapper; first | (rw [if_pos (by decide +kernel)]; kernel_rfl) | (rw [if_neg (by decide +kernel)]; exact ⟨rfl, rfl⟩))
    (fun os started H enc _ => lifted os started H enc)

end Go.Proofs.Ytabnghiphmongaa.fnExactAskText
namespace Go.Proofs.Ytabnghiphmongaa
theorem fnExactAskText_holds : Rows.FnExactAskTextSaid := fnExactAskText.over
#print axioms fnExactAskText_holds
end Go.Proofs.Ytabnghiphmongaa
