/-
  impl.Better answers as the specification; it writes into no argument, and its answer owns its memory. The frame written by program (tools/exactlaw.py).
-/
import Derived.Test.YtecdagfenooboaaRows
import Derived.Test.YtecdagfenooboaaGrImpl9
import Derived.Test.YtecdagfenooboaaGrBlk
import Derived.Test.YtecdagfenooboaaChecked
import Derived.Deep.RegionHeld3
import Derived.ShutString
import Derived.Below
namespace Go.Proofs.Ytecdagfenooboaa.fnExactBetter
open Go.Proofs.Ytecdagfenooboaa Go.Proofs.Ytecdagfenooboaa.Gr
open Go.ChangeShapes Go.WideShapes Go.ChangeAt Go.RowKit

theorem own : ownKnob Try.prog.godebug = none := by kernel_rfl

theorem laidOut : laidOutB Try.prog = true := by kernel_rfl

set_option maxRecDepth 100000 in
set_option maxHeartbeats 2000000 in
theorem walk (v0 : Value) (x0 : SumsI) (v1 : Value) (x1 : SumsI) (w : World) (hv0 : SuAt w v0 w.heap.size x0) (hv1 : SuAt w v1 w.heap.size x1) :
    Calls Try.prog 5 #[v0, v1] w fun e w' => e = .returned (.bool true) ∧ Below w.heap.size w w' := by
  unfold SuAt at hv0 hv1
  subst hv0 hv1
  have T0 := hide (fun w => toSums_any x0 w)
  have T1 := hide (fun w => toSums_any x1 w)
  have SP := hide (fun w => specBetter_any x0 x1 w)
  have IM := hide (fun (w : World) => implBetter_gen w.heap.size x0.v x0 x1.v x1 w (Nat.le_refl _) rfl rfl)
  generalize better x0 x1 = r at SP IM
  unfold SumsI.v at T0 T1 SP IM ⊢
  obtain ⟨y0, y1, y2⟩ := x0
  obtain ⟨z0, z1, z2⟩ := x1
  simp only at T0 T1 SP IM ⊢
  obtain ⟨V, hV⟩ : ∃ W, W = (w.alloc (Obj.cells #[Value.int .i64 y0, Value.int .i64 y1, Value.int .i64 y2] 43)).alloc (Obj.cells #[Value.int .i64 z0, Value.int .i64 z1, Value.int .i64 z2] 43) := ⟨_, rfl⟩
  have b1 : Below w.heap.size w V := by rw [hV]; exact (below_new _ _).alloc (by simp) _
  have e0 : Blk V w.heap.size #[Value.int .i64 y0, Value.int .i64 y1, Value.int .i64 y2] 43 := by rw [hV]; exact Blk.alloc Blk.new0
  have e1 : Blk V (w.heap.size + 1) #[Value.int .i64 z0, Value.int .i64 z1, Value.int .i64 z2] 43 := by rw [hV]; exact Blk.new1
  go_enter Try.func5, Try.ntmps5
  go_wp2_with fail
  rw [← hV]
  clear hV
  have l0 := e0.lt
  have l1 := e1.lt
  have k0 : ∀ d : Grown V.heap.size V, d.w.cell? ⟨w.heap.size, 0, none⟩ = some (.int .i64 y0) := fun d => d.cell l0 (e0.cell 0 _ rfl)
  have k1 : ∀ d : Grown V.heap.size V, d.w.cell? ⟨w.heap.size, 1, none⟩ = some (.int .i64 y1) := fun d => d.cell l0 (e0.cell 1 _ rfl)
  have k2 : ∀ d : Grown V.heap.size V, d.w.cell? ⟨w.heap.size, 2, none⟩ = some (.int .i64 y2) := fun d => d.cell l0 (e0.cell 2 _ rfl)
  have k3 : ∀ d : Grown V.heap.size V, d.w.cell? ⟨w.heap.size + 1, 0, none⟩ = some (.int .i64 z0) := fun d => d.cell l1 (e1.cell 0 _ rfl)
  have k4 : ∀ d : Grown V.heap.size V, d.w.cell? ⟨w.heap.size + 1, 1, none⟩ = some (.int .i64 z1) := fun d => d.cell l1 (e1.cell 1 _ rfl)
  have k5 : ∀ d : Grown V.heap.size V, d.w.cell? ⟨w.heap.size + 1, 2, none⟩ = some (.int .i64 z2) := fun d => d.cell l1 (e1.cell 2 _ rfl)
  refine wp_region_grown V.heap.size (by kernel_rfl) (by kernel_rfl) ?_
  repeat (go_big_quiet_step (first
    | (go_at_call 20; exact Calls.grown (Nat.le_refl _) (unhide SP _))
    | (go_at_call 21; first | (with_reducible exact Calls.grown (Nat.le_refl _) (unhide T0 _)) | (with_reducible exact Calls.grown (Nat.le_refl _) (unhide T1 _)))))
  refine wpQuiet_nil ?_
  rintro w5 ⟨d5, rfl⟩
  have f0 := e0.below d5.below
  have f1 := e1.below d5.below
  have b5 := b1.trans (d5.below.mono b1.size)
  obtain ⟨W, hW⟩ : ∃ W, W = d5.w := ⟨_, rfl⟩
  rw [← hW] at f0 f1 b5 ⊢
  clear hW k0 k1 k2 k3 k4 k5 e0 e1 l0 l1
  go_wp2_with fail
  have l0 := f0.lt
  have l1 := f1.lt
  have k0 : ∀ d : Grown W.heap.size W, d.w.cell? ⟨w.heap.size, 0, none⟩ = some (.int .i64 y0) := fun d => d.cell l0 (f0.cell 0 _ rfl)
  have k1 : ∀ d : Grown W.heap.size W, d.w.cell? ⟨w.heap.size, 1, none⟩ = some (.int .i64 y1) := fun d => d.cell l0 (f0.cell 1 _ rfl)
  have k2 : ∀ d : Grown W.heap.size W, d.w.cell? ⟨w.heap.size, 2, none⟩ = some (.int .i64 y2) := fun d => d.cell l0 (f0.cell 2 _ rfl)
  have k3 : ∀ d : Grown W.heap.size W, d.w.cell? ⟨w.heap.size + 1, 0, none⟩ = some (.int .i64 z0) := fun d => d.cell l1 (f1.cell 0 _ rfl)
  have k4 : ∀ d : Grown W.heap.size W, d.w.cell? ⟨w.heap.size + 1, 1, none⟩ = some (.int .i64 z1) := fun d => d.cell l1 (f1.cell 1 _ rfl)
  have k5 : ∀ d : Grown W.heap.size W, d.w.cell? ⟨w.heap.size + 1, 2, none⟩ = some (.int .i64 z2) := fun d => d.cell l1 (f1.cell 2 _ rfl)
  refine wp_region_grown W.heap.size (by kernel_rfl) (by kernel_rfl) ?_
  repeat (go_big_quiet_step (first
    | (go_at_call 22; exact Calls.grown (Nat.le_refl _) (unhide IM _))
    | (go_at_call 21; first | (with_reducible exact Calls.grown (Nat.le_refl _) (unhide T0 _)) | (with_reducible exact Calls.grown (Nat.le_refl _) (unhide T1 _)))))
  refine wpQuiet_nil ?_
  rintro w6 ⟨d6, rfl⟩
  have b6 := b5.trans (d6.below.mono b5.size)
  have hrr : (r != r) = false := by simp
  clear k0 k1 k2 k3 k4 k5
  go_wp2
  go_ret
  exact ⟨rfl, b6⟩

set_option maxRecDepth 100000 in
theorem lifted (os : Os) (started : os.Started) (H : Type) (enc : TypeId × Value → H) :
    ReturnsInHanded {} Try.checked os 5 .any (Rows.fnExactBetterSpec.pre6 enc Try.prog Try.f5 Rows.fnExactBetterRow.domain false) (Rows.fnExactBetterSpec.post enc Try.prog Try.f5 false true false false) := by
  refine returnsInHanded_of_change (C := Try.checked) own started (by kernel_rfl) Try.func5
    (ChangeSpec.witness6 (enc := enc) (C := Try.checked) false ⟨#[], #[.agg #[.int .i64 0, .int .i64 0, .int .i64 0], .agg #[.int .i64 0, .int .i64 0, .int .i64 0]], []⟩ 8 (by kernel_rfl) (by kernel_rfl) (by kernel_rfl) (by kernel_rfl)) ?_
  intro W base args ds gs before hval0 hW _ _
  have hval : ∀ (j : Nat) t v, Try.f5.params[j]? = some t → args[j]? = some v → Value.okWide Try.prog W .any base t v := hval0
  have hW' := hW
  obtain ⟨p, q, hA0, hV, rfl, hfz, hnd⟩ := hW
  have hA : DataW.TrodAll enc Try.prog W 0 (fun _ => true) true Try.f5.params.toList args.toList ds p := hA0
  rw [Try.params5] at hA hval
  obtain ⟨v0, vs0, d0, ds0, p0, q0, hargs, rfl, rfl, h0, r0⟩ := trodAll_cons hA
  obtain ⟨v1, vs1, d1, ds1, p1, q1, rfl, rfl, rfl, h1, r1⟩ := trodAll_cons r0
  obtain ⟨rfl, rfl, rfl⟩ := trodAll_nil r1
  obtain rfl : args = #[v0, v1] := by cases args; simp_all
  obtain ⟨rfl, rfl⟩ := trodVars_none hV
  have k0 := h0
  have lt0 : ∀ x ∈ p0, x.block < W.heap.size := by obtain ⟨m, hm⟩ := k0; exact DataW.trod_lt m _ _ _ hm
  obtain ⟨x0, hv0⟩ := Sums_in (hval 0 43 v0 rfl rfl) h0
  have k1 := h1
  have lt1 : ∀ x ∈ p1, x.block < W.heap.size := by obtain ⟨m, hm⟩ := k1; exact DataW.trod_lt m _ _ _ hm
  obtain ⟨x1, hv1⟩ := Sums_in (hval 1 43 v1 rfl rfl) h1
  clear hA0 hval0
  refine (walk v0 x0 v1 x1 W hv0 hv1).mono fun e W' ⟨he, bel⟩ => ?_
  subst he
  exact ⟨_, rfl, _, _, _, [], _, [], hW', trodAll_mk1 (shut_bool Try.underlying4 _), (trodAll_cons_mk (Below.trod laidOut (by kernel_rfl) (of_decide_eq_true (by kernel_rfl)) k0 bel lt0) (trodAll_cons_mk (Below.trod laidOut (by kernel_rfl) (of_decide_eq_true (by kernel_rfl)) k1 bel lt1) trodAll_mk0)), rfl, bel.frame _, fun h => by cases h⟩

theorem over : Rows.fnExactBetterRow.holds Try.pinned (OpenSpec.ofChange Rows.fnExactBetterSpec) :=
  OpenClaim.holds_of_wide 5 Try.f5 rfl rfl rfl rfl rfl rfl rfl ⟨rfl, rfl, rfl, rfl, rfl⟩ rfl rfl rfl rfl rfl (by kernel_rfl) Try.func5 (by kernel_rfl)
    (of_decide_eq_true (by kernel_rfl)) (by unfold Func.isWrapper; first | (rw [if_pos (by decide +kernel)]; kernel_rfl) | (rw [if_neg (by decide +kernel)]; exact ⟨rfl, rfl⟩))
    (fun os started H enc _ => lifted os started H enc)

end Go.Proofs.Ytecdagfenooboaa.fnExactBetter
namespace Go.Proofs.Ytecdagfenooboaa
theorem fnExactBetter_holds : Rows.FnExactBetterSaid := fnExactBetter.over
#print axioms fnExactBetter_holds
end Go.Proofs.Ytecdagfenooboaa
