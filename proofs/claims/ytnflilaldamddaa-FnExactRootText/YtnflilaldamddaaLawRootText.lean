/-
  impl.RootText answers as the specification, for every root.
-/
import Derived.Test.YtnflilaldamddaaRows
import Derived.Test.YtnflilaldamddaaRtText
import Derived.Test.YtnflilaldamddaaRtImpl
import Derived.Test.YtnflilaldamddaaRtOpen
import Derived.Test.YtnflilaldamddaaChecked
import Derived.ShutString
import Derived.Below
namespace Go.Proofs.Ytnflilaldamddaa.fnExactRootText
open Go.ChangeShapes Go.WideShapes Go.ChangeAt Go.RowKit
open Go.ChangeMaps (open_string shut_string)

theorem own : ownKnob Try.prog.godebug = none := by kernel_rfl

theorem laidOut : laidOutB Try.prog = true := by kernel_rfl
theorem rootT_two (s t : Int) : ∃ (z : ByteArray) (b : Bool), Rt.rootT s t = .tuple #[.string z, .bool b] := by
  unfold Rt.rootT
  split
  · exact ⟨_, _, rfl⟩
  · exact ⟨_, _, rfl⟩

set_option maxRecDepth 100000 in
set_option maxHeartbeats 1000000 in
theorem walk (s t : Int) (w : World) (_ : (Lit.int .i64 s).wf = true) (_ : (Lit.int .i64 t).wf = true) : Calls Try.prog 4 #[.agg #[.int .i64 s, .int .i64 t]] w fun e w' => e = .returned (.bool true) ∧ Below w.heap.size w w' := by
  have H0 := hide (fun w => Rt.toRoot_any s t w)
  have H1 := hide (fun w => Rt.specRoot_any s t w)
  have H2 := hide (fun w => Rt.implRoot_any s t w)
  obtain ⟨z, b, ht⟩ := rootT_two s t
  rw [ht] at H1 H2
  clear ht
  go_enter Try.func4, Try.ntmps4
  go_wp2_with fail
  obtain ⟨W, hW⟩ : ∃ W, W = w.alloc (Obj.cells #[Value.int .i64 s, Value.int .i64 t] 39) := ⟨_, rfl⟩
  have hr : W.heap[w.heap.size]? = some (.cells #[Value.int .i64 s, Value.int .i64 t] 39 (0, 0)) := by rw [hW]; exact heap_alloc_new w _
  have hb : Below w.heap.size w W := by rw [hW]; exact Rt.below_new1 _ _
  have hs : w.heap.size < W.heap.size := by rw [hW]; simp
  rw [← hW]
  clear hW
  refine (unhide H0 _).mono ?_
  rintro e w1 ⟨rfl, hb1⟩
  go_wp2_with fail
  refine (unhide H1 _).mono ?_
  rintro e w2 ⟨rfl, hb2⟩
  have hc2 := (hb.trans (hb1.mono hb.size)).trans (hb2.mono (Nat.le_trans hb.size hb1.size))
  have hs2 : w.heap.size < w2.heap.size := Nat.lt_of_lt_of_le (Nat.lt_of_lt_of_le hs hb1.size) hb2.size
  have hr2 := (hb2.block _ (Nat.lt_of_lt_of_le hs hb1.size)).trans ((hb1.block _ hs).trans hr)
  obtain ⟨p0, p1, _⟩ := cells_of_two hr2
  clear hb hb1 hb2 hr hr2 hs
  go_wp2_with fail
  refine (unhide H0 _).mono ?_
  rintro e w3 ⟨rfl, hb3⟩
  go_wp2_with fail
  refine (unhide H2 _).mono ?_
  rintro e w4 ⟨rfl, hb4⟩
  have hc4 := (hc2.trans (hb3.mono hc2.size)).trans (hb4.mono (Nat.le_trans hc2.size hb3.size))
  clear hb3 hb4 hc2 p0 p1
  cases b
  all_goals
    go_wp2
    go_ret
    exact ⟨rfl, hc4⟩

set_option maxRecDepth 100000 in
theorem lifted (os : Os) (started : os.Started) (H : Type) (enc : TypeId × Value → H) :
    ReturnsInHanded {} Try.checked os 4 .any (Rows.fnExactRootTextSpec.pre6 enc Try.prog Try.f4 Rows.fnExactRootTextRow.domain false) (Rows.fnExactRootTextSpec.post enc Try.prog Try.f4 false true false false) := by
  refine returnsInHanded_of_change (C := Try.checked) own started (by kernel_rfl) Try.func4
    (ChangeSpec.witness6 (enc := enc) (C := Try.checked) false ⟨#[], #[.agg #[.int .i64 0, .int .i64 0]], []⟩ 8 (by kernel_rfl) (by kernel_rfl) (by kernel_rfl) (by kernel_rfl)) ?_
  intro W base args ds gs before hval0 hW _ _
  have hval : ∀ (j : Nat) t v, Try.f4.params[j]? = some t → args[j]? = some v → Value.okWide Try.prog W .any base t v := hval0
  have hW' := hW
  obtain ⟨p, q, hA0, hV, rfl, hfz, hnd⟩ := hW
  have hA : DataW.TrodAll enc Try.prog W 0 (fun _ => true) true Try.f4.params.toList args.toList ds p := hA0
  rw [Try.params4] at hA hval
  obtain ⟨v0, vs0, d0, ds0, p0, q0, hargs, rfl, rfl, h0, r0⟩ := trodAll_cons hA
  obtain ⟨rfl, rfl, rfl⟩ := trodAll_nil r0
  obtain rfl : args = #[v0] := by cases args; simp_all
  obtain ⟨rfl, rfl⟩ := trodVars_none hV
  have k0 := h0
  have lt0 : ∀ x ∈ p0, x.block < W.heap.size := by obtain ⟨m, hm⟩ := k0; exact DataW.trod_lt m _ _ _ hm
  obtain ⟨s0, t0, rfl, ws0, wt0⟩ := Rt.root_open (hval 0 39 v0 rfl rfl) h0
  clear hA0 hval0
  refine (walk s0 t0 W ws0 wt0).mono fun e W' ⟨he, bel⟩ => ?_
  subst he
  exact ⟨_, rfl, _, _, _, [], _, [], hW', trodAll_mk1 (shut_bool Try.underlying4 _), (trodAll_cons_mk (Below.trod laidOut (by kernel_rfl) (of_decide_eq_true (by kernel_rfl)) k0 bel lt0) trodAll_mk0), rfl, bel.frame _, fun h => by cases h⟩

theorem over : Rows.fnExactRootTextRow.holds Try.pinned (OpenSpec.ofChange Rows.fnExactRootTextSpec) :=
  OpenClaim.holds_of_wide 4 Try.f4 rfl rfl rfl rfl rfl rfl rfl ⟨rfl, rfl, rfl, rfl, rfl⟩ rfl rfl rfl rfl rfl (by kernel_rfl) Try.func4 (by kernel_rfl)
    (of_decide_eq_true (by kernel_rfl)) (by unfold Func.isWrapper; first | (rw [if_pos (by decide +kernel)]; kernel_rfl) | (rw [if_neg (by decide +kernel)]; exact ⟨rfl, rfl⟩))
    (fun os started H enc _ => lifted os started H enc)

end Go.Proofs.Ytnflilaldamddaa.fnExactRootText
namespace Go.Proofs.Ytnflilaldamddaa
theorem fnExactRootText_holds : Rows.FnExactRootTextSaid := fnExactRootText.over
#print axioms fnExactRootText_holds
end Go.Proofs.Ytnflilaldamddaa
