/-
  impl.LastRoot answers as the specification, for every device.
-/
import Derived.Test.YtnflilaldamddaaRows
import Derived.Test.YtnflilaldamddaaRtLaws
import Derived.Test.YtnflilaldamddaaRtLImpl
import Derived.Test.YtnflilaldamddaaDevOpen
import Derived.Test.YtnflilaldamddaaChecked
import Derived.ShutString
import Derived.Below
namespace Go.Proofs.Ytnflilaldamddaa.fnExactLastRoot
open Go.ChangeShapes Go.WideShapes Go.ChangeAt Go.RowKit
open Go.ChangeMaps (open_string shut_string)

theorem own : ownKnob Try.prog.godebug = none := by kernel_rfl

theorem laidOut : laidOutB Try.prog = true := by kernel_rfl
theorem walk (v : Value) (L : List ByteArray) (Q : List (Int × ByteArray)) (w : World) (hd : DevAt w v w.heap.size L Q) (hS : Sane L Q) :
    Calls Try.prog 6 #[v] w fun e w' => e = .returned (.bool true) ∧ Below w.heap.size w w' :=
  Rt.lastRoot_walk v L Q w hd hS fun h1 h2 w1 d hd1 => Rt.implLast_any d w1.heap.size L Q h1 h2 hS.2.2.1 w1 (Nat.le_refl _) hd1

set_option maxRecDepth 100000 in
theorem lifted (os : Os) (started : os.Started) (H : Type) (enc : TypeId × Value → H) :
    ReturnsInHanded {} Try.checked os 6 .any (Rows.fnExactLastRootSpec.pre6 enc Try.prog Try.f6 Rows.fnExactLastRootRow.domain false) (Rows.fnExactLastRootSpec.post enc Try.prog Try.f6 false true false false) := by
  refine returnsInHanded_of_change (C := Try.checked) own started (by kernel_rfl) Try.func6
    (ChangeSpec.witness6 (enc := enc) (C := Try.checked) false ⟨#[], #[.agg #[.slice none 0 0, .slice none 0 0]], []⟩ 8 (by kernel_rfl) (by kernel_rfl) (by kernel_rfl) (by kernel_rfl)) ?_
  intro W base args ds gs before hval0 hW _ _
  have hval : ∀ (j : Nat) t v, Try.f6.params[j]? = some t → args[j]? = some v → Value.okWide Try.prog W .any base t v := hval0
  have hW' := hW
  obtain ⟨p, q, hA0, hV, rfl, hfz, hnd⟩ := hW
  have hA : DataW.TrodAll enc Try.prog W 0 (fun _ => true) true Try.f6.params.toList args.toList ds p := hA0
  rw [Try.params6] at hA hval
  obtain ⟨v0, vs0, d0, ds0, p0, q0, hargs, rfl, rfl, h0, r0⟩ := trodAll_cons hA
  obtain ⟨rfl, rfl, rfl⟩ := trodAll_nil r0
  obtain rfl : args = #[v0] := by cases args; simp_all
  obtain ⟨rfl, rfl⟩ := trodVars_none hV
  have k0 := h0
  have lt0 : ∀ x ∈ p0, x.block < W.heap.size := by obtain ⟨m, hm⟩ := k0; exact DataW.trod_lt m _ _ _ hm
  obtain ⟨L0, Q0, hd0, hn0⟩ := dev_open (fun _ => rfl) (hval 0 46 v0 rfl rfl) h0
  clear hA0 hval0
  refine (walk v0 L0 Q0 W hd0 hn0).mono fun e W' ⟨he, bel⟩ => ?_
  subst he
  exact ⟨_, rfl, _, _, _, [], _, [], hW', trodAll_mk1 (shut_bool Try.underlying4 _), (trodAll_cons_mk (Below.trod laidOut (by kernel_rfl) (of_decide_eq_true (by kernel_rfl)) k0 bel lt0) trodAll_mk0), rfl, bel.frame _, fun h => by cases h⟩

theorem over : Rows.fnExactLastRootRow.holds Try.pinned (OpenSpec.ofChange Rows.fnExactLastRootSpec) :=
  OpenClaim.holds_of_wide 6 Try.f6 rfl rfl rfl rfl rfl rfl rfl ⟨rfl, rfl, rfl, rfl, rfl⟩ rfl rfl rfl rfl rfl (by kernel_rfl) Try.func6 (by kernel_rfl)
    (of_decide_eq_true (by kernel_rfl)) (by unfold Func.isWrapper; first | (rw [if_pos (by decide +kernel)]; kernel_rfl) | (rw [if_neg (by decide +kernel)]; exact ⟨rfl, rfl⟩))
    (fun os started H enc _ => lifted os started H enc)

end Go.Proofs.Ytnflilaldamddaa.fnExactLastRoot
namespace Go.Proofs.Ytnflilaldamddaa
theorem fnExactLastRoot_holds : Rows.FnExactLastRootSaid := fnExactLastRoot.over
#print axioms fnExactLastRoot_holds
end Go.Proofs.Ytnflilaldamddaa
