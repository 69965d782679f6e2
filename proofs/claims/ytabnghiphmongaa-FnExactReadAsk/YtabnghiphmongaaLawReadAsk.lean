/-
  impl.ReadAsk answers as the specification; it writes into no argument, and its answer owns its memory. Walk and frame written by program (tools/exactlaw.py).
-/
import Derived.Test.YtabnghiphmongaaRows
import Derived.Test.YtabnghiphmongaaAkGen
import Derived.Test.YtabnghiphmongaaGrBox
import Derived.Test.YtabnghiphmongaaAkImpl
import Derived.Test.YtabnghiphmongaaChecked
import Derived.Deep.RegionHeld3
import Derived.ShutString
import Derived.Below
namespace Go.Proofs.Ytabnghiphmongaa.fnExactReadAsk
open Go.Proofs.Ytabnghiphmongaa Go.Proofs.Ytabnghiphmongaa.Gr
open Go.ChangeShapes Go.WideShapes Go.ChangeAt Go.RowKit
open Go.ChangeMaps (open_string shut_string)

theorem own : ownKnob Try.prog.godebug = none := by kernel_rfl

set_option maxRecDepth 100000 in
set_option maxHeartbeats 4000000 in
theorem walk (x0 : ByteArray) (w : World)  :
    Calls Try.prog 4 #[.string x0] w fun e w' => e = .returned (.bool true) ∧ Below w.heap.size w w' := by
  by_cases hbig0 : (1048576 : Int) < (x0.size : Int)
  · go_enter Try.func4, Try.ntmps4
    go_wp2
    go_ret
    exact ⟨rfl, Below.refl _ _⟩
  · have hsm0 : x0.size ≤ 1048576 := by omega
    have SP := hide (fun w1  => specReadAsk_gen w1.heap.size x0 hsm0 w1 (Nat.le_refl _) )
    have IM := hide (fun w1  => implReadAsk_gen w1.heap.size x0 hsm0 w1 (Nat.le_refl _) )
    generalize raV x0 = xr0 at SP IM
    generalize raOk x0 = ret1 at SP IM
    have hne1 : (ret1 != ret1) = false := by simp
    have ER0 := hide (fun w1 d d1 (hd : AkAt w1 d w1.heap.size xr0) (hd1 : AkAt w1 d1 w1.heap.size xr0) => eqAsk_gen d d1 w1.heap.size w1.heap.size xr0 w1 (Nat.le_refl _) (Nat.le_refl _) hd hd1)
    go_enter Try.func4, Try.ntmps4
    go_wp2_with fail
    refine (unhide SP w ).mono ?_
    rintro e uw3 ⟨⟨d1, rfl, ho2⟩, hb4⟩
    have hc5 : Below w.heap.size w uw3 := hb4
    have hz6 : w.heap.size ≤ uw3.heap.size := hb4.size
    clear hb4
    have HO7 := hide ho2
    unfold AkOwn at ho2
    subst ho2
    (try unfold AskI.v)
    obtain ⟨W12, hW13⟩ : ∃ W, W = uw3.alloc (Obj.cells #[Value.int .i64 xr0.Op, Value.int .i64 xr0.A, Value.int .i64 xr0.B, Value.int .i64 xr0.W1, Value.int .i64 xr0.W2, Value.int .i64 xr0.W3] 26) := ⟨_, rfl⟩
    have hb14 : Below uw3.heap.size uw3 W12 := by rw [hW13]; exact below_new _ _
    have HO7 := hide ((unhide HO7).below hb14)
    have HX15 : Hid (CBox W12 uw3.heap.size #[Value.int .i64 xr0.Op, Value.int .i64 xr0.A, Value.int .i64 xr0.B, Value.int .i64 xr0.W1, Value.int .i64 xr0.W2, Value.int .i64 xr0.W3] 26) := by show CBox _ _ _ _; rw [hW13]; exact CBox.new _ _ _
    have hc16 : Below w.heap.size w W12 := hc5.trans (hb14.mono hc5.size)
    have hz17 : uw3.heap.size < W12.heap.size := by rw [hW13]; simp
    clear hb14
    go_wp2_with fail
    rw [← hW13]
    clear hW13
    refine (unhide IM W12 ).mono ?_
    rintro e uw20 ⟨⟨d18, rfl, ho19⟩, hb21⟩
    have HO7 := hide ((unhide HO7).below hb21)
    have HX15 := hide ((unhide HX15).below hb21)
    have hc22 : Below w.heap.size w uw20 := hc16.trans (hb21.mono hc16.size)
    have hz23 : W12.heap.size ≤ uw20.heap.size := hb21.size
    clear hb21
    have HO24 := hide ho19
    unfold AkOwn at ho19
    subst ho19
    (try unfold AskI.v)
    obtain ⟨W29, hW30⟩ : ∃ W, W = uw20.alloc (Obj.cells #[Value.int .i64 xr0.Op, Value.int .i64 xr0.A, Value.int .i64 xr0.B, Value.int .i64 xr0.W1, Value.int .i64 xr0.W2, Value.int .i64 xr0.W3] 26) := ⟨_, rfl⟩
    have hb31 : Below uw20.heap.size uw20 W29 := by rw [hW30]; exact below_new _ _
    have HO7 := hide ((unhide HO7).below hb31)
    have HX15 := hide ((unhide HX15).below hb31)
    have HO24 := hide ((unhide HO24).below hb31)
    have HX32 : Hid (CBox W29 uw20.heap.size #[Value.int .i64 xr0.Op, Value.int .i64 xr0.A, Value.int .i64 xr0.B, Value.int .i64 xr0.W1, Value.int .i64 xr0.W2, Value.int .i64 xr0.W3] 26) := by show CBox _ _ _ _; rw [hW30]; exact CBox.new _ _ _
    have hc33 : Below w.heap.size w W29 := hc22.trans (hb31.mono hc22.size)
    have hz34 : uw20.heap.size < W29.heap.size := by rw [hW30]; simp
    clear hb31
    have p35 : W29.cell? ⟨uw20.heap.size, 0, none⟩ = some (Value.int .i64 xr0.Op) := (unhide HX32).cell 0
    have p36 : W29.cell? ⟨uw20.heap.size, 1, none⟩ = some (Value.int .i64 xr0.A) := (unhide HX32).cell 1
    have p37 : W29.cell? ⟨uw20.heap.size, 2, none⟩ = some (Value.int .i64 xr0.B) := (unhide HX32).cell 2
    have p38 : W29.cell? ⟨uw20.heap.size, 3, none⟩ = some (Value.int .i64 xr0.W1) := (unhide HX32).cell 3
    have p39 : W29.cell? ⟨uw20.heap.size, 4, none⟩ = some (Value.int .i64 xr0.W2) := (unhide HX32).cell 4
    have p40 : W29.cell? ⟨uw20.heap.size, 5, none⟩ = some (Value.int .i64 xr0.W3) := (unhide HX32).cell 5
    have p41 : W29.cell? ⟨uw3.heap.size, 0, none⟩ = some (Value.int .i64 xr0.Op) := (unhide HX15).cell 0
    have p42 : W29.cell? ⟨uw3.heap.size, 1, none⟩ = some (Value.int .i64 xr0.A) := (unhide HX15).cell 1
    have p43 : W29.cell? ⟨uw3.heap.size, 2, none⟩ = some (Value.int .i64 xr0.B) := (unhide HX15).cell 2
    have p44 : W29.cell? ⟨uw3.heap.size, 3, none⟩ = some (Value.int .i64 xr0.W1) := (unhide HX15).cell 3
    have p45 : W29.cell? ⟨uw3.heap.size, 4, none⟩ = some (Value.int .i64 xr0.W2) := (unhide HX15).cell 4
    have p46 : W29.cell? ⟨uw3.heap.size, 5, none⟩ = some (Value.int .i64 xr0.W3) := (unhide HX15).cell 5
    (try rw [hW30] at p35 p36 p37 p38 p39 p40 p41 p42 p43 p44 p45 p46)
    go_wp2_with fail
    rw [← hW30]
    clear hW30 p35 p36 p37 p38 p39 p40 p41 p42 p43 p44 p45 p46
    refine (unhide ER0 W29 _ _ (unhide HO24).at (unhide HO7).at).mono ?_
    rintro e uw47 ⟨rfl, hb48⟩
    have HO7 := hide ((unhide HO7).below hb48)
    have HX15 := hide ((unhide HX15).below hb48)
    have HO24 := hide ((unhide HO24).below hb48)
    have HX32 := hide ((unhide HX32).below hb48)
    have hc49 : Below w.heap.size w uw47 := hc33.trans (hb48.mono hc33.size)
    have hz50 : W29.heap.size ≤ uw47.heap.size := hb48.size
    clear hb48
    go_wp2
    go_ret
    exact ⟨rfl, hc49⟩

set_option maxRecDepth 100000 in
theorem lifted (os : Os) (started : os.Started) (H : Type) (enc : TypeId × Value → H) :
    ReturnsInHanded {} Try.checked os 4 .any (Rows.fnExactReadAskSpec.pre6 enc Try.prog Try.f4 Rows.fnExactReadAskRow.domain false) (Rows.fnExactReadAskSpec.post enc Try.prog Try.f4 false true false false) := by
  refine returnsInHanded_of_change (C := Try.checked) own started (by kernel_rfl) Try.func4
    (ChangeSpec.witness6 (enc := enc) (C := Try.checked) false ⟨#[], #[.string .empty], []⟩ 8 (by kernel_rfl) (by kernel_rfl) (by kernel_rfl) (by kernel_rfl)) ?_
  intro W base args ds gs before hval0 hW _ _
  have hval : ∀ (j : Nat) t v, Try.f4.params[j]? = some t → args[j]? = some v → Value.okWide Try.prog W .any base t v := hval0
  have hW' := hW
  obtain ⟨p, q, hA0, hV, rfl, hfz, hnd⟩ := hW
  have hA : DataW.TrodAll enc Try.prog W 0 (fun _ => true) true Try.f4.params.toList args.toList ds p := hA0
  rw [Try.params4] at hA hval
  obtain ⟨v0, vs0, d0, ds0, p0, q0, hargs, rfl, rfl, h0, r0⟩ := trodAll_cons hA
  obtain ⟨rfl, rfl, rfl⟩ := trodAll_nil r0
  obtain rfl : args = #[v0] := by cases args; simp_all
  obtain ⟨rfl, rfl⟩ := trodVars_none hV
  obtain ⟨x0, rfl, rfl, rfl, m0⟩ := open_string Try.underlying9 (hval 0 9 v0 rfl rfl) h0
  clear hA0 hval0
  simp only [List.append_nil] at hW'
  refine (walk x0 W ).mono fun e W' ⟨he, bel⟩ => ?_
  subst he
  exact ⟨_, rfl, _, _, _, [], [], [], hW', trodAll_mk1 (shut_bool Try.underlying4 _), (trodAll_cons_mk (shut_string Try.underlying9 m0) trodAll_mk0), rfl, bel.frame _, fun h => by cases h⟩

theorem over : Rows.fnExactReadAskRow.holds Try.pinned (OpenSpec.ofChange Rows.fnExactReadAskSpec) :=
  OpenClaim.holds_of_wide 4 Try.f4 rfl rfl rfl rfl rfl rfl rfl ⟨rfl, rfl, rfl, rfl, rfl⟩ rfl rfl rfl rfl rfl (by kernel_rfl) Try.func4 (by kernel_rfl)
    (of_decide_eq_true (by kernel_rfl)) (by unfold Func.isWrapper; first | (rw [if_pos (by decide +kernel)]; kernel_rfl) | (rw [if_neg (by decide +kernel)]; exact ⟨rfl, rfl⟩))
    (fun os started H enc _ => lifted os started H enc)

end Go.Proofs.Ytabnghiphmongaa.fnExactReadAsk
namespace Go.Proofs.Ytabnghiphmongaa
theorem fnExactReadAsk_holds : Rows.FnExactReadAskSaid := fnExactReadAsk.over
#print axioms fnExactReadAsk_holds
end Go.Proofs.Ytabnghiphmongaa
