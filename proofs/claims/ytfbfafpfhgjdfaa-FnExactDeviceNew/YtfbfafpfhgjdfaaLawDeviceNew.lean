/-
  impl.DeviceNew answers as the specification.
-/
import Derived.Test.YtfbfafpfhgjdfaaRows
import Derived.Test.YtfbfafpfhgjdfaaDevNewImpl
import Derived.Test.YtfbfafpfhgjdfaaChecked
import Derived.Deep.RegionHeld3
import Derived.ShutString
import Derived.Below
namespace Go.Proofs.Ytfbfafpfhgjdfaa.fnExactDeviceNew
open Go.ChangeShapes Go.WideShapes Go.ChangeAt Go.RowKit
open Go.ChangeMaps (open_string shut_string)

theorem own : ownKnob Try.prog.godebug = none := by kernel_rfl

set_option maxRecDepth 100000 in
set_option maxHeartbeats 4000000 in
theorem walk (x : Int) (w : World) : Calls Try.prog 9 #[.int .i64 x] w fun e w' => e = .returned (.bool true) ∧ Below w.heap.size w w' := by
  have hlen := newL_length x
  have S1 := hide (fun w => specNew_any x w)
  have S2 := hide (fun w => implNew_any x w)
  generalize newL x = L at S1 S2 hlen
  generalize newOk x = ok at S1 S2
  have EQ := hide (fun w1 d d' (hd : DevAt w1 d w1.heap.size L []) (hd' : DevAt w1 d' w1.heap.size L []) => eqDevice_same d d' w1.heap.size w1.heap.size L [] (by omega) (by simp) w1 (Nat.le_refl _) (Nat.le_refl _) hd hd')
  have MK := hide (fun w1 B d (hd : DevOwn w1 B d L []) => markDevice_any d B 1 L [] (by omega) (by simp; omega) w1 hd)
  have HE := hide (fun w1 d (hd : DevAt w1 d w1.heap.size (marks 1 L.length) (marksQ (1 + L.length) 0)) => heldDevice_any d w1.heap.size 1 L.length 0 (by omega) (by omega) w1 (Nat.le_refl _) hd)
  go_enter Try.func9, Try.ntmps9
  go_wp2_with fail
  refine (unhide S1 _).mono ?_
  rintro e w1 ⟨⟨d0, rfl, ho0⟩, hb1⟩
  have HO0 := hide ho0
  have hk0 := ho0.blk
  obtain ⟨a0, n0, c0, b0, m0, k0, rfl, _, _⟩ := ho0.at
  have HK0 := hide hk0
  clear ho0 hk0
  go_wp2_with fail
  obtain ⟨W1, hW1⟩ : ∃ W, W = w1.alloc (Obj.cells #[Value.slice a0 n0 c0, Value.slice b0 m0 k0] 27) := ⟨_, rfl⟩
  rw [← hW1]
  have hbW1 : Below w1.heap.size w1 W1 := by rw [hW1]; exact below_new _ _
  have hx1 : Box W1 w1.heap.size (Value.slice a0 n0 c0) (Value.slice b0 m0 k0) := by rw [hW1]; exact Box.new _ _ _
  have hsW1 : W1.heap.size = w1.heap.size + 1 := by rw [hW1]; simp
  clear hW1
  have HO0 := hide ((unhide HO0).below hbW1)
  have HX0 := hide hx1
  have hc1 : Below w.heap.size w W1 := hb1.trans (hbW1.mono hb1.size)
  have hle1 := hb1.size
  clear hx1 hb1 hbW1
  refine (unhide S2 _).mono ?_
  rintro e w2 ⟨⟨d1, rfl, ho1⟩, hb2⟩
  have HO1 := hide ho1
  have hk1 := ho1.blk
  have HO0 := hide ((unhide HO0).below hb2)
  have HX0 := hide ((unhide HX0).below hb2)
  obtain ⟨a1, n1, c1, b1, m1, k1, rfl, _, _⟩ := ho1.at
  have HK1 := hide hk1
  clear hk1
  have hc2 : Below w.heap.size w w2 := hc1.trans (hb2.mono hc1.size)
  have hl2 := hb2.size
  obtain ⟨p0, p1⟩ := ((unhide HX0).below (below_new w2 (Obj.cells #[Value.slice a1 n1 c1, Value.slice b1 m1 k1] 27))).cells
  clear ho1 hb2 hc1
  go_wp2_with fail
  obtain ⟨W2, hW2⟩ : ∃ W, W = w2.alloc (Obj.cells #[Value.slice a1 n1 c1, Value.slice b1 m1 k1] 27) := ⟨_, rfl⟩
  rw [← hW2]
  have hbW2 : Below w2.heap.size w2 W2 := by rw [hW2]; exact below_new _ _
  have hx1 : Box W2 w2.heap.size (Value.slice a1 n1 c1) (Value.slice b1 m1 k1) := by rw [hW2]; exact Box.new _ _ _
  have hsW2 : W2.heap.size = w2.heap.size + 1 := by rw [hW2]; simp
  clear hW2 p0 p1
  have HO0 := hide ((unhide HO0).below hbW2)
  have HO1 := hide ((unhide HO1).below hbW2)
  have HX0 := hide ((unhide HX0).below hbW2)
  have hc3 : Below w.heap.size w W2 := hc2.trans (hbW2.mono hc2.size)
  have hlw := hc2.size
  clear hbW2 hc2
  refine (unhide EQ W2 _ _ (unhide HO1).at (unhide HO0).at).mono ?_
  rintro e w3 ⟨rfl, hb3⟩
  have HO0 := hide ((unhide HO0).below hb3)
  have HO1 := hide ((unhide HO1).below hb3)
  have HX0 := hide ((unhide HX0).below hb3)
  have HX1 := hide (hx1.below hb3)
  have hc4 : Below w.heap.size w w3 := hc3.trans (hb3.mono hc3.size)
  have hl3 := hb3.size
  obtain ⟨p0, p1⟩ := (unhide HX1).cells
  clear hb3 hc3 hx1
  cases ok
  all_goals
    go_wp2_with fail
    refine (unhide MK w3 _ _ (unhide HO1)).mono ?_
    rintro e w4 ⟨rfl, ho4, hk4⟩
    have hkd := unhide HK1
    have HO0 := hide ((unhide HO0).kept hk4 (fun g h0 h1 => by have h2 := unhide HK0 g h0; have h3 := unhide HK1 g h1; omega))
    have HX0 := hide ((unhide HX0).kept hk4 (fun h => by have h3 := unhide HK1 _ h; omega))
    have HX1 := hide ((unhide HX1).kept hk4 (fun h => by have h3 := unhide HK1 _ h; omega))
    have HO1 := hide ho4
    have hc5 : Below w.heap.size w w4 := hc4.trans (hk4.below hc4.size (fun g hg => by have h3 := unhide HK1 g hg; omega))
    obtain ⟨q0, q1⟩ := (unhide HX1).cells
    clear p0 p1 hkd ho4 hk4 hc4
    go_wp2_with fail
    refine (unhide HE w4 _ (unhide HO1).at).mono ?_
    rintro e w5 ⟨rfl, hb5⟩
    have HO0 := hide ((unhide HO0).below hb5)
    have HO1 := hide ((unhide HO1).below hb5)
    have HX0 := hide ((unhide HX0).below hb5)
    have HX1 := hide ((unhide HX1).below hb5)
    have hc6 : Below w.heap.size w w5 := hc5.trans (hb5.mono hc5.size)
    clear hb5 hc5 q0 q1
    go_wp2_with fail
    refine (unhide S2 _).mono ?_
    rintro e w6 ⟨⟨d2, rfl, ho2⟩, hb6⟩
    have HO2 := hide ho2
    obtain ⟨a2, n2, c2, b2, m2, k2, rfl, _, _⟩ := ho2.at
    have HO0 := hide ((unhide HO0).below hb6)
    have HO1 := hide ((unhide HO1).below hb6)
    have HX0 := hide ((unhide HX0).below hb6)
    have HX1 := hide ((unhide HX1).below hb6)
    have hc7 : Below w.heap.size w w6 := hc6.trans (hb6.mono hc6.size)
    obtain ⟨p0, p1⟩ := ((unhide HX0).below (below_new w6 (Obj.cells #[Value.slice a2 n2 c2, Value.slice b2 m2 k2] 27))).cells
    clear ho2 hb6 hc6
    go_wp2_with fail
    obtain ⟨W6, hW6⟩ : ∃ W, W = w6.alloc (Obj.cells #[Value.slice a2 n2 c2, Value.slice b2 m2 k2] 27) := ⟨_, rfl⟩
    rw [← hW6]
    have hbW6 : Below w6.heap.size w6 W6 := by rw [hW6]; exact below_new _ _
    clear hW6 p0 p1
    have HO0 := hide ((unhide HO0).below hbW6)
    have HO1 := hide ((unhide HO1).below hbW6)
    have HO2 := hide ((unhide HO2).below hbW6)
    have HX1 := hide ((unhide HX1).below hbW6)
    have hc8 : Below w.heap.size w W6 := hc7.trans (hbW6.mono hc7.size)
    clear hbW6 hc7
    refine (unhide EQ W6 _ _ (unhide HO2).at (unhide HO0).at).mono ?_
    rintro e w7 ⟨rfl, hb7⟩
    have HO1 := hide ((unhide HO1).below hb7)
    have HX1 := hide ((unhide HX1).below hb7)
    have hc9 : Below w.heap.size w w7 := hc8.trans (hb7.mono hc8.size)
    obtain ⟨p0, p1⟩ := (unhide HX1).cells
    clear hb7 hc8
    go_wp2_with fail
    refine (unhide HE w7 _ (unhide HO1).at).mono ?_
    rintro e w8 ⟨rfl, hb8⟩
    have hc10 : Below w.heap.size w w8 := hc9.trans (hb8.mono hc9.size)
    clear hb8 hc9 p0 p1
    go_wp2
    go_ret
    exact ⟨rfl, hc10⟩

set_option maxRecDepth 100000 in
theorem lifted (os : Os) (started : os.Started) (H : Type) (enc : TypeId × Value → H) :
    ReturnsInHanded {} Try.checked os 9 .any (Rows.fnExactDeviceNewSpec.pre6 enc Try.prog Try.f9 Rows.fnExactDeviceNewRow.domain false) (Rows.fnExactDeviceNewSpec.post enc Try.prog Try.f9 false true false false) := by
  refine returnsInHanded_of_change (C := Try.checked) own started (by kernel_rfl) Try.func9
    (ChangeSpec.witness6 (enc := enc) (C := Try.checked) false ⟨#[], #[.int .i64 0], []⟩ 8 (by kernel_rfl) (by kernel_rfl) (by kernel_rfl) (by kernel_rfl)) ?_
  intro W base args ds gs before hval0 hW _ _
  have hval : ∀ (j : Nat) t v, Try.f9.params[j]? = some t → args[j]? = some v → Value.okWide Try.prog W .any base t v := hval0
  have hW' := hW
  obtain ⟨p, q, hA0, hV, rfl, hfz, hnd⟩ := hW
  have hA : DataW.TrodAll enc Try.prog W 0 (fun _ => true) true Try.f9.params.toList args.toList ds p := hA0
  rw [Try.params9] at hA hval
  obtain ⟨v0, vs0, d0, ds0, p0, q0, hargs, rfl, rfl, h0, r0⟩ := trodAll_cons hA
  obtain ⟨rfl, rfl, rfl⟩ := trodAll_nil r0
  obtain rfl : args = #[v0] := by cases args; simp_all
  obtain ⟨rfl, rfl⟩ := trodVars_none hV
  obtain ⟨a0, rfl, rfl, rfl, m0⟩ := open_int Try.underlying3 (hval 0 3 v0 rfl rfl) h0
  clear hA0 hval0
  simp only [List.append_nil] at hW'
  refine (walk a0 W).mono fun e W' ⟨he, bel⟩ => ?_
  subst he
  exact ⟨_, rfl, _, _, _, [], [], [], hW', trodAll_mk1 (shut_bool Try.underlying4 _), (trodAll_cons_mk (shut_int Try.underlying3 m0) trodAll_mk0), rfl, bel.frame _, fun h => by cases h⟩

theorem over : Rows.fnExactDeviceNewRow.holds Try.pinned (OpenSpec.ofChange Rows.fnExactDeviceNewSpec) :=
  OpenClaim.holds_of_wide 9 Try.f9 rfl rfl rfl rfl rfl rfl rfl ⟨rfl, rfl, rfl, rfl, rfl⟩ rfl rfl rfl rfl rfl (by kernel_rfl) Try.func9 (by kernel_rfl)
    (of_decide_eq_true (by kernel_rfl)) (by unfold Func.isWrapper; first | (rw [if_pos (by decide +kernel)]; kernel_rfl) | (rw [if_neg (by decide +kernel)]; exact ⟨rfl, rfl⟩))
    (fun os started H enc _ => lifted os started H enc)

end Go.Proofs.Ytfbfafpfhgjdfaa.fnExactDeviceNew
namespace Go.Proofs.Ytfbfafpfhgjdfaa
theorem fnExactDeviceNew_holds : Rows.FnExactDeviceNewSaid := fnExactDeviceNew.over
#print axioms fnExactDeviceNew_holds
end Go.Proofs.Ytfbfafpfhgjdfaa
