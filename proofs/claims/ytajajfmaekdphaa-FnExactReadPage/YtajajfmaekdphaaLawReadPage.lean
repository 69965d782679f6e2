/-
  impl.ReadPage answers as the specification, for every text; its answer owns its memory, and is kept by no later call.
-/
import Derived.Test.YtajajfmaekdphaaRows
import Derived.Test.YtajajfmaekdphaaPgRSpec2
import Derived.Test.YtajajfmaekdphaaPgRImpl
import Derived.Test.YtajajfmaekdphaaPgMark
import Derived.Test.YtajajfmaekdphaaChecked
import Derived.ShutString
import Derived.Below
namespace Go.Proofs.Ytajajfmaekdphaa.fnExactReadPage
open Go.ChangeShapes Go.WideShapes Go.ChangeAt Go.RowKit
open Go.ChangeMaps (open_string shut_string)

theorem own : ownKnob Try.prog.godebug = none := by kernel_rfl

theorem rpA_len (text : ByteArray) : (pgQ (rpA text)).length ≤ 54 := by
  unfold rpA
  cases unS text with
  | none => simp [pgQ]
  | some s =>
    rw [Option.bind_some]
    cases pgA s with
    | none => simp [pgQ]
    | some p =>
      rw [Option.bind_some]
      unfold heldTo
      split
      · rename_i h
        have := page_count h.1
        simpa [pgQ] using this
      · simp [pgQ]

set_option maxRecDepth 100000 in
set_option maxHeartbeats 4000000 in
theorem walk (s : ByteArray) (w : World) : Calls Try.prog 5 #[.string s] w fun e w' => e = .returned (.bool true) ∧ Below w.heap.size w w' := by
  by_cases hbig : (1048576 : Int) < (s.size : Int)
  · go_enter Try.func5, Try.ntmps5
    go_wp2
    go_ret
    exact ⟨rfl, Below.refl _ _⟩
  have hlen := rpA_len s
  have s1 := fun w => specRP_any s (by omega) w
  have s2 := fun w => implRP_any s (by omega) w
  unfold PagePost at s1 s2
  have S1 := hide s1
  have S2 := hide s2
  clear s1 s2
  generalize pgK (rpA s) = K at S1 S2
  generalize pgQ (rpA s) = Q at S1 S2 hlen
  generalize (rpA s).isSome = ok at S1 S2
  have EQ := hide (fun w1 d d' (hd : PageAt w1 d w1.heap.size K Q) (hd' : PageAt w1 d' w1.heap.size K Q) => eqPage_same d d' w1.heap.size w1.heap.size K Q (by omega) w1 (Nat.le_refl _) (Nat.le_refl _) hd hd')
  have MK := hide (fun w1 B d (hd : PageOwn w1 B d K Q) => markPage_any d B 1 K Q (by omega) (by omega) w1 hd)
  have HE := hide (fun w1 d (hd : PageAt w1 d w1.heap.size K (marksI 1 Q.length)) => heldPage_any d w1.heap.size 1 Q.length K (by omega) (by omega) w1 (Nat.le_refl _) hd)
  have hkg : ¬ ((1 + Q.length * 3 : Nat) : Int) < 0 := by omega
  have hkn : (((1 + Q.length * 3 : Nat) : Int) != ((1 + Q.length * 3 : Nat) : Int)) = false := by simp
  obtain ⟨kg, hkge⟩ : ∃ k : Nat, k = 1 + Q.length * 3 := ⟨_, rfl⟩
  rw [← hkge] at MK HE hkg hkn
  clear hkge
  go_enter Try.func5, Try.ntmps5
  go_wp2_with fail
  refine (unhide S1 _).mono ?_
  rintro e w1 ⟨⟨d0, rfl, ho0⟩, hb1⟩
  have HO0 := hide ho0
  have hk0 := ho0.blk
  obtain ⟨b0, m0, k0, rfl, _⟩ := ho0.at
  have HK0 := hide hk0
  clear ho0 hk0
  go_wp2_with fail
  obtain ⟨W1, hW1⟩ : ∃ W, W = w1.alloc (Obj.cells #[Value.int .i64 K, Value.slice b0 m0 k0] 26) := ⟨_, rfl⟩
  rw [← hW1]
  have hbW1 : Below w1.heap.size w1 W1 := by rw [hW1]; exact below_new _ _
  have hx1 : Box W1 w1.heap.size (Value.int .i64 K) (Value.slice b0 m0 k0) := by rw [hW1]; exact Box.new _ _ _
  have hsW1 : W1.heap.size = w1.heap.size + 1 := by rw [hW1]; simp
  clear hW1
  have HO0 := hide ((unhide HO0).below hbW1)
  have HX0 := hide hx1
  have hc1 : Below w.heap.size w W1 := hb1.trans (hbW1.mono hb1.size)
  have hle1 := hb1.size
  clear hx1 hb1 hbW1
  refine (unhide S2 _).mono ?_
  rintro e w2 ⟨⟨d1, rfl, ho1⟩, hb2⟩
  have HO1 := hide ho1
  have hk1 := ho1.blk
  have HO0 := hide ((unhide HO0).below hb2)
  have HX0 := hide ((unhide HX0).below hb2)
  obtain ⟨b1, m1, k1, rfl, _⟩ := ho1.at
  have HK1 := hide hk1
  clear hk1
  have hc2 : Below w.heap.size w w2 := hc1.trans (hb2.mono hc1.size)
  have hl2 := hb2.size
  obtain ⟨p0, p1⟩ := ((unhide HX0).below (below_new w2 (Obj.cells #[Value.int .i64 K, Value.slice b1 m1 k1] 26))).cells
  clear ho1 hb2 hc1
  go_wp2_with fail
  obtain ⟨W2, hW2⟩ : ∃ W, W = w2.alloc (Obj.cells #[Value.int .i64 K, Value.slice b1 m1 k1] 26) := ⟨_, rfl⟩
  rw [← hW2]
  have hbW2 : Below w2.heap.size w2 W2 := by rw [hW2]; exact below_new _ _
  have hx1 : Box W2 w2.heap.size (Value.int .i64 K) (Value.slice b1 m1 k1) := by rw [hW2]; exact Box.new _ _ _
  have hsW2 : W2.heap.size = w2.heap.size + 1 := by rw [hW2]; simp
  clear hW2 p0 p1
  have HO0 := hide ((unhide HO0).below hbW2)
  have HO1 := hide ((unhide HO1).below hbW2)
  have HX0 := hide ((unhide HX0).below hbW2)
  have hc3 : Below w.heap.size w W2 := hc2.trans (hbW2.mono hc2.size)
  have hlw := hc2.size
  clear hbW2 hc2
  refine (unhide EQ W2 _ _ (unhide HO1).at (unhide HO0).at).mono ?_
  rintro e w3 ⟨rfl, hb3⟩
  have HO0 := hide ((unhide HO0).below hb3)
  have HO1 := hide ((unhide HO1).below hb3)
  have HX0 := hide ((unhide HX0).below hb3)
  have HX1 := hide (hx1.below hb3)
  have hc4 : Below w.heap.size w w3 := hc3.trans (hb3.mono hc3.size)
  have hl3 := hb3.size
  obtain ⟨p0, p1⟩ := (unhide HX1).cells
  clear hb3 hc3 hx1
  cases ok
  all_goals
    go_wp2_with fail
    refine (unhide MK w3 _ _ (unhide HO1)).mono ?_
    rintro e w4 ⟨rfl, ho4, hk4⟩
    have hkd := unhide HK1
    have HO0 := hide ((unhide HO0).kept hk4 (fun g h0 h1 => by have h2 := unhide HK0 g h0; have h3 := unhide HK1 g h1; omega))
    have HX0 := hide ((unhide HX0).kept hk4 (fun h => by have h3 := unhide HK1 _ h; omega))
    have HX1 := hide ((unhide HX1).kept hk4 (fun h => by have h3 := unhide HK1 _ h; omega))
    have HO1 := hide ho4
    have hc5 : Below w.heap.size w w4 := hc4.trans (hk4.below hc4.size (fun g hg => by have h3 := unhide HK1 g hg; omega))
    obtain ⟨q0, q1⟩ := (unhide HX1).cells
    clear p0 p1 hkd ho4 hk4 hc4
    go_wp2_with fail
    refine (unhide HE w4 _ (unhide HO1).at).mono ?_
    rintro e w5 ⟨rfl, hb5⟩
    have HO0 := hide ((unhide HO0).below hb5)
    have HO1 := hide ((unhide HO1).below hb5)
    have HX0 := hide ((unhide HX0).below hb5)
    have HX1 := hide ((unhide HX1).below hb5)
    have hc6 : Below w.heap.size w w5 := hc5.trans (hb5.mono hc5.size)
    clear hb5 hc5 q0 q1
    go_wp2_with fail
    refine (unhide S2 _).mono ?_
    rintro e w6 ⟨⟨d2, rfl, ho2⟩, hb6⟩
    have HO2 := hide ho2
    obtain ⟨b2, m2, k2, rfl, _⟩ := ho2.at
    have HO0 := hide ((unhide HO0).below hb6)
    have HO1 := hide ((unhide HO1).below hb6)
    have HX0 := hide ((unhide HX0).below hb6)
    have HX1 := hide ((unhide HX1).below hb6)
    have hc7 : Below w.heap.size w w6 := hc6.trans (hb6.mono hc6.size)
    obtain ⟨p0, p1⟩ := ((unhide HX0).below (below_new w6 (Obj.cells #[Value.int .i64 K, Value.slice b2 m2 k2] 26))).cells
    clear ho2 hb6 hc6
    go_wp2_with fail
    obtain ⟨W6, hW6⟩ : ∃ W, W = w6.alloc (Obj.cells #[Value.int .i64 K, Value.slice b2 m2 k2] 26) := ⟨_, rfl⟩
    rw [← hW6]
    have hbW6 : Below w6.heap.size w6 W6 := by rw [hW6]; exact below_new _ _
    clear hW6 p0 p1
    have HO0 := hide ((unhide HO0).below hbW6)
    have HO1 := hide ((unhide HO1).below hbW6)
    have HO2 := hide ((unhide HO2).below hbW6)
    have HX1 := hide ((unhide HX1).below hbW6)
    have hc8 : Below w.heap.size w W6 := hc7.trans (hbW6.mono hc7.size)
    clear hbW6 hc7
    refine (unhide EQ W6 _ _ (unhide HO2).at (unhide HO0).at).mono ?_
    rintro e w7 ⟨rfl, hb7⟩
    have HO1 := hide ((unhide HO1).below hb7)
    have HX1 := hide ((unhide HX1).below hb7)
    have hc9 : Below w.heap.size w w7 := hc8.trans (hb7.mono hc8.size)
    obtain ⟨p0, p1⟩ := (unhide HX1).cells
    clear hb7 hc8
    go_wp2_with fail
    refine (unhide HE w7 _ (unhide HO1).at).mono ?_
    rintro e w8 ⟨rfl, hb8⟩
    have hc10 : Below w.heap.size w w8 := hc9.trans (hb8.mono hc9.size)
    clear hb8 hc9 p0 p1
    go_wp2
    go_ret
    exact ⟨rfl, hc10⟩

set_option maxRecDepth 100000 in
theorem lifted (os : Os) (started : os.Started) (H : Type) (enc : TypeId × Value → H) :
    ReturnsInHanded {} Try.checked os 5 .any (Rows.fnExactReadPageSpec.pre6 enc Try.prog Try.f5 Rows.fnExactReadPageRow.domain false) (Rows.fnExactReadPageSpec.post enc Try.prog Try.f5 false true false false) := by
  refine returnsInHanded_of_change (C := Try.checked) own started (by kernel_rfl) Try.func5
    (ChangeSpec.witness6 (enc := enc) (C := Try.checked) false ⟨#[], #[.string .empty], []⟩ 8 (by kernel_rfl) (by kernel_rfl) (by kernel_rfl) (by kernel_rfl)) ?_
  intro W base args ds gs before hval0 hW _ _
  have hval : ∀ (j : Nat) t v, Try.f5.params[j]? = some t → args[j]? = some v → Value.okWide Try.prog W .any base t v := hval0
  have hW' := hW
  obtain ⟨p, q, hA0, hV, rfl, hfz, hnd⟩ := hW
  have hA : DataW.TrodAll enc Try.prog W 0 (fun _ => true) true Try.f5.params.toList args.toList ds p := hA0
  rw [Try.params5] at hA hval
  obtain ⟨v0, vs0, d0, ds0, p0, q0, hargs, rfl, rfl, h0, r0⟩ := trodAll_cons hA
  obtain ⟨rfl, rfl, rfl⟩ := trodAll_nil r0
  obtain rfl : args = #[v0] := by cases args; simp_all
  obtain ⟨rfl, rfl⟩ := trodVars_none hV
  obtain ⟨a0, rfl, rfl, rfl, m0⟩ := open_string Try.underlying9 (hval 0 9 v0 rfl rfl) h0
  clear hA0 hval0
  simp only [List.append_nil] at hW'
  refine (walk a0 W).mono fun e W' ⟨he, bel⟩ => ?_
  subst he
  exact ⟨_, rfl, _, _, _, [], [], [], hW', trodAll_mk1 (shut_bool Try.underlying4 _), (trodAll_cons_mk (shut_string Try.underlying9 m0) trodAll_mk0), rfl, bel.frame _, fun h => by cases h⟩

theorem over : Rows.fnExactReadPageRow.holds Try.pinned (OpenSpec.ofChange Rows.fnExactReadPageSpec) :=
  OpenClaim.holds_of_wide 5 Try.f5 rfl rfl rfl rfl rfl rfl rfl ⟨rfl, rfl, rfl, rfl, rfl⟩ rfl rfl rfl rfl rfl (by kernel_rfl) Try.func5 (by kernel_rfl)
    (of_decide_eq_true (by kernel_rfl)) (by unfold Func.isWrapper; first | (rw [if_pos (by decide +kernel)]; kernel_rfl) | (rw [if_neg (by decide +kernel)]; exact ⟨rfl, rfl⟩))
    (fun os started H enc _ => lifted os started H enc)

end Go.Proofs.Ytajajfmaekdphaa.fnExactReadPage
namespace Go.Proofs.Ytajajfmaekdphaa
theorem fnExactReadPage_holds : Rows.FnExactReadPageSaid := fnExactReadPage.over
#print axioms fnExactReadPage_holds
end Go.Proofs.Ytajajfmaekdphaa
