/-
  impl.ItemSize answers as the specification, for every kind and item.
-/
import Derived.Test.YtajajfmaekdphaaRows
import Derived.Test.YtajajfmaekdphaaPgTo
import Derived.Test.YtajajfmaekdphaaPgOpen
import Derived.Test.YtajajfmaekdphaaChecked
import Derived.ShutString
import Derived.Below
namespace Go.Proofs.Ytajajfmaekdphaa.fnExactItemSize
open Go.ChangeShapes Go.WideShapes Go.ChangeAt Go.RowKit
open Go.ChangeMaps (open_string shut_string)

theorem own : ownKnob Try.prog.godebug = none := by kernel_rfl

theorem laidOut : laidOutB Try.prog = true := by kernel_rfl
set_option maxRecDepth 100000 in
set_option maxHeartbeats 1000000 in
theorem walk (k : Int) (x : It) (w : World) (hs : ItSane x) : Calls Try.prog 6 #[.int .i64 k, itV x] w fun e w' => e = .returned (.bool true) ∧ Below w.heap.size w w' := by
  have H0 := hide (fun w => szItem_any x 1048576 (by omega) (by omega) hs.1 hs.2 w)
  by_cases hb : szLeft x 1048576 < 0
  · generalize szLeft x 1048576 = z at H0 hb
    obtain ⟨s, t, p⟩ := x
    simp only [itV] at *
    clear hs
    go_enter Try.func6, Try.ntmps6
    go_wp2_with fail
    refine (unhide H0 _).mono ?_
    rintro e w1 ⟨rfl, hb1⟩
    have hbe : Below w.heap.size w w1 := ((Below.refl _ _).alloc (Nat.le_refl _) _).trans (hb1.mono (by simp))
    clear hb1
    go_wp2
    go_ret
    exact ⟨rfl, hbe⟩
  · have hsz : x.key.size ≤ 1048576 ∧ x.val.size ≤ 1048576 := by
      unfold szLeft at hb
      split at hb
      · omega
      · split at hb <;> omega
    have HT := hide (fun w => toItem_any x w)
    have HS := hide (fun w => specSize_any k x hsz.1 hsz.2 w)
    have HI := hide (fun w => implSize_any k x hsz.1 hsz.2 w)
    generalize itSize k x = n at HS HI
    generalize szLeft x 1048576 = z at H0 hb
    obtain ⟨s, t, p⟩ := x
    simp only [itV] at *
    clear hs hsz
    go_enter Try.func6, Try.ntmps6
    go_wp2_with fail
    obtain ⟨W1, hW1⟩ : ∃ W, W = w.alloc (Obj.cells #[Value.string s, Value.string t, Value.int .i64 p] 46) := ⟨_, rfl⟩
    rw [← hW1]
    have hb1 : Below w.heap.size w W1 := by rw [hW1]; exact (Below.refl _ _).alloc (Nat.le_refl _) _
    have hs1 : w.heap.size < W1.heap.size := by rw [hW1]; simp
    have c0 : W1.cell? ⟨w.heap.size, 0, none⟩ = some (.string s) := by rw [hW1]; simp [go_sem]
    have c1 : W1.cell? ⟨w.heap.size, 1, none⟩ = some (.string t) := by rw [hW1]; simp [go_sem]
    have c2 : W1.cell? ⟨w.heap.size, 2, none⟩ = some (.int .i64 p) := by rw [hW1]; simp [go_sem]
    clear hW1
    refine (unhide H0 _).mono ?_
    rintro e w2 ⟨rfl, hb2⟩
    have d0 := (hb2.cell (p := ⟨w.heap.size, 0, none⟩) hs1).trans c0
    have d1 := (hb2.cell (p := ⟨w.heap.size, 1, none⟩) hs1).trans c1
    have d2 := (hb2.cell (p := ⟨w.heap.size, 2, none⟩) hs1).trans c2
    have hs2 : w.heap.size < w2.heap.size := Nat.lt_of_lt_of_le hs1 hb2.size
    have hc2 : Below w.heap.size w w2 := hb1.trans (hb2.mono hb1.size)
    clear hb1 hb2 c0 c1 c2 hs1
    go_wp2_with fail
    refine (unhide HT _).mono ?_
    rintro e w3 ⟨rfl, hb3⟩
    have c0 := (hb3.cell (p := ⟨w.heap.size, 0, none⟩) hs2).trans d0
    have c1 := (hb3.cell (p := ⟨w.heap.size, 1, none⟩) hs2).trans d1
    have c2 := (hb3.cell (p := ⟨w.heap.size, 2, none⟩) hs2).trans d2
    have hs3 : w.heap.size < w3.heap.size := Nat.lt_of_lt_of_le hs2 hb3.size
    have hc3 : Below w.heap.size w w3 := hc2.trans (hb3.mono hc2.size)
    clear hc2 hb3 d0 d1 d2 hs2
    go_wp2_with fail
    refine (unhide HS _).mono ?_
    rintro e w4 ⟨rfl, hb4⟩
    have d0 := (hb4.cell (p := ⟨w.heap.size, 0, none⟩) hs3).trans c0
    have d1 := (hb4.cell (p := ⟨w.heap.size, 1, none⟩) hs3).trans c1
    have d2 := (hb4.cell (p := ⟨w.heap.size, 2, none⟩) hs3).trans c2
    have hc4 : Below w.heap.size w w4 := hc3.trans (hb4.mono hc3.size)
    clear hc3 hb4 c0 c1 c2 hs3
    go_wp2_with fail
    refine (unhide HT _).mono ?_
    rintro e w5 ⟨rfl, hb5⟩
    have hc5 : Below w.heap.size w w5 := hc4.trans (hb5.mono hc4.size)
    clear hc4 hb5 d0 d1 d2
    go_wp2_with fail
    refine (unhide HI _).mono ?_
    rintro e w6 ⟨rfl, hb6⟩
    have hc6 : Below w.heap.size w w6 := hc5.trans (hb6.mono hc5.size)
    clear hc5 hb6
    go_wp2
    go_ret
    exact ⟨rfl, hc6⟩

set_option maxRecDepth 100000 in
theorem lifted (os : Os) (started : os.Started) (H : Type) (enc : TypeId × Value → H) :
    ReturnsInHanded {} Try.checked os 6 .any (Rows.fnExactItemSizeSpec.pre6 enc Try.prog Try.f6 Rows.fnExactItemSizeRow.domain false) (Rows.fnExactItemSizeSpec.post enc Try.prog Try.f6 false true false false) := by
  refine returnsInHanded_of_change (C := Try.checked) own started (by kernel_rfl) Try.func6
    (ChangeSpec.witness6 (enc := enc) (C := Try.checked) false ⟨#[], #[.int .i64 0, .agg #[.string .empty, .string .empty, .int .i64 0]], []⟩ 8 (by kernel_rfl) (by kernel_rfl) (by kernel_rfl) (by kernel_rfl)) ?_
  intro W base args ds gs before hval0 hW _ _
  have hval : ∀ (j : Nat) t v, Try.f6.params[j]? = some t → args[j]? = some v → Value.okWide Try.prog W .any base t v := hval0
  have hW' := hW
  obtain ⟨p, q, hA0, hV, rfl, hfz, hnd⟩ := hW
  have hA : DataW.TrodAll enc Try.prog W 0 (fun _ => true) true Try.f6.params.toList args.toList ds p := hA0
  rw [Try.params6] at hA hval
  obtain ⟨v0, vs0, d0, ds0, p0, q0, hargs, rfl, rfl, h0, r0⟩ := trodAll_cons hA
  obtain ⟨v1, vs1, d1, ds1, p1, q1, rfl, rfl, rfl, h1, r1⟩ := trodAll_cons r0
  obtain ⟨rfl, rfl, rfl⟩ := trodAll_nil r1
  obtain rfl : args = #[v0, v1] := by cases args; simp_all
  obtain ⟨rfl, rfl⟩ := trodVars_none hV
  obtain ⟨a0, rfl, rfl, rfl, m0⟩ := open_int Try.underlying3 (hval 0 3 v0 rfl rfl) h0
  have k1 := h1
  have lt1 : ∀ x ∈ p1, x.block < W.heap.size := by obtain ⟨m, hm⟩ := k1; exact DataW.trod_lt m _ _ _ hm
  obtain ⟨x1, rfl, hd1⟩ := item_open (hval 1 46 v1 rfl rfl) h1
  clear hA0 hval0
  refine (walk a0 x1 W hd1).mono fun e W' ⟨he, bel⟩ => ?_
  subst he
  exact ⟨_, rfl, _, _, _, [], _, [], hW', trodAll_mk1 (shut_bool Try.underlying4 _), (trodAll_cons_mk (shut_int Try.underlying3 m0) (trodAll_cons_mk (Below.trod laidOut (by kernel_rfl) (of_decide_eq_true (by kernel_rfl)) k1 bel lt1) trodAll_mk0)), rfl, bel.frame _, fun h => by cases h⟩

theorem over : Rows.fnExactItemSizeRow.holds Try.pinned (OpenSpec.ofChange Rows.fnExactItemSizeSpec) :=
  OpenClaim.holds_of_wide 6 Try.f6 rfl rfl rfl rfl rfl rfl rfl ⟨rfl, rfl, rfl, rfl, rfl⟩ rfl rfl rfl rfl rfl (by kernel_rfl) Try.func6 (by kernel_rfl)
    (of_decide_eq_true (by kernel_rfl)) (by unfold Func.isWrapper; first | (rw [if_pos (by decide +kernel)]; kernel_rfl) | (rw [if_neg (by decide +kernel)]; exact ⟨rfl, rfl⟩))
    (fun os started H enc _ => lifted os started H enc)

end Go.Proofs.Ytajajfmaekdphaa.fnExactItemSize
namespace Go.Proofs.Ytajajfmaekdphaa
theorem fnExactItemSize_holds : Rows.FnExactItemSizeSaid := fnExactItemSize.over
#print axioms fnExactItemSize_holds
end Go.Proofs.Ytajajfmaekdphaa
