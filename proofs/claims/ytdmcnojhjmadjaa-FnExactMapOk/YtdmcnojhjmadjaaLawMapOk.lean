/-
  impl.MapOk answers as the specification.
-/
import Derived.Test.YtdmcnojhjmadjaaRows
import Derived.Test.YtdmcnojhjmadjaaTrOpen
import Derived.Test.YtdmcnojhjmadjaaTrMapImpl
import Derived.Test.YtdmcnojhjmadjaaChecked
import Derived.ShutString
import Derived.Below
namespace Go.Proofs.Ytdmcnojhjmadjaa.fnExactMapOk
open Go.ChangeShapes Go.WideShapes Go.ChangeAt Go.RowKit
open Go.ChangeMaps (open_string shut_string)

theorem own : ownKnob Try.prog.godebug = none := by kernel_rfl

theorem laidOut : laidOutB Try.prog = true := by kernel_rfl
set_option maxRecDepth 100000 in
set_option maxHeartbeats 1000000 in
theorem walk (a : Option Addr) (n c : Nat) (Q : List (ByteArray × ByteArray)) (w : World) (hz : Tr.PairsAt w a n w.heap.size Q) (hl : Q.length ≤ 9223372036854775807) (hm : ∀ q ∈ Q, q.1.size ≤ 9223372036854775807 ∧ q.2.size ≤ 9223372036854775807) :
    Calls Try.prog 3 #[.slice a n c] w fun e w' => e = .returned (.bool true) ∧ Below w.heap.size w w' := by
  have HZ := hide hz
  have HN : Hid (n = Q.length) := hz.1.symm
  have SZ := hide (Tr.szPairs_any a n c w.heap.size Q 1048576 (by omega) (by omega) (by have := unhide HN; omega) hm w (Nat.le_refl _) hz)
  clear hz hm
  go_enter Try.func3, Try.ntmps3
  go_wp2_with fail
  refine (unhide SZ).mono ?_
  rintro e w2 ⟨⟨x, rfl, hx0, hx1, hx2⟩, hb2⟩
  have HX := hide hx2
  clear hx2 SZ
  by_cases hneg : x < 0
  · go_wp2
    go_ret
    exact ⟨rfl, hb2⟩
  · have htot := unhide HX (by omega)
    have hl1 : n ≤ 1048576 := by have := unhide HN; omega
    have TO := hide (fun w1 (hb : Below w.heap.size w w1) => Tr.toPairs_any a n c w.heap.size Q hl1 w1 hb.size ((unhide HZ).below hb (Nat.le_refl _)))
    have SP := hide (fun w1 a1 c1 (hd : Tr.PairsAt w1 a1 n w1.heap.size Q) => Tr.specMap_any a1 n c1 w1.heap.size Q hl1 w1 (Nat.le_refl _) hd)
    have IM := hide (fun w1 a1 c1 (hd : Tr.PairsAt w1 a1 n w1.heap.size Q) => Tr.implMap_any a1 n c1 w1.heap.size Q hl1 w1 (Nat.le_refl _) hd)
    have EQ := hide (fun w1 a1 a2 c1 c2 (hd : Tr.PairsAt w1 a1 n w1.heap.size Q) (hd2 : Tr.PairsAt w1 a2 n w1.heap.size Q) => Tr.eqPairs_same a1 a2 n c1 c2 w1.heap.size w1.heap.size Q hl1 w1 (Nat.le_refl _) (Nat.le_refl _) hd hd2)
    clear htot hl1 hx0 hx1 HX HN hl
    generalize decide (Tr.MapR Q) = ok at SP IM
    go_wp2_with fail
    refine (unhide TO w2 hb2).mono ?_
    rintro e w3 ⟨⟨d1, rfl, ho1⟩, hb3⟩
    have hc3 : Below w.heap.size w w3 := hb2.trans (hb3.mono hb2.size)
    obtain ⟨a1, c1, rfl, hd1⟩ := Tr.PairsAt.of_own ho1
    clear ho1 hb3 hb2
    go_wp2_with fail
    refine (unhide SP w3 a1 c1 hd1).mono ?_
    rintro e w4 ⟨rfl, hb4⟩
    have hc4 : Below w.heap.size w w4 := hc3.trans (hb4.mono hc3.size)
    clear hb4 hd1 hc3
    go_wp2_with fail
    refine (unhide TO w4 hc4).mono ?_
    rintro e w5 ⟨⟨d2, rfl, ho2⟩, hb5⟩
    have hc5 : Below w.heap.size w w5 := hc4.trans (hb5.mono hc4.size)
    obtain ⟨a2, c2, rfl, hd2⟩ := Tr.PairsAt.of_own ho2
    clear hb5 hc4
    go_wp2_with fail
    refine (unhide IM w5 a2 c2 hd2).mono ?_
    rintro e w6 ⟨rfl, hb6⟩
    have hc6 : Below w.heap.size w w6 := hc5.trans (hb6.mono hc5.size)
    have HD6 := hide (hd2.below hb6 (Nat.le_refl _) |>.mono hb6.size)
    clear hb6 hd2 hc5 ho2
    go_wp2_with fail
    refine (unhide TO w6 hc6).mono ?_
    rintro e w7 ⟨⟨d3, rfl, ho3⟩, hb7⟩
    have hc7 : Below w.heap.size w w7 := hc6.trans (hb7.mono hc6.size)
    have HD7 := hide ((unhide HD6).below hb7 (Nat.le_refl _) |>.mono hb7.size)
    obtain ⟨a3, c3, rfl, hd3⟩ := Tr.PairsAt.of_own ho3
    clear hb7 hc6 HD6 ho3
    go_wp2_with fail
    refine (unhide EQ w7 a2 a3 c2 c3 (unhide HD7) hd3).mono ?_
    rintro e w8 ⟨rfl, hb8⟩
    have hc8 : Below w.heap.size w w8 := hc7.trans (hb8.mono hc7.size)
    clear hb8
    go_wp2
    go_ret
    exact ⟨rfl, hc8⟩

set_option maxRecDepth 100000 in
theorem lifted (os : Os) (started : os.Started) (H : Type) (enc : TypeId × Value → H) :
    ReturnsInHanded {} Try.checked os 3 .any (Rows.fnExactMapOkSpec.pre6 enc Try.prog Try.f3 Rows.fnExactMapOkRow.domain false) (Rows.fnExactMapOkSpec.post enc Try.prog Try.f3 false true false false) := by
  refine returnsInHanded_of_change (C := Try.checked) own started (by kernel_rfl) Try.func3
    (ChangeSpec.witness6 (enc := enc) (C := Try.checked) false ⟨#[], #[.slice none 0 0], []⟩ 8 (by kernel_rfl) (by kernel_rfl) (by kernel_rfl) (by kernel_rfl)) ?_
  intro W base args ds gs before hval0 hW _ _
  have hval : ∀ (j : Nat) t v, Try.f3.params[j]? = some t → args[j]? = some v → Value.okWide Try.prog W .any base t v := hval0
  have hW' := hW
  obtain ⟨p, q, hA0, hV, rfl, hfz, hnd⟩ := hW
  have hA : DataW.TrodAll enc Try.prog W 0 (fun _ => true) true Try.f3.params.toList args.toList ds p := hA0
  rw [Try.params3] at hA hval
  obtain ⟨v0, vs0, d0, ds0, p0, q0, hargs, rfl, rfl, h0, r0⟩ := trodAll_cons hA
  obtain ⟨rfl, rfl, rfl⟩ := trodAll_nil r0
  obtain rfl : args = #[v0] := by cases args; simp_all
  obtain ⟨rfl, rfl⟩ := trodVars_none hV
  have k0 := h0
  have lt0 : ∀ x ∈ p0, x.block < W.heap.size := by obtain ⟨m, hm⟩ := k0; exact DataW.trod_lt m _ _ _ hm
  obtain ⟨a0, len0, cap0, rfl⟩ := okWide_slice Try.underlying22 (hval 0 22 v0 rfl rfl)
  obtain ⟨z0, hz0, nl0, wz0⟩ : ∃ K, Tr.PairsAt W a0 len0 W.heap.size K ∧ K.length ≤ 9223372036854775807 ∧ ∀ q ∈ K, q.1.size ≤ 9223372036854775807 ∧ q.2.size ≤ 9223372036854775807 := by
    obtain ⟨fuel, hf⟩ := h0
    obtain ⟨a, n, c, K, hcs, hK, hn, hw⟩ := Tr.pairs_open (fun _ => rfl) hf
    simp at hcs
    obtain ⟨rfl, rfl, rfl⟩ := hcs
    exact ⟨K, hK, hn, hw⟩
  clear hA0 hval0
  refine (walk a0 len0 cap0 z0 W hz0 nl0 wz0).mono fun e W' ⟨he, bel⟩ => ?_
  subst he
  exact ⟨_, rfl, _, _, _, [], _, [], hW', trodAll_mk1 (shut_bool Try.underlying4 _), (trodAll_cons_mk (Below.trod laidOut (by kernel_rfl) (of_decide_eq_true (by kernel_rfl)) k0 bel lt0) trodAll_mk0), rfl, bel.frame _, fun h => by cases h⟩

theorem over : Rows.fnExactMapOkRow.holds Try.pinned (OpenSpec.ofChange Rows.fnExactMapOkSpec) :=
  OpenClaim.holds_of_wide 3 Try.f3 rfl rfl rfl rfl rfl rfl rfl ⟨rfl, rfl, rfl, rfl, rfl⟩ rfl rfl rfl rfl rfl (by kernel_rfl) Try.func3 (by kernel_rfl)
    (of_decide_eq_true (by kernel_rfl)) (by unfold Func.isWrapper; first | (rw [if_pos (by decide +kernel)]; kernel_rfl) | (rw [if_neg (by decide +kernel)]; exact ⟨rfl, rfl⟩))
    (fun os started H enc _ => lifted os started H enc)

end Go.Proofs.Ytdmcnojhjmadjaa.fnExactMapOk
namespace Go.Proofs.Ytdmcnojhjmadjaa
theorem fnExactMapOk_holds : Rows.FnExactMapOkSaid := fnExactMapOk.over
#print axioms fnExactMapOk_holds
end Go.Proofs.Ytdmcnojhjmadjaa
