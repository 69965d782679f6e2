/-
  impl.PageText answers as the specification, for every page; it writes into no argument.
-/
import Derived.Test.YtajajfmaekdphaaRows
import Derived.Test.YtajajfmaekdphaaPgSpec3
import Derived.Test.YtajajfmaekdphaaPgText2
import Derived.Test.YtajajfmaekdphaaPgOpen
import Derived.Test.YtajajfmaekdphaaChecked
import Derived.ShutString
import Derived.Below
namespace Go.Proofs.Ytajajfmaekdphaa.fnExactPageText
open Go.ChangeShapes Go.WideShapes Go.ChangeAt Go.RowKit
open Go.ChangeMaps (open_string shut_string)

theorem own : ownKnob Try.prog.godebug = none := by kernel_rfl

theorem laidOut : laidOutB Try.prog = true := by kernel_rfl
set_option maxRecDepth 100000 in
set_option maxHeartbeats 4000000 in
theorem walk (v : Value) (k : Int) (Q : List It) (w : World) (hd : PageAt w v w.heap.size k Q) (hN : Q.length ≤ 9223372036854775807) (hS : ∀ q ∈ Q, ItSane q) :
    Calls Try.prog 4 #[v] w fun e w' => e = .returned (.bool true) ∧ Below w.heap.size w w' := by
  have HD := hide hd
  have HS := hide hS
  obtain ⟨a', n', c', rfl, _⟩ := hd
  clear hS
  go_enter Try.func4, Try.ntmps4
  go_wp2_with fail
  obtain ⟨W1, hW1⟩ : ∃ W, W = w.alloc (Obj.cells #[Value.int .i64 k, Value.slice a' n' c'] 39) := ⟨_, rfl⟩
  rw [← hW1]
  have hs1 : W1.heap.size = w.heap.size + 1 := by rw [hW1]; simp
  have b0 : W1.heap[w.heap.size]? = some (.cells #[Value.int .i64 k, Value.slice a' n' c'] 39 (0, 0)) := by rw [hW1]; exact heap_alloc_new w _
  have hb1 : Below w.heap.size w W1 := by rw [hW1]; exact (Below.refl _ _).alloc (Nat.le_refl _) _
  have HB := hide b0
  clear hW1 b0
  refine (szPage_any _ w.heap.size k Q hN (unhide HS) W1 hb1.size ((unhide HD).below hb1 (Nat.le_refl _))).mono ?_
  rintro e w2 ⟨⟨x, rfl, hx0, hx1, hx2⟩, hb2⟩
  have HX := hide hx2
  have hc2 : Below w.heap.size w w2 := hb1.trans (hb2.mono hb1.size)
  clear hx2
  by_cases hneg : x < 0
  · clear hb2
    go_wp2
    go_ret
    exact ⟨rfl, hc2⟩
  · have htot := unhide HX (by omega)
    have hl2 : Q.length ≤ 1048576 := by omega
    have hm : ∀ x ∈ Q, x.key.size ≤ 1048576 ∧ x.val.size ≤ 1048576 := fun x hx => by have := totI_mem hx; omega
    have TO := hide (fun w1 (hb : Below w.heap.size w w1) => toPage_any _ w.heap.size k Q hl2 w1 hb.size ((unhide HD).below hb (Nat.le_refl _)))
    have SP := hide (fun w1 d (hd : PageAt w1 d w1.heap.size k Q) => specPage_any d w1.heap.size k Q hl2 hm w1 (Nat.le_refl _) hd)
    have IM := hide (fun w1 d (hd : PageAt w1 d w1.heap.size k Q) => implPage_any d w1.heap.size k Q hl2 hm w1 (Nat.le_refl _) hd)
    have EQ := hide (fun w1 d d' (hd : PageAt w1 d w1.heap.size k Q) (hd' : PageAt w1 d' w1.heap.size k Q) => eqPage_same d d' w1.heap.size w1.heap.size k Q hl2 w1 (Nat.le_refl _) (Nat.le_refl _) hd hd')
    clear htot hl2 hm hx0 hx1
    obtain ⟨tt, bb, hpa⟩ := pageA_two k Q
    rw [hpa] at SP IM
    have hbb : (bb != bb) = false := by simp
    clear hpa
    -- the first copy, and what the specification says of it
    obtain ⟨p0, p1, _⟩ := cells_of_two (show w2.heap[w.heap.size]? = _ by rw [hb2.block _ (by omega)]; exact unhide HB)
    go_wp2_with fail
    refine (unhide TO w2 hc2).mono ?_
    rintro e w3 ⟨⟨d1, rfl, ho1⟩, hb3⟩
    have hc3 : Below w.heap.size w w3 := hc2.trans (hb3.mono hc2.size)
    have hx3 : Below W1.heap.size W1 w3 := hb2.trans (hb3.mono hb2.size)
    have hd1 := ho1.at
    clear p0 p1 ho1 hb3
    have S1 := hide (unhide SP w3 d1 hd1)
    obtain ⟨a2, n2, c2, rfl, _⟩ := hd1
    go_wp2_with fail
    refine (unhide S1).mono ?_
    rintro e w4 ⟨rfl, hb4⟩
    have hc4 : Below w.heap.size w w4 := hc3.trans (hb4.mono hc3.size)
    have hx4 : Below W1.heap.size W1 w4 := hx3.trans (hb4.mono hx3.size)
    clear hb4 S1
    -- the second copy, and what the program says of it
    obtain ⟨p0, p1, _⟩ := cells_of_two (show w4.heap[w.heap.size]? = _ by rw [hx4.block _ (by omega)]; exact unhide HB)
    go_wp2_with fail
    refine (unhide TO w4 hc4).mono ?_
    rintro e w5 ⟨⟨d2, rfl, ho2⟩, hb5⟩
    have hc5 : Below w.heap.size w w5 := hc4.trans (hb5.mono hc4.size)
    have hx5 : Below W1.heap.size W1 w5 := hx4.trans (hb5.mono hx4.size)
    have hd2 := ho2.at
    clear p0 p1 ho2 hb5
    have HD2 := hide hd2
    obtain ⟨a4, n4, c4, rfl, _⟩ := hd2
    go_wp2_with fail
    obtain ⟨W5, hW5⟩ : ∃ W, W = w5.alloc (Obj.cells #[Value.int .i64 k, Value.slice a4 n4 c4] 26) := ⟨_, rfl⟩
    rw [← hW5]
    have hs5 : W5.heap.size = w5.heap.size + 1 := by rw [hW5]; simp
    have b5 : W5.heap[w5.heap.size]? = some (.cells #[Value.int .i64 k, Value.slice a4 n4 c4] 26 (0, 0)) := by rw [hW5]; exact heap_alloc_new w5 _
    have hb5 : Below w5.heap.size w5 W5 := by rw [hW5]; exact (Below.refl _ _).alloc (Nat.le_refl _) _
    have HB5 := hide b5
    clear hW5 b5
    have hd5 : PageAt W5 (Value.agg #[Value.int .i64 k, Value.slice a4 n4 c4]) W5.heap.size k Q := ((unhide HD2).below hb5 (Nat.le_refl _)).mono (by omega)
    refine (unhide IM W5 _ hd5).mono ?_
    rintro e w6 ⟨rfl, hb6⟩
    have hle5 := hc5.size
    have hc5' : Below w.heap.size w W5 := hc5.trans (hb5.mono hc5.size)
    have hx5' : Below W1.heap.size W1 W5 := hx5.trans (hb5.mono hx5.size)
    have hc6 : Below w.heap.size w w6 := hc5'.trans (hb6.mono hc5'.size)
    have hx6 : Below W1.heap.size W1 w6 := hx5'.trans (hb6.mono hx5'.size)
    have HD3 := hide (hd5.below hb6.drew (Nat.le_refl _))
    have hle := hb6.size
    obtain ⟨r0, r1, _⟩ := cells_of_two (show w6.heap[w5.heap.size]? = _ by rw [hb6.block _ (by omega)]; exact unhide HB5)
    clear hb6 HD2 hd5 hb5 hc5' hx5'
    -- the third copy, and whether the second is as it was
    obtain ⟨p0, p1, _⟩ := cells_of_two (show w6.heap[w.heap.size]? = _ by rw [hx6.block _ (by omega)]; exact unhide HB)
    have hk0 : w.heap.size < w6.heap.size := by have := hx6.size; omega
    have hk5 : w5.heap.size < w6.heap.size := by omega
    go_wp2_with fail
    go_region_held3 (fun u => u.cell? ⟨w.heap.size, 0, none⟩ = some (Value.int .i64 k) ∧ u.cell? ⟨w.heap.size, 1, none⟩ = some (Value.slice a' n' c') ∧ u.cell? ⟨w5.heap.size, 0, none⟩ = some (Value.int .i64 k) ∧ u.cell? ⟨w5.heap.size, 1, none⟩ = some (Value.slice a4 n4 c4))
      (first | go_keep | exact ⟨(hb8.cell (p := ⟨w.heap.size, 0, none⟩) k0).trans q0, (hb8.cell (p := ⟨w.heap.size, 1, none⟩) k0).trans q1, (hb8.cell (p := ⟨w5.heap.size, 0, none⟩) k5).trans s0, (hb8.cell (p := ⟨w5.heap.size, 1, none⟩) k5).trans s1⟩ | exact ⟨q0, q1, s0, s1⟩)
      (first
        | (go_at_call 16; refine (unhide TO _ hc6.drew).mono ?_; rintro e w7 ⟨⟨d3, rfl, ho3⟩, hb7⟩; have hd3 := ho3.at; have HD7 := hide (((unhide HD3).below hb7 hle).mono (show W5.heap.size ≤ w7.heap.size by have := hb7.size; simp at this; omega)); have HE3 := hide hd3; obtain ⟨a6, n6, c6, rfl, _⟩ := hd3; have q0 := (hb7.cell (p := ⟨w.heap.size, 0, none⟩) hk0).trans p0; have q1 := (hb7.cell (p := ⟨w.heap.size, 1, none⟩) hk0).trans p1; have s0 := (hb7.cell (p := ⟨w5.heap.size, 0, none⟩) hk5).trans r0; have s1 := (hb7.cell (p := ⟨w5.heap.size, 1, none⟩) hk5).trans r1; have k0 : w.heap.size < w7.heap.size := Nat.lt_of_lt_of_le hk0 hb7.size; have k5 : w5.heap.size < w7.heap.size := Nat.lt_of_lt_of_le hk5 hb7.size; have hc7 : Below w.heap.size w w7 := hc6.drew.trans (hb7.mono hc6.size); clear ho3 hb7)
        | (go_at_call 17; refine (unhide EQ w7 _ _ (unhide HD7) (unhide HE3)).mono ?_; rintro e w8 ⟨rfl, hb8⟩))
    have hc8 : Below w.heap.size w w8 := hc7.trans (hb8.mono hc7.size)
    clear hb8
    go_wp2
    go_ret
    exact ⟨rfl, hc8⟩

set_option maxRecDepth 100000 in
theorem lifted (os : Os) (started : os.Started) (H : Type) (enc : TypeId × Value → H) :
    ReturnsInHanded {} Try.checked os 4 .any (Rows.fnExactPageTextSpec.pre6 enc Try.prog Try.f4 Rows.fnExactPageTextRow.domain false) (Rows.fnExactPageTextSpec.post enc Try.prog Try.f4 false true false false) := by
  refine returnsInHanded_of_change (C := Try.checked) own started (by kernel_rfl) Try.func4
    (ChangeSpec.witness6 (enc := enc) (C := Try.checked) false ⟨#[], #[.agg #[.int .i64 0, .slice none 0 0]], []⟩ 8 (by kernel_rfl) (by kernel_rfl) (by kernel_rfl) (by kernel_rfl)) ?_
  intro W base args ds gs before hval0 hW _ _
  have hval : ∀ (j : Nat) t v, Try.f4.params[j]? = some t → args[j]? = some v → Value.okWide Try.prog W .any base t v := hval0
  have hW' := hW
  obtain ⟨p, q, hA0, hV, rfl, hfz, hnd⟩ := hW
  have hA : DataW.TrodAll enc Try.prog W 0 (fun _ => true) true Try.f4.params.toList args.toList ds p := hA0
  rw [Try.params4] at hA hval
  obtain ⟨v0, vs0, d0, ds0, p0, q0, hargs, rfl, rfl, h0, r0⟩ := trodAll_cons hA
  obtain ⟨rfl, rfl, rfl⟩ := trodAll_nil r0
  obtain rfl : args = #[v0] := by cases args; simp_all
  obtain ⟨rfl, rfl⟩ := trodVars_none hV
  have k0 := h0
  have lt0 : ∀ x ∈ p0, x.block < W.heap.size := by obtain ⟨m, hm⟩ := k0; exact DataW.trod_lt m _ _ _ hm
  obtain ⟨K0, Q0, hd0, hn0, hm0⟩ := page_open (fun _ => rfl) (hval 0 39 v0 rfl rfl) h0
  clear hA0 hval0
  refine (walk v0 K0 Q0 W hd0 hn0 hm0).mono fun e W' ⟨he, bel⟩ => ?_
  subst he
  exact ⟨_, rfl, _, _, _, [], _, [], hW', trodAll_mk1 (shut_bool Try.underlying4 _), (trodAll_cons_mk (Below.trod laidOut (by kernel_rfl) (of_decide_eq_true (by kernel_rfl)) k0 bel lt0) trodAll_mk0), rfl, bel.frame _, fun h => by cases h⟩

theorem over : Rows.fnExactPageTextRow.holds Try.pinned (OpenSpec.ofChange Rows.fnExactPageTextSpec) :=
  OpenClaim.holds_of_wide 4 Try.f4 rfl rfl rfl rfl rfl rfl rfl ⟨rfl, rfl, rfl, rfl, rfl⟩ rfl rfl rfl rfl rfl (by kernel_rfl) Try.func4 (by kernel_rfl)
    (of_decide_eq_true (by kernel_rfl)) (by unfold Func.isWrapper; first | (rw [if_pos (by decide +kernel)]; kernel_rfl) | (rw [if_neg (by decide +kernel)]; exact ⟨rfl, rfl⟩))
    (fun os started H enc _ => lifted os started H enc)

end Go.Proofs.Ytajajfmaekdphaa.fnExactPageText
namespace Go.Proofs.Ytajajfmaekdphaa
theorem fnExactPageText_holds : Rows.FnExactPageTextSaid := fnExactPageText.over
#print axioms fnExactPageText_holds
end Go.Proofs.Ytajajfmaekdphaa
