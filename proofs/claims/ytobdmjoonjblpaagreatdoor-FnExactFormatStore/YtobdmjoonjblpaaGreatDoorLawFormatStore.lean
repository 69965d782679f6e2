/-
  impl.FormatStore answers as the specification, at every number of sectors; its answer owns its memory. The card is tied to errors.errorType, which the walk never reads (errors.As meets no error here).
-/
import Derived.Test.YtobdmjoonjblpaaGreatDoorCards
import Derived.Test.YtobdmjoonjblpaaGreatDoorTie
import Derived.Test.YtobdmjoonjblpaaGreatDoorStLaw
import Derived.ShutString
import Derived.Below
import Derived.Deep.DeepHandedRow
import Derived.LaidHandle
import Derived.LaidLaws
import Derived.Stop.LaidErr
namespace Go.Proofs.YtobdmjoonjblpaaGreatDoor.fnExactFormatStore
open Go.Proofs.YtobdmjoonjblpaaGreatDoor Go.Proofs.YtobdmjoonjblpaaGreatDoor.Rt
open Go.ChangeShapes Go.WideShapes Go.ChangeAt Go.RowKit

theorem own : ownKnob Tryz.prog.godebug = none := by kernel_rfl

set_option maxRecDepth 100000 in
set_option maxHeartbeats 4000000 in
theorem walk (x : Int) (w : World) : Calls Tryz.prog 3 #[.int .i64 x] w fun e w' => e = .returned (.bool true) ∧ Below w.heap.size w w' := by
  have hlen := fmtL_length x
  have S1 := hide (fun w => specFmt_any x w)
  have S2 := hide (fun w => implFmt_any x w)
  generalize fmtL x = L at S1 S2 hlen
  generalize fmtOk x = ok at S1 S2
  generalize fmtT x = t at S1 S2
  have EQ := hide (fun w1 v0 v1 u0 u1 (hd : DevAt w1 (.agg #[v0, v1]) w1.heap.size L []) (hd' : DevAt w1 (.agg #[u0, u1]) w1.heap.size L []) => eqStore_same v0 v1 u0 u1 L t (by omega) w1 hd hd')
  have MK := hide (fun w1 B v0 v1 (hd : DevOwn w1 B (.agg #[v0, v1]) L []) => markStore_any v0 v1 B L t (by omega) w1 hd)
  have HE := hide (fun w1 v0 v1 (hd : DevAt w1 (.agg #[v0, v1]) w1.heap.size (marks 1 L.length) []) => heldStore_any v0 v1 L.length t (by omega) w1 hd)
  go_enter Tryz.func3, Tryz.ntmps3
  go_wp2_with fail
  refine (unhide S1 _).mono ?_
  rintro e w1 ⟨⟨v0, v1, rfl, ho0⟩, hb1⟩
  have HO0 := hide ho0
  have hk0 := ho0.blk
  obtain ⟨a0, n0, c0, b0, m0, k0, e0, _, _⟩ := ho0.at
  simp at e0
  obtain ⟨rfl, rfl⟩ := e0
  have HK0 := hide hk0
  clear ho0 hk0
  obtain ⟨W1, hW1⟩ : ∃ W, W = w1.alloc (Obj.cells #[Value.slice a0 n0 c0, Value.slice b0 m0 k0, Value.slice none 0 0, Value.int .i64 0, Value.int .i64 t] 30) := ⟨_, rfl⟩
  go_wp2_with fail
  rw [← hW1]
  have hbW1 : Below w1.heap.size w1 W1 := by rw [hW1]; exact below_new _ _
  have hx1 : SBox W1 w1.heap.size (Value.slice a0 n0 c0) (Value.slice b0 m0 k0) t := by rw [hW1]; exact heap_alloc_new _ _
  have hsW1 : W1.heap.size = w1.heap.size + 1 := by rw [hW1]; simp
  clear hW1
  have HO0 := hide ((unhide HO0).below hbW1)
  have HX0 := hide hx1
  have hc1 : Below w.heap.size w W1 := hb1.trans (hbW1.mono hb1.size)
  have hle1 := hb1.size
  clear hx1 hb1 hbW1
  refine (unhide S2 _).mono ?_
  rintro e w2 ⟨⟨v2, v3, rfl, ho1⟩, hb2⟩
  have HO1 := hide ho1
  have hk1 := ho1.blk
  have HO0 := hide ((unhide HO0).below hb2)
  have HX0 := hide ((unhide HX0).below hb2)
  obtain ⟨a1, n1, c1, b1, m1, k1, e1, _, _⟩ := ho1.at
  simp at e1
  obtain ⟨rfl, rfl⟩ := e1
  have HK1 := hide hk1
  clear hk1
  have hc2 : Below w.heap.size w w2 := hc1.trans (hb2.mono hc1.size)
  have hl2 := hb2.size
  obtain ⟨p0, p1, p2, p3, p4⟩ := ((unhide HX0).below (below_new w2 (Obj.cells #[Value.slice a1 n1 c1, Value.slice b1 m1 k1, Value.slice none 0 0, Value.int .i64 0, Value.int .i64 t] 30))).cells
  clear ho1 hb2 hc1
  go_wp2_with fail
  obtain ⟨W2, hW2⟩ : ∃ W, W = w2.alloc (Obj.cells #[Value.slice a1 n1 c1, Value.slice b1 m1 k1, Value.slice none 0 0, Value.int .i64 0, Value.int .i64 t] 30) := ⟨_, rfl⟩
  rw [← hW2]
  have hbW2 : Below w2.heap.size w2 W2 := by rw [hW2]; exact below_new _ _
  have hx1 : SBox W2 w2.heap.size (Value.slice a1 n1 c1) (Value.slice b1 m1 k1) t := by rw [hW2]; exact heap_alloc_new _ _
  have hsW2 : W2.heap.size = w2.heap.size + 1 := by rw [hW2]; simp
  clear hW2 p0 p1 p2 p3 p4
  have HO0 := hide ((unhide HO0).below hbW2)
  have HO1 := hide ((unhide HO1).below hbW2)
  have HX0 := hide ((unhide HX0).below hbW2)
  have hc3 : Below w.heap.size w W2 := hc2.trans (hbW2.mono hc2.size)
  have hlw := hc2.size
  clear hbW2 hc2
  refine (unhide EQ W2 _ _ _ _ (unhide HO1).at (unhide HO0).at).mono ?_
  rintro e w3 ⟨rfl, hb3⟩
  have HO0 := hide ((unhide HO0).below hb3)
  have HO1 := hide ((unhide HO1).below hb3)
  have HX0 := hide ((unhide HX0).below hb3)
  have HX1 := hide (hx1.below hb3)
  have hc4 : Below w.heap.size w w3 := hc3.trans (hb3.mono hc3.size)
  have hl3 := hb3.size
  obtain ⟨p0, p1, p2, p3, p4⟩ := (unhide HX1).cells
  clear hb3 hc3 hx1
  cases ok
  all_goals
    go_wp2_with fail
    refine (unhide MK w3 _ _ _ (unhide HO1)).mono ?_
    rintro e w4 ⟨rfl, ho4, hk4⟩
    have hkd := unhide HK1
    have HO0 := hide ((unhide HO0).kept hk4 (fun g h0 h1 => by have h2 := unhide HK0 g h0; have h3 := unhide HK1 g h1; omega))
    have HX0 := hide ((unhide HX0).kept hk4 (fun h => by have h3 := unhide HK1 _ h; omega))
    have HX1 := hide ((unhide HX1).kept hk4 (fun h => by have h3 := unhide HK1 _ h; omega))
    have HO1 := hide ho4
    have hc5 : Below w.heap.size w w4 := hc4.trans (hk4.below hc4.size (fun g hg => by have h3 := unhide HK1 g hg; omega))
    obtain ⟨q0, q1, q2, q3, q4⟩ := (unhide HX1).cells
    clear p0 p1 p2 p3 p4 hkd ho4 hk4 hc4
    go_wp2_with fail
    refine (unhide HE w4 _ _ (unhide HO1).at).mono ?_
    rintro e w5 ⟨rfl, hb5⟩
    have HO0 := hide ((unhide HO0).below hb5)
    have HO1 := hide ((unhide HO1).below hb5)
    have HX0 := hide ((unhide HX0).below hb5)
    have HX1 := hide ((unhide HX1).below hb5)
    have hc6 : Below w.heap.size w w5 := hc5.trans (hb5.mono hc5.size)
    clear hb5 hc5 q0 q1 q2 q3 q4
    go_wp2_with fail
    refine (unhide S2 _).mono ?_
    rintro e w6 ⟨⟨v4, v5, rfl, ho2⟩, hb6⟩
    have HO2 := hide ho2
    obtain ⟨a2, n2, c2, b2, m2, k2, e2, _, _⟩ := ho2.at
    simp at e2
    obtain ⟨rfl, rfl⟩ := e2
    have HO0 := hide ((unhide HO0).below hb6)
    have HO1 := hide ((unhide HO1).below hb6)
    have HX0 := hide ((unhide HX0).below hb6)
    have HX1 := hide ((unhide HX1).below hb6)
    have hc7 : Below w.heap.size w w6 := hc6.trans (hb6.mono hc6.size)
    obtain ⟨p0, p1, p2, p3, p4⟩ := ((unhide HX0).below (below_new w6 (Obj.cells #[Value.slice a2 n2 c2, Value.slice b2 m2 k2, Value.slice none 0 0, Value.int .i64 0, Value.int .i64 t] 30))).cells
    clear ho2 hb6 hc6
    go_wp2_with fail
    obtain ⟨W6, hW6⟩ : ∃ W, W = w6.alloc (Obj.cells #[Value.slice a2 n2 c2, Value.slice b2 m2 k2, Value.slice none 0 0, Value.int .i64 0, Value.int .i64 t] 30) := ⟨_, rfl⟩
    rw [← hW6]
    have hbW6 : Below w6.heap.size w6 W6 := by rw [hW6]; exact below_new _ _
    clear hW6 p0 p1 p2 p3 p4
    have HO0 := hide ((unhide HO0).below hbW6)
    have HO1 := hide ((unhide HO1).below hbW6)
    have HO2 := hide ((unhide HO2).below hbW6)
    have HX1 := hide ((unhide HX1).below hbW6)
    have hc8 : Below w.heap.size w W6 := hc7.trans (hbW6.mono hc7.size)
    clear hbW6 hc7
    refine (unhide EQ W6 _ _ _ _ (unhide HO2).at (unhide HO0).at).mono ?_
    rintro e w7 ⟨rfl, hb7⟩
    have HO1 := hide ((unhide HO1).below hb7)
    have HX1 := hide ((unhide HX1).below hb7)
    have hc9 : Below w.heap.size w w7 := hc8.trans (hb7.mono hc8.size)
    obtain ⟨p0, p1, p2, p3, p4⟩ := (unhide HX1).cells
    clear hb7 hc8
    go_wp2_with fail
    refine (unhide HE w7 _ _ (unhide HO1).at).mono ?_
    rintro e w8 ⟨rfl, hb8⟩
    have hc10 : Below w.heap.size w w8 := hc9.trans (hb8.mono hc9.size)
    clear hb8 hc9 p0 p1 p2 p3 p4
    go_wp2
    go_ret
    exact ⟨rfl, hc10⟩

set_option maxRecDepth 100000 in
theorem contract (H : Type) (enc : TypeId × Value → H) (W : World) (base : Nat) (args : Array Value) (ds gs : List (DataW H)) (before : List MemPlace)
    (hval : ∀ (j : Nat) t v, Tryz.f3.params[j]? = some t → args[j]? = some v → Value.okWide Tryz.prog W .any base t v)
    (hW : DataW.Whole enc Tryz.prog Tryz.f3.params.toList Rows.fnExactFormatStoreSpec.vars false W args.toList ds gs before) :
    Calls Tryz.prog 3 args W fun e W' => ∃ v, e = .returned v ∧ Rows.fnExactFormatStoreSpec.post enc Tryz.prog Tryz.f3 false true false false W args v W' := by
  have hW' := hW
  obtain ⟨p, q, hA0, hV, rfl, hfz, hnd⟩ := hW
  have hA : DataW.TrodAll enc Tryz.prog W 0 (fun _ => true) true Tryz.f3.params.toList args.toList ds p := hA0
  rw [Tryz.params3] at hA hval
  obtain ⟨v0, vs0, d0, ds0, p0, q0, hargs, rfl, rfl, h0, r0⟩ := trodAll_cons hA
  obtain ⟨rfl, rfl, rfl⟩ := trodAll_nil r0
  obtain rfl : args = #[v0] := by cases args; simp_all
  obtain ⟨rfl, rfl⟩ := trodVars_none hV
  obtain ⟨a0, rfl, rfl, rfl, m0⟩ := open_int Tryz.underlying3 (hval 0 3 v0 rfl rfl) h0
  clear hA0
  simp only [List.append_nil] at hW'
  refine (walk a0 W).mono fun e W' ⟨he, bel⟩ => ?_
  subst he
  exact ⟨_, rfl, _, _, _, [], [], [], hW', trodAll_mk1 (shut_bool Tryz.underlying4 _), (trodAll_cons_mk (shut_int Tryz.underlying3 m0) trodAll_mk0), rfl, bel.frame _, fun h => by cases h⟩

/-- A world that meets the condition: the settled one, the variable's cell laid. -/
noncomputable def laidWorld (os : Os) : World :=
  let w0 := World.holding Tryz.prog os ⟨#[], #[], []⟩
  { w0 with heap := w0.heap.modify 0 fun
      | .cells _ t frozen => .cells #[.iface 238 (.agg #[.pointer (some ⟨1, 100, none⟩)])] t frozen
      | o => o }

theorem laid_met (os : Os) : laidMetH Tryz.prog Rows.fnExactFormatStoreRow.laid ((laidWorld os).forCall (fun _ _ => 0) ⟨#[], #[.int .i64 0], []⟩).memory :=
  laidMetH_of_parts (laidMet_nil _ _) (by kernel_rfl)

theorem reads (os : Os) {H : Type} (enc : TypeId × Value → H) : ∃ places, DataW.whole enc Tryz.prog ((laidWorld os).forCall (fun _ _ => 0) ⟨#[], #[.int .i64 0], []⟩).memory Tryz.f3.params.toList Rows.fnExactFormatStoreSpec.vars false (#[.int .i64 0] : Array Value).toList 8 = some ([.lit (.int .i64 0)], [], places) :=
  ⟨[], by kernel_rfl⟩

set_option maxRecDepth 100000 in
theorem lifted (os : Os) (started : os.Started) (H : Type) (enc : TypeId × Value → H) (F : Stop.Interp) :
    ReturnsInHanded {} Tryz.checked os 3 .any ((OpenSpec.ofChange Rows.fnExactFormatStoreSpec).preRow enc Tryz.prog Tryz.f3 Rows.fnExactFormatStoreRow.domain false Rows.fnExactFormatStoreRow.laid) (((OpenSpec.ofChange Rows.fnExactFormatStoreSpec).at F).post enc Tryz.prog Tryz.f3 false true false false) := by
  obtain ⟨places, hx⟩ := reads os enc
  refine returnsInHanded_of_row (C := Tryz.checked) (s := OpenSpec.ofChange Rows.fnExactFormatStoreSpec) own started (by kernel_rfl) Tryz.func3
    (witness_row_at (enc := enc) (C := Tryz.checked) false (laidWorld os) #[.int .i64 0] rfl (by kernel_rfl) (by kernel_rfl) (by kernel_rfl)
      (OpenSpec.preRow_of_cond 8 hx (by kernel_rfl) (fun k hk => by cases hk) (by kernel_rfl) (laid_met os))) ?_
  intro W base args ds gs before hval hW _ _ _ _ _ _
  exact contract H enc W base args ds gs before hval hW

theorem said : Rows.FnExactFormatStoreSaid :=
  OpenClaim.holds_of_cond 3 Tryz.f3 rfl rfl rfl rfl rfl rfl rfl ⟨rfl, rfl, rfl, rfl, rfl⟩ rfl rfl rfl rfl rfl (by kernel_rfl) Tryz.func3 (by kernel_rfl)
    (of_decide_eq_true (by kernel_rfl)) (by unfold Func.isWrapper; first | (rw [if_pos (by decide +kernel)]; kernel_rfl) | (rw [if_neg (by decide +kernel)]; exact ⟨rfl, rfl⟩))
    (fun os started H enc _ F => by rw [OpenClaim.pre_eq_preRow]; exact lifted os started H enc F)

theorem plain (f : FuncId) (fn : Func) (hf : Tryz.pinned.checked.prog.funcNamed "loop.example/g00105/laws.FnExactFormatStore" = some f) (hfn : Tryz.pinned.checked.prog.funcs[f]? = some fn) :
    true = Tryz.pinned.checked.prog.looks [] ∧ ∀ (j : Nat) t, fn.params[j]? = some t → Tryz.pinned.checked.prog.wantsStandIn t = false := by
  obtain rfl : f = 3 := Option.some.inj ((show Tryz.prog.funcNamed "loop.example/g00105/laws.FnExactFormatStore" = some 3 by kernel_rfl).symm.trans hf) |>.symm
  obtain rfl : fn = Tryz.f3 := (Option.some.inj (Tryz.func3.symm.trans hfn)).symm
  refine ⟨by kernel_rfl, fun j t ht => ?_⟩
  rw [Tryz.params3] at ht
  obtain rfl : t = 3 := by simpa using Array.mem_of_getElem? ht
  exact (show Tryz.prog.wantsStandIn 3 = false by kernel_rfl)

theorem card : Rows.FnExactFormatStoreCardSaid :=
  Claim7.holds_tied_plain_at .later [] _ _ _ _ said (fun _ h => by cases h) (by kernel_rfl) (fun _ h => by cases h) fnExactFormatStore_row_tie rfl ⟨rfl, rfl⟩ (by kernel_rfl) rfl plain (by kernel_rfl)
end Go.Proofs.YtobdmjoonjblpaaGreatDoor.fnExactFormatStore
namespace Go.Proofs.YtobdmjoonjblpaaGreatDoor
theorem fnExactFormatStore_holds : Rows.FnExactFormatStoreCardSaid := fnExactFormatStore.card
#print axioms fnExactFormatStore_holds
end Go.Proofs.YtobdmjoonjblpaaGreatDoor
