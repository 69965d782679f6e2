/-
  impl.StateText answers as the specification; it writes into no argument, and its answer owns its memory. Walk and frame written by program (tools/exactlaw.py).
-/
import Derived.Test.YtihnaddfpmjpaaaGreatDoorCards
import Derived.Test.YtihnaddfpmjpaaaGreatDoorTie
import Derived.Deep.DeepHandedRow
import Derived.Lib.LaidTab
import Derived.Lib.SmallJoins
import Derived.Stop.LaidErr
import Derived.Test.YtihnaddfpmjpaaaGreatDoorJ49
import Derived.Test.YtihnaddfpmjpaaaGreatDoorChecked
import Derived.Deep.RegionHeld3
import Derived.ShutString
import Derived.Below
namespace Go.Proofs.YtihnaddfpmjpaaaGreatDoor.fnExactStateText
open Go.Proofs.YtihnaddfpmjpaaaGreatDoor Go.Proofs.YtihnaddfpmjpaaaGreatDoor.Gr
open Go.ChangeShapes Go.WideShapes Go.ChangeAt Go.RowKit
open Go.ChangeMaps (open_string shut_string)

theorem own : ownKnob Tryz.prog.godebug = none := by kernel_rfl

theorem laidOut : laidOutB Tryz.prog = true := by kernel_rfl

set_option maxRecDepth 100000 in
set_option maxHeartbeats 4000000 in
theorem walk (v0 : Value) (Q0 : List (ByteArray × ByteArray)) (w : World) (hv0 : PaAt w v0 w.heap.size Q0) (hn0 : pasize Q0 ≤ 9223372036854775807) (HT : Hid (Rg.Tab w.heap.size w)) :
    Calls Tryz.prog 6 #[v0] w fun e w' => e = .returned (.bool true) ∧ Below w.heap.size w w' := by
  have HV0 := hide hv0
  have HN0 := hide hn0
  have sh0 := hv0.shape
  obtain ⟨a0, c0, rfl⟩ := sh0
  clear hv0 hn0
  go_enter Tryz.func6, Tryz.ntmps6
  go_wp2_with fail
  refine (szPairS_gen _ w.heap.size Q0 1048576 (by omega) (by omega) (unhide HN0) w (unhide HV0)).mono ?_
  rintro e uw2 ⟨⟨z1, rfl, hxz1, hyz1⟩, hb3⟩
  have hc4 : Below w.heap.size w uw2 := hb3
  have hz5 : w.heap.size ≤ uw2.heap.size := hb3.size
  clear hb3
  by_cases hnegz1 : z1 < 0
  · go_wp2
    go_ret
    exact ⟨rfl, hc4⟩
  · have htz1 := hyz1 (by omega)
    have hb0 : pasize Q0 ≤ 1048576 := by omega
    have TO0 := hide (fun w1 (hb : Below w.heap.size w w1) => toPairS_gen _ w.heap.size Q0 hb0 w1 hb.size ((unhide HV0).below hb (Nat.le_refl _)))
    have EQ0 := hide (fun w1 d d1 (hd : PaAt w1 d w1.heap.size Q0) (hd1 : PaAt w1 d1 w1.heap.size Q0) => eqPairS_gen d d1 w1.heap.size w1.heap.size Q0 hb0 w1 (Nat.le_refl _) (Nat.le_refl _) hd hd1)
    have SP := hide (fun w1 d0 (hd0 : PaAt w1 d0 w1.heap.size Q0) => Cy.specText_gen w1.heap.size d0 Q0 hb0 w1 (Nat.le_refl _) hd0)
    have IM := hide (fun w1 (hbT : Below w.heap.size w w1) d0 (hd0 : PaAt w1 d0 w1.heap.size Q0) => Cy.implText_gen w1.heap.size d0 Q0 hb0 w1 (Nat.le_refl _) (((unhide HT).below hbT).mono hbT.size) hd0)
    generalize Cy.textR Q0 = ret0 at SP IM
    generalize Rg.stateOk Q0 = ret1 at SP IM
    have hne1 : (ret1 != ret1) = false := by simp
    clear hb0
    go_wp2_with fail
    refine (unhide TO0 uw2 hc4).mono ?_
    rintro e uw8 ⟨⟨d6, rfl, ho7⟩, hb9⟩
    have hc10 : Below w.heap.size w uw8 := hc4.trans (hb9.mono hc4.size)
    have hz11 : uw2.heap.size ≤ uw8.heap.size := hb9.size
    clear hb9
    have HO13 := hide ho7
    have HB14 := hide ho7.blk
    have hs17 := ho7.at.shape
    obtain ⟨a15, c16, rfl⟩ := hs17
    clear ho7
    go_wp2_with fail
    refine (unhide SP uw8 _ (unhide HO13).at).mono ?_
    rintro e uw18 ⟨rfl, hb19⟩
    have HO13 := hide ((unhide HO13).below hb19)
    have hc20 : Below w.heap.size w uw18 := hc10.trans (hb19.mono hc10.size)
    have hz21 : uw8.heap.size ≤ uw18.heap.size := hb19.size
    clear hb19
    go_wp2_with fail
    refine (unhide TO0 uw18 hc20).mono ?_
    rintro e uw24 ⟨⟨d22, rfl, ho23⟩, hb25⟩
    have hc26 : Below w.heap.size w uw24 := hc20.trans (hb25.mono hc20.size)
    have hz27 : uw18.heap.size ≤ uw24.heap.size := hb25.size
    clear hb25
    have HO28 := hide ho23
    have HB29 := hide ho23.blk
    have hs32 := ho23.at.shape
    obtain ⟨a30, c31, rfl⟩ := hs32
    clear ho23
    go_wp2_with fail
    refine (unhide IM uw24 hc26 _ (unhide HO28).at).mono ?_
    rintro e uw33 ⟨rfl, hb34⟩
    have HO28 := hide ((unhide HO28).below hb34)
    have hc35 : Below w.heap.size w uw33 := hc26.trans (hb34.mono hc26.size)
    have hz36 : uw24.heap.size ≤ uw33.heap.size := hb34.size
    clear hb34
    go_wp2_with fail
    refine (unhide TO0 uw33 hc35).mono ?_
    rintro e uw39 ⟨⟨d37, rfl, ho38⟩, hb40⟩
    have HO28 := hide ((unhide HO28).below hb40)
    have hc41 : Below w.heap.size w uw39 := hc35.trans (hb40.mono hc35.size)
    have hz42 : uw33.heap.size ≤ uw39.heap.size := hb40.size
    clear hb40
    have HO44 := hide ho38
    have HB45 := hide ho38.blk
    have hs48 := ho38.at.shape
    obtain ⟨a46, c47, rfl⟩ := hs48
    clear ho38
    go_wp2_with fail
    refine (unhide EQ0 uw39 _ _ (unhide HO28).at (unhide HO44).at).mono ?_
    rintro e uw49 ⟨rfl, hb50⟩
    have HO28 := hide ((unhide HO28).below hb50)
    have HO44 := hide ((unhide HO44).below hb50)
    have hc51 : Below w.heap.size w uw49 := hc41.trans (hb50.mono hc41.size)
    have hz52 : uw39.heap.size ≤ uw49.heap.size := hb50.size
    clear hb50
    go_wp2
    go_ret
    exact ⟨rfl, hc51⟩

theorem g0 : Tryz.prog.globalNamed "math/bits.deBruijn32tab" = some 3 := by kernel_rfl
theorem gt0 : (Tryz.prog.globals[3]?).map (·.type) = some 248 := by kernel_rfl
theorem ct0 : Tryz.prog.cellsOf 248 = 32 := by kernel_rfl
theorem ce0 : Tryz.prog.cellsOf 5 = 1 := by kernel_rfl
def zs0 : List Int := [0, 1, 28, 2, 29, 14, 24, 3, 30, 22, 20, 15, 25, 17, 4, 8, 31, 27, 13, 23, 21, 19, 16, 7, 26, 12, 18, 6, 11, 5, 10, 9]
theorem g1 : Tryz.prog.globalNamed "math/bits.deBruijn64tab" = some 4 := by kernel_rfl
theorem gt1 : (Tryz.prog.globals[4]?).map (·.type) = some 249 := by kernel_rfl
theorem ct1 : Tryz.prog.cellsOf 249 = 64 := by kernel_rfl
theorem ce1 : Tryz.prog.cellsOf 5 = 1 := by kernel_rfl
def zs1 : List Int := [0, 1, 56, 2, 57, 49, 28, 3, 61, 58, 42, 50, 38, 29, 17, 4, 62, 47, 59, 36, 45, 43, 51, 22, 53, 39, 33, 30, 24, 18, 12, 5, 63, 55, 48, 27, 60, 41, 37, 16, 46, 35, 44, 21, 52, 32, 23, 11, 54, 26, 40, 15, 34, 20, 31, 10, 25, 14, 19, 9, 13, 8, 7, 6]
theorem g2 : Tryz.prog.globalNamed "internal/strconv.uint64pow10" = some 2 := by kernel_rfl
theorem gt2 : (Tryz.prog.globals[2]?).map (·.type) = some 244 := by kernel_rfl
theorem ct2 : Tryz.prog.cellsOf 244 = 20 := by kernel_rfl
theorem ce2 : Tryz.prog.cellsOf 238 = 1 := by kernel_rfl
def zs2 : List Int := [1, 10, 100, 1000, 10000, 100000, 1000000, 10000000, 100000000, 1000000000, 10000000000, 100000000000, 1000000000000, 10000000000000, 100000000000000, 1000000000000000, 10000000000000000, 100000000000000000, 1000000000000000000, 10000000000000000000]
set_option maxRecDepth 100000 in
theorem tab {W : World} (h : laidMet Tryz.prog Rows.fnExactStateTextRow.laid W) : Lib.TabIs Tryz.prog W "internal/strconv.uint64pow10" .u64 zs2 :=
  Lib.tabIs_of_head (zs := zs2) g2 gt2 Tryz.underlying244 Tryz.underlying238 ce2 ct2 (laidMet.tail (laidMet.tail h))
theorem plainLaid {W : World} (h : laidMetH Tryz.prog Rows.fnExactStateTextRow.laid W) : laidMet Tryz.prog Rows.fnExactStateTextRow.laid W := h

set_option maxRecDepth 100000 in
theorem contract (H : Type) (enc : TypeId × Value → H) (W : World) (base : Nat) (args : Array Value) (ds gs : List (DataW H)) (before : List MemPlace)
    (hval : ∀ (j : Nat) t v, Tryz.f6.params[j]? = some t → args[j]? = some v → Value.okWide Tryz.prog W .any base t v)
    (hW : DataW.Whole enc Tryz.prog Tryz.f6.params.toList Rows.fnExactStateTextSpec.vars false W args.toList ds gs before) (hL : laidMet Tryz.prog Rows.fnExactStateTextRow.laid W) :
    Calls Tryz.prog 6 args W fun e W' => ∃ v, e = .returned v ∧ Rows.fnExactStateTextSpec.post enc Tryz.prog Tryz.f6 false true false false W args v W' := by
  have hW' := hW
  obtain ⟨p, q, hA0, hV, rfl, hfz, hnd⟩ := hW
  have hA : DataW.TrodAll enc Tryz.prog W 0 (fun _ => true) true Tryz.f6.params.toList args.toList ds p := hA0
  rw [Tryz.params6] at hA hval
  obtain ⟨v0, vs0, d0, ds0, p0, q0, hargs, rfl, rfl, h0, r0⟩ := trodAll_cons hA
  obtain ⟨rfl, rfl, rfl⟩ := trodAll_nil r0
  obtain rfl : args = #[v0] := by cases args; simp_all
  obtain ⟨rfl, rfl⟩ := trodVars_none hV
  have k0 := h0
  have lt0 : ∀ x ∈ p0, x.block < W.heap.size := by obtain ⟨m, hm⟩ := k0; exact DataW.trod_lt m _ _ _ hm
  obtain ⟨Q0, hv0, hn0⟩ := pairs_in (hval 0 22 v0 rfl rfl) h0
  clear hA0
  refine (walk v0 Q0 W hv0 hn0 (Lib.tabBelow_of_tabIs (show Lib.TabIs Tryz.prog W "internal/strconv.uint64pow10" .u64 Lib.pow10Tab from tab hL))).mono fun e W' ⟨he, bel⟩ => ?_
  subst he
  exact ⟨_, rfl, _, _, _, [], _, [], hW', trodAll_mk1 (shut_bool Tryz.underlying4 _), (trodAll_cons_mk (Below.trod laidOut (by kernel_rfl) (of_decide_eq_true (by kernel_rfl)) k0 bel lt0) trodAll_mk0), rfl, bel.frame _, fun h => by cases h⟩

def laidCells (zs : List Int) (k : IntKind) : Obj → Obj
  | .cells _ t frozen => .cells (zs.map fun z => Value.int k z).toArray t frozen
  | x => x

theorem laid_met (os : Os) : laidMet Tryz.prog Rows.fnExactStateTextRow.laid (({ World.holding Tryz.prog os ⟨#[], #[], []⟩ with heap := ((((World.holding Tryz.prog os ⟨#[], #[], []⟩).heap.modify 3 (laidCells zs0 .u8)).modify 4 (laidCells zs1 .u8)).modify 2 (laidCells zs2 .u64)) } : World).forCall (fun _ _ => 0) ⟨#[], #[.slice none 0 0], []⟩).memory :=
  laidMet_of_run' 8 (by kernel_rfl) (by kernel_rfl)

theorem reads (os : Os) {H : Type} (enc : TypeId × Value → H) : ∃ places, DataW.whole enc Tryz.prog (({ World.holding Tryz.prog os ⟨#[], #[], []⟩ with heap := ((((World.holding Tryz.prog os ⟨#[], #[], []⟩).heap.modify 3 (laidCells zs0 .u8)).modify 4 (laidCells zs1 .u8)).modify 2 (laidCells zs2 .u64)) } : World).forCall (fun _ _ => 0) ⟨#[], #[.slice none 0 0], []⟩).memory Tryz.f6.params.toList Rows.fnExactStateTextSpec.vars false (#[.slice none 0 0] : Array Value).toList 8 = some ([.nil], [], places) :=
  ⟨[], by kernel_rfl⟩

set_option maxRecDepth 100000 in
theorem lifted (os : Os) (started : os.Started) (H : Type) (enc : TypeId × Value → H) (F : Stop.Interp) :
    ReturnsInHanded {} Tryz.checked os 6 .any ((OpenSpec.ofChange Rows.fnExactStateTextSpec).preRow enc Tryz.prog Tryz.f6 Rows.fnExactStateTextRow.domain false Rows.fnExactStateTextRow.laid) (((OpenSpec.ofChange Rows.fnExactStateTextSpec).at F).post enc Tryz.prog Tryz.f6 false true false false) := by
  obtain ⟨places, hx⟩ := reads os enc
  refine returnsInHanded_of_row (C := Tryz.checked) (s := OpenSpec.ofChange Rows.fnExactStateTextSpec) own started (by kernel_rfl) Tryz.func6
    (witness_row_at (enc := enc) (C := Tryz.checked) false ({ World.holding Tryz.prog os ⟨#[], #[], []⟩ with heap := ((((World.holding Tryz.prog os ⟨#[], #[], []⟩).heap.modify 3 (laidCells zs0 .u8)).modify 4 (laidCells zs1 .u8)).modify 2 (laidCells zs2 .u64)) } : World) #[.slice none 0 0] rfl (by kernel_rfl) (by kernel_rfl) (by kernel_rfl)
      (OpenSpec.preRow_of_cond 8 hx (by kernel_rfl) (fun k hk => by cases hk) (by kernel_rfl) (laid_met os))) ?_
  intro W base args ds gs before hval hW _ _ _ hL _ _
  exact contract H enc W base args ds gs before hval hW (plainLaid hL)

theorem said : Rows.FnExactStateTextSaid :=
  OpenClaim.holds_of_cond 6 Tryz.f6 rfl rfl rfl rfl rfl rfl rfl ⟨rfl, rfl, rfl, rfl, rfl⟩ rfl rfl rfl rfl rfl (by kernel_rfl) Tryz.func6 (by kernel_rfl)
    (of_decide_eq_true (by kernel_rfl)) (by unfold Func.isWrapper; first | (rw [if_pos (by decide +kernel)]; kernel_rfl) | (rw [if_neg (by decide +kernel)]; exact ⟨rfl, rfl⟩))
    (fun os started H enc _ F => by rw [OpenClaim.pre_eq_preRow]; exact lifted os started H enc F)

theorem plain (f : FuncId) (fn : Func) (hf : Tryz.pinned.checked.prog.funcNamed "loop.example/g00105/laws.FnExactStateText" = some f) (hfn : Tryz.pinned.checked.prog.funcs[f]? = some fn) :
    true = Tryz.pinned.checked.prog.looks [] ∧ ∀ (j : Nat) t, fn.params[j]? = some t → Tryz.pinned.checked.prog.wantsStandIn t = false := by
  obtain rfl : f = 6 := Option.some.inj ((show Tryz.prog.funcNamed "loop.example/g00105/laws.FnExactStateText" = some 6 by kernel_rfl).symm.trans hf) |>.symm
  obtain rfl : fn = Tryz.f6 := (Option.some.inj (Tryz.func6.symm.trans hfn)).symm
  refine ⟨by kernel_rfl, fun j t ht => ?_⟩
  rw [Tryz.params6] at ht
  obtain rfl : t = 22 := by simpa using Array.mem_of_getElem? ht
  exact (show Tryz.prog.wantsStandIn 22 = false by kernel_rfl)

theorem card : Rows.FnExactStateTextCardSaid :=
  Claim7.holds_tied_plain_at .later [] _ _ _ _ said (fun _ h => by cases h) (by kernel_rfl) (fun _ h => by cases h) fnExactStateText_row_tie rfl ⟨rfl, rfl⟩ (by kernel_rfl) rfl plain (by kernel_rfl)
end Go.Proofs.YtihnaddfpmjpaaaGreatDoor.fnExactStateText
namespace Go.Proofs.YtihnaddfpmjpaaaGreatDoor
theorem fnExactStateText_holds : Rows.FnExactStateTextCardSaid := fnExactStateText.card
#print axioms fnExactStateText_holds
end Go.Proofs.YtihnaddfpmjpaaaGreatDoor
