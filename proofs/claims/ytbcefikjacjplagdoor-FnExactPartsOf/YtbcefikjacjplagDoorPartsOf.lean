/-
  At every text PartsOf answers as its specification, twice, in memory of its own, and the text reads behind the call as before it; the listed tables of Go's library are tied to the program's text.
-/
import Derived.Test.YtbcefikjacjplagDoorCards
import Derived.Test.YtbcefikjacjplagDoorTie
import Derived.Test.YtbcefikjacjplagDoorPartsWalk
import Derived.Deep.DeepWitnessRowRef
import Derived.ShutString
import Derived.Below
import Derived.Deep.DeepHandedRow
import Derived.Lib.LaidTab
import Derived.Lib.SmallJoins
import Derived.Stop.LaidErr
namespace Go.Proofs.YtbcefikjacjplagDoor.fnExactPartsOf
open Go.ChangeShapes Go.WideShapes Go.ChangeAt Go.RowKit
open Go.ChangeMaps (open_string shut_string)

theorem own : ownKnob Tryd.prog.godebug = none := by kernel_rfl
theorem g0 : Tryd.prog.globalNamed "strings.asciiSpace" = some 0 := by kernel_rfl
theorem gt0 : (Tryd.prog.globals[0]?).map (·.type) = some 37 := by kernel_rfl
theorem ct0 : Tryd.prog.cellsOf 37 = 256 := by kernel_rfl
theorem ce0 : Tryd.prog.cellsOf 5 = 1 := by kernel_rfl
def zs0 : List Int := [0, 0, 0, 0, 0, 0, 0, 0, 0, 1, 1, 1, 1, 1, 0, 0, 0, 0, 0, 0, 0, 0, 0, 0, 0, 0, 0, 0, 0, 0, 0, 0, 1, 0, 0, 0, 0, 0, 0, 0, 0, 0, 0, 0, 0, 0, 0, 0, 0, 0, 0, 0, 0, 0, 0, 0, 0, 0, 0, 0, 0, 0, 0, 0, 0, 0, 0, 0, 0, 0, 0, 0, 0, 0, 0, 0, 0, 0, 0, 0, 0, 0, 0, 0, 0, 0, 0, 0, 0, 0, 0, 0, 0, 0, 0, 0, 0, 0, 0, 0, 0, 0, 0, 0, 0, 0, 0, 0, 0, 0, 0, 0, 0, 0, 0, 0, 0, 0, 0, 0, 0, 0, 0, 0, 0, 0, 0, 0, 0, 0, 0, 0, 0, 0, 0, 0, 0, 0, 0, 0, 0, 0, 0, 0, 0, 0, 0, 0, 0, 0, 0, 0, 0, 0, 0, 0, 0, 0, 0, 0, 0, 0, 0, 0, 0, 0, 0, 0, 0, 0, 0, 0, 0, 0, 0, 0, 0, 0, 0, 0, 0, 0, 0, 0, 0, 0, 0, 0, 0, 0, 0, 0, 0, 0, 0, 0, 0, 0, 0, 0, 0, 0, 0, 0, 0, 0, 0, 0, 0, 0, 0, 0, 0, 0, 0, 0, 0, 0, 0, 0, 0, 0, 0, 0, 0, 0, 0, 0, 0, 0, 0, 0, 0, 0, 0, 0, 0, 0, 0, 0, 0, 0, 0, 0, 0, 0, 0, 0, 0, 0, 0, 0, 0, 0, 0, 0]
set_option maxRecDepth 100000 in
theorem tab0 {W : World} (h : laidMet Tryd.prog Rows.fnExactPartsOfRow.laid W) : Lib.TabIs Tryd.prog W "strings.asciiSpace" .u8 zs0 :=
  Lib.tabIs_of_head (zs := zs0) g0 gt0 Tryd.underlying37 Tryd.underlying5 ce0 ct0 (laidMet.tail h)
theorem plainLaid {W : World} (h : laidMetH Tryd.prog Rows.fnExactPartsOfRow.laid W) : laidMet Tryd.prog Rows.fnExactPartsOfRow.laid W := h

theorem space_tab {W : World} (h : laidMet Tryd.prog Rows.fnExactPartsOfRow.laid W) : Lib.TabIs Tryd.prog W "strings.asciiSpace" .u8 Lib.asciiSpaceTab := by
  have e : zs0 = Lib.asciiSpaceTab := by kernel_rfl
  rw [← e]
  exact tab0 h

theorem own_lt {w : World} {B : Nat} {v : Value} {n : Nat} {xs : List Value} (h : w.ownsRow B 9 1 v n xs) : ∀ g, v.ownBlock = some g → g < w.heap.size := fun g hg => (h.lt g hg).2

set_option maxRecDepth 100000 in
set_option maxHeartbeats 1000000 in
theorem walk (s : ByteArray) (w : World) (hL : laidMet Tryd.prog Rows.fnExactPartsOfRow.laid w) :
    Calls Tryd.prog 5 #[.string s] w fun e w' => e = .returned (.bool true) ∧ Below w.heap.size w w' := by
  have HT := hide (space_tab hL)
  clear hL
  by_cases hbig : (1048576 : Int) < (s.size : Int)
  · go_enter Tryd.func5, Tryd.ntmps5
    go_wp2
    go_ret
    exact ⟨rfl, Below.refl _ _⟩
  · go_enter Tryd.func5, Tryd.ntmps5
    go_wp2_with fail
    refine (specParts_any s w).mono ?_
    rintro e w1 ⟨⟨v0, L, b, rfl, hp0, ho0⟩, hb1⟩
    have hL8 := hp0.few
    have HP0 := hide hp0
    have H1 := hide ho0
    clear hp0 ho0
    go_wp2_with fail
    refine (implParts_any s w1 (Joins.tab_stays g0 (unhide HT) hb1 (Nat.le_refl _))).mono ?_
    rintro e w2 ⟨⟨v1, M, c, rfl, hp1, ho1⟩, hb2⟩
    obtain ⟨rfl, rfl⟩ := (unhide HP0).same hp1
    have hbw2 : Below w.heap.size w w2 := hb1.trans (hb2.mono hb1.size)
    have HA2 := hide (own_below (unhide H1) hb2)
    have HV2 := hide ho1
    have hlt0 := hide (own_lt (unhide H1))
    clear hp1 ho1
    go_wp2_with fail
    refine (eq_same L (by omega) w2 (unhide HV2) (unhide HA2)).mono ?_
    rintro e w3 ⟨rfl, hb3⟩
    have hbw3 : Below w1.heap.size w1 w3 := hb2.trans (hb3.mono hb2.size)
    have HV3 := hide (own_below (unhide HV2) hb3)
    have hs3 := hbw3.size
    go_wp2_with fail
    refine (mark_any 1 L (by omega) (by omega) (by omega) w3 hs3 (unhide HV3)).mono ?_
    rintro e w4 ⟨rfl, ho4, hb4⟩
    have hbw4 : Below w1.heap.size w1 w4 := hbw3.trans hb4
    have HV4 := hide ho4
    clear ho4
    have h14 := held_any (v := v1) 1 L.length (by omega) (by omega) (by omega) w4 (unhide HV4)
    have H14 := hide h14
    clear h14
    go_wp2_with fail
    refine (unhide H14).mono ?_
    rintro e w5 ⟨rfl, hb5⟩
    have hbw5 : Below w1.heap.size w1 w5 := hbw4.trans (hb5.mono hbw4.size)
    have HV5 := hide (own_below (unhide HV4) hb5)
    have HA5 := hide (own_under (unhide H1) (unhide hlt0) hbw5)
    have HT5 := hide (Joins.tab_stays g0 (unhide HT) (hb1.trans (hbw5.mono hb1.size)) (Nat.le_refl _))
    have hn0 : ¬ ((1 : Nat) : Int) + (L.length : Int) < 0 := by omega
    go_wp2_with fail
    refine (implParts_any s w5 (unhide HT5)).mono ?_
    rintro e w6 ⟨⟨v2, M, c, rfl, hp2, ho2⟩, hb6⟩
    obtain ⟨rfl, rfl⟩ := (unhide HP0).same hp2
    have HU6 := hide ho2
    have HA6 := hide (own_below (unhide HA5) hb6)
    have HV6 := hide (own_below (unhide HV5) hb6)
    have hbw6 : Below w1.heap.size w1 w6 := hbw5.trans (hb6.mono hbw5.size)
    clear hp2 ho2
    go_wp2_with fail
    refine (eq_same L (by omega) w6 (unhide HU6) (unhide HA6)).mono ?_
    rintro e w7 ⟨rfl, hb7⟩
    have hbw7 : Below w1.heap.size w1 w7 := hbw6.trans (hb7.mono hbw6.size)
    have h14 := held_any (v := v1) 1 L.length (by omega) (by omega) (by omega) w7 (own_below (unhide HV6) hb7)
    have H14 := hide h14
    clear h14
    go_wp2_with fail
    refine (unhide H14).mono ?_
    rintro e w8 ⟨rfl, hb8⟩
    have hbw8 : Below w1.heap.size w1 w8 := hbw7.trans (hb8.mono hbw7.size)
    go_wp2
    go_ret
    exact ⟨rfl, hb1.trans (hbw8.mono hb1.size)⟩

theorem contract (H : Type) (enc : TypeId × Value → H) (W : World) (base : Nat) (args : Array Value) (ds gs : List (DataW H)) (before : List MemPlace)
    (hval : ∀ (j : Nat) t v, Tryd.f5.params[j]? = some t → args[j]? = some v → Value.okWide Tryd.prog W .any base t v)
    (hW : DataW.Whole enc Tryd.prog Tryd.f5.params.toList Rows.fnExactPartsOfSpec.vars false W args.toList ds gs before) (hL : laidMet Tryd.prog Rows.fnExactPartsOfRow.laid W) :
    Calls Tryd.prog 5 args W fun e W' => ∃ v, e = .returned v ∧ Rows.fnExactPartsOfSpec.post enc Tryd.prog Tryd.f5 false true false false W args v W' := by
  have hW' := hW
  obtain ⟨p, q, hA0, hV, rfl, hfz, hnd⟩ := hW
  have hA : DataW.TrodAll enc Tryd.prog W 0 (fun _ => true) true Tryd.f5.params.toList args.toList ds p := hA0
  rw [Tryd.params5] at hA hval
  obtain ⟨v0, vs0, d0, ds0, p0, q0, hargs, rfl, rfl, h0, r0⟩ := trodAll_cons hA
  obtain ⟨rfl, rfl, rfl⟩ := trodAll_nil r0
  obtain rfl : args = #[v0] := by cases args; simp_all
  obtain ⟨rfl, rfl⟩ := trodVars_none hV
  obtain ⟨a0, rfl, rfl, rfl, m0⟩ := open_string Tryd.underlying9 (hval 0 9 v0 rfl rfl) h0
  clear hA0
  simp only [List.append_nil] at hW'
  refine (walk a0 W hL).mono fun e W' ⟨he, bel⟩ => ?_
  subst he
  exact ⟨_, rfl, _, _, _, [], [], [], hW', trodAll_mk1 (shut_bool Tryd.underlying4 _), (trodAll_cons_mk (shut_string Tryd.underlying9 m0) trodAll_mk0), rfl, bel.frame _, fun h => by cases h⟩

def whiteCells : Array Value := #[.int .u16 9, .int .u16 13, .int .u16 1, .int .u16 32, .int .u16 133, .int .u16 101, .int .u16 160, .int .u16 5760, .int .u16 5600, .int .u16 8192, .int .u16 8202, .int .u16 1, .int .u16 8232, .int .u16 8233, .int .u16 1, .int .u16 8239, .int .u16 8287, .int .u16 48, .int .u16 12288, .int .u16 12288, .int .u16 1]
def laidPtr (n : Nat) : Obj → Obj
  | .cells _ t frozen => .cells #[.pointer (some ⟨n, 0, none⟩)] t frozen
  | x => x
def laidCells (zs : List Int) (k : IntKind) : Obj → Obj
  | .cells _ t frozen => .cells (zs.map fun z => Value.int k z).toArray t frozen
  | x => x
theorem laid_met (os : Os) : laidMet Tryd.prog Rows.fnExactPartsOfRow.laid (({ (World.holding Tryd.prog os ⟨#[.cells whiteCells 60, .cells #[.slice (some ⟨(World.settled Tryd.prog os).heap.size, 0, none⟩) 7 7, .slice none 0 0, .int .i64 2] 57], #[], []⟩) with heap := (((World.holding Tryd.prog os ⟨#[.cells whiteCells 60, .cells #[.slice (some ⟨(World.settled Tryd.prog os).heap.size, 0, none⟩) 7 7, .slice none 0 0, .int .i64 2] 57], #[], []⟩).heap.modify 0 (laidCells zs0 .u8)).modify 1 (laidPtr ((World.settled Tryd.prog os).heap.size + 1))) } : World).forCall (fun _ _ => 0) ⟨#[], #[.string .empty], []⟩).memory :=
  laidMet_of_run' 8 (by kernel_rfl) (by kernel_rfl)
theorem reads (os : Os) {H : Type} (enc : TypeId × Value → H) : ∃ places, DataW.whole enc Tryd.prog (({ (World.holding Tryd.prog os ⟨#[.cells whiteCells 60, .cells #[.slice (some ⟨(World.settled Tryd.prog os).heap.size, 0, none⟩) 7 7, .slice none 0 0, .int .i64 2] 57], #[], []⟩) with heap := (((World.holding Tryd.prog os ⟨#[.cells whiteCells 60, .cells #[.slice (some ⟨(World.settled Tryd.prog os).heap.size, 0, none⟩) 7 7, .slice none 0 0, .int .i64 2] 57], #[], []⟩).heap.modify 0 (laidCells zs0 .u8)).modify 1 (laidPtr ((World.settled Tryd.prog os).heap.size + 1))) } : World).forCall (fun _ _ => 0) ⟨#[], #[.string .empty], []⟩).memory Tryd.f5.params.toList Rows.fnExactPartsOfSpec.vars false (#[.string .empty] : Array Value).toList 8 = some ([.lit (.string [])], [], places) :=
  ⟨[], by kernel_rfl⟩

set_option maxRecDepth 100000 in
theorem lifted (os : Os) (started : os.Started) (H : Type) (enc : TypeId × Value → H) (F : Stop.Interp) :
    ReturnsInHanded {} Tryd.checked os 5 .any ((OpenSpec.ofChange Rows.fnExactPartsOfSpec).preRow enc Tryd.prog Tryd.f5 Rows.fnExactPartsOfRow.domain false Rows.fnExactPartsOfRow.laid) (((OpenSpec.ofChange Rows.fnExactPartsOfSpec).at F).post enc Tryd.prog Tryd.f5 false true false false) := by
  obtain ⟨places, hx⟩ := reads os enc
  refine returnsInHanded_of_row (C := Tryd.checked) (s := OpenSpec.ofChange Rows.fnExactPartsOfSpec) own started (by kernel_rfl) Tryd.func5
    (witness_row_atRef (enc := enc) (C := Tryd.checked) false ({ (World.holding Tryd.prog os ⟨#[.cells whiteCells 60, .cells #[.slice (some ⟨(World.settled Tryd.prog os).heap.size, 0, none⟩) 7 7, .slice none 0 0, .int .i64 2] 57], #[], []⟩) with heap := (((World.holding Tryd.prog os ⟨#[.cells whiteCells 60, .cells #[.slice (some ⟨(World.settled Tryd.prog os).heap.size, 0, none⟩) 7 7, .slice none 0 0, .int .i64 2] 57], #[], []⟩).heap.modify 0 (laidCells zs0 .u8)).modify 1 (laidPtr ((World.settled Tryd.prog os).heap.size + 1))) } : World) #[.string .empty] rfl (by kernel_rfl) (by kernel_rfl) (by kernel_rfl)
      (OpenSpec.preRow_of_cond 8 hx (by kernel_rfl) (fun k hk => by cases hk) (by kernel_rfl) (laid_met os))) ?_
  intro W base args ds gs before hval hW _ _ _ hL _ _
  exact contract H enc W base args ds gs before hval hW (plainLaid hL)

theorem said : Rows.FnExactPartsOfSaid :=
  OpenClaim.holds_of_cond 5 Tryd.f5 rfl rfl rfl rfl rfl rfl rfl ⟨rfl, rfl, rfl, rfl, rfl⟩ rfl rfl rfl rfl rfl (by kernel_rfl) Tryd.func5 (by kernel_rfl)
    (of_decide_eq_true (by kernel_rfl)) (by unfold Func.isWrapper; first | (rw [if_pos (by decide +kernel)]; kernel_rfl) | (rw [if_neg (by decide +kernel)]; exact ⟨rfl, rfl⟩))
    (fun os started H enc _ F => by rw [OpenClaim.pre_eq_preRow]; exact lifted os started H enc F)

theorem plain (f : FuncId) (fn : Func) (hf : Tryd.pinned.checked.prog.funcNamed "loop.example/g00105/laws.FnExactPartsOf" = some f) (hfn : Tryd.pinned.checked.prog.funcs[f]? = some fn) :
    false = Tryd.pinned.checked.prog.looks [] ∧ ∀ (j : Nat) t, fn.params[j]? = some t → Tryd.pinned.checked.prog.wantsStandIn t = false := by
  obtain rfl : f = 5 := Option.some.inj ((show Tryd.prog.funcNamed "loop.example/g00105/laws.FnExactPartsOf" = some 5 by kernel_rfl).symm.trans hf) |>.symm
  obtain rfl : fn = Tryd.f5 := (Option.some.inj (Tryd.func5.symm.trans hfn)).symm
  refine ⟨by kernel_rfl, fun j t ht => ?_⟩
  rw [Tryd.params5] at ht
  obtain rfl : t = 9 := by simpa using Array.mem_of_getElem? ht
  exact (show Tryd.prog.wantsStandIn 9 = false by kernel_rfl)

theorem card : Rows.FnExactPartsOfCardSaid :=
  Claim7.holds_tied_plain_at .later [] _ _ _ _ said (fun _ h => by cases h) (by kernel_rfl) (fun _ h => by cases h) fnExactPartsOf_row_tie rfl ⟨rfl, rfl⟩ (by kernel_rfl) rfl plain (by kernel_rfl)
end Go.Proofs.YtbcefikjacjplagDoor.fnExactPartsOf
namespace Go.Proofs.YtbcefikjacjplagDoor
theorem fnExactPartsOf_holds : Rows.FnExactPartsOfCardSaid := fnExactPartsOf.card
#print axioms fnExactPartsOf_holds
end Go.Proofs.YtbcefikjacjplagDoor
