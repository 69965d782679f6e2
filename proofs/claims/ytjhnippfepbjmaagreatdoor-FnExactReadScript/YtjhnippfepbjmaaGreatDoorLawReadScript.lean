/-
  impl.ReadScript answers as the specification, at every text; its answer owns its memory, behind another call too. The card is tied to the tables that strconv, strings and unicode read; of errors.errorType, White_Space, utf8.first and acceptRanges the walk reads nothing.
-/
import Derived.Test.YtjhnippfepbjmaaGreatDoorCards
import Derived.Test.YtjhnippfepbjmaaGreatDoorTie
import Derived.Test.YtjhnippfepbjmaaGreatDoorJ43
import Derived.ShutString
import Derived.Below
import Derived.Deep.DeepHandedRow
import Derived.LaidHandle
import Derived.LaidSub
import Derived.LaidLaws
import Derived.Deep.DeepWitnessRowRef
import Derived.Deep.DeepLaidRun
import Derived.Lib.LaidTab
import Derived.Lib.SmallJoins
import Derived.Shelf.Vars
import Derived.Stop.LaidErr
namespace Go.Proofs.YtjhnippfepbjmaaGreatDoor.fnExactReadScript
open Go.Proofs.YtjhnippfepbjmaaGreatDoor
open Go.ChangeShapes Go.WideShapes Go.ChangeAt Go.RowKit
open Go.ChangeMaps (open_string shut_string)

theorem own : ownKnob Tryz.prog.godebug = none := by kernel_rfl

def zs0 : List Int := [0, 1, 28, 2, 29, 14, 24, 3, 30, 22, 20, 15, 25, 17, 4, 8, 31, 27, 13, 23, 21, 19, 16, 7, 26, 12, 18, 6, 11, 5, 10, 9]
def zs1 : List Int := [0, 1, 56, 2, 57, 49, 28, 3, 61, 58, 42, 50, 38, 29, 17, 4, 62, 47, 59, 36, 45, 43, 51, 22, 53, 39, 33, 30, 24, 18, 12, 5, 63, 55, 48, 27, 60, 41, 37, 16, 46, 35, 44, 21, 52, 32, 23, 11, 54, 26, 40, 15, 34, 20, 31, 10, 25, 14, 19, 9, 13, 8, 7, 6]
def zs2 : List Int := [1, 10, 100, 1000, 10000, 100000, 1000000, 10000000, 100000000, 1000000000, 10000000000, 100000000000, 1000000000000, 10000000000000, 100000000000000, 1000000000000000, 10000000000000000, 100000000000000000, 1000000000000000000, 10000000000000000000]
theorem g2 : Tryz.prog.globalNamed "internal/strconv.uint64pow10" = some 6 := by kernel_rfl
theorem gt2 : (Tryz.prog.globals[6]?).map (·.type) = some 253 := by kernel_rfl
theorem ct2 : Tryz.prog.cellsOf 253 = 20 := by kernel_rfl
theorem ce2 : Tryz.prog.cellsOf 226 = 1 := by kernel_rfl
def zs3 : List Int := [128, 191, 160, 191, 128, 159, 144, 191, 128, 143, 0, 0, 0, 0, 0, 0, 0, 0, 0, 0, 0, 0, 0, 0, 0, 0, 0, 0, 0, 0, 0, 0]
def zs4 : List Int := [0, 0, 0, 0, 0, 0, 0, 0, 0, 1, 1, 1, 1, 1, 0, 0, 0, 0, 0, 0, 0, 0, 0, 0, 0, 0, 0, 0, 0, 0, 0, 0, 1, 0, 0, 0, 0, 0, 0, 0, 0, 0, 0, 0, 0, 0, 0, 0, 0, 0, 0, 0, 0, 0, 0, 0, 0, 0, 0, 0, 0, 0, 0, 0, 0, 0, 0, 0, 0, 0, 0, 0, 0, 0, 0, 0, 0, 0, 0, 0, 0, 0, 0, 0, 0, 0, 0, 0, 0, 0, 0, 0, 0, 0, 0, 0, 0, 0, 0, 0, 0, 0, 0, 0, 0, 0, 0, 0, 0, 0, 0, 0, 0, 0, 0, 0, 0, 0, 0, 0, 0, 0, 0, 0, 0, 0, 0, 0, 0, 0, 0, 0, 0, 0, 0, 0, 0, 0, 0, 0, 0, 0, 0, 0, 0, 0, 0, 0, 0, 0, 0, 0, 0, 0, 0, 0, 0, 0, 0, 0, 0, 0, 0, 0, 0, 0, 0, 0, 0, 0, 0, 0, 0, 0, 0, 0, 0, 0, 0, 0, 0, 0, 0, 0, 0, 0, 0, 0, 0, 0, 0, 0, 0, 0, 0, 0, 0, 0, 0, 0, 0, 0, 0, 0, 0, 0, 0, 0, 0, 0, 0, 0, 0, 0, 0, 0, 0, 0, 0, 0, 0, 0, 0, 0, 0, 0, 0, 0, 0, 0, 0, 0, 0, 0, 0, 0, 0, 0, 0, 0, 0, 0, 0, 0, 0, 0, 0, 0, 0, 0, 0, 0, 0, 0, 0, 0]
theorem g4 : Tryz.prog.globalNamed "strings.asciiSpace" = some 0 := by kernel_rfl
theorem gt4 : (Tryz.prog.globals[0]?).map (·.type) = some 84 := by kernel_rfl
theorem ct4 : Tryz.prog.cellsOf 84 = 256 := by kernel_rfl
theorem ce4 : Tryz.prog.cellsOf 5 = 1 := by kernel_rfl

/-- What is laid but for the handle. -/
def dataL : List (String × DataW Unit) := [("math/bits.deBruijn32tab", Rows.laid_math_bits_deBruijn32tab), ("math/bits.deBruijn64tab", Rows.laid_math_bits_deBruijn64tab), ("internal/strconv.uint64pow10", Rows.laid_internal_strconv_uint64pow10), ("unicode/utf8.acceptRanges", Rows.laid_unicode_utf8_acceptRanges), ("unicode.White_Space", Rows.laid_unicode_White_Space), ("strings.asciiSpace", Rows.laid_strings_asciiSpace), ("unicode/utf8.first", Rows.laid_unicode_utf8_first)]

theorem dataLaid {W : World} (h : laidMetH Tryz.prog Rows.fnExactReadScriptRow.laid W) : laidMet Tryz.prog dataL W := by
  have h1 := (laidMetH_iff.1 h).1
  have e : (Rows.fnExactReadScriptRow.laid.filter fun x => x.2.handleName?.isNone) = dataL := rfl
  rw [e] at h1
  exact h1

set_option maxRecDepth 100000 in
theorem tabP {W : World} (h : laidMet Tryz.prog dataL W) : Lib.TabIs Tryz.prog W "internal/strconv.uint64pow10" .u64 zs2 :=
  Lib.tabIs_of_head (zs := zs2) g2 gt2 Tryz.underlying253 Tryz.underlying226 ce2 ct2 (laidMet.tail (laidMet.tail h))
set_option maxRecDepth 100000 in
theorem tabS {W : World} (h : laidMet Tryz.prog dataL W) : Lib.TabIs Tryz.prog W "strings.asciiSpace" .u8 zs4 :=
  Lib.tabIs_of_head (zs := zs4) g4 gt4 Tryz.underlying84 Tryz.underlying5 ce4 ct4 (laidMet.tail (laidMet.tail (laidMet.tail (laidMet.tail (laidMet.tail h)))))

theorem maxLen {W : World} (h : W.ShapedOpen Tryz.prog) : ∃ m, W.cell? ⟨3, 0, none⟩ = some (.int .i64 m) :=
  Go.Proofs.cell_of_shapedOpen_int (zero := #[.int .i64 0]) (t := 3) h (of_decide_eq_true (by kernel_rfl)) (by kernel_rfl) rfl (by kernel_rfl) (by kernel_rfl) Tryz.underlying3

theorem tb {W : World} (h : laidMet Tryz.prog dataL W) (hsh : W.ShapedOpen Tryz.prog) (h3 : 3 < W.heap.size) : Sc.Tb W.heap.size W := fun w2 h2 => by
  have e2 : zs2 = Lib.pow10Tab := by kernel_rfl
  have e4 : zs4 = Lib.asciiSpaceTab := by kernel_rfl
  obtain ⟨m, hm⟩ := maxLen hsh
  refine ⟨?_, ?_, m, ?_⟩
  · rw [← e2]; exact Joins.tab_stays g2 (tabP h) h2 (Nat.le_refl _)
  · rw [← e4]; exact Joins.tab_stays g4 (tabS h) h2 (Nat.le_refl _)
  · exact (h2.cell (p := ⟨3, 0, none⟩) h3).trans hm

theorem cell_lt {W : World} {g : Nat} {v : Value} (h : W.cell? ⟨g, 0, none⟩ = some v) : g < W.heap.size := by
  rcases Nat.lt_or_ge g W.heap.size with h1 | h1
  · exact h1
  · unfold World.cell? at h
    rw [Array.getElem?_eq_none h1] at h
    simp at h

set_option maxRecDepth 100000 in
theorem contract (H : Type) (enc : TypeId × Value → H) (W : World) (base : Nat) (args : Array Value) (ds gs : List (DataW H)) (before : List MemPlace)
    (hval : ∀ (j : Nat) t v, Tryz.f3.params[j]? = some t → args[j]? = some v → Value.okWide Tryz.prog W .any base t v)
    (hW : DataW.Whole enc Tryz.prog Tryz.f3.params.toList Rows.fnExactReadScriptSpec.vars false W args.toList ds gs before) (hT : Sc.Tb W.heap.size W) :
    Calls Tryz.prog 3 args W fun e W' => ∃ v, e = .returned v ∧ Rows.fnExactReadScriptSpec.post enc Tryz.prog Tryz.f3 false true false false W args v W' := by
  have hW' := hW
  obtain ⟨p, q, hA0, hV, rfl, hfz, hnd⟩ := hW
  have hA : DataW.TrodAll enc Tryz.prog W 0 (fun _ => true) true Tryz.f3.params.toList args.toList ds p := hA0
  rw [Tryz.params3] at hA hval
  obtain ⟨v0, vs0, d0, ds0, p0, q0, hargs, rfl, rfl, h0, r0⟩ := trodAll_cons hA
  obtain ⟨rfl, rfl, rfl⟩ := trodAll_nil r0
  obtain rfl : args = #[v0] := by cases args; simp_all
  obtain ⟨rfl, rfl⟩ := trodVars_none hV
  obtain ⟨x0, rfl, rfl, rfl, m0⟩ := open_string Tryz.underlying9 (hval 0 9 v0 rfl rfl) h0
  clear hA0
  simp only [List.append_nil] at hW'
  refine (Sc.script_walk x0 W hT).mono fun e W' ⟨he, bel⟩ => ?_
  subst he
  exact ⟨_, rfl, _, _, _, [], [], [], hW', trodAll_mk1 (shut_bool Tryz.underlying4 _), (trodAll_cons_mk (shut_string Tryz.underlying9 m0) trodAll_mk0), rfl, bel.frame _, fun h => by cases h⟩

def whiteCells : Array Value := #[.int .u16 9, .int .u16 13, .int .u16 1, .int .u16 32, .int .u16 133, .int .u16 101, .int .u16 160, .int .u16 5760, .int .u16 5600, .int .u16 8192, .int .u16 8202, .int .u16 1, .int .u16 8232, .int .u16 8233, .int .u16 1, .int .u16 8239, .int .u16 8287, .int .u16 48, .int .u16 12288, .int .u16 12288, .int .u16 1]
def laidPtr (n : Nat) : Obj → Obj
  | .cells _ t frozen => .cells #[.pointer (some ⟨n, 0, none⟩)] t frozen
  | x => x
def laidCells (zs : List Int) (k : IntKind) : Obj → Obj
  | .cells _ t frozen => .cells (zs.map fun z => Value.int k z).toArray t frozen
  | x => x
def laidHandle : Obj → Obj
  | .cells _ t frozen => .cells #[.iface 212 (.agg #[.pointer (some ⟨10, 140, none⟩)])] t frozen
  | x => x

/-- A world that meets the condition. -/
noncomputable def laidWorld (os : Os) : World := ({ (World.holding Tryz.prog os ⟨#[.cells whiteCells 113, .cells #[.slice (some ⟨(World.settled Tryz.prog os).heap.size, 0, none⟩) 7 7, .slice none 0 0, .int .i64 2] 110], #[], []⟩) with heap := (((((((((World.holding Tryz.prog os ⟨#[.cells whiteCells 113, .cells #[.slice (some ⟨(World.settled Tryz.prog os).heap.size, 0, none⟩) 7 7, .slice none 0 0, .int .i64 2] 110], #[], []⟩).heap.modify 7 (laidCells zs0 .u8)).modify 8 (laidCells zs1 .u8)).modify 6 (laidCells zs2 .u64)).modify 5 (laidCells zs3 .u8)).modify 0 (laidCells zs4 .u8)).modify 4 (laidCells (Go.Pinned.utf8FirstZ.map Int.ofNat) .u8)).modify 2 laidHandle).modify 1 (laidPtr ((World.settled Tryz.prog os).heap.size + 1))) } : World)

theorem laid_met (os : Os) : laidMetH Tryz.prog Rows.fnExactReadScriptRow.laid ((laidWorld os).forCall (fun _ _ => 0) ⟨#[], #[.string .empty], []⟩).memory :=
  laidMetH_of_parts (laidMet_of_run3 8 (by kernel_rfl) (by kernel_rfl) (by kernel_rfl)) (by kernel_rfl)

theorem reads (os : Os) {H : Type} (enc : TypeId × Value → H) : ∃ places, DataW.whole enc Tryz.prog ((laidWorld os).forCall (fun _ _ => 0) ⟨#[], #[.string .empty], []⟩).memory Tryz.f3.params.toList Rows.fnExactReadScriptSpec.vars false (#[.string .empty] : Array Value).toList 8 = some ([.lit (.string [])], [], places) :=
  ⟨[], by kernel_rfl⟩

set_option maxRecDepth 100000 in
theorem lifted (os : Os) (started : os.Started) (H : Type) (enc : TypeId × Value → H) (F : Stop.Interp) :
    ReturnsInHanded {} Tryz.checked os 3 .any ((OpenSpec.ofChange Rows.fnExactReadScriptSpec).preRow enc Tryz.prog Tryz.f3 Rows.fnExactReadScriptRow.domain false Rows.fnExactReadScriptRow.laid) (((OpenSpec.ofChange Rows.fnExactReadScriptSpec).at F).post enc Tryz.prog Tryz.f3 false true false false) := by
  obtain ⟨places, hx⟩ := reads os enc
  refine returnsInHanded_of_row (C := Tryz.checked) (s := OpenSpec.ofChange Rows.fnExactReadScriptSpec) own started (by kernel_rfl) Tryz.func3
    (witness_row_atRef (enc := enc) (C := Tryz.checked) false (laidWorld os) #[.string .empty] rfl (by kernel_rfl) (by kernel_rfl) (by kernel_rfl)
      (OpenSpec.preRow_of_cond 8 hx (by kernel_rfl) (fun k hk => by cases hk) (by kernel_rfl) (laid_met os))) ?_
  intro W base args ds gs before hval hW _ _ _ hL hsh _
  obtain ⟨m, hm⟩ := maxLen hsh
  exact contract H enc W base args ds gs before hval hW (tb (dataLaid hL) hsh (cell_lt hm))

theorem said : Rows.FnExactReadScriptSaid :=
  OpenClaim.holds_of_cond 3 Tryz.f3 rfl rfl rfl rfl rfl rfl rfl ⟨rfl, rfl, rfl, rfl, rfl⟩ rfl rfl rfl rfl rfl (by kernel_rfl) Tryz.func3 (by kernel_rfl)
    (of_decide_eq_true (by kernel_rfl)) (by unfold Func.isWrapper; first | (rw [if_pos (by decide +kernel)]; kernel_rfl) | (rw [if_neg (by decide +kernel)]; exact ⟨rfl, rfl⟩))
    (fun os started H enc _ F => by rw [OpenClaim.pre_eq_preRow]; exact lifted os started H enc F)

theorem plain (f : FuncId) (fn : Func) (hf : Tryz.pinned.checked.prog.funcNamed "loop.example/g00105/laws.FnExactReadScript" = some f) (hfn : Tryz.pinned.checked.prog.funcs[f]? = some fn) :
    true = Tryz.pinned.checked.prog.looks [] ∧ ∀ (j : Nat) t, fn.params[j]? = some t → Tryz.pinned.checked.prog.wantsStandIn t = false := by
  obtain rfl : f = 3 := Option.some.inj ((show Tryz.prog.funcNamed "loop.example/g00105/laws.FnExactReadScript" = some 3 by kernel_rfl).symm.trans hf) |>.symm
  obtain rfl : fn = Tryz.f3 := (Option.some.inj (Tryz.func3.symm.trans hfn)).symm
  refine ⟨by kernel_rfl, fun j t ht => ?_⟩
  rw [Tryz.params3] at ht
  obtain rfl : t = 9 := by simpa using Array.mem_of_getElem? ht
  exact (show Tryz.prog.wantsStandIn 9 = false by kernel_rfl)

theorem card : Rows.FnExactReadScriptCardSaid :=
  Claim7.holds_tied_plain_at .later [] _ _ _ _ said (fun _ h => by cases h) (by kernel_rfl) (fun _ h => by cases h) fnExactReadScript_row_tie rfl ⟨rfl, rfl⟩ (by kernel_rfl) rfl plain (by kernel_rfl)
end Go.Proofs.YtjhnippfepbjmaaGreatDoor.fnExactReadScript
namespace Go.Proofs.YtjhnippfepbjmaaGreatDoor
theorem fnExactReadScript_holds : Rows.FnExactReadScriptCardSaid := fnExactReadScript.card
#print axioms fnExactReadScript_holds
end Go.Proofs.YtjhnippfepbjmaaGreatDoor
