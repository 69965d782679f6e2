/-
  impl.ReadState answers as the specification; it writes into no argument, and its answer owns its memory. Walk and frame written by program (tools/exactlaw.py).
-/
import Derived.Test.YtihnaddfpmjpaaaGreatDoorCards
import Derived.Test.YtihnaddfpmjpaaaGreatDoorTie
import Derived.Deep.DeepHandedRow
import Derived.Lib.LaidTab
import Derived.Lib.SmallJoins
import Derived.Stop.LaidErr
import Derived.Test.YtihnaddfpmjpaaaGreatDoorJ53
import Derived.Test.YtihnaddfpmjpaaaGreatDoorJ32
import Derived.Test.YtihnaddfpmjpaaaGreatDoorChecked
import Derived.Deep.RegionHeld3
import Derived.ShutString
import Derived.Below
namespace Go.Proofs.YtihnaddfpmjpaaaGreatDoor.fnExactReadState
open Go.Proofs.YtihnaddfpmjpaaaGreatDoor Go.Proofs.YtihnaddfpmjpaaaGreatDoor.Gr
open Go.ChangeShapes Go.WideShapes Go.ChangeAt Go.RowKit
open Go.ChangeMaps (open_string shut_string)

theorem own : ownKnob Tryz.prog.godebug = none := by kernel_rfl

set_option maxRecDepth 100000 in
set_option maxHeartbeats 4000000 in
theorem walk (ea : Addr) (x0 : ByteArray) (w : World) (HT : Hid (Cy.TabE ea w.heap.size w)) :
    Calls Tryz.prog 7 #[.string x0] w fun e w' => e = .returned (.bool true) ∧ Below w.heap.size w w' := by
  by_cases hbig0 : (1048576 : Int) < (x0.size : Int)
  · go_enter Tryz.func7, Tryz.ntmps7
    go_wp2
    go_ret
    exact ⟨rfl, Below.refl _ _⟩
  · have hsm0 : x0.size ≤ 1048576 := by omega
    have SP := hide (fun w1  => Cy.specReadState_gen w1.heap.size x0 hsm0 w1 (Nat.le_refl _) )
    have IM := hide (fun w1 (hbT : Below w.heap.size w w1) => Cy.implReadState_gen ea w1.heap.size x0 hsm0 w1 (Nat.le_refl _) (((unhide HT).below hbT).mono hbT.size))
    have hl0 : pasize (Cy.rdL x0) ≤ 1048576 := Nat.le_trans (Cy.rdL_len x0) (by omega)
    generalize Cy.rdL x0 = Qr0 at SP IM hl0
    generalize Cy.rdB x0 = ret1 at SP IM
    have hpl0 := (pasize_le hl0).1
    have hne1 : (ret1 != ret1) = false := by simp
    have ER0 := hide (fun w1 d d1 (hd : PaAt w1 d w1.heap.size Qr0) (hd1 : PaAt w1 d1 w1.heap.size Qr0) => eqPairS_gen d d1 w1.heap.size w1.heap.size Qr0 hl0 w1 (Nat.le_refl _) (Nat.le_refl _) hd hd1)
    have MR0 := hide (fun w1 B d (hd : PaOwn w1 B d Qr0) => markPairS_gen d B 1 Qr0 (by omega) w1 hd)
    have HR0 := hide (fun w1 d (hd : PaAt w1 d w1.heap.size (marksP 1 Qr0.length)) => heldPairS_gen d w1.heap.size 1 Qr0.length (by omega) w1 (Nat.le_refl _) hd)
    obtain ⟨km0, hkm0⟩ : ∃ k : Nat, k = 1 + Qr0.length * 2 := ⟨_, rfl⟩
    rw [← hkm0] at MR0 HR0
    have hkr0 : ¬ ((km0 : Nat) : Int) < 0 := by omega
    have hkq0 : (((km0 : Nat) : Int) != ((km0 : Nat) : Int)) = false := by simp
    clear hkm0 hl0 hpl0
    go_enter Tryz.func7, Tryz.ntmps7
    go_wp2_with fail
    refine (unhide SP w ).mono ?_
    rintro e uw3 ⟨⟨d1, rfl, ho2⟩, hb4⟩
    have hc5 : Below w.heap.size w uw3 := hb4
    have hz6 : w.heap.size ≤ uw3.heap.size := hb4.size
    clear hb4
    have HO7 := hide ho2
    have HB8 := hide ho2.blk
    have hs11 := ho2.at.shape
    obtain ⟨a9, c10, rfl⟩ := hs11
    clear ho2
    go_wp2_with fail
    refine (unhide IM uw3 hc5 ).mono ?_
    rintro e uw14 ⟨⟨d12, rfl, ho13⟩, hb15⟩
    have HO7 := hide ((unhide HO7).below hb15)
    have hc16 : Below w.heap.size w uw14 := hc5.trans (hb15.mono hc5.size)
    have hz17 : uw3.heap.size ≤ uw14.heap.size := hb15.size
    clear hb15
    have HO18 := hide ho13
    have HB19 := hide ho13.blk
    have hs22 := ho13.at.shape
    obtain ⟨a20, c21, rfl⟩ := hs22
    clear ho13
    go_wp2_with fail
    refine (unhide ER0 uw14 _ _ (unhide HO18).at (unhide HO7).at).mono ?_
    rintro e uw23 ⟨rfl, hb24⟩
    have HO7 := hide ((unhide HO7).below hb24)
    have HO18 := hide ((unhide HO18).below hb24)
    have hc25 : Below w.heap.size w uw23 := hc16.trans (hb24.mono hc16.size)
    have hz26 : uw14.heap.size ≤ uw23.heap.size := hb24.size
    clear hb24
    go_wp2_with fail
    refine (unhide MR0 uw23 _ _ (unhide HO18)).mono ?_
    rintro e uw27 ⟨rfl, ho29, hk28⟩
    have HO7 := hide ((unhide HO7).kept hk28 (fun g h0 h1 => by have h2 := unhide HB8 g h0; have h3 := unhide HB19 g h1; omega))
    have HO18 := hide ho29
    have hc30 : Below w.heap.size w uw27 := hc25.trans (hk28.below hc25.size (fun g hg => by have h3 := unhide HB19 g hg; omega))
    have hz31 : uw23.heap.size ≤ uw27.heap.size := hk28.2.2.2.1
    clear ho29 hk28
    go_wp2_with fail
    refine (unhide HR0 uw27 _ (unhide HO18).at).mono ?_
    rintro e uw32 ⟨rfl, hb33⟩
    have HO7 := hide ((unhide HO7).below hb33)
    have HO18 := hide ((unhide HO18).below hb33)
    have hc34 : Below w.heap.size w uw32 := hc30.trans (hb33.mono hc30.size)
    have hz35 : uw27.heap.size ≤ uw32.heap.size := hb33.size
    clear hb33
    go_wp2_with fail
    refine (unhide IM uw32 hc34 ).mono ?_
    rintro e uw38 ⟨⟨d36, rfl, ho37⟩, hb39⟩
    have HO7 := hide ((unhide HO7).below hb39)
    have HO18 := hide ((unhide HO18).below hb39)
    have hc40 : Below w.heap.size w uw38 := hc34.trans (hb39.mono hc34.size)
    have hz41 : uw32.heap.size ≤ uw38.heap.size := hb39.size
    clear hb39
    have HO42 := hide ho37
    have HB43 := hide ho37.blk
    have hs46 := ho37.at.shape
    obtain ⟨a44, c45, rfl⟩ := hs46
    clear ho37
    go_wp2_with fail
    refine (unhide ER0 uw38 _ _ (unhide HO42).at (unhide HO7).at).mono ?_
    rintro e uw47 ⟨rfl, hb48⟩
    have HO7 := hide ((unhide HO7).below hb48)
    have HO18 := hide ((unhide HO18).below hb48)
    have HO42 := hide ((unhide HO42).below hb48)
    have hc49 : Below w.heap.size w uw47 := hc40.trans (hb48.mono hc40.size)
    have hz50 : uw38.heap.size ≤ uw47.heap.size := hb48.size
    clear hb48
    go_wp2_with fail
    refine (unhide HR0 uw47 _ (unhide HO18).at).mono ?_
    rintro e uw51 ⟨rfl, hb52⟩
    have HO7 := hide ((unhide HO7).below hb52)
    have HO18 := hide ((unhide HO18).below hb52)
    have HO42 := hide ((unhide HO42).below hb52)
    have hc53 : Below w.heap.size w uw51 := hc49.trans (hb52.mono hc49.size)
    have hz54 : uw47.heap.size ≤ uw51.heap.size := hb52.size
    clear hb52
    go_wp2
    go_ret
    exact ⟨rfl, hc53⟩

theorem g0 : Tryz.prog.globalNamed "math/bits.deBruijn32tab" = some 3 := by kernel_rfl
theorem gt0 : (Tryz.prog.globals[3]?).map (·.type) = some 248 := by kernel_rfl
theorem ct0 : Tryz.prog.cellsOf 248 = 32 := by kernel_rfl
theorem ce0 : Tryz.prog.cellsOf 5 = 1 := by kernel_rfl
def zs0 : List Int := [0, 1, 28, 2, 29, 14, 24, 3, 30, 22, 20, 15, 25, 17, 4, 8, 31, 27, 13, 23, 21, 19, 16, 7, 26, 12, 18, 6, 11, 5, 10, 9]
theorem g1 : Tryz.prog.globalNamed "math/bits.deBruijn64tab" = some 4 := by kernel_rfl
theorem gt1 : (Tryz.prog.globals[4]?).map (·.type) = some 249 := by kernel_rfl
theorem ct1 : Tryz.prog.cellsOf 249 = 64 := by kernel_rfl
theorem ce1 : Tryz.prog.cellsOf 5 = 1 := by kernel_rfl
def zs1 : List Int := [0, 1, 56, 2, 57, 49, 28, 3, 61, 58, 42, 50, 38, 29, 17, 4, 62, 47, 59, 36, 45, 43, 51, 22, 53, 39, 33, 30, 24, 18, 12, 5, 63, 55, 48, 27, 60, 41, 37, 16, 46, 35, 44, 21, 52, 32, 23, 11, 54, 26, 40, 15, 34, 20, 31, 10, 25, 14, 19, 9, 13, 8, 7, 6]
theorem g2 : Tryz.prog.globalNamed "internal/strconv.uint64pow10" = some 2 := by kernel_rfl
theorem gt2 : (Tryz.prog.globals[2]?).map (·.type) = some 244 := by kernel_rfl
theorem ct2 : Tryz.prog.cellsOf 244 = 20 := by kernel_rfl
theorem ce2 : Tryz.prog.cellsOf 238 = 1 := by kernel_rfl
def zs2 : List Int := [1, 10, 100, 1000, 10000, 100000, 1000000, 10000000, 100000000, 1000000000, 10000000000, 100000000000, 1000000000000, 10000000000000, 100000000000000, 1000000000000000, 10000000000000000, 100000000000000000, 1000000000000000000, 10000000000000000000]
set_option maxRecDepth 100000 in
theorem tab {W : World} (h : laidMet Tryz.prog Rows.fnExactReadStateRow.laid W) : Lib.TabIs Tryz.prog W "internal/strconv.uint64pow10" .u64 zs2 :=
  Lib.tabIs_of_head (zs := zs2) g2 gt2 Tryz.underlying244 Tryz.underlying238 ce2 ct2 (laidMet.tail (laidMet.tail h))
theorem gE : Tryz.prog.globalNamed "loop.example/g00105/impl.errToldAll" = some 0 := by kernel_rfl
theorem gEt : (Tryz.prog.globals[0]?).map (·.type) = some 120 := by kernel_rfl
theorem cE : Tryz.prog.cellsOf 272 = 1 := by kernel_rfl
theorem cS : Tryz.prog.cellsOf 9 = 1 := by kernel_rfl
theorem star : "*" ++ "errors.errorString" = "*errors.errorString" := by decide
theorem rowE (u : TypeId) (h : Tryz.prog.typeName? 3 u = some "*errors.errorString") : u = 250 :=
  typeName_ptr_named (nm := "errors.errorString") (by rw [star]; kernel_rfl) (by kernel_rfl) (by decide) u (by rw [star]; exact h)
def errText : ByteArray := ⟨#[99, 111, 112, 121, 58, 32, 116, 104, 101, 32, 116, 101, 120, 116, 32, 116, 101, 108, 108, 115, 32, 110, 111, 32, 109, 111, 114, 101]⟩
noncomputable def low : Nat := (World.holding Tryz.prog default ⟨#[], #[], []⟩).heap.size
def errCells (x : Nat) : Obj → Obj
  | .cells _ t frozen => .cells #[.iface 250 (.pointer (some ⟨x, 0, none⟩))] t frozen
  | x => x
theorem plainLaid {W : World} (h : laidMetH Tryz.prog Rows.fnExactReadStateRow.laid W) : laidMet Tryz.prog Rows.fnExactReadStateRow.laid W := h

set_option maxRecDepth 100000 in
theorem contract (H : Type) (enc : TypeId × Value → H) (W : World) (base : Nat) (args : Array Value) (ds gs : List (DataW H)) (before : List MemPlace)
    (hval : ∀ (j : Nat) t v, Tryz.f7.params[j]? = some t → args[j]? = some v → Value.okWide Tryz.prog W .any base t v)
    (hW : DataW.Whole enc Tryz.prog Tryz.f7.params.toList Rows.fnExactReadStateSpec.vars false W args.toList ds gs before) (hL : laidMet Tryz.prog Rows.fnExactReadStateRow.laid W) :
    Calls Tryz.prog 7 args W fun e W' => ∃ v, e = .returned v ∧ Rows.fnExactReadStateSpec.post enc Tryz.prog Tryz.f7 false true false false W args v W' := by
  have hW' := hW
  obtain ⟨p, q, hA0, hV, rfl, hfz, hnd⟩ := hW
  have hA : DataW.TrodAll enc Tryz.prog W 0 (fun _ => true) true Tryz.f7.params.toList args.toList ds p := hA0
  rw [Tryz.params7] at hA hval
  obtain ⟨v0, vs0, d0, ds0, p0, q0, hargs, rfl, rfl, h0, r0⟩ := trodAll_cons hA
  obtain ⟨rfl, rfl, rfl⟩ := trodAll_nil r0
  obtain rfl : args = #[v0] := by cases args; simp_all
  obtain ⟨ea, es, hv1, hc1, hs1, hz1⟩ := laid_sentinel (laidMet.tail (laidMet.tail (laidMet.tail hL))) gE gEt Tryz.underlying120 rowE Tryz.underlying250 Tryz.underlying272 rfl rfl Tryz.underlying9 cE cS
  obtain ⟨rfl, rfl⟩ := hV.unique (vars_read1 enc gE gEt Tryz.underlying120 hv1 trivial _)
  have hE : Cy.ErrIs W ea := by
    have h := World.var?_cell gE hv1 0
    simpa [Cy.ErrIs] using h
  have hlW : 0 < W.heap.size := World.block_lt_of_cell? W _ hE
  obtain ⟨x0, rfl, rfl, rfl, m0⟩ := open_string Tryz.underlying9 (hval 0 9 v0 rfl rfl) h0
  clear hA0
  simp only [List.append_nil] at hW'
  refine (walk ea x0 W ⟨⟨Lib.tabBelow_of_tabIs (show Lib.TabIs Tryz.prog W "internal/strconv.uint64pow10" .u64 Lib.pow10Tab from tab hL), hE⟩, hlW⟩).mono fun e W' ⟨he, bel⟩ => ?_
  subst he
  exact ⟨_, rfl, _, _, _, [], [], _, hW', trodAll_mk1 (shut_bool Tryz.underlying4 _), (trodAll_cons_mk (shut_string Tryz.underlying9 m0) trodAll_mk0), vars_read1 enc gE gEt Tryz.underlying120 (Cy.var_same gE bel hlW hv1) trivial _, bel.frame _, fun h => by cases h⟩

def laidCells (zs : List Int) (k : IntKind) : Obj → Obj
  | .cells _ t frozen => .cells (zs.map fun z => Value.int k z).toArray t frozen
  | x => x

theorem laid_met (os : Os) : laidMet Tryz.prog Rows.fnExactReadStateRow.laid (({ World.holding Tryz.prog os ⟨#[.cells #[.string errText] 272], #[], []⟩ with heap := (((((World.holding Tryz.prog os ⟨#[.cells #[.string errText] 272], #[], []⟩).heap.modify 3 (laidCells zs0 .u8)).modify 4 (laidCells zs1 .u8)).modify 2 (laidCells zs2 .u64)).modify 0 (errCells low)) } : World).forCall (fun _ _ => 0) ⟨#[], #[.string .empty], []⟩).memory :=
  laidMet_of_run' 8 (by kernel_rfl) (by kernel_rfl)

theorem reads (os : Os) {H : Type} (enc : TypeId × Value → H) : ∃ places, DataW.whole enc Tryz.prog (({ World.holding Tryz.prog os ⟨#[.cells #[.string errText] 272], #[], []⟩ with heap := (((((World.holding Tryz.prog os ⟨#[.cells #[.string errText] 272], #[], []⟩).heap.modify 3 (laidCells zs0 .u8)).modify 4 (laidCells zs1 .u8)).modify 2 (laidCells zs2 .u64)).modify 0 (errCells low)) } : World).forCall (fun _ _ => 0) ⟨#[], #[.string .empty], []⟩).memory Tryz.f7.params.toList Rows.fnExactReadStateSpec.vars false (#[.string .empty] : Array Value).toList 8 = some ([.lit (.string [])], [tok enc (.iface 250 (.pointer (some ⟨low, 0, none⟩)))], places) :=
  ⟨[.cell 0 0], by kernel_rfl⟩

set_option maxRecDepth 100000 in
theorem lifted (os : Os) (started : os.Started) (H : Type) (enc : TypeId × Value → H) (F : Stop.Interp) :
    ReturnsInHanded {} Tryz.checked os 7 .any ((OpenSpec.ofChange Rows.fnExactReadStateSpec).preRow enc Tryz.prog Tryz.f7 Rows.fnExactReadStateRow.domain false Rows.fnExactReadStateRow.laid) (((OpenSpec.ofChange Rows.fnExactReadStateSpec).at F).post enc Tryz.prog Tryz.f7 false true false false) := by
  obtain ⟨places, hx⟩ := reads os enc
  refine returnsInHanded_of_row (C := Tryz.checked) (s := OpenSpec.ofChange Rows.fnExactReadStateSpec) own started (by kernel_rfl) Tryz.func7
    (witness_row_at (enc := enc) (C := Tryz.checked) false ({ World.holding Tryz.prog os ⟨#[.cells #[.string errText] 272], #[], []⟩ with heap := (((((World.holding Tryz.prog os ⟨#[.cells #[.string errText] 272], #[], []⟩).heap.modify 3 (laidCells zs0 .u8)).modify 4 (laidCells zs1 .u8)).modify 2 (laidCells zs2 .u64)).modify 0 (errCells low)) } : World) #[.string .empty] rfl (by kernel_rfl) (by kernel_rfl) (by kernel_rfl)
      (OpenSpec.preRow_of_cond 8 hx (by kernel_rfl) (fun k hk => by cases hk) (by kernel_rfl) (laid_met os))) ?_
  intro W base args ds gs before hval hW _ _ _ hL _ _
  exact contract H enc W base args ds gs before hval hW (plainLaid hL)

theorem said : Rows.FnExactReadStateSaid :=
  OpenClaim.holds_of_cond 7 Tryz.f7 rfl rfl rfl rfl rfl rfl rfl ⟨rfl, rfl, rfl, rfl, rfl⟩ rfl rfl rfl rfl rfl (by kernel_rfl) Tryz.func7 (by kernel_rfl)
    (of_decide_eq_true (by kernel_rfl)) (by unfold Func.isWrapper; first | (rw [if_pos (by decide +kernel)]; kernel_rfl) | (rw [if_neg (by decide +kernel)]; exact ⟨rfl, rfl⟩))
    (fun os started H enc _ F => by rw [OpenClaim.pre_eq_preRow]; exact lifted os started H enc F)

theorem plain (f : FuncId) (fn : Func) (hf : Tryz.pinned.checked.prog.funcNamed "loop.example/g00105/laws.FnExactReadState" = some f) (hfn : Tryz.pinned.checked.prog.funcs[f]? = some fn) :
    true = Tryz.pinned.checked.prog.looks [] ∧ ∀ (j : Nat) t, fn.params[j]? = some t → Tryz.pinned.checked.prog.wantsStandIn t = false := by
  obtain rfl : f = 7 := Option.some.inj ((show Tryz.prog.funcNamed "loop.example/g00105/laws.FnExactReadState" = some 7 by kernel_rfl).symm.trans hf) |>.symm
  obtain rfl : fn = Tryz.f7 := (Option.some.inj (Tryz.func7.symm.trans hfn)).symm
  refine ⟨by kernel_rfl, fun j t ht => ?_⟩
  rw [Tryz.params7] at ht
  obtain rfl : t = 9 := by simpa using Array.mem_of_getElem? ht
  exact (show Tryz.prog.wantsStandIn 9 = false by kernel_rfl)

theorem card : Rows.FnExactReadStateCardSaid :=
  Claim7.holds_tied_plain_at .later [] _ _ _ _ said (fun _ h => by cases h) (by kernel_rfl) (fun _ h => by cases h) fnExactReadState_row_tie rfl ⟨rfl, rfl⟩ (by kernel_rfl) rfl plain (by kernel_rfl)
end Go.Proofs.YtihnaddfpmjpaaaGreatDoor.fnExactReadState
namespace Go.Proofs.YtihnaddfpmjpaaaGreatDoor
theorem fnExactReadState_holds : Rows.FnExactReadStateCardSaid := fnExactReadState.card
#print axioms fnExactReadState_holds
end Go.Proofs.YtihnaddfpmjpaaaGreatDoor

