/-
  impl.Totals answers as the specification; it writes into no argument, and its answer owns its memory. Walk and frame written by program (tools/exactlaw.py).
-/
import Derived.Test.YtjblkijicfmkgaaGreatDoorCards
import Derived.Test.YtjblkijicfmkgaaGreatDoorTie
import Derived.Deep.DeepHandedRow
import Derived.Lib.LaidTab
import Derived.Lib.SmallJoins
import Derived.Stop.LaidErr
import Derived.Test.YtjblkijicfmkgaaGreatDoorJ51
import Derived.Test.YtjblkijicfmkgaaGreatDoorChecked
import Derived.Deep.RegionHeld3
import Derived.ShutString
import Derived.Below
namespace Go.Proofs.YtjblkijicfmkgaaGreatDoor.fnExactTotals
open Go.Proofs.YtjblkijicfmkgaaGreatDoor Go.Proofs.YtjblkijicfmkgaaGreatDoor.Gr
open Go.ChangeShapes Go.WideShapes Go.ChangeAt Go.RowKit
open Go.ChangeMaps (open_string shut_string)

theorem own : ownKnob Tryz.prog.godebug = none := by kernel_rfl

theorem laidOut : laidOutB Tryz.prog = true := by kernel_rfl

set_option maxRecDepth 100000 in
set_option maxHeartbeats 4000000 in
theorem walk (v0 : Value) (Q0 : List (ByteArray × ByteArray)) (w : World) (hv0 : PaAt w v0 w.heap.size Q0) (hn0 : pasize Q0 ≤ 9223372036854775807) (HT : Hid (Rg.Tab w.heap.size w)) :
    Calls Tryz.prog 3 #[v0] w fun e w' => e = .returned (.bool true) ∧ Below w.heap.size w w' := by
  have HV0 := hide hv0
  have HN0 := hide hn0
  have sh0 := hv0.shape
  obtain ⟨a0, c0, rfl⟩ := sh0
  clear hv0 hn0
  go_enter Tryz.func3, Tryz.ntmps3
  go_wp2_with fail
  refine (szPairS_gen _ w.heap.size Q0 1048576 (by omega) (by omega) (unhide HN0) w (unhide HV0)).mono ?_
  rintro e uw2 ⟨⟨z1, rfl, hxz1, hyz1⟩, hb3⟩
  have hc4 : Below w.heap.size w uw2 := hb3
  have hz5 : w.heap.size ≤ uw2.heap.size := hb3.size
  clear hb3
  by_cases hnegz1 : z1 < 0
  · go_wp2
    go_ret
    exact ⟨rfl, hc4⟩
  · have htz1 := hyz1 (by omega)
    have hb0 : pasize Q0 ≤ 1048576 := by omega
    have TO0 := hide (fun w1 (hb : Below w.heap.size w w1) => toPairS_gen _ w.heap.size Q0 hb0 w1 hb.size ((unhide HV0).below hb (Nat.le_refl _)))
    have EQ0 := hide (fun w1 d d1 (hd : PaAt w1 d w1.heap.size Q0) (hd1 : PaAt w1 d1 w1.heap.size Q0) => eqPairS_gen d d1 w1.heap.size w1.heap.size Q0 hb0 w1 (Nat.le_refl _) (Nat.le_refl _) hd hd1)
    have SP := hide (fun w1 d0 (hd0 : PaAt w1 d0 w1.heap.size Q0) => specTotals_gen w1.heap.size d0 Q0 hb0 w1 (Nat.le_refl _) hd0)
    have IM := hide (fun w1 (hbT : Below w.heap.size w w1) d0 (hd0 : PaAt w1 d0 w1.heap.size Q0) => implTotals_gen w1.heap.size d0 Q0 hb0 w1 (Nat.le_refl _) (((unhide HT).below hbT).mono hbT.size) hd0)
    generalize Rg.totV Q0 = xr0 at SP IM
    generalize Rg.stateOk Q0 = ret1 at SP IM
    have hne1 : (ret1 != ret1) = false := by simp
    have ER0 := hide (fun w1 d d1 (hd : ToAt w1 d w1.heap.size xr0) (hd1 : ToAt w1 d1 w1.heap.size xr0) => eqTotal_gen d d1 w1.heap.size w1.heap.size xr0 w1 (Nat.le_refl _) (Nat.le_refl _) hd hd1)
    clear hb0
    go_wp2_with fail
    refine (unhide TO0 uw2 hc4).mono ?_
    rintro e uw8 ⟨⟨d6, rfl, ho7⟩, hb9⟩
    have hc10 : Below w.heap.size w uw8 := hc4.trans (hb9.mono hc4.size)
    have hz11 : uw2.heap.size ≤ uw8.heap.size := hb9.size
    clear hb9
    have HO13 := hide ho7
    have HB14 := hide ho7.blk
    have hs17 := ho7.at.shape
    obtain ⟨a15, c16, rfl⟩ := hs17
    clear ho7
    go_wp2_with fail
    refine (unhide SP uw8 _ (unhide HO13).at).mono ?_
    rintro e uw20 ⟨⟨d18, rfl, ho19⟩, hb21⟩
    have HO13 := hide ((unhide HO13).below hb21)
    have hc22 : Below w.heap.size w uw20 := hc10.trans (hb21.mono hc10.size)
    have hz23 : uw8.heap.size ≤ uw20.heap.size := hb21.size
    clear hb21
    have HO24 := hide ho19
    unfold ToOwn at ho19
    subst ho19
    (try unfold Rg.TotI.v)
    obtain ⟨W29, hW30⟩ : ∃ W, W = uw20.alloc (Obj.cells #[Value.int .i64 xr0.R, Value.int .i64 xr0.P, Value.int .i64 xr0.H, Value.int .i64 xr0.L, Value.int .i64 xr0.S.W1, Value.int .i64 xr0.S.W2, Value.int .i64 xr0.S.W3] 27) := ⟨_, rfl⟩
    have hb31 : Below uw20.heap.size uw20 W29 := by rw [hW30]; exact below_new _ _
    have HO24 := hide ((unhide HO24).below hb31)
    have HX32 : Hid (CBox W29 uw20.heap.size #[Value.int .i64 xr0.R, Value.int .i64 xr0.P, Value.int .i64 xr0.H, Value.int .i64 xr0.L, Value.int .i64 xr0.S.W1, Value.int .i64 xr0.S.W2, Value.int .i64 xr0.S.W3] 27) := by show CBox _ _ _ _; rw [hW30]; exact CBox.new _ _ _
    have hc33 : Below w.heap.size w W29 := hc22.trans (hb31.mono hc22.size)
    have hz34 : uw20.heap.size < W29.heap.size := by rw [hW30]; simp
    clear hb31
    go_wp2_with fail
    rw [← hW30]
    clear hW30
    refine (unhide TO0 W29 hc33).mono ?_
    rintro e uw37 ⟨⟨d35, rfl, ho36⟩, hb38⟩
    have HO24 := hide ((unhide HO24).below hb38)
    have HX32 := hide ((unhide HX32).below hb38)
    have hc39 : Below w.heap.size w uw37 := hc33.trans (hb38.mono hc33.size)
    have hz40 : W29.heap.size ≤ uw37.heap.size := hb38.size
    clear hb38
    have HO41 := hide ho36
    have HB42 := hide ho36.blk
    have hs45 := ho36.at.shape
    obtain ⟨a43, c44, rfl⟩ := hs45
    clear ho36
    go_wp2_with fail
    refine (unhide IM uw37 hc39 _ (unhide HO41).at).mono ?_
    rintro e uw48 ⟨⟨d46, rfl, ho47⟩, hb49⟩
    have HO24 := hide ((unhide HO24).below hb49)
    have HX32 := hide ((unhide HX32).below hb49)
    have HO41 := hide ((unhide HO41).below hb49)
    have hc50 : Below w.heap.size w uw48 := hc39.trans (hb49.mono hc39.size)
    have hz51 : uw37.heap.size ≤ uw48.heap.size := hb49.size
    clear hb49
    have HO52 := hide ho47
    unfold ToOwn at ho47
    subst ho47
    (try unfold Rg.TotI.v)
    obtain ⟨W57, hW58⟩ : ∃ W, W = uw48.alloc (Obj.cells #[Value.int .i64 xr0.R, Value.int .i64 xr0.P, Value.int .i64 xr0.H, Value.int .i64 xr0.L, Value.int .i64 xr0.S.W1, Value.int .i64 xr0.S.W2, Value.int .i64 xr0.S.W3] 27) := ⟨_, rfl⟩
    have hb59 : Below uw48.heap.size uw48 W57 := by rw [hW58]; exact below_new _ _
    have HO24 := hide ((unhide HO24).below hb59)
    have HX32 := hide ((unhide HX32).below hb59)
    have HO41 := hide ((unhide HO41).below hb59)
    have HO52 := hide ((unhide HO52).below hb59)
    have HX60 : Hid (CBox W57 uw48.heap.size #[Value.int .i64 xr0.R, Value.int .i64 xr0.P, Value.int .i64 xr0.H, Value.int .i64 xr0.L, Value.int .i64 xr0.S.W1, Value.int .i64 xr0.S.W2, Value.int .i64 xr0.S.W3] 27) := by show CBox _ _ _ _; rw [hW58]; exact CBox.new _ _ _
    have hc61 : Below w.heap.size w W57 := hc50.trans (hb59.mono hc50.size)
    have hz62 : uw48.heap.size < W57.heap.size := by rw [hW58]; simp
    clear hb59
    have p63 : W57.cell? ⟨uw48.heap.size, 0, none⟩ = some (Value.int .i64 xr0.R) := (unhide HX60).cell 0
    have p64 : W57.cell? ⟨uw48.heap.size, 1, none⟩ = some (Value.int .i64 xr0.P) := (unhide HX60).cell 1
    have p65 : W57.cell? ⟨uw48.heap.size, 2, none⟩ = some (Value.int .i64 xr0.H) := (unhide HX60).cell 2
    have p66 : W57.cell? ⟨uw48.heap.size, 3, none⟩ = some (Value.int .i64 xr0.L) := (unhide HX60).cell 3
    have p67 : W57.cell? ⟨uw48.heap.size, 4, none⟩ = some (Value.int .i64 xr0.S.W1) := (unhide HX60).cell 4
    have p68 : W57.cell? ⟨uw48.heap.size, 5, none⟩ = some (Value.int .i64 xr0.S.W2) := (unhide HX60).cell 5
    have p69 : W57.cell? ⟨uw48.heap.size, 6, none⟩ = some (Value.int .i64 xr0.S.W3) := (unhide HX60).cell 6
    have p70 : W57.cell? ⟨uw20.heap.size, 0, none⟩ = some (Value.int .i64 xr0.R) := (unhide HX32).cell 0
    have p71 : W57.cell? ⟨uw20.heap.size, 1, none⟩ = some (Value.int .i64 xr0.P) := (unhide HX32).cell 1
    have p72 : W57.cell? ⟨uw20.heap.size, 2, none⟩ = some (Value.int .i64 xr0.H) := (unhide HX32).cell 2
    have p73 : W57.cell? ⟨uw20.heap.size, 3, none⟩ = some (Value.int .i64 xr0.L) := (unhide HX32).cell 3
    have p74 : W57.cell? ⟨uw20.heap.size, 4, none⟩ = some (Value.int .i64 xr0.S.W1) := (unhide HX32).cell 4
    have p75 : W57.cell? ⟨uw20.heap.size, 5, none⟩ = some (Value.int .i64 xr0.S.W2) := (unhide HX32).cell 5
    have p76 : W57.cell? ⟨uw20.heap.size, 6, none⟩ = some (Value.int .i64 xr0.S.W3) := (unhide HX32).cell 6
    (try rw [hW58] at p63 p64 p65 p66 p67 p68 p69 p70 p71 p72 p73 p74 p75 p76)
    go_wp2_with fail
    rw [← hW58]
    clear hW58 p63 p64 p65 p66 p67 p68 p69 p70 p71 p72 p73 p74 p75 p76
    refine (unhide ER0 W57 _ _ (unhide HO52).at (unhide HO24).at).mono ?_
    rintro e uw77 ⟨rfl, hb78⟩
    have HO24 := hide ((unhide HO24).below hb78)
    have HX32 := hide ((unhide HX32).below hb78)
    have HO41 := hide ((unhide HO41).below hb78)
    have HO52 := hide ((unhide HO52).below hb78)
    have HX60 := hide ((unhide HX60).below hb78)
    have hc79 : Below w.heap.size w uw77 := hc61.trans (hb78.mono hc61.size)
    have hz80 : W57.heap.size ≤ uw77.heap.size := hb78.size
    clear hb78
    go_wp2_with fail
    refine (unhide TO0 uw77 hc79).mono ?_
    rintro e uw83 ⟨⟨d81, rfl, ho82⟩, hb84⟩
    have HO24 := hide ((unhide HO24).below hb84)
    have HX32 := hide ((unhide HX32).below hb84)
    have HO41 := hide ((unhide HO41).below hb84)
    have HO52 := hide ((unhide HO52).below hb84)
    have HX60 := hide ((unhide HX60).below hb84)
    have hc85 : Below w.heap.size w uw83 := hc79.trans (hb84.mono hc79.size)
    have hz86 : uw77.heap.size ≤ uw83.heap.size := hb84.size
    clear hb84
    have HO88 := hide ho82
    have HB89 := hide ho82.blk
    have hs92 := ho82.at.shape
    obtain ⟨a90, c91, rfl⟩ := hs92
    clear ho82
    go_wp2_with fail
    refine (unhide EQ0 uw83 _ _ (unhide HO41).at (unhide HO88).at).mono ?_
    rintro e uw93 ⟨rfl, hb94⟩
    have HO24 := hide ((unhide HO24).below hb94)
    have HX32 := hide ((unhide HX32).below hb94)
    have HO41 := hide ((unhide HO41).below hb94)
    have HO52 := hide ((unhide HO52).below hb94)
    have HX60 := hide ((unhide HX60).below hb94)
    have HO88 := hide ((unhide HO88).below hb94)
    have hc95 : Below w.heap.size w uw93 := hc85.trans (hb94.mono hc85.size)
    have hz96 : uw83.heap.size ≤ uw93.heap.size := hb94.size
    clear hb94
    go_wp2
    go_ret
    exact ⟨rfl, hc95⟩

theorem g0 : Tryz.prog.globalNamed "math/bits.deBruijn32tab" = some 2 := by kernel_rfl
theorem gt0 : (Tryz.prog.globals[2]?).map (·.type) = some 212 := by kernel_rfl
theorem ct0 : Tryz.prog.cellsOf 212 = 32 := by kernel_rfl
theorem ce0 : Tryz.prog.cellsOf 5 = 1 := by kernel_rfl
def zs0 : List Int := [0, 1, 28, 2, 29, 14, 24, 3, 30, 22, 20, 15, 25, 17, 4, 8, 31, 27, 13, 23, 21, 19, 16, 7, 26, 12, 18, 6, 11, 5, 10, 9]
theorem g1 : Tryz.prog.globalNamed "math/bits.deBruijn64tab" = some 3 := by kernel_rfl
theorem gt1 : (Tryz.prog.globals[3]?).map (·.type) = some 213 := by kernel_rfl
theorem ct1 : Tryz.prog.cellsOf 213 = 64 := by kernel_rfl
theorem ce1 : Tryz.prog.cellsOf 5 = 1 := by kernel_rfl
def zs1 : List Int := [0, 1, 56, 2, 57, 49, 28, 3, 61, 58, 42, 50, 38, 29, 17, 4, 62, 47, 59, 36, 45, 43, 51, 22, 53, 39, 33, 30, 24, 18, 12, 5, 63, 55, 48, 27, 60, 41, 37, 16, 46, 35, 44, 21, 52, 32, 23, 11, 54, 26, 40, 15, 34, 20, 31, 10, 25, 14, 19, 9, 13, 8, 7, 6]
theorem g2 : Tryz.prog.globalNamed "internal/strconv.uint64pow10" = some 0 := by kernel_rfl
theorem gt2 : (Tryz.prog.globals[0]?).map (·.type) = some 198 := by kernel_rfl
theorem ct2 : Tryz.prog.cellsOf 198 = 20 := by kernel_rfl
theorem ce2 : Tryz.prog.cellsOf 179 = 1 := by kernel_rfl
def zs2 : List Int := [1, 10, 100, 1000, 10000, 100000, 1000000, 10000000, 100000000, 1000000000, 10000000000, 100000000000, 1000000000000, 10000000000000, 100000000000000, 1000000000000000, 10000000000000000, 100000000000000000, 1000000000000000000, 10000000000000000000]
set_option maxRecDepth 100000 in
theorem tab {W : World} (h : laidMet Tryz.prog Rows.fnExactTotalsRow.laid W) : Lib.TabIs Tryz.prog W "internal/strconv.uint64pow10" .u64 zs2 :=
  Lib.tabIs_of_head (zs := zs2) g2 gt2 Tryz.underlying198 Tryz.underlying179 ce2 ct2 (laidMet.tail (laidMet.tail h))
theorem plainLaid {W : World} (h : laidMetH Tryz.prog Rows.fnExactTotalsRow.laid W) : laidMet Tryz.prog Rows.fnExactTotalsRow.laid W := h

set_option maxRecDepth 100000 in
theorem contract (H : Type) (enc : TypeId × Value → H) (W : World) (base : Nat) (args : Array Value) (ds gs : List (DataW H)) (before : List MemPlace)
    (hval : ∀ (j : Nat) t v, Tryz.f3.params[j]? = some t → args[j]? = some v → Value.okWide Tryz.prog W .any base t v)
    (hW : DataW.Whole enc Tryz.prog Tryz.f3.params.toList Rows.fnExactTotalsSpec.vars false W args.toList ds gs before) (hL : laidMet Tryz.prog Rows.fnExactTotalsRow.laid W) :
    Calls Tryz.prog 3 args W fun e W' => ∃ v, e = .returned v ∧ Rows.fnExactTotalsSpec.post enc Tryz.prog Tryz.f3 false true false false W args v W' := by
  have hW' := hW
  obtain ⟨p, q, hA0, hV, rfl, hfz, hnd⟩ := hW
  have hA : DataW.TrodAll enc Tryz.prog W 0 (fun _ => true) true Tryz.f3.params.toList args.toList ds p := hA0
  rw [Tryz.params3] at hA hval
  obtain ⟨v0, vs0, d0, ds0, p0, q0, hargs, rfl, rfl, h0, r0⟩ := trodAll_cons hA
  obtain ⟨rfl, rfl, rfl⟩ := trodAll_nil r0
  obtain rfl : args = #[v0] := by cases args; simp_all
  obtain ⟨rfl, rfl⟩ := trodVars_none hV
  have k0 := h0
  have lt0 : ∀ x ∈ p0, x.block < W.heap.size := by obtain ⟨m, hm⟩ := k0; exact DataW.trod_lt m _ _ _ hm
  obtain ⟨Q0, hv0, hn0⟩ := pairs_in (hval 0 22 v0 rfl rfl) h0
  clear hA0
  refine (walk v0 Q0 W hv0 hn0 (Lib.tabBelow_of_tabIs (show Lib.TabIs Tryz.prog W "internal/strconv.uint64pow10" .u64 Lib.pow10Tab from tab hL))).mono fun e W' ⟨he, bel⟩ => ?_
  subst he
  exact ⟨_, rfl, _, _, _, [], _, [], hW', trodAll_mk1 (shut_bool Tryz.underlying4 _), (trodAll_cons_mk (Below.trod laidOut (by kernel_rfl) (of_decide_eq_true (by kernel_rfl)) k0 bel lt0) trodAll_mk0), rfl, bel.frame _, fun h => by cases h⟩

def laidCells (zs : List Int) (k : IntKind) : Obj → Obj
  | .cells _ t frozen => .cells (zs.map fun z => Value.int k z).toArray t frozen
  | x => x

theorem laid_met (os : Os) : laidMet Tryz.prog Rows.fnExactTotalsRow.laid (({ World.holding Tryz.prog os ⟨#[], #[], []⟩ with heap := ((((World.holding Tryz.prog os ⟨#[], #[], []⟩).heap.modify 2 (laidCells zs0 .u8)).modify 3 (laidCells zs1 .u8)).modify 0 (laidCells zs2 .u64)) } : World).forCall (fun _ _ => 0) ⟨#[], #[.slice none 0 0], []⟩).memory :=
  laidMet_of_run' 8 (by kernel_rfl) (by kernel_rfl)

theorem reads (os : Os) {H : Type} (enc : TypeId × Value → H) : ∃ places, DataW.whole enc Tryz.prog (({ World.holding Tryz.prog os ⟨#[], #[], []⟩ with heap := ((((World.holding Tryz.prog os ⟨#[], #[], []⟩).heap.modify 2 (laidCells zs0 .u8)).modify 3 (laidCells zs1 .u8)).modify 0 (laidCells zs2 .u64)) } : World).forCall (fun _ _ => 0) ⟨#[], #[.slice none 0 0], []⟩).memory Tryz.f3.params.toList Rows.fnExactTotalsSpec.vars false (#[.slice none 0 0] : Array Value).toList 8 = some ([.nil], [], places) :=
  ⟨[], by kernel_rfl⟩

set_option maxRecDepth 100000 in
theorem lifted (os : Os) (started : os.Started) (H : Type) (enc : TypeId × Value → H) (F : Stop.Interp) :
    ReturnsInHanded {} Tryz.checked os 3 .any ((OpenSpec.ofChange Rows.fnExactTotalsSpec).preRow enc Tryz.prog Tryz.f3 Rows.fnExactTotalsRow.domain false Rows.fnExactTotalsRow.laid) (((OpenSpec.ofChange Rows.fnExactTotalsSpec).at F).post enc Tryz.prog Tryz.f3 false true false false) := by
  obtain ⟨places, hx⟩ := reads os enc
  refine returnsInHanded_of_row (C := Tryz.checked) (s := OpenSpec.ofChange Rows.fnExactTotalsSpec) own started (by kernel_rfl) Tryz.func3
    (witness_row_at (enc := enc) (C := Tryz.checked) false ({ World.holding Tryz.prog os ⟨#[], #[], []⟩ with heap := ((((World.holding Tryz.prog os ⟨#[], #[], []⟩).heap.modify 2 (laidCells zs0 .u8)).modify 3 (laidCells zs1 .u8)).modify 0 (laidCells zs2 .u64)) } : World) #[.slice none 0 0] rfl (by kernel_rfl) (by kernel_rfl) (by kernel_rfl)
      (OpenSpec.preRow_of_cond 8 hx (by kernel_rfl) (fun k hk => by cases hk) (by kernel_rfl) (laid_met os))) ?_
  intro W base args ds gs before hval hW _ _ _ hL _ _
  exact contract H enc W base args ds gs before hval hW (plainLaid hL)

theorem said : Rows.FnExactTotalsSaid :=
  OpenClaim.holds_of_cond 3 Tryz.f3 rfl rfl rfl rfl rfl rfl rfl ⟨rfl, rfl, rfl, rfl, rfl⟩ rfl rfl rfl rfl rfl (by kernel_rfl) Tryz.func3 (by kernel_rfl)
    (of_decide_eq_true (by kernel_rfl)) (by unfold Func.isWrapper; first | (rw [if_pos (by decide +kernel)]; kernel_rfl) | (rw [if_neg (by decide +kernel)]; exact ⟨rfl, rfl⟩))
    (fun os started H enc _ F => by rw [OpenClaim.pre_eq_preRow]; exact lifted os started H enc F)

theorem plain (f : FuncId) (fn : Func) (hf : Tryz.pinned.checked.prog.funcNamed "loop.example/g00105/laws.FnExactTotals" = some f) (hfn : Tryz.pinned.checked.prog.funcs[f]? = some fn) :
    false = Tryz.pinned.checked.prog.looks [] ∧ ∀ (j : Nat) t, fn.params[j]? = some t → Tryz.pinned.checked.prog.wantsStandIn t = false := by
  obtain rfl : f = 3 := Option.some.inj ((show Tryz.prog.funcNamed "loop.example/g00105/laws.FnExactTotals" = some 3 by kernel_rfl).symm.trans hf) |>.symm
  obtain rfl : fn = Tryz.f3 := (Option.some.inj (Tryz.func3.symm.trans hfn)).symm
  refine ⟨by kernel_rfl, fun j t ht => ?_⟩
  rw [Tryz.params3] at ht
  obtain rfl : t = 22 := by simpa using Array.mem_of_getElem? ht
  exact (show Tryz.prog.wantsStandIn 22 = false by kernel_rfl)

theorem card : Rows.FnExactTotalsCardSaid :=
  Claim7.holds_tied_plain_at .later [] _ _ _ _ said (fun _ h => by cases h) (by kernel_rfl) (fun _ h => by cases h) fnExactTotals_row_tie rfl ⟨rfl, rfl⟩ (by kernel_rfl) rfl plain (by kernel_rfl)
end Go.Proofs.YtjblkijicfmkgaaGreatDoor.fnExactTotals
namespace Go.Proofs.YtjblkijicfmkgaaGreatDoor
theorem fnExactTotals_holds : Rows.FnExactTotalsCardSaid := fnExactTotals.card
#print axioms fnExactTotals_holds
end Go.Proofs.YtjblkijicfmkgaaGreatDoor
