/-
  impl.AsksFor answers as the specification; it writes into no argument, and its answer owns its memory. Walk and frame written by program (tools/exactlaw.py).
-/
import Derived.Test.YtihnaddfpmjpaaaGreatDoorCards
import Derived.Test.YtihnaddfpmjpaaaGreatDoorTie
import Derived.Deep.DeepHandedRow
import Derived.Lib.LaidTab
import Derived.Lib.SmallJoins
import Derived.Stop.LaidErr
import Derived.Test.YtihnaddfpmjpaaaGreatDoorJ49
import Derived.Test.YtihnaddfpmjpaaaGreatDoorJ43
import Derived.Test.YtihnaddfpmjpaaaGreatDoorChecked
import Derived.Deep.RegionHeld3
import Derived.ShutString
import Derived.Below
namespace Go.Proofs.YtihnaddfpmjpaaaGreatDoor.fnExactAsksFor
open Go.Proofs.YtihnaddfpmjpaaaGreatDoor Go.Proofs.YtihnaddfpmjpaaaGreatDoor.Gr
open Go.ChangeShapes Go.WideShapes Go.ChangeAt Go.RowKit
open Go.ChangeMaps (open_string shut_string)

theorem own : ownKnob Tryz.prog.godebug = none := by kernel_rfl

theorem laidOut : laidOutB Tryz.prog = true := by kernel_rfl

set_option maxRecDepth 100000 in
set_option maxHeartbeats 4000000 in
theorem walk (v0 : Value) (Q0 : List (ByteArray × ByteArray)) (w : World) (hv0 : PaAt w v0 w.heap.size Q0) (hn0 : pasize Q0 ≤ 9223372036854775807) (HT : Hid (Rg.Tab w.heap.size w)) :
    Calls Tryz.prog 8 #[v0] w fun e w' => e = .returned (.bool true) ∧ Below w.heap.size w w' := by
  have HV0 := hide hv0
  have HN0 := hide hn0
  have sh0 := hv0.shape
  obtain ⟨a0, c0, rfl⟩ := sh0
  clear hv0 hn0
  go_enter Tryz.func8, Tryz.ntmps8
  go_wp2_with fail
  refine (szPairS_gen _ w.heap.size Q0 1048576 (by omega) (by omega) (unhide HN0) w (unhide HV0)).mono ?_
  rintro e uw2 ⟨⟨z1, rfl, hxz1, hyz1⟩, hb3⟩
  have hc4 : Below w.heap.size w uw2 := hb3
  have hz5 : w.heap.size ≤ uw2.heap.size := hb3.size
  clear hb3
  by_cases hnegz1 : z1 < 0
  · go_wp2
    go_ret
    exact ⟨rfl, hc4⟩
  · have htz1 := hyz1 (by omega)
    have hb0 : pasize Q0 ≤ 1048576 := by omega
    have TO0 := hide (fun w1 (hb : Below w.heap.size w w1) => toPairS_gen _ w.heap.size Q0 hb0 w1 hb.size ((unhide HV0).below hb (Nat.le_refl _)))
    have EQ0 := hide (fun w1 d d1 (hd : PaAt w1 d w1.heap.size Q0) (hd1 : PaAt w1 d1 w1.heap.size Q0) => eqPairS_gen d d1 w1.heap.size w1.heap.size Q0 hb0 w1 (Nat.le_refl _) (Nat.le_refl _) hd hd1)
    have SP := hide (fun w1 d0 (hd0 : PaAt w1 d0 w1.heap.size Q0) => Cy.specAsks_gen w1.heap.size d0 Q0 hb0 w1 (Nat.le_refl _) hd0)
    have IM := hide (fun w1 (hbT : Below w.heap.size w w1) d0 (hd0 : PaAt w1 d0 w1.heap.size Q0) => Cy.implAsks_gen w1.heap.size d0 Q0 hb0 w1 (Nat.le_refl _) (((unhide HT).below hbT).mono hbT.size) hd0)
    have hl0 : (Cy.asksQ Q0).length ≤ 1048576 := by first | omega | (exact Nat.le_trans (Cy.asksQ_len Q0) (by omega))
    generalize Cy.asksQ Q0 = Xr0 at SP IM hl0
    generalize Cy.asksB Q0 = ret1 at SP IM
    have hne1 : (ret1 != ret1) = false := by simp
    have ER0 := hide (fun w1 d d1 (hd : AksAt w1 d w1.heap.size Xr0) (hd1 : AksAt w1 d1 w1.heap.size Xr0) => eqAskS_gen d d1 w1.heap.size w1.heap.size Xr0 hl0 w1 (Nat.le_refl _) (Nat.le_refl _) hd hd1)
    have MK0 := hide (fun w1 B d (hd : PaOwn w1 B d Q0) => markPairS_gen d B 1 Q0 (by omega) w1 hd)
    obtain ⟨kx0, hkx0⟩ : ∃ k : Nat, k = 1 + Q0.length * 2 := ⟨_, rfl⟩
    rw [← hkx0] at MK0
    have hkn0 : ¬ ((kx0 : Nat) : Int) < 0 := by omega
    have MR0 := hide (fun w1 B d (hd : AksOwn w1 B d Xr0) => markAskS_gen d B 1 Xr0 (by omega) w1 hd)
    have HR0 := hide (fun w1 d (hd : AksAt w1 d w1.heap.size (marksAsk 1 Xr0.length)) => heldAskS_gen d w1.heap.size 1 Xr0.length (by omega) w1 (Nat.le_refl _) hd)
    obtain ⟨km0, hkm0⟩ : ∃ k : Nat, k = 1 + Xr0.length * 6 := ⟨_, rfl⟩
    rw [← hkm0] at MR0 HR0
    have hkr0 : ¬ ((km0 : Nat) : Int) < 0 := by omega
    have hkq0 : (((km0 : Nat) : Int) != ((km0 : Nat) : Int)) = false := by simp
    clear hkx0 hkm0 hb0 hl0
    go_wp2_with fail
    refine (unhide TO0 uw2 hc4).mono ?_
    rintro e uw8 ⟨⟨d6, rfl, ho7⟩, hb9⟩
    have hc10 : Below w.heap.size w uw8 := hc4.trans (hb9.mono hc4.size)
    have hz11 : uw2.heap.size ≤ uw8.heap.size := hb9.size
    clear hb9
    have HO13 := hide ho7
    have HB14 := hide ho7.blk
    have hs17 := ho7.at.shape
    obtain ⟨a15, c16, rfl⟩ := hs17
    clear ho7
    go_wp2_with fail
    refine (unhide SP uw8 _ (unhide HO13).at).mono ?_
    rintro e uw20 ⟨⟨d18, rfl, ho19⟩, hb21⟩
    have HO13 := hide ((unhide HO13).below hb21)
    have hc22 : Below w.heap.size w uw20 := hc10.trans (hb21.mono hc10.size)
    have hz23 : uw8.heap.size ≤ uw20.heap.size := hb21.size
    clear hb21
    have HO24 := hide ho19
    have HB25 := hide ho19.blk
    have hs28 := ho19.at.shape
    obtain ⟨a26, c27, rfl⟩ := hs28
    clear ho19
    go_wp2_with fail
    refine (unhide TO0 uw20 hc22).mono ?_
    rintro e uw31 ⟨⟨d29, rfl, ho30⟩, hb32⟩
    have HO24 := hide ((unhide HO24).below hb32)
    have hc33 : Below w.heap.size w uw31 := hc22.trans (hb32.mono hc22.size)
    have hz34 : uw20.heap.size ≤ uw31.heap.size := hb32.size
    clear hb32
    have HO35 := hide ho30
    have HB36 := hide ho30.blk
    have hs39 := ho30.at.shape
    obtain ⟨a37, c38, rfl⟩ := hs39
    clear ho30
    go_wp2_with fail
    refine (unhide IM uw31 hc33 _ (unhide HO35).at).mono ?_
    rintro e uw42 ⟨⟨d40, rfl, ho41⟩, hb43⟩
    have HO24 := hide ((unhide HO24).below hb43)
    have HO35 := hide ((unhide HO35).below hb43)
    have hc44 : Below w.heap.size w uw42 := hc33.trans (hb43.mono hc33.size)
    have hz45 : uw31.heap.size ≤ uw42.heap.size := hb43.size
    clear hb43
    have HO46 := hide ho41
    have HB47 := hide ho41.blk
    have hs50 := ho41.at.shape
    obtain ⟨a48, c49, rfl⟩ := hs50
    clear ho41
    go_wp2_with fail
    refine (unhide ER0 uw42 _ _ (unhide HO46).at (unhide HO24).at).mono ?_
    rintro e uw51 ⟨rfl, hb52⟩
    have HO24 := hide ((unhide HO24).below hb52)
    have HO35 := hide ((unhide HO35).below hb52)
    have HO46 := hide ((unhide HO46).below hb52)
    have hc53 : Below w.heap.size w uw51 := hc44.trans (hb52.mono hc44.size)
    have hz54 : uw42.heap.size ≤ uw51.heap.size := hb52.size
    clear hb52
    go_wp2_with fail
    refine (unhide TO0 uw51 hc53).mono ?_
    rintro e uw57 ⟨⟨d55, rfl, ho56⟩, hb58⟩
    have HO24 := hide ((unhide HO24).below hb58)
    have HO35 := hide ((unhide HO35).below hb58)
    have HO46 := hide ((unhide HO46).below hb58)
    have hc59 : Below w.heap.size w uw57 := hc53.trans (hb58.mono hc53.size)
    have hz60 : uw51.heap.size ≤ uw57.heap.size := hb58.size
    clear hb58
    have HO62 := hide ho56
    have HB63 := hide ho56.blk
    have hs66 := ho56.at.shape
    obtain ⟨a64, c65, rfl⟩ := hs66
    clear ho56
    go_wp2_with fail
    refine (unhide EQ0 uw57 _ _ (unhide HO35).at (unhide HO62).at).mono ?_
    rintro e uw67 ⟨rfl, hb68⟩
    have HO24 := hide ((unhide HO24).below hb68)
    have HO35 := hide ((unhide HO35).below hb68)
    have HO46 := hide ((unhide HO46).below hb68)
    have HO62 := hide ((unhide HO62).below hb68)
    have hc69 : Below w.heap.size w uw67 := hc59.trans (hb68.mono hc59.size)
    have hz70 : uw57.heap.size ≤ uw67.heap.size := hb68.size
    clear hb68
    go_wp2_with fail
    refine (unhide MK0 uw67 _ _ (unhide HO35)).mono ?_
    rintro e uw71 ⟨rfl, ho73, hk72⟩
    have HO24 := hide ((unhide HO24).kept hk72 (fun g h0 h1 => by have h2 := unhide HB25 g h0; have h3 := unhide HB36 g h1; omega))
    have HO46 := hide ((unhide HO46).kept hk72 (fun g h0 h1 => by have h2 := unhide HB47 g h0; have h3 := unhide HB36 g h1; omega))
    have HO35 := hide ho73
    have hc74 : Below w.heap.size w uw71 := hc69.trans (hk72.below hc69.size (fun g hg => by have h3 := unhide HB36 g hg; omega))
    have hz75 : uw67.heap.size ≤ uw71.heap.size := hk72.2.2.2.1
    clear ho73 hk72
    go_wp2_with fail
    refine (unhide ER0 uw71 _ _ (unhide HO46).at (unhide HO24).at).mono ?_
    rintro e uw76 ⟨rfl, hb77⟩
    have HO24 := hide ((unhide HO24).below hb77)
    have HO35 := hide ((unhide HO35).below hb77)
    have HO46 := hide ((unhide HO46).below hb77)
    have hc78 : Below w.heap.size w uw76 := hc74.trans (hb77.mono hc74.size)
    have hz79 : uw71.heap.size ≤ uw76.heap.size := hb77.size
    clear hb77
    go_wp2_with fail
    refine (unhide MR0 uw76 _ _ (unhide HO46)).mono ?_
    rintro e uw80 ⟨rfl, ho82, hk81⟩
    have HO24 := hide ((unhide HO24).kept hk81 (fun g h0 h1 => by have h2 := unhide HB25 g h0; have h3 := unhide HB47 g h1; omega))
    have HO35 := hide ((unhide HO35).kept hk81 (fun g h0 h1 => by have h2 := unhide HB36 g h0; have h3 := unhide HB47 g h1; omega))
    have HO46 := hide ho82
    have hc83 : Below w.heap.size w uw80 := hc78.trans (hk81.below hc78.size (fun g hg => by have h3 := unhide HB47 g hg; omega))
    have hz84 : uw76.heap.size ≤ uw80.heap.size := hk81.2.2.2.1
    clear ho82 hk81
    go_wp2_with fail
    refine (unhide HR0 uw80 _ (unhide HO46).at).mono ?_
    rintro e uw85 ⟨rfl, hb86⟩
    have HO24 := hide ((unhide HO24).below hb86)
    have HO35 := hide ((unhide HO35).below hb86)
    have HO46 := hide ((unhide HO46).below hb86)
    have hc87 : Below w.heap.size w uw85 := hc83.trans (hb86.mono hc83.size)
    have hz88 : uw80.heap.size ≤ uw85.heap.size := hb86.size
    clear hb86
    go_wp2_with fail
    refine (unhide TO0 uw85 hc87).mono ?_
    rintro e uw91 ⟨⟨d89, rfl, ho90⟩, hb92⟩
    have HO24 := hide ((unhide HO24).below hb92)
    have HO35 := hide ((unhide HO35).below hb92)
    have HO46 := hide ((unhide HO46).below hb92)
    have hc93 : Below w.heap.size w uw91 := hc87.trans (hb92.mono hc87.size)
    have hz94 : uw85.heap.size ≤ uw91.heap.size := hb92.size
    clear hb92
    have HO96 := hide ho90
    have HB97 := hide ho90.blk
    have hs100 := ho90.at.shape
    obtain ⟨a98, c99, rfl⟩ := hs100
    clear ho90
    go_wp2_with fail
    refine (unhide IM uw91 hc93 _ (unhide HO96).at).mono ?_
    rintro e uw103 ⟨⟨d101, rfl, ho102⟩, hb104⟩
    have HO24 := hide ((unhide HO24).below hb104)
    have HO35 := hide ((unhide HO35).below hb104)
    have HO46 := hide ((unhide HO46).below hb104)
    have HO96 := hide ((unhide HO96).below hb104)
    have hc105 : Below w.heap.size w uw103 := hc93.trans (hb104.mono hc93.size)
    have hz106 : uw91.heap.size ≤ uw103.heap.size := hb104.size
    clear hb104
    have HO107 := hide ho102
    have HB108 := hide ho102.blk
    have hs111 := ho102.at.shape
    obtain ⟨a109, c110, rfl⟩ := hs111
    clear ho102
    go_wp2_with fail
    refine (unhide ER0 uw103 _ _ (unhide HO107).at (unhide HO24).at).mono ?_
    rintro e uw112 ⟨rfl, hb113⟩
    have HO24 := hide ((unhide HO24).below hb113)
    have HO35 := hide ((unhide HO35).below hb113)
    have HO46 := hide ((unhide HO46).below hb113)
    have HO107 := hide ((unhide HO107).below hb113)
    have hc114 : Below w.heap.size w uw112 := hc105.trans (hb113.mono hc105.size)
    have hz115 : uw103.heap.size ≤ uw112.heap.size := hb113.size
    clear hb113
    go_wp2_with fail
    refine (unhide HR0 uw112 _ (unhide HO46).at).mono ?_
    rintro e uw116 ⟨rfl, hb117⟩
    have HO24 := hide ((unhide HO24).below hb117)
    have HO35 := hide ((unhide HO35).below hb117)
    have HO46 := hide ((unhide HO46).below hb117)
    have HO107 := hide ((unhide HO107).below hb117)
    have hc118 : Below w.heap.size w uw116 := hc114.trans (hb117.mono hc114.size)
    have hz119 : uw112.heap.size ≤ uw116.heap.size := hb117.size
    clear hb117
    go_wp2
    go_ret
    exact ⟨rfl, hc118⟩

theorem g0 : Tryz.prog.globalNamed "math/bits.deBruijn32tab" = some 3 := by kernel_rfl
theorem gt0 : (Tryz.prog.globals[3]?).map (·.type) = some 248 := by kernel_rfl
theorem ct0 : Tryz.prog.cellsOf 248 = 32 := by kernel_rfl
theorem ce0 : Tryz.prog.cellsOf 5 = 1 := by kernel_rfl
def zs0 : List Int := [0, 1, 28, 2, 29, 14, 24, 3, 30, 22, 20, 15, 25, 17, 4, 8, 31, 27, 13, 23, 21, 19, 16, 7, 26, 12, 18, 6, 11, 5, 10, 9]
theorem g1 : Tryz.prog.globalNamed "math/bits.deBruijn64tab" = some 4 := by kernel_rfl
theorem gt1 : (Tryz.prog.globals[4]?).map (·.type) = some 249 := by kernel_rfl
theorem ct1 : Tryz.prog.cellsOf 249 = 64 := by kernel_rfl
theorem ce1 : Tryz.prog.cellsOf 5 = 1 := by kernel_rfl
def zs1 : List Int := [0, 1, 56, 2, 57, 49, 28, 3, 61, 58, 42, 50, 38, 29, 17, 4, 62, 47, 59, 36, 45, 43, 51, 22, 53, 39, 33, 30, 24, 18, 12, 5, 63, 55, 48, 27, 60, 41, 37, 16, 46, 35, 44, 21, 52, 32, 23, 11, 54, 26, 40, 15, 34, 20, 31, 10, 25, 14, 19, 9, 13, 8, 7, 6]
theorem g2 : Tryz.prog.globalNamed "internal/strconv.uint64pow10" = some 2 := by kernel_rfl
theorem gt2 : (Tryz.prog.globals[2]?).map (·.type) = some 244 := by kernel_rfl
theorem ct2 : Tryz.prog.cellsOf 244 = 20 := by kernel_rfl
theorem ce2 : Tryz.prog.cellsOf 238 = 1 := by kernel_rfl
def zs2 : List Int := [1, 10, 100, 1000, 10000, 100000, 1000000, 10000000, 100000000, 1000000000, 10000000000, 100000000000, 1000000000000, 10000000000000, 100000000000000, 1000000000000000, 10000000000000000, 100000000000000000, 1000000000000000000, 10000000000000000000]
set_option maxRecDepth 100000 in
theorem tab {W : World} (h : laidMet Tryz.prog Rows.fnExactAsksForRow.laid W) : Lib.TabIs Tryz.prog W "internal/strconv.uint64pow10" .u64 zs2 :=
  Lib.tabIs_of_head (zs := zs2) g2 gt2 Tryz.underlying244 Tryz.underlying238 ce2 ct2 (laidMet.tail (laidMet.tail h))
theorem plainLaid {W : World} (h : laidMetH Tryz.prog Rows.fnExactAsksForRow.laid W) : laidMet Tryz.prog Rows.fnExactAsksForRow.laid W := h

set_option maxRecDepth 100000 in
theorem contract (H : Type) (enc : TypeId × Value → H) (W : World) (base : Nat) (args : Array Value) (ds gs : List (DataW H)) (before : List MemPlace)
    (hval : ∀ (j : Nat) t v, Tryz.f8.params[j]? = some t → args[j]? = some v → Value.okWide Tryz.prog W .any base t v)
    (hW : DataW.Whole enc Tryz.prog Tryz.f8.params.toList Rows.fnExactAsksForSpec.vars false W args.toList ds gs before) (hL : laidMet Tryz.prog Rows.fnExactAsksForRow.laid W) :
    Calls Tryz.prog 8 args W fun e W' => ∃ v, e = .returned v ∧ Rows.fnExactAsksForSpec.post enc Tryz.prog Tryz.f8 false true false false W args v W' := by
  have hW' := hW
  obtain ⟨p, q, hA0, hV, rfl, hfz, hnd⟩ := hW
  have hA : DataW.TrodAll enc Tryz.prog W 0 (fun _ => true) true Tryz.f8.params.toList args.toList ds p := hA0
  rw [Tryz.params8] at hA hval
  obtain ⟨v0, vs0, d0, ds0, p0, q0, hargs, rfl, rfl, h0, r0⟩ := trodAll_cons hA
  obtain ⟨rfl, rfl, rfl⟩ := trodAll_nil r0
  obtain rfl : args = #[v0] := by cases args; simp_all
  obtain ⟨rfl, rfl⟩ := trodVars_none hV
  have k0 := h0
  have lt0 : ∀ x ∈ p0, x.block < W.heap.size := by obtain ⟨m, hm⟩ := k0; exact DataW.trod_lt m _ _ _ hm
  obtain ⟨Q0, hv0, hn0⟩ := pairs_in (hval 0 22 v0 rfl rfl) h0
  clear hA0
  refine (walk v0 Q0 W hv0 hn0 (Lib.tabBelow_of_tabIs (show Lib.TabIs Tryz.prog W "internal/strconv.uint64pow10" .u64 Lib.pow10Tab from tab hL))).mono fun e W' ⟨he, bel⟩ => ?_
  subst he
  exact ⟨_, rfl, _, _, _, [], _, [], hW', trodAll_mk1 (shut_bool Tryz.underlying4 _), (trodAll_cons_mk (Below.trod laidOut (by kernel_rfl) (of_decide_eq_true (by kernel_rfl)) k0 bel lt0) trodAll_mk0), rfl, bel.frame _, fun h => by cases h⟩

def laidCells (zs : List Int) (k : IntKind) : Obj → Obj
  | .cells _ t frozen => .cells (zs.map fun z => Value.int k z).toArray t frozen
  | x => x

theorem laid_met (os : Os) : laidMet Tryz.prog Rows.fnExactAsksForRow.laid (({ World.holding Tryz.prog os ⟨#[], #[], []⟩ with heap := ((((World.holding Tryz.prog os ⟨#[], #[], []⟩).heap.modify 3 (laidCells zs0 .u8)).modify 4 (laidCells zs1 .u8)).modify 2 (laidCells zs2 .u64)) } : World).forCall (fun _ _ => 0) ⟨#[], #[.slice none 0 0], []⟩).memory :=
  laidMet_of_run' 8 (by kernel_rfl) (by kernel_rfl)

theorem reads (os : Os) {H : Type} (enc : TypeId × Value → H) : ∃ places, DataW.whole enc Tryz.prog (({ World.holding Tryz.prog os ⟨#[], #[], []⟩ with heap := ((((World.holding Tryz.prog os ⟨#[], #[], []⟩).heap.modify 3 (laidCells zs0 .u8)).modify 4 (laidCells zs1 .u8)).modify 2 (laidCells zs2 .u64)) } : World).forCall (fun _ _ => 0) ⟨#[], #[.slice none 0 0], []⟩).memory Tryz.f8.params.toList Rows.fnExactAsksForSpec.vars false (#[.slice none 0 0] : Array Value).toList 8 = some ([.nil], [], places) :=
  ⟨[], by kernel_rfl⟩

set_option maxRecDepth 100000 in
theorem lifted (os : Os) (started : os.Started) (H : Type) (enc : TypeId × Value → H) (F : Stop.Interp) :
    ReturnsInHanded {} Tryz.checked os 8 .any ((OpenSpec.ofChange Rows.fnExactAsksForSpec).preRow enc Tryz.prog Tryz.f8 Rows.fnExactAsksForRow.domain false Rows.fnExactAsksForRow.laid) (((OpenSpec.ofChange Rows.fnExactAsksForSpec).at F).post enc Tryz.prog Tryz.f8 false true false false) := by
  obtain ⟨places, hx⟩ := reads os enc
  refine returnsInHanded_of_row (C := Tryz.checked) (s := OpenSpec.ofChange Rows.fnExactAsksForSpec) own started (by kernel_rfl) Tryz.func8
    (witness_row_at (enc := enc) (C := Tryz.checked) false ({ World.holding Tryz.prog os ⟨#[], #[], []⟩ with heap := ((((World.holding Tryz.prog os ⟨#[], #[], []⟩).heap.modify 3 (laidCells zs0 .u8)).modify 4 (laidCells zs1 .u8)).modify 2 (laidCells zs2 .u64)) } : World) #[.slice none 0 0] rfl (by kernel_rfl) (by kernel_rfl) (by kernel_rfl)
      (OpenSpec.preRow_of_cond 8 hx (by kernel_rfl) (fun k hk => by cases hk) (by kernel_rfl) (laid_met os))) ?_
  intro W base args ds gs before hval hW _ _ _ hL _ _
  exact contract H enc W base args ds gs before hval hW (plainLaid hL)

theorem said : Rows.FnExactAsksForSaid :=
  OpenClaim.holds_of_cond 8 Tryz.f8 rfl rfl rfl rfl rfl rfl rfl ⟨rfl, rfl, rfl, rfl, rfl⟩ rfl rfl rfl rfl rfl (by kernel_rfl) Tryz.func8 (by kernel_rfl)
    (of_decide_eq_true (by kernel_rfl)) (by unfold Func.isWrapper; first | (rw [if_pos (by decide +kernel)]; kernel_rfl) | (rw [if_neg (by decide +kernel)]; exact ⟨rfl, rfl⟩))
    (fun os started H enc _ F => by rw [OpenClaim.pre_eq_preRow]; exact lifted os started H enc F)

theorem plain (f : FuncId) (fn : Func) (hf : Tryz.pinned.checked.prog.funcNamed "loop.example/g00105/laws.FnExactAsksFor" = some f) (hfn : Tryz.pinned.checked.prog.funcs[f]? = some fn) :
    true = Tryz.pinned.checked.prog.looks [] ∧ ∀ (j : Nat) t, fn.params[j]? = some t → Tryz.pinned.checked.prog.wantsStandIn t = false := by
  obtain rfl : f = 8 := Option.some.inj ((show Tryz.prog.funcNamed "loop.example/g00105/laws.FnExactAsksFor" = some 8 by kernel_rfl).symm.trans hf) |>.symm
  obtain rfl : fn = Tryz.f8 := (Option.some.inj (Tryz.func8.symm.trans hfn)).symm
  refine ⟨by kernel_rfl, fun j t ht => ?_⟩
  rw [Tryz.params8] at ht
  obtain rfl : t = 22 := by simpa using Array.mem_of_getElem? ht
  exact (show Tryz.prog.wantsStandIn 22 = false by kernel_rfl)

theorem card : Rows.FnExactAsksForCardSaid :=
  Claim7.holds_tied_plain_at .later [] _ _ _ _ said (fun _ h => by cases h) (by kernel_rfl) (fun _ h => by cases h) fnExactAsksFor_row_tie rfl ⟨rfl, rfl⟩ (by kernel_rfl) rfl plain (by kernel_rfl)
end Go.Proofs.YtihnaddfpmjpaaaGreatDoor.fnExactAsksFor
namespace Go.Proofs.YtihnaddfpmjpaaaGreatDoor
theorem fnExactAsksFor_holds : Rows.FnExactAsksForCardSaid := fnExactAsksFor.card
#print axioms fnExactAsksFor_holds
end Go.Proofs.YtihnaddfpmjpaaaGreatDoor
