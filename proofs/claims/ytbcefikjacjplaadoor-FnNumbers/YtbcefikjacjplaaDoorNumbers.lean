/-
  A drawn number comes back from VarText and from Decimal, a drawn text from ShortText and from Hex, whatever bytes it is drawn from; the listed tables of Go's library are tied to the program's text.
-/
import Derived.Test.YtbcefikjacjplaaDoorCards
import Derived.Test.YtbcefikjacjplaaDoorTie
import Derived.Test.YtbcefikjacjplaaDoorBack
import Derived.ShutString
import Derived.Below
import Derived.Deep.DeepHandedRow
import Derived.Lib.LaidTab
import Derived.Lib.SmallJoins
import Derived.Stop.LaidErr
namespace Go.Proofs.YtbcefikjacjplaaDoor.fnNumbers
open Go.ChangeShapes Go.WideShapes Go.ChangeAt Go.RowKit
open Go.ChangeMaps (open_string shut_string)

theorem own : ownKnob Tryd.prog.godebug = none := by kernel_rfl
theorem laidOut : laidOutB Tryd.prog = true := by kernel_rfl
/-- A slice of integers that came in: nil, or a row of numbers. -/
def IsRow (k : IntKind) (w : World) (a : Option Addr) (len cap : Nat) (zs : List Int) : Prop :=
  (a = none ∧ len = 0 ∧ cap = 0 ∧ zs = []) ∨
  ∃ x, a = some x ∧ len ≤ cap ∧ cap ≤ maxLen ∧ zs.length = cap ∧ (∀ i, i < zs.length → w.cell? (x.add i) = some (.int k (zs.getD i 0))) ∧ ∀ n ∈ zs, (Lit.int k n).wf = true
theorem g0 : Tryd.prog.globalNamed "math/bits.deBruijn32tab" = some 1 := by kernel_rfl
theorem gt0 : (Tryd.prog.globals[1]?).map (·.type) = some 67 := by kernel_rfl
theorem ct0 : Tryd.prog.cellsOf 67 = 32 := by kernel_rfl
theorem ce0 : Tryd.prog.cellsOf 5 = 1 := by kernel_rfl
def zs0 : List Int := [0, 1, 28, 2, 29, 14, 24, 3, 30, 22, 20, 15, 25, 17, 4, 8, 31, 27, 13, 23, 21, 19, 16, 7, 26, 12, 18, 6, 11, 5, 10, 9]
set_option maxRecDepth 100000 in
theorem tab0 {W : World} (h : laidMet Tryd.prog Rows.fnNumbersRow.laid W) : Lib.TabIs Tryd.prog W "math/bits.deBruijn32tab" .u8 zs0 :=
  Lib.tabIs_of_head (zs := zs0) g0 gt0 Tryd.underlying67 Tryd.underlying5 ce0 ct0 h
theorem g1 : Tryd.prog.globalNamed "math/bits.deBruijn64tab" = some 2 := by kernel_rfl
theorem gt1 : (Tryd.prog.globals[2]?).map (·.type) = some 68 := by kernel_rfl
theorem ct1 : Tryd.prog.cellsOf 68 = 64 := by kernel_rfl
theorem ce1 : Tryd.prog.cellsOf 5 = 1 := by kernel_rfl
def zs1 : List Int := [0, 1, 56, 2, 57, 49, 28, 3, 61, 58, 42, 50, 38, 29, 17, 4, 62, 47, 59, 36, 45, 43, 51, 22, 53, 39, 33, 30, 24, 18, 12, 5, 63, 55, 48, 27, 60, 41, 37, 16, 46, 35, 44, 21, 52, 32, 23, 11, 54, 26, 40, 15, 34, 20, 31, 10, 25, 14, 19, 9, 13, 8, 7, 6]
set_option maxRecDepth 100000 in
theorem tab1 {W : World} (h : laidMet Tryd.prog Rows.fnNumbersRow.laid W) : Lib.TabIs Tryd.prog W "math/bits.deBruijn64tab" .u8 zs1 :=
  Lib.tabIs_of_head (zs := zs1) g1 gt1 Tryd.underlying68 Tryd.underlying5 ce1 ct1 (laidMet.tail h)
theorem g2 : Tryd.prog.globalNamed "internal/strconv.uint64pow10" = some 0 := by kernel_rfl
theorem gt2 : (Tryd.prog.globals[0]?).map (·.type) = some 61 := by kernel_rfl
theorem ct2 : Tryd.prog.cellsOf 61 = 20 := by kernel_rfl
theorem ce2 : Tryd.prog.cellsOf 54 = 1 := by kernel_rfl
def zs2 : List Int := [1, 10, 100, 1000, 10000, 100000, 1000000, 10000000, 100000000, 1000000000, 10000000000, 100000000000, 1000000000000, 10000000000000, 100000000000000, 1000000000000000, 10000000000000000, 100000000000000000, 1000000000000000000, 10000000000000000000]
set_option maxRecDepth 100000 in
theorem tab2 {W : World} (h : laidMet Tryd.prog Rows.fnNumbersRow.laid W) : Lib.TabIs Tryd.prog W "internal/strconv.uint64pow10" .u64 zs2 :=
  Lib.tabIs_of_head (zs := zs2) g2 gt2 Tryd.underlying61 Tryd.underlying54 ce2 ct2 (laidMet.tail (laidMet.tail h))
theorem plainLaid {W : World} (h : laidMetH Tryd.prog Rows.fnNumbersRow.laid W) : laidMet Tryd.prog Rows.fnNumbersRow.laid W := h

theorem code_mono {a : Option Addr} {len B C : Nat} {w : World} (h : Code a len B w) (hC : B ≤ C) : Code a len C w := by
  intro j hj
  obtain ⟨b, off, z, e, hb, r⟩ := h j hj
  exact ⟨b, off, z, e, by omega, r⟩

theorem code_of {a : Option Addr} {len cap : Nat} {zs : List Int} {w : World} (h : IsRow .u8 w a len cap zs) : Code a len w.heap.size w := by
  intro j hj
  rcases h with ⟨_, h0, _⟩ | ⟨x, rfl, hl, hm, hz, hcell, hwz⟩
  · omega
  · obtain ⟨b, off, spot⟩ := x
    have hspot : spot = none := by simpa [Addr.add] using World.cell?_spot (hcell 0 (by omega))
    subst hspot
    have hc2 : w.cell? ⟨b, off + j, none⟩ = some (.int .u8 (zs.getD j 0)) := by
      have hc := hcell j (by omega)
      rwa [Addr.add_lit] at hc
    have hmem : zs.getD j 0 ∈ zs := by
      have hlt : j < zs.length := by omega
      have e : zs.getD j 0 = zs[j]'hlt := by simp [hlt]
      rw [e]
      exact List.getElem_mem hlt
    have hb : 0 ≤ zs.getD j 0 ∧ zs.getD j 0 ≤ 255 := by simpa [Lit.wf, IntKind.min, IntKind.max, IntKind.signed, IntKind.bits] using hwz _ hmem
    exact ⟨b, off, _, rfl, by simpa using World.block_lt_of_cell? w _ hc2, hc2, hb.1, hb.2⟩

theorem big_any (a : Option Addr) (len cap : Nat) (w : World) : Calls Tryd.prog 4 #[.slice a len cap] w fun e w' => e = .returned (.bool (decide ((1048576 : Int) < (len : Int)))) ∧ w = w' := by
  go_enter Tryd.func4, Tryd.ntmps4
  go_wp2
  go_ret
  exact ⟨rfl, rfl⟩

set_option maxRecDepth 100000 in
set_option maxHeartbeats 4000000 in
theorem walk (a : Option Addr) (len cap : Nat) (zs : List Int) (w : World) (hrow : IsRow .u8 w a len cap zs) (hL : laidMet Tryd.prog Rows.fnNumbersRow.laid w) :
    Calls Tryd.prog 3 #[.slice a len cap] w fun e w' => e = .returned (.bool true) ∧ Below w.heap.size w w' := by
  have HT := hide (show Lib.TabIs Tryd.prog w "internal/strconv.uint64pow10" .u64 Lib.pow10Tab from tab2 hL)
  have HC := hide (code_of hrow)
  clear hL hrow
  by_cases hbig : (1048576 : Int) < (len : Int)
  · have hbd : decide ((1048576 : Int) < (len : Int)) = true := decide_eq_true hbig
    go_enter Tryd.func3, Tryd.ntmps3
    go_wp2_with fail
    refine (big_any a len cap _).mono ?_
    rintro e wz ⟨rfl, rfl⟩
    rw [hbd]
    go_wp2
    go_ret
    exact ⟨rfl, Below.refl _ _⟩
  · have hbd : decide ((1048576 : Int) < (len : Int)) = false := decide_eq_false hbig
    have H5 := hide (drawVar_any a len cap (by omega) w (unhide HC))
    go_enter Tryd.func3, Tryd.ntmps3
    go_wp2_with fail
    refine (big_any a len cap _).mono ?_
    rintro e wz ⟨rfl, rfl⟩
    rw [hbd]
    go_wp2_with fail
    refine (unhide H5).mono ?_
    rintro e w1 ⟨⟨x, rfl⟩, hb1⟩
    by_cases hn1 : x < 0
    · skip
      obtain ⟨V, D, hV, hv1, hv2, hd1, hd2⟩ := numbers 12345 (by omega) (by omega)
      have V1 := hide hv1
      have V2 := hide hv2
      have D1 := hide hd1
      have D2 := hide hd2
      clear hv1 hv2 hd1 hd2
      go_wp2_with fail
      refine (unhide V1 _).mono ?_
      rintro e w2 ⟨rfl, hb2⟩
      have hc2 : Below w.heap.size w w2 := hb1.trans (hb2.mono hb1.size)
      go_wp2_with fail
      refine (unhide V2 _).mono ?_
      rintro e w3 ⟨rfl, hb3⟩
      have hc3 : Below w.heap.size w w3 := hc2.trans (hb3.mono hc2.size)
      go_wp2_with fail
      refine (unhide D1 _ (Joins.tab_stays g2 (unhide HT) hc3 (Nat.le_refl _))).mono ?_
      rintro e w4 ⟨rfl, hb4⟩
      have hc4 : Below w.heap.size w w4 := hc3.trans (hb4.mono hc3.size)
      go_wp2_with fail
      refine (unhide D2 _ (Joins.tab_stays g2 (unhide HT) hc4 (Nat.le_refl _))).mono ?_
      rintro e w5 ⟨rfl, hb5⟩
      have hc5 : Below w.heap.size w w5 := hc4.trans (hb5.mono hc4.size)
      have H10 := hide (drawHex_any a len cap (by omega) w5 (code_mono ((unhide HC).below hc5 (Nat.le_refl _)) hc5.size))
      go_wp2_with fail
      refine (unhide H10).mono ?_
      rintro e w6 ⟨⟨t, rfl, ht⟩, hb6⟩
      have hc6 : Below w.heap.size w w6 := hc5.trans (hb6.mono hc5.size)
      by_cases h3 : (300 : Int) < (t.size : Int)
      · clear ht
        obtain ⟨A, X, hA, hs1, hs2, hx1, hx2⟩ := texts ⟨#[97, 98, 99]⟩ (by decide)
        have S1 := hide hs1
        have S2 := hide hs2
        have X1 := hide hx1
        have X2 := hide hx2
        clear hs1 hs2 hx1 hx2
        go_wp2_with fail
        refine (unhide S1 _).mono ?_
        rintro e w7 ⟨rfl, hb7⟩
        have hc7 : Below w.heap.size w w7 := hc6.trans (hb7.mono hc6.size)
        go_wp2_with fail
        refine (unhide S2 _).mono ?_
        rintro e w8 ⟨rfl, hb8⟩
        have hc8 : Below w.heap.size w w8 := hc7.trans (hb8.mono hc7.size)
        go_wp2_with fail
        refine (unhide X1 _).mono ?_
        rintro e w9 ⟨rfl, hb9⟩
        have hc9 : Below w.heap.size w w9 := hc8.trans (hb9.mono hc8.size)
        go_wp2_with fail
        refine (unhide X2 _).mono ?_
        rintro e w10 ⟨rfl, hb10⟩
        have hc10 : Below w.heap.size w w10 := hc9.trans (hb10.mono hc9.size)
        go_wp2
        go_ret
        exact ⟨rfl, hc10⟩
      · clear ht
        obtain ⟨A, X, hA, hs1, hs2, hx1, hx2⟩ := texts t (by omega)
        have S1 := hide hs1
        have S2 := hide hs2
        have X1 := hide hx1
        have X2 := hide hx2
        clear hs1 hs2 hx1 hx2
        go_wp2_with fail
        refine (unhide S1 _).mono ?_
        rintro e w7 ⟨rfl, hb7⟩
        have hc7 : Below w.heap.size w w7 := hc6.trans (hb7.mono hc6.size)
        go_wp2_with fail
        refine (unhide S2 _).mono ?_
        rintro e w8 ⟨rfl, hb8⟩
        have hc8 : Below w.heap.size w w8 := hc7.trans (hb8.mono hc7.size)
        go_wp2_with fail
        refine (unhide X1 _).mono ?_
        rintro e w9 ⟨rfl, hb9⟩
        have hc9 : Below w.heap.size w w9 := hc8.trans (hb9.mono hc8.size)
        go_wp2_with fail
        refine (unhide X2 _).mono ?_
        rintro e w10 ⟨rfl, hb10⟩
        have hc10 : Below w.heap.size w w10 := hc9.trans (hb10.mono hc9.size)
        go_wp2
        go_ret
        exact ⟨rfl, hc10⟩
    · by_cases hn2 : 1000000000 < x
      · skip
        obtain ⟨V, D, hV, hv1, hv2, hd1, hd2⟩ := numbers 12345 (by omega) (by omega)
        have V1 := hide hv1
        have V2 := hide hv2
        have D1 := hide hd1
        have D2 := hide hd2
        clear hv1 hv2 hd1 hd2
        go_wp2_with fail
        refine (unhide V1 _).mono ?_
        rintro e w2 ⟨rfl, hb2⟩
        have hc2 : Below w.heap.size w w2 := hb1.trans (hb2.mono hb1.size)
        go_wp2_with fail
        refine (unhide V2 _).mono ?_
        rintro e w3 ⟨rfl, hb3⟩
        have hc3 : Below w.heap.size w w3 := hc2.trans (hb3.mono hc2.size)
        go_wp2_with fail
        refine (unhide D1 _ (Joins.tab_stays g2 (unhide HT) hc3 (Nat.le_refl _))).mono ?_
        rintro e w4 ⟨rfl, hb4⟩
        have hc4 : Below w.heap.size w w4 := hc3.trans (hb4.mono hc3.size)
        go_wp2_with fail
        refine (unhide D2 _ (Joins.tab_stays g2 (unhide HT) hc4 (Nat.le_refl _))).mono ?_
        rintro e w5 ⟨rfl, hb5⟩
        have hc5 : Below w.heap.size w w5 := hc4.trans (hb5.mono hc4.size)
        have H10 := hide (drawHex_any a len cap (by omega) w5 (code_mono ((unhide HC).below hc5 (Nat.le_refl _)) hc5.size))
        go_wp2_with fail
        refine (unhide H10).mono ?_
        rintro e w6 ⟨⟨t, rfl, ht⟩, hb6⟩
        have hc6 : Below w.heap.size w w6 := hc5.trans (hb6.mono hc5.size)
        by_cases h3 : (300 : Int) < (t.size : Int)
        · clear ht
          obtain ⟨A, X, hA, hs1, hs2, hx1, hx2⟩ := texts ⟨#[97, 98, 99]⟩ (by decide)
          have S1 := hide hs1
          have S2 := hide hs2
          have X1 := hide hx1
          have X2 := hide hx2
          clear hs1 hs2 hx1 hx2
          go_wp2_with fail
          refine (unhide S1 _).mono ?_
          rintro e w7 ⟨rfl, hb7⟩
          have hc7 : Below w.heap.size w w7 := hc6.trans (hb7.mono hc6.size)
          go_wp2_with fail
          refine (unhide S2 _).mono ?_
          rintro e w8 ⟨rfl, hb8⟩
          have hc8 : Below w.heap.size w w8 := hc7.trans (hb8.mono hc7.size)
          go_wp2_with fail
          refine (unhide X1 _).mono ?_
          rintro e w9 ⟨rfl, hb9⟩
          have hc9 : Below w.heap.size w w9 := hc8.trans (hb9.mono hc8.size)
          go_wp2_with fail
          refine (unhide X2 _).mono ?_
          rintro e w10 ⟨rfl, hb10⟩
          have hc10 : Below w.heap.size w w10 := hc9.trans (hb10.mono hc9.size)
          go_wp2
          go_ret
          exact ⟨rfl, hc10⟩
        · clear ht
          obtain ⟨A, X, hA, hs1, hs2, hx1, hx2⟩ := texts t (by omega)
          have S1 := hide hs1
          have S2 := hide hs2
          have X1 := hide hx1
          have X2 := hide hx2
          clear hs1 hs2 hx1 hx2
          go_wp2_with fail
          refine (unhide S1 _).mono ?_
          rintro e w7 ⟨rfl, hb7⟩
          have hc7 : Below w.heap.size w w7 := hc6.trans (hb7.mono hc6.size)
          go_wp2_with fail
          refine (unhide S2 _).mono ?_
          rintro e w8 ⟨rfl, hb8⟩
          have hc8 : Below w.heap.size w w8 := hc7.trans (hb8.mono hc7.size)
          go_wp2_with fail
          refine (unhide X1 _).mono ?_
          rintro e w9 ⟨rfl, hb9⟩
          have hc9 : Below w.heap.size w w9 := hc8.trans (hb9.mono hc8.size)
          go_wp2_with fail
          refine (unhide X2 _).mono ?_
          rintro e w10 ⟨rfl, hb10⟩
          have hc10 : Below w.heap.size w w10 := hc9.trans (hb10.mono hc9.size)
          go_wp2
          go_ret
          exact ⟨rfl, hc10⟩
      · skip
        obtain ⟨V, D, hV, hv1, hv2, hd1, hd2⟩ := numbers x (by omega) (by omega)
        have V1 := hide hv1
        have V2 := hide hv2
        have D1 := hide hd1
        have D2 := hide hd2
        clear hv1 hv2 hd1 hd2
        go_wp2_with fail
        refine (unhide V1 _).mono ?_
        rintro e w2 ⟨rfl, hb2⟩
        have hc2 : Below w.heap.size w w2 := hb1.trans (hb2.mono hb1.size)
        go_wp2_with fail
        refine (unhide V2 _).mono ?_
        rintro e w3 ⟨rfl, hb3⟩
        have hc3 : Below w.heap.size w w3 := hc2.trans (hb3.mono hc2.size)
        go_wp2_with fail
        refine (unhide D1 _ (Joins.tab_stays g2 (unhide HT) hc3 (Nat.le_refl _))).mono ?_
        rintro e w4 ⟨rfl, hb4⟩
        have hc4 : Below w.heap.size w w4 := hc3.trans (hb4.mono hc3.size)
        go_wp2_with fail
        refine (unhide D2 _ (Joins.tab_stays g2 (unhide HT) hc4 (Nat.le_refl _))).mono ?_
        rintro e w5 ⟨rfl, hb5⟩
        have hc5 : Below w.heap.size w w5 := hc4.trans (hb5.mono hc4.size)
        have H10 := hide (drawHex_any a len cap (by omega) w5 (code_mono ((unhide HC).below hc5 (Nat.le_refl _)) hc5.size))
        go_wp2_with fail
        refine (unhide H10).mono ?_
        rintro e w6 ⟨⟨t, rfl, ht⟩, hb6⟩
        have hc6 : Below w.heap.size w w6 := hc5.trans (hb6.mono hc5.size)
        by_cases h3 : (300 : Int) < (t.size : Int)
        · clear ht
          obtain ⟨A, X, hA, hs1, hs2, hx1, hx2⟩ := texts ⟨#[97, 98, 99]⟩ (by decide)
          have S1 := hide hs1
          have S2 := hide hs2
          have X1 := hide hx1
          have X2 := hide hx2
          clear hs1 hs2 hx1 hx2
          go_wp2_with fail
          refine (unhide S1 _).mono ?_
          rintro e w7 ⟨rfl, hb7⟩
          have hc7 : Below w.heap.size w w7 := hc6.trans (hb7.mono hc6.size)
          go_wp2_with fail
          refine (unhide S2 _).mono ?_
          rintro e w8 ⟨rfl, hb8⟩
          have hc8 : Below w.heap.size w w8 := hc7.trans (hb8.mono hc7.size)
          go_wp2_with fail
          refine (unhide X1 _).mono ?_
          rintro e w9 ⟨rfl, hb9⟩
          have hc9 : Below w.heap.size w w9 := hc8.trans (hb9.mono hc8.size)
          go_wp2_with fail
          refine (unhide X2 _).mono ?_
          rintro e w10 ⟨rfl, hb10⟩
          have hc10 : Below w.heap.size w w10 := hc9.trans (hb10.mono hc9.size)
          go_wp2
          go_ret
          exact ⟨rfl, hc10⟩
        · clear ht
          obtain ⟨A, X, hA, hs1, hs2, hx1, hx2⟩ := texts t (by omega)
          have S1 := hide hs1
          have S2 := hide hs2
          have X1 := hide hx1
          have X2 := hide hx2
          clear hs1 hs2 hx1 hx2
          go_wp2_with fail
          refine (unhide S1 _).mono ?_
          rintro e w7 ⟨rfl, hb7⟩
          have hc7 : Below w.heap.size w w7 := hc6.trans (hb7.mono hc6.size)
          go_wp2_with fail
          refine (unhide S2 _).mono ?_
          rintro e w8 ⟨rfl, hb8⟩
          have hc8 : Below w.heap.size w w8 := hc7.trans (hb8.mono hc7.size)
          go_wp2_with fail
          refine (unhide X1 _).mono ?_
          rintro e w9 ⟨rfl, hb9⟩
          have hc9 : Below w.heap.size w w9 := hc8.trans (hb9.mono hc8.size)
          go_wp2_with fail
          refine (unhide X2 _).mono ?_
          rintro e w10 ⟨rfl, hb10⟩
          have hc10 : Below w.heap.size w w10 := hc9.trans (hb10.mono hc9.size)
          go_wp2
          go_ret
          exact ⟨rfl, hc10⟩

theorem contract (H : Type) (enc : TypeId × Value → H) (W : World) (base : Nat) (args : Array Value) (ds gs : List (DataW H)) (before : List MemPlace)
    (hval : ∀ (j : Nat) t v, Tryd.f3.params[j]? = some t → args[j]? = some v → Value.okWide Tryd.prog W .any base t v)
    (hW : DataW.Whole enc Tryd.prog Tryd.f3.params.toList Rows.fnNumbersSpec.vars false W args.toList ds gs before) (hL : laidMet Tryd.prog Rows.fnNumbersRow.laid W) :
    Calls Tryd.prog 3 args W fun e W' => ∃ v, e = .returned v ∧ Rows.fnNumbersSpec.post enc Tryd.prog Tryd.f3 false true false false W args v W' := by
  have hW' := hW
  obtain ⟨p, q, hA0, hV, rfl, hfz, hnd⟩ := hW
  have hA : DataW.TrodAll enc Tryd.prog W 0 (fun _ => true) true Tryd.f3.params.toList args.toList ds p := hA0
  rw [Tryd.params3] at hA hval
  obtain ⟨v0, vs0, d0, ds0, p0, q0, hargs, rfl, rfl, h0, r0⟩ := trodAll_cons hA
  obtain ⟨rfl, rfl, rfl⟩ := trodAll_nil r0
  obtain rfl : args = #[v0] := by cases args; simp_all
  obtain ⟨rfl, rfl⟩ := trodVars_none hV
  obtain ⟨a0, len0, cap0, rfl⟩ := okWide_slice Tryd.underlying22 (hval 0 22 v0 rfl rfl)
  have k0 := h0
  have lt0 : ∀ x ∈ p0, x.block < W.heap.size := by obtain ⟨m, hm⟩ := k0; exact DataW.trod_lt m _ _ _ hm
  obtain ⟨z0, w0⟩ : ∃ zs, IsRow .u8 W a0 len0 cap0 zs := by
    obtain ⟨fuel, hf⟩ := h0
    rcases open_ints Tryd.underlying22 Tryd.underlying5 (by kernel_rfl) hf with ⟨hcs, _⟩ | ⟨x, l, c, zs, hcs, _, hl, hm, hz, _, hcell, hwz⟩
    · simp [Value.cells] at hcs
      obtain ⟨rfl, rfl, rfl⟩ := hcs
      exact ⟨[], .inl ⟨rfl, rfl, rfl, rfl⟩⟩
    · simp [Value.cells] at hcs
      obtain ⟨rfl, rfl, rfl⟩ := hcs
      exact ⟨zs, .inr ⟨_, rfl, hl, hm, by simpa using hz, hcell, hwz⟩⟩
  clear hA0
  refine (walk a0 len0 cap0 z0 W w0 hL).mono fun e W' ⟨he, bel⟩ => ?_
  subst he
  exact ⟨_, rfl, _, _, _, [], _, [], hW', trodAll_mk1 (shut_bool Tryd.underlying4 _), (trodAll_cons_mk (Below.trod laidOut (by kernel_rfl) (of_decide_eq_true (by kernel_rfl)) k0 bel lt0) trodAll_mk0), rfl, bel.frame _, fun h => by cases h⟩

def laidCells (zs : List Int) (k : IntKind) : Obj → Obj
  | .cells _ t frozen => .cells (zs.map fun z => Value.int k z).toArray t frozen
  | x => x
theorem laid_met (os : Os) : laidMet Tryd.prog Rows.fnNumbersRow.laid (({ World.holding Tryd.prog os ⟨#[], #[], []⟩ with heap := ((((World.holding Tryd.prog os ⟨#[], #[], []⟩).heap.modify 1 (laidCells zs0 .u8)).modify 2 (laidCells zs1 .u8)).modify 0 (laidCells zs2 .u64)) } : World).forCall (fun _ _ => 0) ⟨#[], #[.slice none 0 0], []⟩).memory :=
  laidMet_of_run' 8 (by kernel_rfl) (by kernel_rfl)
theorem reads (os : Os) {H : Type} (enc : TypeId × Value → H) : ∃ places, DataW.whole enc Tryd.prog (({ World.holding Tryd.prog os ⟨#[], #[], []⟩ with heap := ((((World.holding Tryd.prog os ⟨#[], #[], []⟩).heap.modify 1 (laidCells zs0 .u8)).modify 2 (laidCells zs1 .u8)).modify 0 (laidCells zs2 .u64)) } : World).forCall (fun _ _ => 0) ⟨#[], #[.slice none 0 0], []⟩).memory Tryd.f3.params.toList Rows.fnNumbersSpec.vars false (#[.slice none 0 0] : Array Value).toList 8 = some ([.nil], [], places) :=
  ⟨[], by kernel_rfl⟩

set_option maxRecDepth 100000 in
theorem lifted (os : Os) (started : os.Started) (H : Type) (enc : TypeId × Value → H) (F : Stop.Interp) :
    ReturnsInHanded {} Tryd.checked os 3 .any ((OpenSpec.ofChange Rows.fnNumbersSpec).preRow enc Tryd.prog Tryd.f3 Rows.fnNumbersRow.domain false Rows.fnNumbersRow.laid) (((OpenSpec.ofChange Rows.fnNumbersSpec).at F).post enc Tryd.prog Tryd.f3 false true false false) := by
  obtain ⟨places, hx⟩ := reads os enc
  refine returnsInHanded_of_row (C := Tryd.checked) (s := OpenSpec.ofChange Rows.fnNumbersSpec) own started (by kernel_rfl) Tryd.func3
    (witness_row_at (enc := enc) (C := Tryd.checked) false ({ World.holding Tryd.prog os ⟨#[], #[], []⟩ with heap := ((((World.holding Tryd.prog os ⟨#[], #[], []⟩).heap.modify 1 (laidCells zs0 .u8)).modify 2 (laidCells zs1 .u8)).modify 0 (laidCells zs2 .u64)) } : World) #[.slice none 0 0] rfl (by kernel_rfl) (by kernel_rfl) (by kernel_rfl)
      (OpenSpec.preRow_of_cond 8 hx (by kernel_rfl) (fun k hk => by cases hk) (by kernel_rfl) (laid_met os))) ?_
  intro W base args ds gs before hval hW _ _ _ hL _ _
  exact contract H enc W base args ds gs before hval hW (plainLaid hL)

theorem said : Rows.FnNumbersSaid :=
  OpenClaim.holds_of_cond 3 Tryd.f3 rfl rfl rfl rfl rfl rfl rfl ⟨rfl, rfl, rfl, rfl, rfl⟩ rfl rfl rfl rfl rfl (by kernel_rfl) Tryd.func3 (by kernel_rfl)
    (of_decide_eq_true (by kernel_rfl)) (by unfold Func.isWrapper; first | (rw [if_pos (by decide +kernel)]; kernel_rfl) | (rw [if_neg (by decide +kernel)]; exact ⟨rfl, rfl⟩))
    (fun os started H enc _ F => by rw [OpenClaim.pre_eq_preRow]; exact lifted os started H enc F)

theorem plain (f : FuncId) (fn : Func) (hf : Tryd.pinned.checked.prog.funcNamed "loop.example/g00105/laws.FnNumbers" = some f) (hfn : Tryd.pinned.checked.prog.funcs[f]? = some fn) :
    false = Tryd.pinned.checked.prog.looks [] ∧ ∀ (j : Nat) t, fn.params[j]? = some t → Tryd.pinned.checked.prog.wantsStandIn t = false := by
  obtain rfl : f = 3 := Option.some.inj ((show Tryd.prog.funcNamed "loop.example/g00105/laws.FnNumbers" = some 3 by kernel_rfl).symm.trans hf) |>.symm
  obtain rfl : fn = Tryd.f3 := (Option.some.inj (Tryd.func3.symm.trans hfn)).symm
  refine ⟨by kernel_rfl, fun j t ht => ?_⟩
  rw [Tryd.params3] at ht
  obtain rfl : t = 22 := by simpa using Array.mem_of_getElem? ht
  exact (show Tryd.prog.wantsStandIn 22 = false by kernel_rfl)

theorem card : Rows.FnNumbersCardSaid :=
  Claim7.holds_tied_plain_at .later [] _ _ _ _ said (fun _ h => by cases h) (by kernel_rfl) (fun _ h => by cases h) fnNumbers_row_tie rfl ⟨rfl, rfl⟩ (by kernel_rfl) rfl plain (by kernel_rfl)
end Go.Proofs.YtbcefikjacjplaaDoor.fnNumbers
namespace Go.Proofs.YtbcefikjacjplaaDoor
theorem fnNumbers_holds : Rows.FnNumbersCardSaid := fnNumbers.card
#print axioms fnNumbers_holds
end Go.Proofs.YtbcefikjacjplaaDoor
