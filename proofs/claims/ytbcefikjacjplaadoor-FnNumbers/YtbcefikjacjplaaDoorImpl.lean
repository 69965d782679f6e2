/-
  The contracts of chapter 1's functions of the program at this seat: VarText, ReadVar, ShortText, ReadShort, Hex, Unhex, Decimal, ReadDecimal.
-/
import Derived.Test.YtbcefikjacjplaaDoorMath
import Derived.Test.YtbcefikjacjplaaDoorShelf
import Derived.Deep.RegionHeld3
import Derived.Deep.AppendLies
import Derived.Lib.AppendIntMem
import Derived.Lib.SmallJoins
import Derived.Lib.LaidTab
import Derived.WalkMore
namespace Go.Proofs.YtbcefikjacjplaaDoor
open Go.RowKit

theorem info5 : (Tryd.prog.info? 5).map (fun i => (i.zero, i.size, i.bytes)) = some (some (.int .u8 0), 1, 1) := by kernel_rfl

theorem implVar_no (n : Int) (hn : n < 0 ∨ 1000000000 < n) (w : World) :
    Calls Tryd.prog 6 #[.int .i64 n] w fun e w' => e = .returned (.tuple #[.string ⟨#[]⟩, .bool false]) ∧ w' = w := by
  by_cases h : n < 0
  · go_enter Tryd.func6, Tryd.ntmps6
    go_wp2
    go_ret2
    exact ⟨rfl, rfl⟩
  · have h2 : 1000000000 < n := by omega
    go_enter Tryd.func6, Tryd.ntmps6
    go_wp2
    go_ret2
    exact ⟨rfl, rfl⟩

set_option maxHeartbeats 400000 in
theorem implVar_yes (n : Nat) (hn : n ≤ 1000000000) (w : World) :
    Calls Tryd.prog 6 #[.int .i64 n] w fun e w' => e = .returned (.tuple #[.string ⟨(varB 4 n).toArray⟩, .bool true]) ∧ Below w.heap.size w w' := by
  obtain ⟨i0, hi, hz0, hz1, hz2⟩ := info_parts info5
  have hmk : ∀ w : World, (Instr.makeSlice 22 (.int .i64 0) (.int .i64 5)).run Tryd.prog w = .ok (.slice (some ⟨w.heap.size, 0, none⟩) 0 5) (w.alloc (.cells #[.int .u8 0, .int .u8 0, .int .u8 0, .int .u8 0, .int .u8 0] 5)) := fun _ => by kernel_rfl
  go_enter Tryd.func6, Tryd.ntmps6
  go_wp2_with fail
  go_loopw [0, 4] (fun a out wr => ∃ (m f : Nat) (pre : List UInt8), a = .int .i64 m ∧ m < 128 ^ (f + 1) ∧ pre.length + f = 4 ∧ pre ++ varB f m = varB 4 n ∧ wr.ownsRow w.heap.size 5 1 out pre.length (bytesV pre) ∧ Below w.heap.size w wr)
    (fun a _ _ => (intOf a).toNat)
  case atStart =>
    refine ⟨n, 4, [], rfl, by omega, rfl, rfl, ?_, (Below.refl _ _).alloc (Nat.le_refl _) _⟩
    exact World.ownsRow_made w _ 5 (Nat.le_refl _) (by decide) rfl
  case round =>
    obtain ⟨m, f, pre, rfl, hm, hl, hv, hown, hb⟩ := hrel
    have hml : m < 34359738368 := Nat.lt_of_lt_of_le hm (by
      have : f ≤ 4 := by omega
      exact Nat.le_trans (Nat.pow_le_pow_right (by omega) (show f + 1 ≤ 5 by omega)) (by decide))
    have hbs := hb.size
    by_cases hlt : 127 < m
    · go_wp2_with (at_builtin; refine wpList_append_own _ rfl _ _ 22 rfl w.heap.size 5 i0 (.int .u8 0) 1 1 Tryd.underlying22 hi hz0 hz1 hz2 rfl (by decide) _ _ _ rfl (hown.alloc _) ⟨wr.heap.size, 0, none⟩ 1 1 [.int .u8 ((m : Int) % 128 + 128)] rfl rfl (cell_one_new _ _ _) (one_byte _) ?c3 ?c4 ?c5 ?_)
      case c3 => unfold maxLen; omega
      case c4 => omega
      case c5 => simp; omega
      intro v' w1 hown' hgrow _
      have hb1 := below_append hb (Nat.le_refl _) hown hgrow
      have hown1 := own_snoc (c := UInt8.ofNat (m % 128 + 128)) (by rw [toNat_ofNat_small _ (by omega)]; omega) hown'
      clear hown' hgrow hown hb
      go_wp2
      go_roundw
      case rel =>
        obtain ⟨f', rfl⟩ : ∃ f', f = f' + 1 := ⟨f - 1, by
          rcases f with _ | f
          · simp at hm; omega
          · rfl⟩
        refine ⟨m / 128, f', pre ++ [UInt8.ofNat (m % 128 + 128)], by go_num, ?_, by simp; omega, ?_, hown1, hb1⟩
        · rw [Nat.div_lt_iff_lt_mul (by omega)]; rw [Nat.pow_succ] at hm; exact hm
        · rw [← hv, varB_more f' m hlt]; simp
      case measure => simp [intOf]; omega
    · go_wp2_with (at_builtin; refine wpList_append_own _ rfl _ _ 22 rfl w.heap.size 5 i0 (.int .u8 0) 1 1 Tryd.underlying22 hi hz0 hz1 hz2 rfl (by decide) _ _ _ rfl (hown.alloc _) ⟨wr.heap.size, 0, none⟩ 1 1 [.int .u8 (m : Int)] rfl rfl (cell_one_new _ _ _) (one_byte _) ?d3 ?d4 ?d5 ?_)
      case d3 => unfold maxLen; omega
      case d4 => omega
      case d5 => simp; omega
      intro v' w1 hown' hgrow _
      have hb1 := below_append hb (Nat.le_refl _) hown hgrow
      have hown1 := own_snoc (c := UInt8.ofNat m) (by rw [toNat_ofNat_small _ (by omega)]) hown'
      have hcv := convert_own w1 22 9 5 w.heap.size v' _ Tryd.underlying22 Tryd.underlying5 Tryd.underlying9 hown1
      rw [← varB_last f m (by omega), hv] at hcv
      clear hown' hgrow hown hb hown1
      go_wp2
      go_ret2
      exact ⟨rfl, hb1⟩

theorem implVar_int (x : Int) (h0 : 0 ≤ x) (h1 : x ≤ 1000000000) (w : World) :
    Calls Tryd.prog 6 #[.int .i64 x] w fun e w' => e = .returned (.tuple #[.string ⟨(varB 4 x.toNat).toArray⟩, .bool true]) ∧ Below w.heap.size w w' := by
  obtain ⟨n, rfl⟩ := Int.eq_ofNat_of_zero_le h0
  exact implVar_yes n (by omega) w

theorem onlyForm_great (x : Int) (t : ByteArray) (b : Int) (h : 1000000000 < x) (w : World) :
    Calls Tryd.prog 17 #[.int .i64 x, .string t, .int .i64 b] w fun e w' => e = .returned (.tuple #[.int .i64 0, .int .i64 0, .bool false]) ∧ w' = w := by
  go_enter Tryd.func17, Tryd.ntmps17
  go_wp2_with fail
  refine (implVar_no x (Or.inr h) _).mono ?_
  rintro e w' ⟨rfl, rfl⟩
  go_wp2
  go_ret3
  exact ⟨rfl, rfl⟩

theorem onlyForm_yes (x : Int) (t : ByteArray) (b : Int) (h0 : 0 ≤ x) (h1 : x ≤ 1000000000) (hq : (t.toList == varB 4 x.toNat) = true) (w : World) :
    Calls Tryd.prog 17 #[.int .i64 x, .string t, .int .i64 b] w fun e w' => e = .returned (.tuple #[.int .i64 x, .int .i64 b, .bool true]) ∧ Below w.heap.size w w' := by
  go_enter Tryd.func17, Tryd.ntmps17
  go_wp2_with fail
  refine (implVar_int x h0 h1 _).mono ?_
  rintro e w1 ⟨rfl, hb1⟩
  go_wp2
  go_ret3
  exact ⟨rfl, hb1⟩

theorem onlyForm_no (x : Int) (t : ByteArray) (b : Int) (h0 : 0 ≤ x) (h1 : x ≤ 1000000000) (hq : (t.toList == varB 4 x.toNat) = false) (w : World) :
    Calls Tryd.prog 17 #[.int .i64 x, .string t, .int .i64 b] w fun e w' => e = .returned (.tuple #[.int .i64 0, .int .i64 0, .bool false]) ∧ Below w.heap.size w w' := by
  go_enter Tryd.func17, Tryd.ntmps17
  go_wp2_with fail
  refine (implVar_int x h0 h1 _).mono ?_
  rintro e w1 ⟨rfl, hb1⟩
  go_wp2
  go_ret3
  exact ⟨rfl, hb1⟩

theorem implRead_out (s : ByteArray) (a : Int) (ha : a < 0 ∨ (s.size : Int) < a) (w : World) :
    Calls Tryd.prog 7 #[.string s, .int .i64 a] w fun e w' => e = .returned (rvOut none) ∧ w' = w := by
  by_cases h : a < 0
  · go_enter Tryd.func7, Tryd.ntmps7
    go_wp2
    go_ret3
    exact ⟨rfl, rfl⟩
  · have h2 : (s.size : Int) < a := by omega
    go_enter Tryd.func7, Tryd.ntmps7
    go_wp2
    go_ret3
    exact ⟨rfl, rfl⟩

set_option maxRecDepth 100000 in
set_option maxHeartbeats 800000 in
theorem implRead_in (s : ByteArray) (a : Nat) (hs : s.size ≤ 140737488355328) (ha : a ≤ s.size) (w : World) :
    Calls Tryd.prog 7 #[.string s, .int .i64 a] w fun e w' => e = .returned (rvOut (readV s a 5 a 0 1)) ∧ Below w.heap.size w w' := by
  go_enter Tryd.func7, Tryd.ntmps7
  go_wp2_with fail
  go_loop [7, 8, 9] (fun a7 a8 a9 => ∃ (n sc i f : Nat), a7 = .int .i64 n ∧ a8 = .int .i64 sc ∧ a9 = .int .i64 i ∧ a ≤ i ∧ i + f = a + 5 ∧ n < sc ∧ sc * 128 ^ f = 34359738368 ∧ readV s a f i n sc = readV s a 5 a 0 1)
    (fun _ _ a9 => a + 5 - (intOf a9).toNat)
  case atStart => exact ⟨0, 1, a, 5, rfl, rfl, rfl, Nat.le_refl _, rfl, by omega, by decide, rfl⟩
  case round =>
    obtain ⟨n, sc, i, f, rfl, rfl, rfl, hai, hif, hn, hw, hv⟩ := hrel
    have HV : Hid (readV s a f i n sc = readV s a 5 a 0 1) := hv
    clear hv
    by_cases hlt : i < s.size
    · by_cases hf : i < a + 5
      · obtain ⟨f, rfl⟩ : ∃ f', f = f' + 1 := ⟨f - 1, by omega⟩
        have hsc := weight_le hw
        have hb := byteAt_lt s i
        have he := byteAt_eq hlt
        have hp1 : byteAt s i % 128 * sc ≤ 127 * sc := Nat.mul_le_mul_right sc (by omega)
        have HW : Hid (sc * 128 ^ (f + 1) = 34359738368) := hw
        have hB : ((s[i]'hlt).toNat : Int) ≤ 255 := by omega
        have hp2 : (((s[i]'hlt).toNat : Int) % 128 * (sc : Int)) ≤ 127 * (sc : Int) := by rw [← he]; exact_mod_cast hp1
        have hp3 : 0 ≤ (((s[i]'hlt).toNat : Int) % 128 * (sc : Int)) := Int.mul_nonneg (by omega) (by omega)
        have HE : Hid ((((s[i]'hlt).toNat : Int) % 128 * (sc : Int)) = ((byteAt s i % 128 * sc : Nat) : Int)) := by rw [← he]; exact_mod_cast rfl
        have HB : Hid (byteAt s i = (s[i]'hlt).toNat) := he
        have HX : Hid (((n : Int) + (((s[i]'hlt).toNat : Int) % 128 * (sc : Int))).toNat = n + byteAt s i % 128 * sc) := by
          show _ = _
          rw [HE.out]; omega
        clear hw he hb hp1
        by_cases hb7 : ((s[i]'hlt).toNat : Int) < 128
        · have hsl : ∀ u, (Instr.slice 9 (.string s) (some (.int .i64 (a : Int))) (some (.int .i64 ((i : Int) + 1))) none).run Tryd.prog u = .ok (.string (s.extract a (i + 1))) u := fun u => by
              have h := run_slice_string (P := Tryd.prog) u 9 s .i64 .i64 (a : Int) ((i : Int) + 1) Tryd.underlying9 (by omega) (by omega) (by omega)
              have e : ((i : Int) + 1).toNat = i + 1 := by omega
              rw [e] at h
              simpa using h
          by_cases hg : (1000000000 : Int) < (n : Int) + (((s[i]'hlt).toNat : Int) % 128 * (sc : Int))
          · go_wp2_with fail
            refine (onlyForm_great _ _ _ hg _).mono ?_
            rintro e w' ⟨rfl, rfl⟩
            go_wp2
            go_ret3
            refine ⟨?_, Below.refl _ _⟩
            rw [← HV.out, readV_great hlt (by rw [HB.out]; omega) (by rw [← Int.ofNat_lt, Int.natCast_add, ← HE.out]; omega)]
            rfl
          · cases hq : ((s.extract a (i + 1)).toList == varB 4 ((n : Int) + (((s[i]'hlt).toNat : Int) % 128 * (sc : Int))).toNat)
            · have HQ : Hid (((s.extract a (i + 1)).toList == varB 4 ((n : Int) + (((s[i]'hlt).toNat : Int) % 128 * (sc : Int))).toNat) = false) := hq
              clear hq
              go_wp2_with fail
              refine (onlyForm_no _ _ _ (by omega) (by omega) HQ.out _).mono ?_
              rintro e w1 ⟨rfl, hb1⟩
              go_wp2
              go_ret3
              refine ⟨?_, hb1⟩
              rw [← HV.out, readV_other hlt (by rw [HB.out]; omega) (by rw [← Int.ofNat_lt, Int.natCast_add, ← HE.out]; omega) ?_]
              · rfl
              · intro he
                have hq := HQ.out
                rw [HX.out, he] at hq
                simp at hq
            · have HQ : Hid (((s.extract a (i + 1)).toList == varB 4 ((n : Int) + (((s[i]'hlt).toNat : Int) % 128 * (sc : Int))).toNat) = true) := hq
              clear hq
              go_wp2_with fail
              refine (onlyForm_yes _ _ _ (by omega) (by omega) HQ.out _).mono ?_
              rintro e w1 ⟨rfl, hb1⟩
              go_wp2
              go_ret3
              refine ⟨?_, hb1⟩
              rw [← HV.out, readV_yes hlt (by rw [HB.out]; omega) (by rw [← Int.ofNat_lt, Int.natCast_add, ← HE.out]; omega) (by rw [← HX.out]; exact (eq_of_beq HQ.out).symm)]
              show Ending.returned (.tuple #[.int .i64 _, .int .i64 _, .bool true]) = Ending.returned (.tuple #[.int .i64 _, .int .i64 _, .bool true])
              rw [Int.natCast_add, ← HE.out]
              rfl
        · go_wp2
          go_round
          case rel =>
            refine ⟨n + byteAt s i % 128 * sc, sc * 128, i + 1, f, ?_, by go_num, by go_num, by omega, by omega, ?_, weight_step HW.out, ?_⟩
            · rw [HE.out]; go_num
            · have := HE.out; omega
            · rw [← HV.out, readV_more hlt (by rw [HB.out]; omega)]
          case measure => simp [intOf]; omega
      · obtain rfl : f = 0 := by omega
        go_wp2
        go_ret3
        refine ⟨?_, Below.refl _ _⟩
        rw [← HV.out]
        rfl
    · go_wp2
      go_ret3
      refine ⟨?_, Below.refl _ _⟩
      rw [← HV.out, readV_end _ _ _ _ _ _ hlt]
      rfl

theorem implRead_any (s : ByteArray) (a : Int) (hs : s.size ≤ 140737488355328) (w : World) :
    Calls Tryd.prog 7 #[.string s, .int .i64 a] w fun e w' => e = .returned (rvOut (readA s a)) ∧ Below w.heap.size w w' := by
  by_cases h : 0 ≤ a ∧ a ≤ (s.size : Int)
  · obtain ⟨n, rfl⟩ := Int.eq_ofNat_of_zero_le h.1
    rw [readA, if_pos h, Int.toNat_natCast]
    exact implRead_in s n hs (by omega) w
  · rw [readA, if_neg h]
    refine (implRead_out s a (by omega) w).mono ?_
    rintro e w' ⟨he, rfl⟩
    exact ⟨he, Below.refl _ _⟩

theorem implShort_no (s : ByteArray) (h : (8000 : Int) < (s.size : Int)) (w : World) :
    Calls Tryd.prog 11 #[.string s] w fun e w' => e = .returned (.tuple #[.string ⟨#[]⟩, .bool false]) ∧ w' = w := by
  go_enter Tryd.func11, Tryd.ntmps11
  go_wp2
  go_ret2
  exact ⟨rfl, rfl⟩

theorem implShort_yes (s : ByteArray) (h : s.size ≤ 8000) (w : World) :
    Calls Tryd.prog 11 #[.string s] w fun e w' => e = .returned (.tuple #[.string (⟨(varB 4 s.size).toArray⟩ ++ s), .bool true]) ∧ Below w.heap.size w w' := by
  have hl := varB_length 4 s.size
  go_enter Tryd.func11, Tryd.ntmps11
  go_wp2_with fail
  refine (implVar_yes s.size (by omega) _).mono ?_
  rintro e w1 ⟨rfl, hb1⟩
  go_wp2
  go_ret2
  exact ⟨rfl, hb1⟩

theorem clone_any (s : ByteArray) (hs : s.size ≤ 140737488355328) (w : World) :
    Calls Tryd.prog 24 #[.string s] w fun e w' => e = .returned (.string s) ∧ Below w.heap.size w w' := by
  go_enter Tryd.func24, Tryd.ntmps24
  go_wp2_with fail
  refine (Tryd.stringslite_Clone s _ (by omega)).mono ?_
  rintro e w1 ⟨rfl, hb1⟩
  go_wp2
  go_ret
  exact ⟨rfl, hb1⟩

set_option maxRecDepth 100000 in
theorem implRS_any (s : ByteArray) (a : Int) (hs : s.size ≤ 140737488355328) (w : World) :
    Calls Tryd.prog 12 #[.string s, .int .i64 a] w fun e w' => e = .returned (rsOut s (readA s a)) ∧ Below w.heap.size w w' := by
  have h9 := implRead_any s a hs
  have hbd : ∀ x y, readA s a = some (x, y) → x ≤ 1000000000 ∧ y ≤ s.size := fun x y h => readA_bound h
  generalize readA s a = r at h9 hbd
  cases r with
  | none =>
    simp only [rvOut] at h9
    have H := hide h9
    clear h9 hbd
    go_enter Tryd.func12, Tryd.ntmps12
    go_wp2_with fail
    refine (unhide H _).mono ?_
    rintro e w1 ⟨rfl, hb1⟩
    go_wp2
    go_ret3
    exact ⟨rfl, hb1⟩
  | some p =>
    obtain ⟨x, y⟩ := p
    obtain ⟨hx, hy⟩ := hbd x y rfl
    simp only [rvOut] at h9
    have H := hide h9
    clear h9 hbd
    by_cases h8 : (8000 : Int) < (x : Int)
    · rw [show rsOut s (some (x, y)) = .tuple #[.string ⟨#[]⟩, .int .i64 0, .bool false] from if_neg (by simp only; omega)]
      go_enter Tryd.func12, Tryd.ntmps12
      go_wp2_with fail
      refine (unhide H _).mono ?_
      rintro e w1 ⟨rfl, hb1⟩
      go_wp2
      go_ret3
      exact ⟨rfl, hb1⟩
    · by_cases hl : (s.size : Int) - (y : Int) < (x : Int)
      · rw [show rsOut s (some (x, y)) = .tuple #[.string ⟨#[]⟩, .int .i64 0, .bool false] from if_neg (by simp only; omega)]
        go_enter Tryd.func12, Tryd.ntmps12
        go_wp2_with fail
        refine (unhide H _).mono ?_
        rintro e w1 ⟨rfl, hb1⟩
        go_wp2
        go_ret3
        exact ⟨rfl, hb1⟩
      · rw [show rsOut s (some (x, y)) = .tuple #[.string (s.extract y (y + x)), .int .i64 ((y : Int) + (x : Int)), .bool true] from if_pos (by simp only; omega)]
        have hcl : (s.extract y (y + x)).size ≤ 140737488355328 := by simp [ByteArray.size_extract]; omega
        have hsl : ∀ u, (Instr.slice 9 (.string s) (some (.int .i64 (y : Int))) (some (.int .i64 ((y : Int) + (x : Int)))) none).run Tryd.prog u = .ok (.string (s.extract y (y + x))) u := fun u => by
          have h := run_slice_string (P := Tryd.prog) u 9 s .i64 .i64 (y : Int) ((y : Int) + (x : Int)) Tryd.underlying9 (by omega) (by omega) (by omega)
          have e : ((y : Int) + (x : Int)).toNat = y + x := by omega
          rw [e] at h
          simpa using h
        go_enter Tryd.func12, Tryd.ntmps12
        go_wp2_with fail
        refine (unhide H _).mono ?_
        rintro e w1 ⟨rfl, hb1⟩
        go_wp2_with fail
        refine (clone_any _ hcl _).mono ?_
        rintro e w2 ⟨rfl, hb2⟩
        go_wp2
        go_ret3
        exact ⟨rfl, hb1.trans (hb2.mono hb1.size)⟩

theorem implHex_no (s : ByteArray) (h : (8000 : Int) < (s.size : Int)) (w : World) :
    Calls Tryd.prog 13 #[.string s] w fun e w' => e = .returned (.tuple #[.string ⟨#[]⟩, .bool false]) ∧ w' = w := by
  go_enter Tryd.func13, Tryd.ntmps13
  go_wp2
  go_ret2
  exact ⟨rfl, rfl⟩

/-- The figures' own text, at a figure. -/
theorem figures_at (x : Int) (h0 : 0 ≤ x) (h1 : x < 16) (w : World) :
    (Instr.index 9 (.string ⟨#[48, 49, 50, 51, 52, 53, 54, 55, 56, 57, 97, 98, 99, 100, 101, 102]⟩) (.int .u8 x)).run Tryd.prog w = .ok (.int .u8 (figI x)) w := by
  obtain ⟨n, rfl⟩ := Int.eq_ofNat_of_zero_le h0
  have hn : n < 16 := by omega
  have hc : n = 0 ∨ n = 1 ∨ n = 2 ∨ n = 3 ∨ n = 4 ∨ n = 5 ∨ n = 6 ∨ n = 7 ∨ n = 8 ∨ n = 9 ∨ n = 10 ∨ n = 11 ∨ n = 12 ∨ n = 13 ∨ n = 14 ∨ n = 15 := by omega
  rcases hc with rfl | rfl | rfl | rfl | rfl | rfl | rfl | rfl | rfl | rfl | rfl | rfl | rfl | rfl | rfl | rfl <;> (show _ = _; kernel_rfl)

set_option maxRecDepth 100000 in
set_option maxHeartbeats 1000000 in
theorem implHex_yes (s : ByteArray) (h : s.size ≤ 8000) (w : World) :
    Calls Tryd.prog 13 #[.string s] w fun e w' => e = .returned (.tuple #[.string ⟨(hexB s.data.toList).toArray⟩, .bool true]) ∧ Below w.heap.size w w' := by
  obtain ⟨i0, hi, hz0, hz1, hz2⟩ := info_parts info5
  obtain ⟨M, hM⟩ : ∃ M, M = madeCells (Value.int .u8 0).cells ((2 * (s.size : Int)).toNat * i0.size) := ⟨_, rfl⟩
  have hMs : M.size = 2 * s.size * 1 := by rw [hM, size_madeCells, hz1]; simp; omega
  have hmk : ∀ W : World, (Instr.makeSlice 22 (.int .i64 0) (.int .i64 (2 * (s.size : Int)))).run Tryd.prog W = .ok (.slice (some ⟨W.heap.size, 0, none⟩) 0 (2 * s.size)) (W.alloc (.cells M 5)) := fun W => by
    have h := run_make (P := Tryd.prog) W 22 5 i0 (.int .u8 0) Tryd.underlying22 hi hz0 .i64 .i64 0 (2 * (s.size : Int)) (by omega) (by omega) (by rw [hz2]; omega) (by omega)
    rw [← hM] at h
    have e : (2 * (s.size : Int)).toNat = 2 * s.size := by omega
    rw [e] at h
    simpa using h
  clear hM
  have HM := hide hMs
  clear hMs
  go_enter Tryd.func13, Tryd.ntmps13
  go_wp2_with fail
  go_loopw [4, 5] (fun out i wr => ∃ k : Nat, i = .int .i64 k ∧ k ≤ s.size ∧ wr.ownsRow w.heap.size 5 1 out (hexB (s.data.toList.take k)).length (bytesV (hexB (s.data.toList.take k))) ∧ Below w.heap.size w wr)
    (fun _ i _ => s.size - (intOf i).toNat)
  case atStart =>
    refine ⟨0, rfl, Nat.zero_le _, ?_, (Below.refl _ _).alloc (Nat.le_refl _) _⟩
    exact World.ownsRow_made w M (2 * s.size) (Nat.le_refl _) (by unfold maxLen; omega) (unhide HM)
  case round =>
    obtain ⟨k, rfl, hk, hown, hb⟩ := hrel
    have hbs := hb.size
    by_cases hlt : k < s.size
    · have hB : ((s[k]'hlt).toNat : Int) ≤ 255 := by have := UInt8.toNat_lt (s[k]'hlt); omega
      have hlen : (hexB (s.data.toList.take k)).length ≤ 16000 := by
        rw [hexB_length]; have := List.length_take_le k s.data.toList; omega
      have hi1 : (0 : Int) ≤ (k : Int) := by omega
      have hi2 : (k : Int) < (s.size : Int) := by omega
      have hwD : IntKind.u8.wrap (((s[k]'hlt).toNat : Int) / 16) = ((s[k]'hlt).toNat : Int) / 16 := IntWalk.u8_in _ ⟨by omega, by omega⟩
      have hwM : ((s[k]'hlt).toNat : Int).tmod 16 = ((s[k]'hlt).toNat : Int) % 16 := Int.tmod_eq_emod_of_nonneg (by omega)
      have hf1 := figures_at (((s[k]'hlt).toNat : Int) / 16) (by omega) (by omega)
      have hf2 := figures_at (((s[k]'hlt).toNat : Int) % 16) (by omega) (by omega)
      go_wp2_with fail
      go_region_held3 (fun _ => True) (go_keep)
        (first
          | (refine step_append_lies _ (by rfl) _ _ _ (by rfl) w.heap.size 5 i0 _ 1 1 Tryd.underlying22 hi hz0 hz1 hz2 rfl (by omega) _ _ _ (by rfl) ((hown.alloc _).drew) ⟨wr.heap.size, 0, none⟩ 2 2 [.int .u8 (figI ((s[k].toNat : Int) / 16)), .int .u8 (figI ((s[k].toNat : Int) % 16))] (by rfl) (by rfl) (World.news_of_block (cs := #[.int .u8 (figI ((s[k].toNat : Int) / 16)), .int .u8 (figI ((s[k].toNat : Int) % 16))]) (t := 5) (fr := (0, 0)) (heap_alloc_new wr _)) (two_bytes _ _) (by omega) (by unfold maxLen; omega) (by omega) (by simp; omega) (wr.heap.size + 1) (by simp) ?_; intro gg cap w1 hown1 hgrow hat hlt1))
      all_goals
        have hb1 := below_append_drew hb (Nat.le_refl _) hown hgrow
        have hown2 := hex_step hlt hown1
        clear hown1 hgrow hown hb hat hlt1
        go_wp2
        go_roundw
        case rel => exact ⟨k + 1, by go_num, by omega, hown2, hb1⟩
        case measure => simp [intOf]; omega
    · obtain rfl : k = s.size := by omega
      have hcv := convert_own wr 22 9 5 w.heap.size u4 _ Tryd.underlying22 Tryd.underlying5 Tryd.underlying9 hown
      rw [List.take_of_length_le (by simp)] at hcv
      clear hown
      go_wp2
      go_ret2
      exact ⟨rfl, hb⟩

set_option maxRecDepth 100000 in
set_option maxHeartbeats 1000000 in
theorem figures16 (s : ByteArray) (hs : s.size ≤ 15) (w : World) :
    Calls Tryd.prog 18 #[.string s, .int .i64 16] w fun e w' => e = .returned (rfOut (rf16 s s.size 0 0)) ∧ w' = w := by
  go_enter Tryd.func18, Tryd.ntmps18
  go_wp2_with fail
  go_step3
  go_wp2_with fail
  go_step3
  go_wp2_with fail
  go_loop [6, 7, 8] (fun a6 a7 a8 => ∃ n i f : Nat, a6 = .int .i64 n ∧ a7 = .bool true ∧ a8 = .int .i64 i ∧ i + f = s.size ∧ n < 16 ^ i ∧ rf16 s f i n = rf16 s s.size 0 0)
    (fun _ _ a8 => s.size - (intOf a8).toNat)
  case atStart => exact ⟨0, 0, s.size, rfl, rfl, rfl, by omega, by simp, rfl⟩
  case round =>
    obtain ⟨n, i, f, rfl, rfl, rfl, hif, hn, hv⟩ := hrel
    have HV := hide hv
    clear hv
    by_cases hlt : i < s.size
    · obtain ⟨f, rfl⟩ : ∃ f', f = f' + 1 := ⟨f - 1, by omega⟩
      have hp := pow16_le (i := i) (by omega)
      have hB : ((s[i]'hlt).toNat : Int) ≤ 255 := by have := UInt8.toNat_lt (s[i]'hlt); omega
      have HB := hide (show (byteAt s i : Int) = ((s[i]'hlt).toNat : Int) by rw [byteAt_eq hlt])
      by_cases ha : 48 ≤ ((s[i]'hlt).toNat : Int) ∧ ((s[i]'hlt).toNat : Int) ≤ 57
      · have HE := hide (show valI (byteAt s i) = ((s[i]'hlt).toNat : Int) - 48 from by rw [unhide HB, valI, if_pos ha])
        obtain ⟨ha1, ha2⟩ := ha
        go_wp2
        go_round
        case rel =>
          refine ⟨n * 16 + (valI (byteAt s i)).toNat, i + 1, f, ?_, rfl, by go_num, by omega, ?_, ?_⟩
          · rw [unhide HE]; go_num
          · rw [unhide HE, Nat.pow_succ]; omega
          · rw [← unhide HV, rf16_yes (by rw [unhide HE]; omega)]
        case measure => simp [intOf]; omega
      · by_cases hc : 97 ≤ ((s[i]'hlt).toNat : Int) ∧ ((s[i]'hlt).toNat : Int) ≤ 102
        · have HE := hide (show valI (byteAt s i) = ((s[i]'hlt).toNat : Int) - 87 from by rw [unhide HB, valI, if_neg ha, if_pos hc])
          obtain ⟨hc1, hc2⟩ := hc
          go_wp2
          go_round
          case rel =>
            refine ⟨n * 16 + (valI (byteAt s i)).toNat, i + 1, f, ?_, rfl, by go_num, by omega, ?_, ?_⟩
            · rw [unhide HE]; go_num
            · rw [unhide HE, Nat.pow_succ]; omega
            · rw [← unhide HV, rf16_yes (by rw [unhide HE]; omega)]
          case measure => simp [intOf]; omega
        · have HE := hide (show valI (byteAt s i) = -1 from by rw [unhide HB, valI, if_neg ha, if_neg hc])
          go_wp2
          all_goals
            go_ret2
            rw [← unhide HV, rf16_no (by rw [unhide HE]; omega)]
            exact ⟨rfl, rfl⟩
    · obtain rfl : f = 0 := by omega
      go_wp2
      go_ret2
      rw [← unhide HV]
      exact ⟨rfl, rfl⟩

theorem implUnhex_no (s : ByteArray) (h : (16000 : Int) < (s.size : Int) ∨ (s.size : Int) % 2 ≠ 0) (hm : s.size ≤ 140737488355328) (w : World) :
    Calls Tryd.prog 14 #[.string s] w fun e w' => e = .returned (uhOut none) ∧ w' = w := by
  by_cases h2 : (s.size : Int) % 2 ≠ 0
  · have h3 : (((s.size : Int) % 2) != 0) = true := by rw [bne_iff_ne]; exact h2
    go_enter Tryd.func14, Tryd.ntmps14
    go_wp2
    go_ret2
    exact ⟨rfl, rfl⟩
  · have h3 : (((s.size : Int) % 2) != 0) = false := by rw [bne_eq_false_iff_eq]; omega
    have h1 : (16000 : Int) < (s.size : Int) := by omega
    go_enter Tryd.func14, Tryd.ntmps14
    go_wp2
    go_ret2
    exact ⟨rfl, rfl⟩

set_option maxRecDepth 100000 in
set_option maxHeartbeats 1000000 in
theorem implUnhex_yes (s : ByteArray) (h : s.size ≤ 16000) (h2 : s.size % 2 = 0) (w : World) :
    Calls Tryd.prog 14 #[.string s] w fun e w' => e = .returned (uhOut (unhexF s (s.size / 2) 0 [])) ∧ Below w.heap.size w w' := by
  obtain ⟨i0, hi, hz0, hz1, hz2⟩ := info_parts info5
  have H2 := hide h2
  have h3 : (((s.size : Int) % 2) != 0) = false := by rw [bne_eq_false_iff_eq]; omega
  clear h2
  obtain ⟨M, hM⟩ : ∃ M, M = madeCells (Value.int .u8 0).cells (((s.size : Int) / 2).toNat * i0.size) := ⟨_, rfl⟩
  have hMs : M.size = s.size / 2 * 1 := by rw [hM, size_madeCells, hz1]; simp; omega
  have hmk : ∀ W : World, (Instr.makeSlice 22 (.int .i64 0) (.int .i64 ((s.size : Int) / 2))).run Tryd.prog W = .ok (.slice (some ⟨W.heap.size, 0, none⟩) 0 (s.size / 2)) (W.alloc (.cells M 5)) := fun W => by
    have h := run_make (P := Tryd.prog) W 22 5 i0 (.int .u8 0) Tryd.underlying22 hi hz0 .i64 .i64 0 ((s.size : Int) / 2) (by omega) (by omega) (by rw [hz2]; omega) (by omega)
    rw [← hM] at h
    have e : ((s.size : Int) / 2).toNat = s.size / 2 := by omega
    rw [e] at h
    simpa using h
  clear hM
  have HM := hide hMs
  clear hMs
  go_enter Tryd.func14, Tryd.ntmps14
  go_wp2_with fail
  go_loopw [4, 5] (fun out a5 wr => ∃ (i f : Nat) (acc : List UInt8), a5 = .int .i64 i ∧ i + 2 * f = s.size ∧ acc.length ≤ i ∧ unhexF s f i acc = unhexF s (s.size / 2) 0 [] ∧ wr.ownsRow w.heap.size 5 1 out acc.length (bytesV acc) ∧ Below w.heap.size w wr)
    (fun _ a5 _ => s.size - (intOf a5).toNat)
  case atStart =>
    refine ⟨0, s.size / 2, [], rfl, by have := unhide H2; omega, Nat.zero_le _, rfl, ?_, (Below.refl _ _).alloc (Nat.le_refl _) _⟩
    exact World.ownsRow_made w M (s.size / 2) (Nat.le_refl _) (by unfold maxLen; omega) (unhide HM)
  case round =>
    obtain ⟨i, f, acc, rfl, hif, hl, hv, hown, hb⟩ := hrel
    have HV := hide hv
    have HIF := hide hif
    clear hv
    have hbs := hb.size
    by_cases hlt : i < s.size
    · obtain ⟨f, rfl⟩ : ∃ f', f = f' + 1 := ⟨f - 1, by omega⟩
      have hlt2 : i + 1 < s.size := by omega
      clear hif
      have hd := valI_bd (byteAt s i : Int)
      have hd2 := valI_bd (byteAt s (i + 1) : Int)
      obtain ⟨hd, hd'⟩ := hd
      obtain ⟨hd2, hd2'⟩ := hd2
      have hsl : ∀ u, (Instr.slice 9 (.string s) (some (.int .i64 (i : Int))) (some (.int .i64 ((i : Int) + 2))) none).run Tryd.prog u = .ok (.string (s.extract i (i + 2))) u := fun u => by
        have h := run_slice_string (P := Tryd.prog) u 9 s .i64 .i64 (i : Int) ((i : Int) + 2) Tryd.underlying9 (by omega) (by omega) (by omega)
        have e : ((i : Int) + 2).toNat = i + 2 := by omega
        rw [e] at h
        simpa using h
      have hfg := figures16 (s.extract i (i + 2)) (by simp [ByteArray.size_extract]; omega)
      rw [rf16_two s i (by omega)] at hfg
      by_cases hno : valI (byteAt s i) < 0 ∨ valI (byteAt s (i + 1)) < 0
      · rw [if_pos hno] at hfg
        simp only [rfOut] at hfg
        have HF := hide hfg
        have HN := hide hno
        clear hfg hno
        go_wp2_with fail
        refine (unhide HF _).mono ?_
        rintro e w' ⟨rfl, rfl⟩
        go_wp2
        go_ret2
        rw [← unhide HV, unhexF_no (unhide HN)]
        exact ⟨rfl, hb⟩
      · rw [if_neg hno] at hfg
        simp only [rfOut] at hfg
        have HN := hide hno
        obtain ⟨x, hx⟩ : ∃ x : Nat, x = (16 * valI (byteAt s i) + valI (byteAt s (i + 1))).toNat := ⟨_, rfl⟩
        rw [← hx] at hfg
        have hx2 : x ≤ 255 := by omega
        have HX := hide hx
        have HF := hide hfg
        clear hfg hno hx hd hd2 hd' hd2'
        go_wp2_with fail
        refine (unhide HF _).mono ?_
        rintro e w' ⟨rfl, rfl⟩
        go_wp2_with (at_builtin; refine wpList_append_own _ rfl _ _ 22 rfl w.heap.size 5 i0 (.int .u8 0) 1 1 Tryd.underlying22 hi hz0 hz1 hz2 rfl (by decide) _ _ _ rfl (hown.alloc _) ⟨w'.heap.size, 0, none⟩ 1 1 [.int .u8 (x : Int)] rfl rfl (cell_one_new _ _ _) (one_byte _) ?c3 ?c4 ?c5 ?_)
        case c3 => unfold maxLen; omega
        case c4 => omega
        case c5 => simp; omega
        intro v' w1 hown' hgrow _
        have hb1 := below_append hb (Nat.le_refl _) hown hgrow
        have hown1 := own_snoc (c := UInt8.ofNat x) (by rw [toNat_ofNat_small _ (by omega)]) hown'
        clear hown' hgrow hown hb
        go_wp2
        go_roundw
        case rel =>
          refine ⟨i + 2, f, _, by go_num, by have := unhide HIF; omega, by simp; omega, ?_, hown1, hb1⟩
          rw [← unhide HV, unhexF_yes (unhide HN), ← unhide HX]
        case measure => simp [intOf]; omega
    · obtain rfl : f = 0 := by omega
      have hcv := convert_own wr 22 9 5 w.heap.size u4 _ Tryd.underlying22 Tryd.underlying5 Tryd.underlying9 hown
      clear hown hif
      go_wp2
      go_ret2
      rw [← unhide HV]
      exact ⟨rfl, hb⟩

theorem implRD_no (s : ByteArray) (h : (10 : Int) < (s.size : Int)) (w : World) :
    Calls Tryd.prog 8 #[.string s] w fun e w' => e = .returned (rfOut none) ∧ w' = w := by
  go_enter Tryd.func8, Tryd.ntmps8
  go_wp2
  go_ret2
  exact ⟨rfl, rfl⟩

set_option maxRecDepth 100000 in
set_option maxHeartbeats 1000000 in
theorem figures10 (s : ByteArray) (hs : s.size ≤ 10) (w : World) :
    Calls Tryd.prog 18 #[.string s, .int .i64 10] w fun e w' => e = .returned (rfOut (rf10 s s.size 0 0)) ∧ w' = w := by
  go_enter Tryd.func18, Tryd.ntmps18
  go_wp2_with fail
  go_step3
  go_wp2_with fail
  go_step3
  go_wp2_with fail
  go_loop [6, 7, 8] (fun a6 a7 a8 => ∃ n i f : Nat, a6 = .int .i64 n ∧ a7 = .bool true ∧ a8 = .int .i64 i ∧ i + f = s.size ∧ n < 10 ^ i ∧ rf10 s f i n = rf10 s s.size 0 0)
    (fun _ _ a8 => s.size - (intOf a8).toNat)
  case atStart => exact ⟨0, 0, s.size, rfl, rfl, rfl, by omega, by simp, rfl⟩
  case round =>
    obtain ⟨n, i, f, rfl, rfl, rfl, hif, hn, hv⟩ := hrel
    have HV := hide hv
    clear hv
    by_cases hlt : i < s.size
    · obtain ⟨f, rfl⟩ : ∃ f', f = f' + 1 := ⟨f - 1, by omega⟩
      have hp := pow10_le (i := i) (by omega)
      have hB : ((s[i]'hlt).toNat : Int) ≤ 255 := by have := UInt8.toNat_lt (s[i]'hlt); omega
      have HB := hide (show (byteAt s i : Int) = ((s[i]'hlt).toNat : Int) by rw [byteAt_eq hlt])
      by_cases ha : 48 ≤ ((s[i]'hlt).toNat : Int) ∧ ((s[i]'hlt).toNat : Int) ≤ 57
      · have HE := hide (show decI (byteAt s i) = ((s[i]'hlt).toNat : Int) - 48 from by rw [unhide HB, decI, if_pos ha])
        obtain ⟨ha1, ha2⟩ := ha
        go_wp2
        go_round
        case rel =>
          refine ⟨n * 10 + (decI (byteAt s i)).toNat, i + 1, f, ?_, rfl, by go_num, by omega, ?_, ?_⟩
          · rw [unhide HE]; go_num
          · rw [unhide HE, Nat.pow_succ]; omega
          · rw [← unhide HV, rf10_yes (by rw [unhide HE]; omega)]
        case measure => simp [intOf]; omega
      · have HE := hide (show decI (byteAt s i) = -1 from by rw [unhide HB, decI, if_neg ha])
        go_wp2
        all_goals
          go_ret2
          rw [← unhide HV, rf10_no (by rw [unhide HE]; omega)]
          exact ⟨rfl, rfl⟩
    · obtain rfl : f = 0 := by omega
      go_wp2
      go_ret2
      rw [← unhide HV]
      exact ⟨rfl, rfl⟩

theorem implDec_any (n : Int) (h0 : -9223372036854775808 ≤ n) (h1 : n ≤ 9223372036854775807) (w : World) (htab : Lib.TabIs Tryd.prog w "internal/strconv.uint64pow10" .u64 Lib.pow10Tab) :
    Calls Tryd.prog 9 #[.int .i64 n] w fun e w' => e = .returned (.string ⟨(Lib.itoa n).toArray⟩) ∧ Below w.heap.size w w' := by
  have h := Tryd.strconv_Itoa n h0 h1 w htab
  have H := hide h
  clear h htab
  go_enter Tryd.func9, Tryd.ntmps9
  go_wp2_with fail
  refine (unhide H).mono ?_
  rintro e w1 ⟨rfl, k, os, rfl⟩
  go_wp2
  go_ret
  exact ⟨rfl, Lib.below_grow _ _ (Nat.le_refl _) _ _⟩

set_option maxRecDepth 100000 in
theorem implRD_yes (s : ByteArray) (hs : s.size ≤ 10) (w : World) (htab : Lib.TabIs Tryd.prog w "internal/strconv.uint64pow10" .u64 Lib.pow10Tab) :
    Calls Tryd.prog 8 #[.string s] w fun e w' => e = .returned (rdOut s (rf10 s s.size 0 0)) ∧ Below w.heap.size w w' := by
  have hf := figures10 s hs w
  have hbd : ∀ x, rf10 s s.size 0 0 = some x → x < 10 ^ (0 + s.size) := fun x h => rf10_bound (by simp) h
  generalize rf10 s s.size 0 0 = r at hf hbd
  have HT := hide htab
  clear htab
  cases r with
  | none =>
    simp only [rfOut] at hf
    have HF := hide hf
    clear hf hbd
    go_enter Tryd.func8, Tryd.ntmps8
    go_wp2_with fail
    refine (unhide HF).mono ?_
    rintro e w' ⟨rfl, rfl⟩
    go_wp2
    go_ret2
    exact ⟨rfl, Below.refl _ _⟩
  | some n =>
    have hn := hbd n rfl
    have hp := pow10_le (i := s.size) hs
    simp only [rfOut, Nat.zero_add] at hf hn
    have HF := hide hf
    have hn2 : n < 10000000000 := by omega
    clear hf hbd hn hp
    by_cases hg : (1000000000 : Int) < (n : Int)
    · rw [show rdOut s (some n) = .tuple #[.int .i64 0, .bool false] from if_neg (by omega)]
      go_enter Tryd.func8, Tryd.ntmps8
      go_wp2_with fail
      refine (unhide HF).mono ?_
      rintro e w' ⟨rfl, rfl⟩
      go_wp2
      go_ret2
      exact ⟨rfl, Below.refl _ _⟩
    · have H7 := hide (implDec_any (n : Int) (by omega) (by omega) w (unhide HT))
      clear HT
      cases hq : (s.toList == Lib.itoa (n : Int))
      · rw [show rdOut s (some n) = .tuple #[.int .i64 0, .bool false] from if_neg (fun hh => by rw [hh.2] at hq; simp at hq)]
        go_enter Tryd.func8, Tryd.ntmps8
        go_wp2_with fail
        refine (unhide HF).mono ?_
        rintro e w' ⟨rfl, rfl⟩
        go_wp2_with fail
        refine (unhide H7).mono ?_
        rintro e w1 ⟨rfl, hb1⟩
        go_wp2
        go_ret2
        exact ⟨rfl, hb1⟩
      · rw [show rdOut s (some n) = .tuple #[.int .i64 (n : Int), .bool true] from if_pos ⟨by omega, (eq_of_beq hq).symm⟩]
        go_enter Tryd.func8, Tryd.ntmps8
        go_wp2_with fail
        refine (unhide HF).mono ?_
        rintro e w' ⟨rfl, rfl⟩
        go_wp2_with fail
        refine (unhide H7).mono ?_
        rintro e w1 ⟨rfl, hb1⟩
        go_wp2
        go_ret2
        exact ⟨rfl, hb1⟩

end Go.Proofs.YtbcefikjacjplaaDoor
