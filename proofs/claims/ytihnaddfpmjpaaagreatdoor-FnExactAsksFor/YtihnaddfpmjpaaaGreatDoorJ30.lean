/-
 WRead.
-/
import Derived.Test.YtihnaddfpmjpaaaGreatDoorJ1
import Derived.Deep.QuietTactic
import Derived.BigQuiet
import Derived.Deep.RegionWith
import Derived.Deep.RegionHeld3
import Derived.WalkSmall
namespace Go.Proofs.YtihnaddfpmjpaaaGreatDoor
open Go.RowKit
theorem l01Var_int (x : Int) (h0 : 0 ≤ x) (h1 : x ≤ 1000000000) (w : World) :
    Calls Tryz.prog 50 #[.int .i64 x] w fun e w' => e = .returned (.string ⟨(varB 4 x.toNat).toArray⟩) ∧ Below w.heap.size w w' := by
  obtain ⟨n, rfl⟩ := Int.eq_ofNat_of_zero_le h0
  exact l01Var_any n (by omega) w
set_option maxRecDepth 100000 in
set_option maxHeartbeats 800000 in
theorem specRead_in (s : ByteArray) (a : Nat) (hs : s.size ≤ 140737488355328) (ha : a ≤ s.size) (w : World) :
    Calls Tryz.prog 58 #[.string s, .int .i64 a] w fun e w' => e = .returned (rvOut (readV s a 5 a 0 1)) ∧ Below w.heap.size w w' := by
  have hd : (decide ((0 : Int) ≤ (a : Int)) && decide ((a : Int) ≤ (s.size : Int))) = true := by simp; omega
  go_enter Tryz.func58, Tryz.ntmps58
  go_wp2_with fail
  refine (l01In_any _ _ _ _).mono ?_
  rintro e w' ⟨rfl, rfl⟩
  rw [hd]
  go_wp2_with fail
  go_loop [7, 8, 9] (fun a7 a8 a9 => ∃ (n sc i f : Nat), a7 = .int .i64 n ∧ a8 = .int .i64 sc ∧ a9 = .int .i64 i ∧ a ≤ i ∧ i + f = a + 5 ∧ n < sc ∧ sc * 128 ^ f = 34359738368 ∧ readV s a f i n sc = readV s a 5 a 0 1)
    (fun _ _ a9 => a + 5 - (intOf a9).toNat)
  case atStart => exact ⟨0, 1, a, 5, rfl, rfl, rfl, Nat.le_refl _, rfl, by omega, by decide, rfl⟩
  case round =>
    obtain ⟨n, sc, i, f, rfl, rfl, rfl, hai, hif, hn, hw, hv⟩ := hrel
    have HV : Hid (readV s a f i n sc = readV s a 5 a 0 1) := hv
    clear hv
    by_cases hlt : i < s.size
    · by_cases hf : i < a + 5
      · obtain ⟨f, rfl⟩ : ∃ f', f = f' + 1 := ⟨f - 1, by omega⟩
        have hsc := weight_le hw
        have hb := byteAt_lt s i
        have he := byteAt_eq hlt
        have hp1 : byteAt s i % 128 * sc ≤ 127 * sc := Nat.mul_le_mul_right sc (by omega)
        have HW : Hid (sc * 128 ^ (f + 1) = 34359738368) := hw
        have hB : ((s[i]'hlt).toNat : Int) ≤ 255 := by omega
        have hp2 : (((s[i]'hlt).toNat : Int) % 128 * (sc : Int)) ≤ 127 * (sc : Int) := by rw [← he]; exact_mod_cast hp1
        have hp3 : 0 ≤ (((s[i]'hlt).toNat : Int) % 128 * (sc : Int)) := Int.mul_nonneg (by omega) (by omega)
        have HE : Hid ((((s[i]'hlt).toNat : Int) % 128 * (sc : Int)) = ((byteAt s i % 128 * sc : Nat) : Int)) := by rw [← he]; exact_mod_cast rfl
        have HB : Hid (byteAt s i = (s[i]'hlt).toNat) := he
        have HX : Hid (((n : Int) + (((s[i]'hlt).toNat : Int) % 128 * (sc : Int))).toNat = n + byteAt s i % 128 * sc) := by
          show _ = _
          rw [HE.out]; omega
        clear hw he hb hp1
        by_cases hb7 : ((s[i]'hlt).toNat : Int) < 128
        · by_cases hg : (1000000000 : Int) < (n : Int) + (((s[i]'hlt).toNat : Int) % 128 * (sc : Int))
          · go_wp2_with fail
            go_quiet (fail)
            go_wp2
            go_ret3
            refine ⟨?_, below_drewN (Below.refl _ _) _⟩
            rw [← HV.out, readV_great hlt (by rw [HB.out]; omega) (by rw [← Int.ofNat_lt, Int.natCast_add, ← HE.out]; omega)]
            rfl
          · have hgd : decide ((1000000000 : Int) < (n : Int) + (((s[i]'hlt).toNat : Int) % 128 * (sc : Int))) = false := decide_eq_false hg
            have hsl : ∀ u, (Instr.slice 9 (.string s) (some (.int .i64 (a : Int))) (some (.int .i64 ((i : Int) + 1))) none).run Tryz.prog u = .ok (.string (s.extract a (i + 1))) u := fun u => by
              have h := run_slice_string (P := Tryz.prog) u 9 s .i64 .i64 (a : Int) ((i : Int) + 1) Tryz.underlying9 (by omega) (by omega) (by omega)
              have e : ((i : Int) + 1).toNat = i + 1 := by omega
              rw [e] at h
              simpa using h
            have hwr : IntKind.i64.wrap ((i : Int) + 1) = (i : Int) + 1 := IntWalk.i64_in _ ⟨by omega, by omega⟩
            go_wp2_with fail
            go_region_held3 (fun _ => True) (go_keep) ((go_at_call 50; refine (l01Var_int _ ?_ ?_ _).mono ?_; omega; omega; rintro e w1 ⟨rfl, hb1⟩))
            cases hq : (varB 4 ((n : Int) + (((s[i]'hlt).toNat : Int) % 128 * (sc : Int))).toNat == (s.extract a (i + 1)).toList)
            · go_wp2
              go_ret3
              refine ⟨?_, (Below.refl _ _).drew.trans hb1⟩
              rw [← HV.out, readV_other hlt (by rw [HB.out]; omega) (by rw [← Int.ofNat_lt, Int.natCast_add, ← HE.out]; omega) ?_]
              · rfl
              · intro he
                rw [HX.out, he] at hq
                simp at hq
            · go_wp2
              go_ret3
              refine ⟨?_, (Below.refl _ _).drew.trans hb1⟩
              rw [← HV.out, readV_yes hlt (by rw [HB.out]; omega) (by rw [← Int.ofNat_lt, Int.natCast_add, ← HE.out]; omega) (by rw [← HX.out]; exact eq_of_beq hq)]
              show Ending.returned (.tuple #[.int .i64 _, .int .i64 _, .bool true]) = Ending.returned (.tuple #[.int .i64 _, .int .i64 _, .bool true])
              rw [Int.natCast_add, ← HE.out]
              rfl
        · go_wp2
          go_round
          case rel =>
            refine ⟨n + byteAt s i % 128 * sc, sc * 128, i + 1, f, ?_, by go_num, by go_num, by omega, by omega, ?_, weight_step HW.out, ?_⟩
            · rw [HE.out]; go_num
            · have := HE.out; omega
            · rw [← HV.out, readV_more hlt (by rw [HB.out]; omega)]
          case measure => simp [intOf]; omega
      · obtain rfl : f = 0 := by omega
        go_wp2
        go_ret3
        refine ⟨?_, Below.refl _ _⟩
        rw [← HV.out]
        rfl
    · go_wp2
      go_ret3
      refine ⟨?_, Below.refl _ _⟩
      rw [← HV.out, readV_end _ _ _ _ _ _ hlt]
      rfl
theorem implVar_int (x : Int) (h0 : 0 ≤ x) (h1 : x ≤ 1000000000) (w : World) :
    Calls Tryz.prog 86 #[.int .i64 x] w fun e w' => e = .returned (.tuple #[.string ⟨(varB 4 x.toNat).toArray⟩, .bool true]) ∧ Below w.heap.size w w' := by
  obtain ⟨n, rfl⟩ := Int.eq_ofNat_of_zero_le h0
  exact implVar_yes n (by omega) w
theorem onlyForm_great (x : Int) (t : ByteArray) (b : Int) (h : 1000000000 < x) (w : World) :
    Calls Tryz.prog 113 #[.int .i64 x, .string t, .int .i64 b] w fun e w' => e = .returned (.tuple #[.int .i64 0, .int .i64 0, .bool false]) ∧ w' = w := by
  go_enter Tryz.func113, Tryz.ntmps113
  go_wp2_with fail
  refine (implVar_no x (Or.inr h) _).mono ?_
  rintro e w' ⟨rfl, rfl⟩
  go_wp2
  go_ret3
  exact ⟨rfl, rfl⟩
theorem onlyForm_yes (x : Int) (t : ByteArray) (b : Int) (h0 : 0 ≤ x) (h1 : x ≤ 1000000000) (hq : (t.toList == varB 4 x.toNat) = true) (w : World) :
    Calls Tryz.prog 113 #[.int .i64 x, .string t, .int .i64 b] w fun e w' => e = .returned (.tuple #[.int .i64 x, .int .i64 b, .bool true]) ∧ Below w.heap.size w w' := by
  go_enter Tryz.func113, Tryz.ntmps113
  go_wp2_with fail
  refine (implVar_int x h0 h1 _).mono ?_
  rintro e w1 ⟨rfl, hb1⟩
  go_wp2
  go_ret3
  exact ⟨rfl, hb1⟩
theorem onlyForm_no (x : Int) (t : ByteArray) (b : Int) (h0 : 0 ≤ x) (h1 : x ≤ 1000000000) (hq : (t.toList == varB 4 x.toNat) = false) (w : World) :
    Calls Tryz.prog 113 #[.int .i64 x, .string t, .int .i64 b] w fun e w' => e = .returned (.tuple #[.int .i64 0, .int .i64 0, .bool false]) ∧ Below w.heap.size w w' := by
  go_enter Tryz.func113, Tryz.ntmps113
  go_wp2_with fail
  refine (implVar_int x h0 h1 _).mono ?_
  rintro e w1 ⟨rfl, hb1⟩
  go_wp2
  go_ret3
  exact ⟨rfl, hb1⟩
theorem specRead_out (s : ByteArray) (a : Int) (ha : a < 0 ∨ (s.size : Int) < a) (w : World) :
    Calls Tryz.prog 58 #[.string s, .int .i64 a] w fun e w' => e = .returned (rvOut none) ∧ w' = w := by
  have hd : (decide ((0 : Int) ≤ a) && decide (a ≤ (s.size : Int))) = false := by
    rcases ha with h | h
    · simp; omega
    · simp; omega
  go_enter Tryz.func58, Tryz.ntmps58
  go_wp2_with fail
  refine (l01In_any _ _ _ _).mono ?_
  rintro e w' ⟨rfl, rfl⟩
  rw [hd]
  go_wp2
  go_ret3
  exact ⟨rfl, rfl⟩
theorem implRead_out (s : ByteArray) (a : Int) (ha : a < 0 ∨ (s.size : Int) < a) (w : World) :
    Calls Tryz.prog 92 #[.string s, .int .i64 a] w fun e w' => e = .returned (rvOut none) ∧ w' = w := by
  by_cases h : a < 0
  · go_enter Tryz.func92, Tryz.ntmps92
    go_wp2
    go_ret3
    exact ⟨rfl, rfl⟩
  · have h2 : (s.size : Int) < a := by omega
    go_enter Tryz.func92, Tryz.ntmps92
    go_wp2
    go_ret3
    exact ⟨rfl, rfl⟩
set_option maxRecDepth 100000 in
set_option maxHeartbeats 800000 in
theorem implRead_in (s : ByteArray) (a : Nat) (hs : s.size ≤ 140737488355328) (ha : a ≤ s.size) (w : World) :
    Calls Tryz.prog 92 #[.string s, .int .i64 a] w fun e w' => e = .returned (rvOut (readV s a 5 a 0 1)) ∧ Below w.heap.size w w' := by
  go_enter Tryz.func92, Tryz.ntmps92
  go_wp2_with fail
  go_loop [7, 8, 9] (fun a7 a8 a9 => ∃ (n sc i f : Nat), a7 = .int .i64 n ∧ a8 = .int .i64 sc ∧ a9 = .int .i64 i ∧ a ≤ i ∧ i + f = a + 5 ∧ n < sc ∧ sc * 128 ^ f = 34359738368 ∧ readV s a f i n sc = readV s a 5 a 0 1)
    (fun _ _ a9 => a + 5 - (intOf a9).toNat)
  case atStart => exact ⟨0, 1, a, 5, rfl, rfl, rfl, Nat.le_refl _, rfl, by omega, by decide, rfl⟩
  case round =>
    obtain ⟨n, sc, i, f, rfl, rfl, rfl, hai, hif, hn, hw, hv⟩ := hrel
    have HV : Hid (readV s a f i n sc = readV s a 5 a 0 1) := hv
    clear hv
    by_cases hlt : i < s.size
    · by_cases hf : i < a + 5
      · obtain ⟨f, rfl⟩ : ∃ f', f = f' + 1 := ⟨f - 1, by omega⟩
        have hsc := weight_le hw
        have hb := byteAt_lt s i
        have he := byteAt_eq hlt
        have hp1 : byteAt s i % 128 * sc ≤ 127 * sc := Nat.mul_le_mul_right sc (by omega)
        have HW : Hid (sc * 128 ^ (f + 1) = 34359738368) := hw
        have hB : ((s[i]'hlt).toNat : Int) ≤ 255 := by omega
        have hp2 : (((s[i]'hlt).toNat : Int) % 128 * (sc : Int)) ≤ 127 * (sc : Int) := by rw [← he]; exact_mod_cast hp1
        have hp3 : 0 ≤ (((s[i]'hlt).toNat : Int) % 128 * (sc : Int)) := Int.mul_nonneg (by omega) (by omega)
        have HE : Hid ((((s[i]'hlt).toNat : Int) % 128 * (sc : Int)) = ((byteAt s i % 128 * sc : Nat) : Int)) := by rw [← he]; exact_mod_cast rfl
        have HB : Hid (byteAt s i = (s[i]'hlt).toNat) := he
        have HX : Hid (((n : Int) + (((s[i]'hlt).toNat : Int) % 128 * (sc : Int))).toNat = n + byteAt s i % 128 * sc) := by
          show _ = _
          rw [HE.out]; omega
        clear hw he hb hp1
        by_cases hb7 : ((s[i]'hlt).toNat : Int) < 128
        · have hsl : ∀ u, (Instr.slice 9 (.string s) (some (.int .i64 (a : Int))) (some (.int .i64 ((i : Int) + 1))) none).run Tryz.prog u = .ok (.string (s.extract a (i + 1))) u := fun u => by
              have h := run_slice_string (P := Tryz.prog) u 9 s .i64 .i64 (a : Int) ((i : Int) + 1) Tryz.underlying9 (by omega) (by omega) (by omega)
              have e : ((i : Int) + 1).toNat = i + 1 := by omega
              rw [e] at h
              simpa using h
          by_cases hg : (1000000000 : Int) < (n : Int) + (((s[i]'hlt).toNat : Int) % 128 * (sc : Int))
          · go_wp2_with fail
            refine (onlyForm_great _ _ _ hg _).mono ?_
            rintro e w' ⟨rfl, rfl⟩
            go_wp2
            go_ret3
            refine ⟨?_, Below.refl _ _⟩
            rw [← HV.out, readV_great hlt (by rw [HB.out]; omega) (by rw [← Int.ofNat_lt, Int.natCast_add, ← HE.out]; omega)]
            rfl
          · cases hq : ((s.extract a (i + 1)).toList == varB 4 ((n : Int) + (((s[i]'hlt).toNat : Int) % 128 * (sc : Int))).toNat)
            · have HQ : Hid (((s.extract a (i + 1)).toList == varB 4 ((n : Int) + (((s[i]'hlt).toNat : Int) % 128 * (sc : Int))).toNat) = false) := hq
              clear hq
              go_wp2_with fail
              refine (onlyForm_no _ _ _ (by omega) (by omega) HQ.out _).mono ?_
              rintro e w1 ⟨rfl, hb1⟩
              go_wp2
              go_ret3
              refine ⟨?_, hb1⟩
              rw [← HV.out, readV_other hlt (by rw [HB.out]; omega) (by rw [← Int.ofNat_lt, Int.natCast_add, ← HE.out]; omega) ?_]
              · rfl
              · intro he
                have hq := HQ.out
                rw [HX.out, he] at hq
                simp at hq
            · have HQ : Hid (((s.extract a (i + 1)).toList == varB 4 ((n : Int) + (((s[i]'hlt).toNat : Int) % 128 * (sc : Int))).toNat) = true) := hq
              clear hq
              go_wp2_with fail
              refine (onlyForm_yes _ _ _ (by omega) (by omega) HQ.out _).mono ?_
              rintro e w1 ⟨rfl, hb1⟩
              go_wp2
              go_ret3
              refine ⟨?_, hb1⟩
              rw [← HV.out, readV_yes hlt (by rw [HB.out]; omega) (by rw [← Int.ofNat_lt, Int.natCast_add, ← HE.out]; omega) (by rw [← HX.out]; exact (eq_of_beq HQ.out).symm)]
              show Ending.returned (.tuple #[.int .i64 _, .int .i64 _, .bool true]) = Ending.returned (.tuple #[.int .i64 _, .int .i64 _, .bool true])
              rw [Int.natCast_add, ← HE.out]
              rfl
        · go_wp2
          go_round
          case rel =>
            refine ⟨n + byteAt s i % 128 * sc, sc * 128, i + 1, f, ?_, by go_num, by go_num, by omega, by omega, ?_, weight_step HW.out, ?_⟩
            · rw [HE.out]; go_num
            · have := HE.out; omega
            · rw [← HV.out, readV_more hlt (by rw [HB.out]; omega)]
          case measure => simp [intOf]; omega
      · obtain rfl : f = 0 := by omega
        go_wp2
        go_ret3
        refine ⟨?_, Below.refl _ _⟩
        rw [← HV.out]
        rfl
    · go_wp2
      go_ret3
      refine ⟨?_, Below.refl _ _⟩
      rw [← HV.out, readV_end _ _ _ _ _ _ hlt]
      rfl
theorem specRead_any (s : ByteArray) (a : Int) (hs : s.size ≤ 140737488355328) (w : World) :
    Calls Tryz.prog 58 #[.string s, .int .i64 a] w fun e w' => e = .returned (rvOut (readA s a)) ∧ Below w.heap.size w w' := by
  by_cases h : 0 ≤ a ∧ a ≤ (s.size : Int)
  · obtain ⟨n, rfl⟩ := Int.eq_ofNat_of_zero_le h.1
    rw [readA, if_pos h, Int.toNat_natCast]
    exact specRead_in s n hs (by omega) w
  · rw [readA, if_neg h]
    refine (specRead_out s a (by omega) w).mono ?_
    rintro e w' ⟨he, rfl⟩
    exact ⟨he, Below.refl _ _⟩
theorem implRead_any (s : ByteArray) (a : Int) (hs : s.size ≤ 140737488355328) (w : World) :
    Calls Tryz.prog 92 #[.string s, .int .i64 a] w fun e w' => e = .returned (rvOut (readA s a)) ∧ Below w.heap.size w w' := by
  by_cases h : 0 ≤ a ∧ a ≤ (s.size : Int)
  · obtain ⟨n, rfl⟩ := Int.eq_ofNat_of_zero_le h.1
    rw [readA, if_pos h, Int.toNat_natCast]
    exact implRead_in s n hs (by omega) w
  · rw [readA, if_neg h]
    refine (implRead_out s a (by omega) w).mono ?_
    rintro e w' ⟨he, rfl⟩
    exact ⟨he, Below.refl _ _⟩
end Go.Proofs.YtihnaddfpmjpaaaGreatDoor
