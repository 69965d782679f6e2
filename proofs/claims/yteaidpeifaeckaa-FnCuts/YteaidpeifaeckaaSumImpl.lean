/-
  The contracts of the program's sums, for every sum and text.
-/
import Derived.Test.YteaidpeifaeckaaSealSpec
namespace Go.Proofs.Yteaidpeifaeckaa
open Go.RowKit

set_option maxRecDepth 100000 in
theorem halved_any (Y : Nat) (hY : Y < 4294967296) (w : World) :
    Calls Try.prog 41 #[.int .u32 Y] w fun e w' => e = .returned (.int .u32 ((halfN Y : Nat) : Int)) ∧ w' = w := by
  have e2 : bits .xor .u32 ((Y : Int) / 2) 3558460437 = ((Y / 2 ^^^ 3558460437 : Nat) : Int) := by
    have h := xor_turn (Y / 2) (by omega)
    simpa using h
  by_cases hodd : (Y : Int) % 2 = 1
  · have hh : Hid (halfN Y = Y / 2 ^^^ 3558460437) := if_pos (by omega)
    go_enter Try.func41, Try.ntmps41
    go_wp2
    go_ret
    rw [unhide hh]
    exact ⟨rfl, rfl⟩
  · have hh : Hid (halfN Y = Y / 2) := if_neg (by omega)
    go_enter Try.func41, Try.ntmps41
    go_wp2
    go_ret
    rw [unhide hh]
    exact ⟨by simp, rfl⟩

set_option maxRecDepth 100000 in
set_option maxHeartbeats 1000000 in
theorem overByte_any (S : Nat) (hS : S < 4294967296) (b : Nat) (hb : b < 256) (w : World) :
    Calls Try.prog 40 #[.int .u32 S, .int .u8 b] w fun e w' => e = .returned (.int .u32 ((byteN S b : Nat) : Int)) ∧ w' = w := by
  have hX := xor_lt hS hb
  have e1 : bits .xor .u32 (S : Int) (b : Int) = ((S ^^^ b : Nat) : Int) := xor_u32 _ _ hS (by omega)
  have HE : Hid (byteN S b = halves 8 (S ^^^ b)) := rfl
  obtain ⟨X, hXe⟩ : ∃ X, X = S ^^^ b := ⟨_, rfl⟩
  rw [← hXe] at hX e1 HE
  clear hXe
  go_enter Try.func40, Try.ntmps40
  go_wp2_with fail
  go_loop [0, 9] (fun a j => ∃ n : Nat, j = .int .i64 n ∧ n ≤ 8 ∧ a = .int .u32 ((halves n X : Nat) : Int))
    (fun _ j => 8 - (intOf j).toNat)
  case atStart => exact ⟨0, rfl, Nat.zero_le _, rfl⟩
  case round =>
    obtain ⟨n, rfl, hn, rfl⟩ := hrel
    have hY := halves_lt n hX
    by_cases hn8 : n < 8
    · have hs1 := hide (halves_succ n X)
      have H := hide (fun w => halved_any (halves n X) hY w)
      go_wp2_with fail
      refine (unhide H _).mono ?_
      rintro e w1 ⟨rfl, rfl⟩
      go_wp2
      go_round
      case rel => exact ⟨n + 1, by go_num, by omega, by rw [unhide hs1]⟩
      case measure => simp [intOf]; omega
    · obtain rfl : n = 8 := by omega
      go_wp2
      go_ret
      rw [unhide HE]
      exact ⟨rfl, rfl⟩

set_option maxRecDepth 100000 in
set_option maxHeartbeats 1000000 in
theorem over_any (S : Nat) (hS : S < 4294967296) (s : ByteArray) (hs : s.size ≤ 140737488355328) (w : World) :
    Calls Try.prog 38 #[.int .u32 S, .string s] w fun e w' => e = .returned (.int .u32 ((sumN S s.data.toList : Nat) : Int)) ∧ w' = w := by
  go_enter Try.func38, Try.ntmps38
  go_wp2_with fail
  go_loop [0, 5] (fun a i => ∃ k : Nat, i = .int .i64 k ∧ k ≤ s.size ∧ a = .int .u32 ((sumN S (s.data.toList.take k) : Nat) : Int))
    (fun _ i => s.size - (intOf i).toNat)
  case atStart => exact ⟨0, rfl, Nat.zero_le _, rfl⟩
  case round =>
    obtain ⟨k, rfl, hk, rfl⟩ := hrel
    have hL := sumN_lt (s.data.toList.take k) hS
    by_cases hlt : k < s.size
    · have hB := UInt8.toNat_lt (s[k]'hlt)
      have hx0 : (0 : Int) ≤ (k : Int) := by omega
      have hx1 : (k : Int) < (s.size : Int) := by omega
      have hst : sumN S (s.data.toList.take (k + 1)) = byteN (sumN S (s.data.toList.take k)) (s[k]'hlt).toNat := sumN_take_succ S s.data.toList k (by simpa using hlt)
      have HST := hide hst
      clear hst
      obtain ⟨A, hA⟩ : ∃ A, A = sumN S (s.data.toList.take k) := ⟨_, rfl⟩
      rw [← hA] at hL HST ⊢
      clear hA
      have H := hide (fun w => overByte_any A hL (s[k]'hlt).toNat hB w)
      go_wp2_with fail
      refine (unhide H _).mono ?_
      rintro e w1 ⟨rfl, rfl⟩
      go_wp2
      go_round
      case rel => exact ⟨k + 1, by go_num, by omega, by rw [unhide HST]⟩
      case measure => simp [intOf]; omega
    · obtain rfl : k = s.size := by omega
      go_wp2
      go_ret
      rw [List.take_of_length_le (by simp)]
      exact ⟨rfl, rfl⟩

theorem sumStart_any (s : ByteArray) (hs : s.size ≤ 140737488355328) (w : World) :
    Calls Try.prog 36 #[.string s] w fun e w' => e = .returned (.int .u32 ((sumB s : Nat) : Int)) ∧ w' = w := by
  have H := hide (over_any 4294967295 (by omega) s hs w)
  go_enter Try.func36, Try.ntmps36
  go_wp2_with fail
  refine (unhide H).mono ?_
  rintro e w1 ⟨rfl, rfl⟩
  go_wp2
  go_ret
  exact ⟨rfl, rfl⟩

theorem implSumOf_any (s : ByteArray) (hs : s.size ≤ 140737488355328) (w : World) :
    Calls Try.prog 34 #[.string s] w fun e w' => e = .returned (.int .u32 ((sumB s : Nat) : Int)) ∧ w' = w := by
  have H := hide (sumStart_any s hs w)
  go_enter Try.func34, Try.ntmps34
  go_wp2_with fail
  refine (unhide H).mono ?_
  rintro e w1 ⟨rfl, rfl⟩
  go_wp2
  go_ret
  exact ⟨rfl, rfl⟩

end Go.Proofs.Yteaidpeifaeckaa
