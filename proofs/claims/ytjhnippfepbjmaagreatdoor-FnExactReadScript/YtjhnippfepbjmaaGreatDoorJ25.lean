/-
  Texts of this claim, one behind the other: SumSpec.
-/
import Derived.Test.YtjhnippfepbjmaaGreatDoorProg
import Derived.Test.YtjhnippfepbjmaaGreatDoorJ24
import Derived.Test.YtjhnippfepbjmaaGreatDoorJ1

/-
  The contracts of the specification's sums: spec.SumMore, spec.SumOf, for every sum and text.
-/
namespace Go.Proofs.YtjhnippfepbjmaaGreatDoor
open Go.RowKit

theorem xor_u32 (a b : Nat) (ha : a < 4294967296) (hb : b < 4294967296) : bits .xor .u32 (a : Int) (b : Int) = ((a ^^^ b : Nat) : Int) := u32_xor_nat a b ha hb

theorem xor_turn (a : Nat) (ha : a < 4294967296) : bits .xor .u32 (a : Int) 3558460437 = ((a ^^^ 3558460437 : Nat) : Int) := u32_xor_nat a 3558460437 ha (by omega)

set_option maxRecDepth 100000 in
set_option maxHeartbeats 1000000 in
theorem specSum_any (S : Nat) (hS : S < 4294967296) (s : ByteArray) (hs : s.size ≤ 140737488355328) (w : World) :
    Calls Tryz.prog 57 #[.int .u32 S, .string s] w fun e w' => e = .returned (.int .u32 ((sumN S s.data.toList : Nat) : Int)) ∧ w' = w := by
  go_enter Tryz.func57, Tryz.ntmps57
  go_wp2_with fail
  go_loop [0, 5, 6, 7] (fun a i _ _ => ∃ k : Nat, i = .int .i64 k ∧ k ≤ s.size ∧ a = .int .u32 ((sumN S (s.data.toList.take k) : Nat) : Int))
    (fun _ i _ _ => s.size - (intOf i).toNat)
  case atStart => exact ⟨0, rfl, Nat.zero_le _, rfl⟩
  case round =>
    obtain ⟨k, rfl, hk, rfl⟩ := hrel
    have hL := sumN_lt (s.data.toList.take k) hS
    by_cases hlt : k < s.size
    · have hB := UInt8.toNat_lt (s[k]'hlt)
      have hx0 : (0 : Int) ≤ (k : Int) := by omega
      have hx1 : (k : Int) < (s.size : Int) := by omega
      have hst : sumN S (s.data.toList.take (k + 1)) = byteN (sumN S (s.data.toList.take k)) (s[k]'hlt).toNat := sumN_take_succ S s.data.toList k (by simpa using hlt)
      have HST := hide hst
      clear hst
      obtain ⟨A, hA⟩ : ∃ A, A = sumN S (s.data.toList.take k) := ⟨_, rfl⟩
      rw [← hA] at hL HST ⊢
      clear hA
      have hX := xor_lt hL hB
      have e1 : bits .xor .u32 (A : Int) ((s[k]'hlt).toNat : Int) = ((A ^^^ (s[k]'hlt).toNat : Nat) : Int) := xor_u32 _ _ hL (by omega)
      have HE : Hid (byteN A (s[k]'hlt).toNat = halves 8 (A ^^^ (s[k]'hlt).toNat)) := rfl
      obtain ⟨X, hXe⟩ : ∃ X, X = A ^^^ (s[k]'hlt).toNat := ⟨_, rfl⟩
      rw [← hXe] at hX e1 HE
      clear hXe
      go_wp2_with fail
      go_loop [0, 6, 7] (fun a j _ => ∃ n : Nat, j = .int .i64 n ∧ n ≤ 8 ∧ a = .int .u32 ((halves n X : Nat) : Int))
        (fun _ j _ => 8 - (intOf j).toNat)
      case atStart => exact ⟨0, rfl, Nat.zero_le _, rfl⟩
      case round =>
        obtain ⟨n, rfl, hn, rfl⟩ := hrel
        have hY := halves_lt n hX
        by_cases hn8 : n < 8
        · have hs1 := hide (halves_succ n X)
          obtain ⟨Y, hYe⟩ : ∃ Y, Y = halves n X := ⟨_, rfl⟩
          rw [← hYe] at hY hs1 ⊢
          clear hYe
          have e2 : bits .xor .u32 ((Y : Int) / 2) 3558460437 = ((Y / 2 ^^^ 3558460437 : Nat) : Int) := by
            have h := xor_turn (Y / 2) (by omega)
            simpa using h
          by_cases hodd : (Y : Int) % 2 = 1
          · have hh : Hid (halfN Y = Y / 2 ^^^ 3558460437) := if_pos (by omega)
            go_wp2
            go_round
            case rel => exact ⟨n + 1, by go_num, by omega, by rw [unhide hs1, unhide hh]⟩
            case measure => simp [intOf]; omega
          · have hh : Hid (halfN Y = Y / 2) := if_neg (by omega)
            go_wp2
            go_round
            case rel => exact ⟨n + 1, by go_num, by omega, by rw [unhide hs1, unhide hh]; simp⟩
            case measure => simp [intOf]; omega
        · obtain rfl : n = 8 := by omega
          go_wp2
          go_round
          case rel => exact ⟨k + 1, by go_num, by omega, by rw [unhide HST, unhide HE]⟩
          case measure => simp [intOf]; omega
    · obtain rfl : k = s.size := by omega
      go_wp2
      go_ret
      rw [List.take_of_length_le (by simp)]
      exact ⟨rfl, rfl⟩
end Go.Proofs.YtjhnippfepbjmaaGreatDoor
