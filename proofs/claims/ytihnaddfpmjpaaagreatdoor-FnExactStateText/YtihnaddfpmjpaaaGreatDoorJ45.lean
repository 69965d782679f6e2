/-
 Sum, SumSpec.
-/
import Derived.WalkKit
import Derived.Test.YtihnaddfpmjpaaaGreatDoorProg
import Derived.Test.YtihnaddfpmjpaaaGreatDoorJ1
namespace Go.Proofs.YtihnaddfpmjpaaaGreatDoor
def halfN (n : Nat) : Nat := if n % 2 = 1 then (n / 2) ^^^ 3558460437 else n / 2
def halves : Nat → Nat → Nat
  | 0, n => n
  | k + 1, n => halves k (halfN n)
def byteN (s b : Nat) : Nat := halves 8 (s ^^^ b)
def sumN : Nat → List UInt8 → Nat
  | s, [] => s
  | s, b :: bs => sumN (byteN s b.toNat) bs
def four (x : Nat) : List UInt8 := [UInt8.ofNat (x / 16777216), UInt8.ofNat (x / 65536), UInt8.ofNat (x / 256), UInt8.ofNat x]
theorem halves_succ (k n : Nat) : halves (k + 1) n = halfN (halves k n) := by
  induction k generalizing n with
  | zero => rfl
  | succ k ih => exact ih (halfN n)
theorem halfN_lt {n : Nat} (h : n < 4294967296) : halfN n < 4294967296 := by
  unfold halfN
  split
  · exact Nat.xor_lt_two_pow (n := 32) (by omega) (by omega)
  · omega
theorem halves_lt (k : Nat) {n : Nat} (h : n < 4294967296) : halves k n < 4294967296 := by
  induction k generalizing n with
  | zero => exact h
  | succ k ih => exact ih (halfN_lt h)
theorem xor_lt {s b : Nat} (hs : s < 4294967296) (hb : b < 256) : s ^^^ b < 4294967296 :=
  Nat.xor_lt_two_pow (n := 32) hs (by omega)
theorem byteN_lt {s b : Nat} (hs : s < 4294967296) (hb : b < 256) : byteN s b < 4294967296 := halves_lt 8 (xor_lt hs hb)
theorem sumN_lt (l : List UInt8) {s : Nat} (hs : s < 4294967296) : sumN s l < 4294967296 := by
  induction l generalizing s with
  | nil => exact hs
  | cons b l ih => exact ih (byteN_lt hs b.toNat_lt)
theorem sumN_append (s : Nat) (l m : List UInt8) : sumN s (l ++ m) = sumN (sumN s l) m := by
  induction l generalizing s with
  | nil => rfl
  | cons b l ih => exact ih _
theorem sumN_take_succ (s : Nat) (l : List UInt8) (k : Nat) (h : k < l.length) : sumN s (l.take (k + 1)) = byteN (sumN s (l.take k)) (l[k]).toNat := by
  rw [List.take_succ_eq_append_getElem h, sumN_append]
  rfl
end Go.Proofs.YtihnaddfpmjpaaaGreatDoor
namespace Go.Proofs.YtihnaddfpmjpaaaGreatDoor
open Go.RowKit
theorem xor_u32 (a b : Nat) (ha : a < 4294967296) (hb : b < 4294967296) : bits .xor .u32 (a : Int) (b : Int) = ((a ^^^ b : Nat) : Int) := u32_xor_nat a b ha hb
theorem xor_turn (a : Nat) (ha : a < 4294967296) : bits .xor .u32 (a : Int) 3558460437 = ((a ^^^ 3558460437 : Nat) : Int) := u32_xor_nat a 3558460437 ha (by omega)
set_option maxRecDepth 100000 in
set_option maxHeartbeats 1000000 in
theorem specSum_any (S : Nat) (hS : S < 4294967296) (s : ByteArray) (hs : s.size ≤ 140737488355328) (w : World) :
    Calls Tryz.prog 110 #[.int .u32 S, .string s] w fun e w' => e = .returned (.int .u32 ((sumN S s.data.toList : Nat) : Int)) ∧ w' = w := by
  go_enter Tryz.func110, Tryz.ntmps110
  go_wp2_with fail
  go_loop [0, 5, 6, 7] (fun a i _ _ => ∃ k : Nat, i = .int .i64 k ∧ k ≤ s.size ∧ a = .int .u32 ((sumN S (s.data.toList.take k) : Nat) : Int))
    (fun _ i _ _ => s.size - (intOf i).toNat)
  case atStart => exact ⟨0, rfl, Nat.zero_le _, rfl⟩
  case round =>
    obtain ⟨k, rfl, hk, rfl⟩ := hrel
    have hL := sumN_lt (s.data.toList.take k) hS
    by_cases hlt : k < s.size
    · have hB := UInt8.toNat_lt (s[k]'hlt)
      have hx0 : (0 : Int) ≤ (k : Int) := by omega
      have hx1 : (k : Int) < (s.size : Int) := by omega
      have hst : sumN S (s.data.toList.take (k + 1)) = byteN (sumN S (s.data.toList.take k)) (s[k]'hlt).toNat := sumN_take_succ S s.data.toList k (by simpa using hlt)
      have HST := hide hst
      clear hst
      obtain ⟨A, hA⟩ : ∃ A, A = sumN S (s.data.toList.take k) := ⟨_, rfl⟩
      rw [← hA] at hL HST ⊢
      clear hA
      have hX := xor_lt hL hB
      have e1 : bits .xor .u32 (A : Int) ((s[k]'hlt).toNat : Int) = ((A ^^^ (s[k]'hlt).toNat : Nat) : Int) := xor_u32 _ _ hL (by omega)
      have HE : Hid (byteN A (s[k]'hlt).toNat = halves 8 (A ^^^ (s[k]'hlt).toNat)) := rfl
      obtain ⟨X, hXe⟩ : ∃ X, X = A ^^^ (s[k]'hlt).toNat := ⟨_, rfl⟩
      rw [← hXe] at hX e1 HE
      clear hXe
      go_wp2_with fail
      go_loop [0, 6, 7] (fun a j _ => ∃ n : Nat, j = .int .i64 n ∧ n ≤ 8 ∧ a = .int .u32 ((halves n X : Nat) : Int))
        (fun _ j _ => 8 - (intOf j).toNat)
      case atStart => exact ⟨0, rfl, Nat.zero_le _, rfl⟩
      case round =>
        obtain ⟨n, rfl, hn, rfl⟩ := hrel
        have hY := halves_lt n hX
        by_cases hn8 : n < 8
        · have hs1 := hide (halves_succ n X)
          obtain ⟨Y, hYe⟩ : ∃ Y, Y = halves n X := ⟨_, rfl⟩
          rw [← hYe] at hY hs1 ⊢
          clear hYe
          have e2 : bits .xor .u32 ((Y : Int) / 2) 3558460437 = ((Y / 2 ^^^ 3558460437 : Nat) : Int) := by
            have h := xor_turn (Y / 2) (by omega)
            simpa using h
          by_cases hodd : (Y : Int) % 2 = 1
          · have hh : Hid (halfN Y = Y / 2 ^^^ 3558460437) := if_pos (by omega)
            go_wp2
            go_round
            case rel => exact ⟨n + 1, by go_num, by omega, by rw [unhide hs1, unhide hh]⟩
            case measure => simp [intOf]; omega
          · have hh : Hid (halfN Y = Y / 2) := if_neg (by omega)
            go_wp2
            go_round
            case rel => exact ⟨n + 1, by go_num, by omega, by rw [unhide hs1, unhide hh]; simp⟩
            case measure => simp [intOf]; omega
        · obtain rfl : n = 8 := by omega
          go_wp2
          go_round
          case rel => exact ⟨k + 1, by go_num, by omega, by rw [unhide HST, unhide HE]⟩
          case measure => simp [intOf]; omega
    · obtain rfl : k = s.size := by omega
      go_wp2
      go_ret
      rw [List.take_of_length_le (by simp)]
      exact ⟨rfl, rfl⟩
end Go.Proofs.YtihnaddfpmjpaaaGreatDoor
