/-
  Texts of this claim, one behind the other: WDecI.
-/
import Derived.Test.YtjhnippfepbjmaaGreatDoorJ8
import Derived.Test.YtjhnippfepbjmaaGreatDoorShelf
import Derived.Lib.AppendIntMem
import Derived.Lib.SmallJoins
import Derived.Lib.LaidTab
import Derived.WalkMore

/-
  The contracts of impl.readFigures at the base 10, impl.Decimal and impl.ReadDecimal.
-/
namespace Go.Proofs.YtjhnippfepbjmaaGreatDoor
namespace Dc
open Go.RowKit

theorem implRD_no (s : ByteArray) (h : (10 : Int) < (s.size : Int)) (w : World) :
    Calls Tryz.prog 59 #[.string s] w fun e w' => e = .returned (rfOut none) ∧ w' = w := by
  go_enter Tryz.func59, Tryz.ntmps59
  go_wp2
  go_ret2
  exact ⟨rfl, rfl⟩

set_option maxRecDepth 100000 in
set_option maxHeartbeats 1000000 in
theorem figures10 (s : ByteArray) (hs : s.size ≤ 10) (w : World) :
    Calls Tryz.prog 71 #[.string s, .int .i64 10] w fun e w' => e = .returned (rfOut (rf10 s s.size 0 0)) ∧ w' = w := by
  go_enter Tryz.func71, Tryz.ntmps71
  go_wp2_with fail
  go_step3
  go_wp2_with fail
  go_step3
  go_wp2_with fail
  go_loop [6, 7, 8] (fun a6 a7 a8 => ∃ n i f : Nat, a6 = .int .i64 n ∧ a7 = .bool true ∧ a8 = .int .i64 i ∧ i + f = s.size ∧ n < 10 ^ i ∧ rf10 s f i n = rf10 s s.size 0 0)
    (fun _ _ a8 => s.size - (intOf a8).toNat)
  case atStart => exact ⟨0, 0, s.size, rfl, rfl, rfl, by omega, by simp, rfl⟩
  case round =>
    obtain ⟨n, i, f, rfl, rfl, rfl, hif, hn, hv⟩ := hrel
    have HV := hide hv
    clear hv
    by_cases hlt : i < s.size
    · obtain ⟨f, rfl⟩ : ∃ f', f = f' + 1 := ⟨f - 1, by omega⟩
      have hp := pow10_le (i := i) (by omega)
      have hB : ((s[i]'hlt).toNat : Int) ≤ 255 := by have := UInt8.toNat_lt (s[i]'hlt); omega
      have HB := hide (show (byteAt s i : Int) = ((s[i]'hlt).toNat : Int) by rw [byteAt_eq hlt])
      by_cases ha : 48 ≤ ((s[i]'hlt).toNat : Int) ∧ ((s[i]'hlt).toNat : Int) ≤ 57
      · have HE := hide (show decI (byteAt s i) = ((s[i]'hlt).toNat : Int) - 48 from by rw [unhide HB, decI, if_pos ha])
        obtain ⟨ha1, ha2⟩ := ha
        go_wp2
        go_round
        case rel =>
          refine ⟨n * 10 + (decI (byteAt s i)).toNat, i + 1, f, ?_, rfl, by go_num, by omega, ?_, ?_⟩
          · rw [unhide HE]; go_num
          · rw [unhide HE, Nat.pow_succ]; omega
          · rw [← unhide HV, rf10_yes (by rw [unhide HE]; omega)]
        case measure => simp [intOf]; omega
      · have HE := hide (show decI (byteAt s i) = -1 from by rw [unhide HB, decI, if_neg ha])
        go_wp2
        all_goals
          go_ret2
          rw [← unhide HV, rf10_no (by rw [unhide HE]; omega)]
          exact ⟨rfl, rfl⟩
    · obtain rfl : f = 0 := by omega
      go_wp2
      go_ret2
      rw [← unhide HV]
      exact ⟨rfl, rfl⟩

theorem implDec_any (n : Int) (h0 : -9223372036854775808 ≤ n) (h1 : n ≤ 9223372036854775807) (w : World) (htab : Lib.TabIs Tryz.prog w "internal/strconv.uint64pow10" .u64 Lib.pow10Tab) :
    Calls Tryz.prog 72 #[.int .i64 n] w fun e w' => e = .returned (.string ⟨(Lib.itoa n).toArray⟩) ∧ Below w.heap.size w w' := by
  have h := Tryz.strconv_Itoa n h0 h1 w htab
  have H := hide h
  clear h htab
  go_enter Tryz.func72, Tryz.ntmps72
  go_wp2_with fail
  refine (unhide H).mono ?_
  rintro e w1 ⟨rfl, k, os, rfl⟩
  go_wp2
  go_ret
  exact ⟨rfl, Lib.below_grow _ _ (Nat.le_refl _) _ _⟩

set_option maxRecDepth 100000 in
theorem implRD_yes (s : ByteArray) (hs : s.size ≤ 10) (w : World) (htab : Lib.TabIs Tryz.prog w "internal/strconv.uint64pow10" .u64 Lib.pow10Tab) :
    Calls Tryz.prog 59 #[.string s] w fun e w' => e = .returned (rdOut s (rf10 s s.size 0 0)) ∧ Below w.heap.size w w' := by
  have hf := figures10 s hs w
  have hbd : ∀ x, rf10 s s.size 0 0 = some x → x < 10 ^ (0 + s.size) := fun x h => rf10_bound (by simp) h
  generalize rf10 s s.size 0 0 = r at hf hbd
  have HT := hide htab
  clear htab
  cases r with
  | none =>
    simp only [rfOut] at hf
    have HF := hide hf
    clear hf hbd
    go_enter Tryz.func59, Tryz.ntmps59
    go_wp2_with fail
    refine (unhide HF).mono ?_
    rintro e w' ⟨rfl, rfl⟩
    go_wp2
    go_ret2
    exact ⟨rfl, Below.refl _ _⟩
  | some n =>
    have hn := hbd n rfl
    have hp := pow10_le (i := s.size) hs
    simp only [rfOut, Nat.zero_add] at hf hn
    have HF := hide hf
    have hn2 : n < 10000000000 := by omega
    clear hf hbd hn hp
    by_cases hg : (1000000000 : Int) < (n : Int)
    · rw [show rdOut s (some n) = .tuple #[.int .i64 0, .bool false] from if_neg (by omega)]
      go_enter Tryz.func59, Tryz.ntmps59
      go_wp2_with fail
      refine (unhide HF).mono ?_
      rintro e w' ⟨rfl, rfl⟩
      go_wp2
      go_ret2
      exact ⟨rfl, Below.refl _ _⟩
    · have H7 := hide (implDec_any (n : Int) (by omega) (by omega) w (unhide HT))
      clear HT
      cases hq : (s.toList == Lib.itoa (n : Int))
      · rw [show rdOut s (some n) = .tuple #[.int .i64 0, .bool false] from if_neg (fun hh => by rw [hh.2] at hq; simp at hq)]
        go_enter Tryz.func59, Tryz.ntmps59
        go_wp2_with fail
        refine (unhide HF).mono ?_
        rintro e w' ⟨rfl, rfl⟩
        go_wp2_with fail
        refine (unhide H7).mono ?_
        rintro e w1 ⟨rfl, hb1⟩
        go_wp2
        go_ret2
        exact ⟨rfl, hb1⟩
      · rw [show rdOut s (some n) = .tuple #[.int .i64 (n : Int), .bool true] from if_pos ⟨by omega, (eq_of_beq hq).symm⟩]
        go_enter Tryz.func59, Tryz.ntmps59
        go_wp2_with fail
        refine (unhide HF).mono ?_
        rintro e w' ⟨rfl, rfl⟩
        go_wp2_with fail
        refine (unhide H7).mono ?_
        rintro e w1 ⟨rfl, hb1⟩
        go_wp2
        go_ret2
        exact ⟨rfl, hb1⟩

end Dc
end Go.Proofs.YtjhnippfepbjmaaGreatDoor
