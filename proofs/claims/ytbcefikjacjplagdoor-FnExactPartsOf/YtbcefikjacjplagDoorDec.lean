/-
  The contract of spec.Decimal, for every int.
-/
import Derived.Test.YtbcefikjacjplagDoorProg
import Derived.Test.YtbcefikjacjplagDoorMath
import Derived.WalkKit
import Derived.ProofKit
import Derived.OpenShut
import Derived.WalkSpells
import Derived.WalkSmall
namespace Go.Proofs.YtbcefikjacjplagDoor
open Go.RowKit

theorem figure_ten (x : Int) (h0 : 0 ≤ x) (h1 : x < 10) (w : World) : Calls Tryd.prog 15 #[.int .i64 x] w fun e w' => e = .returned (.int .u8 (48 + x)) ∧ w' = w := by
  go_enter Tryd.func15, Tryd.ntmps15
  go_wp2
  go_ret
  exact ⟨rfl, rfl⟩

set_option maxRecDepth 100000 in
set_option maxHeartbeats 1000000 in
theorem specDec_pos (u : Nat) (h0 : 0 < u) (h1 : u ≤ 9223372036854775807) (w : World) :
    Calls Tryd.prog 6 #[.int .i64 (u : Int)] w fun e w' => e = .returned (.string ⟨(digs u).toArray⟩) ∧ Below w.heap.size w w' := by
  have hne : ((u : Int) == 0) = false := beq_eq_false_iff_ne.2 (by omega)
  have hnn : decide ((u : Int) < 0) = false := by simp
  go_enter Tryd.func6, Tryd.ntmps6
  go_wp2_with fail
  go_loopw [0, 4, 5] (fun a s _ wr => ∃ (v : Nat) (acc : List UInt8), a = .int .i64 (v : Int) ∧ s = .string ⟨acc.toArray⟩ ∧ v ≤ u ∧ digs v ++ acc = digs u ∧ Below w.heap.size w wr)
    (fun a _ _ _ => (intOf a).toNat)
  case atStart => exact ⟨u, [], rfl, rfl, Nat.le_refl _, by simp, Below.refl _ _⟩
  case round =>
    obtain ⟨v, acc, rfl, rfl, hvu, hd, hb⟩ := hrel
    have hal := acc_len hd (by omega)
    have HD := hide hd
    clear hd
    have hbs := hb.size
    by_cases hv : v = 0
    · subst hv
      go_wp2
      go_ret
      rw [← unhide HD]
      exact ⟨rfl, hb⟩
    · have hv0 : (((v : Int)) != 0) = true := by rw [bne_iff_ne]; omega
      obtain ⟨c, hc⟩ : ∃ c, c = UInt8.ofNat (48 + v % 10) := ⟨_, rfl⟩
      have hcv := convert_one (P := Tryd.prog) wr 33 9 5 c (48 + (v : Int) % 10) (by rw [hc, toNat_ofNat_small _ (by omega)]; omega) Tryd.underlying33 Tryd.underlying5 Tryd.underlying9
      have HC := hide hc
      clear hc
      go_wp2_with fail
      refine (figure_ten _ (by omega) (by omega) _).mono ?_
      rintro e w' ⟨rfl, rfl⟩
      go_wp2
      go_roundw
      case rel =>
        refine ⟨v / 10, c :: acc, by go_num, ?_, by omega, ?_, hb.alloc hbs _⟩
        · exact congrArg Value.string (ByteArray.mk_append_mk [c] acc)
        · rw [← unhide HD, digs_step (show 0 < v by omega), unhide HC]
          simp
      case measure => simp [intOf]; omega

set_option maxRecDepth 100000 in
set_option maxHeartbeats 1000000 in
theorem specDec_neg (u : Nat) (h0 : 0 < u) (h1 : u ≤ 9223372036854775808) (w : World) :
    Calls Tryd.prog 6 #[.int .i64 (-(u : Int))] w fun e w' => e = .returned (.string ⟨(45 :: digs u).toArray⟩) ∧ Below w.heap.size w w' := by
  have hne : ((-(u : Int)) == 0) = false := beq_eq_false_iff_ne.2 (by omega)
  have hnn : decide ((-(u : Int)) < 0) = true := by simp; omega
  go_enter Tryd.func6, Tryd.ntmps6
  go_wp2_with fail
  go_loopw [0, 4, 5] (fun a s _ wr => ∃ (v : Nat) (acc : List UInt8), a = .int .i64 (-(v : Int)) ∧ s = .string ⟨acc.toArray⟩ ∧ v ≤ u ∧ digs v ++ acc = digs u ∧ Below w.heap.size w wr)
    (fun a _ _ _ => (intOf a).natAbs)
  case atStart => exact ⟨u, [], rfl, rfl, Nat.le_refl _, by simp, Below.refl _ _⟩
  case round =>
    obtain ⟨v, acc, rfl, rfl, hvu, hd, hb⟩ := hrel
    have hal := acc_len hd (by omega)
    have HD := hide hd
    clear hd
    have hbs := hb.size
    by_cases hv : v = 0
    · subst hv
      have e45 : (ByteArray.mk #[45] ++ ByteArray.mk acc.toArray) = ByteArray.mk (45 :: acc).toArray := ByteArray.mk_append_mk [45] acc
      go_wp2
      go_ret
      rw [← unhide HD]
      exact ⟨congrArg (fun t => Ending.returned (Value.string t)) e45, hb⟩
    · have hv0 : ((-(v : Int)) != 0) = true := by rw [bne_iff_ne]; omega
      have hm : (-(v : Int)).tmod 10 = -((v : Int) % 10) := by rw [Int.neg_tmod, Int.tmod_eq_emod_of_nonneg (by omega)]
      have hq : (-(v : Int)).tdiv 10 = -((v : Int) / 10) := by rw [Int.neg_tdiv, Int.tdiv_eq_ediv_of_nonneg (by omega)]
      obtain ⟨c, hc⟩ : ∃ c, c = UInt8.ofNat (48 + v % 10) := ⟨_, rfl⟩
      have hcv := convert_one (P := Tryd.prog) wr 33 9 5 c (48 + (v : Int) % 10) (by rw [hc, toNat_ofNat_small _ (by omega)]; omega) Tryd.underlying33 Tryd.underlying5 Tryd.underlying9
      have HC := hide hc
      clear hc
      by_cases hz : 0 < (v : Int) % 10
      · go_wp2_with fail
        refine (figure_ten _ (by omega) (by omega) _).mono ?_
        rintro e w' ⟨rfl, rfl⟩
        go_wp2
        go_roundw
        case rel =>
          refine ⟨v / 10, c :: acc, by go_num, ?_, by omega, ?_, hb.alloc hbs _⟩
          · exact congrArg Value.string (ByteArray.mk_append_mk [c] acc)
          · rw [← unhide HD, digs_step (show 0 < v by omega), unhide HC]
            simp
        case measure => simp [intOf]; omega
      · have hz0 : (v : Int) % 10 = 0 := by omega
        rw [hz0] at hm hcv
        have hf := figure_ten 0 (by omega) (by omega)
        simp only [Int.add_zero] at hcv hf
        have HF := hide hf
        clear hf
        go_wp2_with fail
        refine (unhide HF _).mono ?_
        rintro e w' ⟨rfl, rfl⟩
        go_wp2
        go_roundw
        case rel =>
          refine ⟨v / 10, c :: acc, by go_num, ?_, by omega, ?_, hb.alloc hbs _⟩
          · exact congrArg Value.string (ByteArray.mk_append_mk [c] acc)
          · rw [← unhide HD, digs_step (show 0 < v by omega), unhide HC]
            simp
        case measure => simp [intOf]; omega

theorem specDec_zero (w : World) : Calls Tryd.prog 6 #[.int .i64 0] w fun e w' => e = .returned (.string ⟨(Lib.itoa 0).toArray⟩) ∧ Below w.heap.size w w' := by
  have e0 : Lib.itoa 0 = [48] := (Lib.itoa_nonneg 0).trans (Lib.decDigits_one (by omega))
  rw [e0]
  clear e0
  go_enter Tryd.func6, Tryd.ntmps6
  go_wp2
  go_ret
  exact ⟨rfl, Below.refl _ _⟩

/-- spec.Decimal at every int: the numeral that Lib.itoa tells. -/
theorem specDec_any (n : Int) (h0 : -9223372036854775808 ≤ n) (h1 : n ≤ 9223372036854775807) (w : World) :
    Calls Tryd.prog 6 #[.int .i64 n] w fun e w' => e = .returned (.string ⟨(Lib.itoa n).toArray⟩) ∧ Below w.heap.size w w' := by
  by_cases hn : n < 0
  · obtain ⟨u, rfl⟩ : ∃ u : Nat, n = -(u : Int) := ⟨n.natAbs, by omega⟩
    have h := specDec_neg u (by omega) (by omega) w
    rw [digs_pos (by omega), ← Lib.itoa_neg u (by omega)] at h
    exact h
  · obtain ⟨u, rfl⟩ : ∃ u : Nat, n = u := ⟨n.toNat, by omega⟩
    by_cases hu : u = 0
    · subst hu
      exact specDec_zero w
    · have h := specDec_pos u (by omega) (by omega) w
      rw [digs_pos (by omega), ← Lib.itoa_nonneg u] at h
      exact h
end Go.Proofs.YtbcefikjacjplagDoor
