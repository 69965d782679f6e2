/-
  The contracts of laws.markIntS (what it leaves) and laws.heldIntS.
-/
import Derived.Test.YtdmcnojhjmadjaaInts
namespace Go.Proofs.Ytdmcnojhjmadjaa
namespace Tr
open Go.RowKit

/-- The marks of n numbers from k on. -/
def marksN (k n : Nat) : List Int := (List.range n).map fun i => ((k + i : Nat) : Int)

theorem marksN_length (k n : Nat) : (marksN k n).length = n := by simp [marksN]
theorem marksN_at (k n i : Nat) (h : i < (marksN k n).length) : (marksN k n)[i] = ((k + i : Nat) : Int) := by simp [marksN]

set_option maxRecDepth 100000 in
set_option maxHeartbeats 1000000 in
theorem markInts_to (v : Value) (B n k : Nat) (K : List Int) (h1 : k + n ≤ 100000000) (w : World) (ho : w.ownsRow B 3 1 v n (intsV K)) :
    Calls Try.prog 28 #[v, .int .i64 (k : Int)] w fun e w' => e = .returned (.int .i64 ((k + n : Nat) : Int)) ∧ w'.ownsRow B 3 1 v n (intsV (marksN k n)) ∧ Kept (fun g => v.ownBlock = some g) w w' := by
  obtain ⟨A, cap, rfl, _⟩ := IntsAt.of_own ho
  have hKl : K.length = n := by have := ho.1; simp [intsV] at this; omega
  have HO : Hid (w.ownsRow B 3 1 (.slice A n cap) n (intsV (over (marksN k n) K 0))) := by show World.ownsRow _ _ _ _ _ _ _; rw [over_zero]; exact ho
  have HKL := hide hKl
  clear ho hKl
  go_enter Try.func28, Try.ntmps28
  go_wp2_with fail
  go_loopw [1, 5] (fun a1 a5 wr => ∃ j y : Nat, a5 = .int .i64 j ∧ j ≤ n ∧ y = k + j ∧ a1 = .int .i64 (y : Int) ∧ wr.ownsRow B 3 1 (.slice A n cap) n (intsV (over (marksN k n) K j)) ∧ Kept (fun g => (Value.slice A n cap).ownBlock = some g) w wr) (fun _ a5 _ => n - (intOf a5).toNat)
  case atStart => exact ⟨0, k, rfl, Nat.zero_le _, rfl, rfl, unhide HO, Kept.refl _ _⟩
  case round =>
    obtain ⟨j, y, rfl, hj, hy, rfl, hown, hkp⟩ := hrel
    have HY := hide hy
    have hyl : (y : Int) ≤ 100000000 := by omega
    clear hy
    by_cases hlt : j < n
    · obtain ⟨g, cap', hA, hBg, hgl⟩ := hown.form (by omega)
      simp at hA
      obtain ⟨rfl, rfl⟩ := hA
      have hx0 : (0 : Int) ≤ (j : Int) := by omega
      have hx1 : (j : Int) < (n : Int) := by omega
      have hKl := unhide HKL
      have hlo : (over (marksN k n) K j).length = n := by rw [over_length _ _ _ (by rw [marksN_length]; omega) (by omega)]; omega
      have hce := hown.cellAt j (by omega)
      have hjl : j < (over (marksN k n) K j).length := by omega
      have hce2 : (intsV (over (marksN k n) K j))[j]? = some (.int .i64 (over (marksN k n) K j)[j]) := by simp [intsV, hjl]
      rw [hce2] at hce
      have hfz := hown.frozenAt j
      have hst := (hown.stored j (.int .i64 (y : Int))).1
      have hys : (y : Int) = (marksN k n)[j]'(by rw [marksN_length]; exact hlt) := by rw [marksN_at]; rw [unhide HY]
      have hov := over_set (marksN k n) K j (by rw [marksN_length]; omega) (by omega)
      rw [intsV_set, hys, hov, ← hys] at hst
      have HST := hide hst
      have HKP := hide (hkp.trans (Kept.set wr g j (.int .i64 (y : Int)) rfl))
      generalize (over (marksN k n) K j)[j] = z at hce
      clear hst hown hce2 hkp hlo hjl hys hov hKl
      go_wp2
      go_roundw
      case rel => exact ⟨j + 1, y + 1, by go_num, by omega, by have := unhide HY; omega, by go_num, unhide HST, unhide HKP⟩
      case measure => simp [intOf]; omega
    · obtain rfl : j = n := by omega
      have HOW := hide hown
      clear hown
      go_wp2
      go_ret
      refine ⟨by rw [← unhide HY]; rfl, ?_, hkp⟩
      have h := unhide HOW
      have e := over_all (marksN k j) K (by rw [marksN_length, unhide HKL])
      rw [unhide HKL] at e
      rw [e] at h
      exact h

set_option maxRecDepth 100000 in
set_option maxHeartbeats 1000000 in
theorem heldInts_any (A : Option Addr) (n cap B k : Nat) (h1 : k + n ≤ 100000000) (w : World) (hs : IntsAt w A n B (marksN k n)) :
    Calls Try.prog 29 #[.slice A n cap, .int .i64 (k : Int)] w fun e w' => e = .returned (.int .i64 ((k + n : Nat) : Int)) ∧ w' = w := by
  have HC := hide hs.2
  clear hs
  go_enter Try.func29, Try.ntmps29
  go_wp2_with fail
  go_loop [1, 5] (fun a1 a5 => ∃ j y : Nat, a5 = .int .i64 j ∧ j ≤ n ∧ Hid (y = k + j) ∧ y ≤ 100000000 ∧ a1 = .int .i64 (y : Int)) (fun _ a5 => n - (intOf a5).toNat)
  case atStart => exact ⟨0, k, rfl, Nat.zero_le _, rfl, by omega, rfl⟩
  case round =>
    obtain ⟨j, y, rfl, hj, HY, hyl, rfl⟩ := hrel
    by_cases hlt : j < n
    · have hjm : j < (marksN k n).length := by rw [marksN_length]; exact hlt
      obtain ⟨b, off, rfl, hbB, hcell⟩ := unhide HC j hjm
      rw [marksN_at k n j hjm, ← unhide HY] at hcell
      have hx0 : (0 : Int) ≤ (j : Int) := by omega
      have hx1 : (j : Int) < (n : Int) := by omega
      go_wp2
      go_round
      case rel => exact ⟨j + 1, y + 1, by go_num, by omega, by show _ = _; rw [unhide HY]; rfl, by have := unhide HY; omega, by go_num⟩
      case measure => simp [intOf]; omega
    · obtain rfl : j = n := by omega
      go_wp2
      go_ret
      refine ⟨?_, rfl⟩
      have e : (y : Int) = (k : Int) + (j : Int) := by rw [unhide HY]; simp
      rw [← e]
      rfl
end Tr
end Go.Proofs.Ytdmcnojhjmadjaa
