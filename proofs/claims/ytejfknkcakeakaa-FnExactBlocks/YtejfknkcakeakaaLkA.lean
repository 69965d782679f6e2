/-
  The contract of spec.l10Ahead: which of two lists of numbers stands ahead.
-/
import Derived.Test.YtejfknkcakeakaaGrKInts
import Derived.BigQuiet
namespace Go.Proofs.Ytejfknkcakeakaa
namespace Lk
open Go.RowKit

def aheadF : List Int → List Int → Bool
  | x :: a, y :: b => if x ≠ y then decide (x < y) else aheadF a b
  | [], b => decide (0 < b.length)
  | _ :: _, [] => false

theorem ahead_step (A B : List Int) (j : Nat) (ha : j < A.length) (hb : j < B.length) : aheadF (A.drop j) (B.drop j) = if A[j] ≠ B[j] then decide (A[j] < B[j]) else aheadF (A.drop (j + 1)) (B.drop (j + 1)) := by
  rw [List.drop_eq_getElem_cons ha, List.drop_eq_getElem_cons hb]
  rfl

theorem ahead_end (A B : List Int) (j : Nat) (hj : j ≤ A.length) (hj2 : j ≤ B.length) (h : ¬ (j < A.length ∧ j < B.length)) : aheadF (A.drop j) (B.drop j) = decide (A.length < B.length) := by
  by_cases ha : j < A.length
  · have hb : j = B.length := by omega
    rw [List.drop_eq_getElem_cons ha, List.drop_of_length_le (l := B) (by omega)]
    show false = _
    symm
    simp; omega
  · rw [List.drop_of_length_le (l := A) (by omega)]
    show decide (0 < (B.drop j).length) = _
    rw [List.length_drop]
    congr 1
    simp; omega

set_option maxRecDepth 100000 in
set_option maxHeartbeats 1000000 in
theorem ahead_any (w : World) (A B : List Int) (aA aB : Option Addr) (cA cB la lb BA BB : Nat) (hla : la ≤ 1048576) (hlb : lb ≤ 1048576) (hBA : BA ≤ w.heap.size) (hBB : BB ≤ w.heap.size) (hA : IntsAt w aA la BA A) (hB : IntsAt w aB lb BB B) :
    Calls Try.prog 58 #[.slice aA la cA, .slice aB lb cB] w fun u w' => u = .returned (.bool (aheadF A B)) ∧ Below w.heap.size w w' := by
  obtain ⟨lA, hcA⟩ := hA
  obtain ⟨lB, hcB⟩ := hB
  have HCA := hide hcA
  have HCB := hide hcB
  have HLA := hide lA
  have HLB := hide lB
  have HST := hide (ahead_step A B)
  have HEND := hide (ahead_end A B)
  have HT0 : Hid (aheadF A B = aheadF (A.drop 0) (B.drop 0)) := rfl
  generalize aheadF A B = T at HT0
  clear hcA hcB lA lB
  go_enter Try.func58, Try.ntmps58
  go_wp2_with fail
  go_loopw [5] (fun i wr => ∃ k : Nat, i = .int .i64 (k : Int) ∧ k ≤ la ∧ k ≤ lb ∧ Hid (T = aheadF (A.drop k) (B.drop k)) ∧ Below w.heap.size w wr) (fun i _ => la - (intOf i).toNat)
  case atStart => exact ⟨0, rfl, Nat.zero_le _, Nat.zero_le _, HT0, Below.refl _ _⟩
  case round =>
    obtain ⟨k, rfl, hka, hkb, HT, hb⟩ := hrel
    by_cases h1 : k < la
    · have hx0 : (0 : Int) ≤ (k : Int) := by omega
      have hx1 : (k : Int) < (la : Int) := by omega
      by_cases h2 : k < lb
      · have hx2 : (k : Int) < (lb : Int) := by omega
        have kA : k < A.length := by have := unhide HLA; omega
        have kB : k < B.length := by have := unhide HLB; omega
        obtain ⟨b1, o1, rfl, hb1, c1⟩ := unhide HCA k kA
        obtain ⟨b2, o2, rfl, hb2, c2⟩ := unhide HCB k kB
        rw [← hb.cell (p := ⟨b1, o1 + k, none⟩) (by simp; omega)] at c1
        rw [← hb.cell (p := ⟨b2, o2 + k, none⟩) (by simp; omega)] at c2
        have HT2 := hide ((unhide HT).trans (unhide HST k kA kB))
        generalize A[k] = x at c1 HT2
        generalize B[k] = y at c2 HT2
        by_cases hxy : x = y
        · subst hxy
          have HT3 : Hid (T = aheadF (A.drop (k + 1)) (B.drop (k + 1))) := (unhide HT2).trans (if_neg (fun h => h rfl))
          clear HT2 HT
          go_wp2_with fail
          go_quiet (fail)
          go_wp2
          go_roundw
          case rel => exact ⟨k + 1, by go_num, by omega, by omega, HT3, below_drewN hb _⟩
          case measure => simp [intOf]; omega
        · have hT : T = decide (x < y) := (unhide HT2).trans (if_pos hxy)
          subst hT
          have hne : (x == y) = false := by simp [hxy]
          clear HT2 HT
          go_wp2_with fail
          go_quiet (fail)
          go_wp2_with fail
          go_quiet (fail)
          go_wp2
          go_ret
          exact ⟨rfl, below_drewN (below_drewN hb _) _⟩
      · obtain rfl : k = lb := by omega
        have hx2 : ¬ (k : Int) < (k : Int) := by omega
        have hT : T = decide (la < k) := by
          rw [unhide HT, unhide HEND k (by have := unhide HLA; omega) (by have := unhide HLB; omega) (by have := unhide HLB; omega), unhide HLA, unhide HLB]
        have hf : T = false := by rw [hT]; simp; omega
        subst hf
        have hx3 : ¬ (la : Int) < (k : Int) := by omega
        clear hT HT
        go_wp2
        go_ret
        exact ⟨rfl, hb⟩
    · obtain rfl : k = la := by omega
      have hx1 : ¬ (k : Int) < (k : Int) := by omega
      have hT : T = decide (k < lb) := by
        rw [unhide HT, unhide HEND k (by have := unhide HLA; omega) (by have := unhide HLB; omega) (by have := unhide HLA; omega), unhide HLA, unhide HLB]
      have hT2 : T = decide ((k : Int) < (lb : Int)) := by rw [hT]; congr 1; simp
      subst hT2
      clear hT HT
      by_cases h3 : (k : Int) < (lb : Int)
      · go_wp2
        go_ret
        exact ⟨by first | rfl | (congr 2; simp; omega) | (congr 2; simpa using h3), hb⟩
      · go_wp2
        go_ret
        exact ⟨by first | rfl | (congr 2; simp; omega) | (congr 2; simpa using h3), hb⟩

end Lk
end Go.Proofs.Ytejfknkcakeakaa
