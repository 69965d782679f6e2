/-
  Crashes without a program: all writes kept is a flush, none kept what was flushed.
-/
import Derived.Test.YtfbfafpfhgjdfaaDevCrash
namespace Go.Proofs.Ytfbfafpfhgjdfaa

def allK (n : Nat) : List Int := (List.range n).map Int.ofNat

theorem allK_succ (n : Nat) : allK (n + 1) = allK n ++ [(n : Int)] := by unfold allK; rw [List.range_succ, List.map_append]; rfl
theorem allK_length (n : Nat) : (allK n).length = n := by simp [allK]
theorem allK_in (n j : Nat) (h : j < n) : inK (allK n) (j : Int) = true := inK_of_mem (by unfold allK; exact List.mem_map.2 ⟨j, List.mem_range.2 h, rfl⟩)
theorem allK_mem (n : Nat) : ∀ x ∈ allK n, 0 ≤ x ∧ x < (n : Int) := fun x hx => by
  unfold allK at hx
  obtain ⟨i, hi, rfl⟩ := List.mem_map.1 hx
  have := List.mem_range.1 hi
  exact ⟨Int.natCast_nonneg _, by show (i : Int) < n; omega⟩

theorem keep_all (L : List ByteArray) (Q : List (Int × ByteArray)) (j : Nat) (hj : j ≤ Q.length) : keepL (allK Q.length) L Q j = flushL L (Q.take j) := by
  induction j with
  | zero => rfl
  | succ j ih =>
    rw [keepL_yes _ L Q j (by omega) (allK_in _ _ (by omega)), flushL_snoc L Q j (by omega), ih (by omega)]

theorem keep_none (L : List ByteArray) (Q : List (Int × ByteArray)) (j : Nat) : keepL [] L Q j = L := by
  induction j with
  | zero => rfl
  | succ j ih => rw [keepL_no _ L Q j rfl, ih]

theorem crash_all (L : List ByteArray) (Q : List (Int × ByteArray)) : crashL L Q (allK Q.length) (-1) 0 = flushL L Q := by
  unfold crashL
  rw [if_neg (by omega), keep_all L Q _ (Nat.le_refl _), List.take_length]

theorem crash_none (L : List ByteArray) (Q : List (Int × ByteArray)) : crashL L Q [] (-1) 0 = L := by
  unfold crashL
  rw [if_neg (by omega), keep_none]
end Go.Proofs.Ytfbfafpfhgjdfaa
