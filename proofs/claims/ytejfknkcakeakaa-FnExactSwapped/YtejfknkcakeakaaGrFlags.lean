/-
  Nine flags, one a vertex: which ones are used.
-/
import Derived.Test.YtejfknkcakeakaaGrEach
import Derived.Test.YtejfknkcakeakaaGrBlkS
namespace Go.Proofs.Ytejfknkcakeakaa
namespace Gr
open Go.RowKit

/-- The flags of the used ones. -/
def flags (U : List Int) : Array Value := ((List.range 9).map fun (j : Nat) => Value.bool (inK U (j : Int))).toArray

theorem flags_at (U : List Int) (k : Nat) (h : k < 9) : (flags U)[k]? = some (.bool (inK U (k : Int))) := by
  unfold flags
  simp [h]

theorem flags_size (U : List Int) : (flags U).size = 9 := by unfold flags; simp

theorem flags_nil : flags [] = #[.bool false, .bool false, .bool false, .bool false, .bool false, .bool false, .bool false, .bool false, .bool false] := rfl

theorem flags_ext {C : Array Value} {U : List Int} (h : C.size = 9) (hk : ∀ k : Nat, k < 9 → C[k]? = some (.bool (inK U (k : Int)))) : C = flags U := by
  apply Array.ext_getElem?
  intro i
  rcases Nat.lt_or_ge i 9 with h' | h'
  · rw [hk i h', flags_at U i h']
  · rw [Array.getElem?_eq_none (by omega), Array.getElem?_eq_none (by rw [flags_size]; omega)]

theorem inK_pair (U : List Int) (x y z : Int) : inK (U ++ [x, y]) z = (inK U z || (decide (z = x) || decide (z = y))) := by
  rw [inK_app]
  congr 1
  unfold inK
  rw [Bool.eq_iff_iff]
  simp

/-- Two flags set. -/
theorem flags_two (U : List Int) (x y : Nat) (_hx : x < 9) (_hy : y < 9) : ((flags U).setIfInBounds x (.bool true)).setIfInBounds y (.bool true) = flags (U ++ [(x : Int), (y : Int)]) := by
  refine flags_ext (by simp [flags_size]) (fun k hk => ?_)
  rw [inK_pair]
  by_cases h2 : y = k
  · subst h2
    rw [Array.getElem?_setIfInBounds_self]
    simp [flags_size, hk]
  · rw [Array.getElem?_setIfInBounds_ne h2]
    by_cases h1 : x = k
    · subst h1
      rw [Array.getElem?_setIfInBounds_self]
      simp [flags_size, hk]
    · rw [Array.getElem?_setIfInBounds_ne h1, flags_at U k hk]
      have e1 : ¬ ((k : Int) = (x : Int)) := by omega
      have e2 : ¬ ((k : Int) = (y : Int)) := by omega
      simp [e1, e2]

/-- .. and taken back. -/
theorem flags_back (U : List Int) (x y : Nat) (_hx : x < 9) (_hy : y < 9) (h1 : inK U (x : Int) = false) (h2 : inK U (y : Int) = false) :
    ((flags (U ++ [(x : Int), (y : Int)])).setIfInBounds x (.bool false)).setIfInBounds y (.bool false) = flags U := by
  refine flags_ext (by simp [flags_size]) (fun k hk => ?_)
  by_cases h2' : y = k
  · subst h2'
    rw [Array.getElem?_setIfInBounds_self, h2]
    simp [flags_size, hk]
  · rw [Array.getElem?_setIfInBounds_ne h2']
    by_cases h1' : x = k
    · subst h1'
      rw [Array.getElem?_setIfInBounds_self, h1]
      simp [flags_size, hk]
    · rw [Array.getElem?_setIfInBounds_ne h1', flags_at _ k hk, inK_pair]
      have e1 : ¬ ((k : Int) = (x : Int)) := by omega
      have e2 : ¬ ((k : Int) = (y : Int)) := by omega
      simp [e1, e2]

theorem Kept.edges {S : Nat → Prop} {w w' : World} {a : Option Addr} {n B : Nat} {Q : List EdgeI} (hk : Kept S w w') (h : edgesAt w a n B Q) (hB : B ≤ w.heap.size) (hS : ∀ i, S i → B ≤ i) : edgesAt w' a n B Q :=
  h.below (hk.below hB hS) (Nat.le_refl _)

end Gr
end Go.Proofs.Ytejfknkcakeakaa
