/-
  The contracts of the small functions on items: spec.l04Short, spec.ItemSize; impl.varForm, shortForm, shortSize, kindOf, isPlace.
-/
import Derived.Test.YteaidpeifaeckaaWRead
import Derived.Test.YteaidpeifaeckaaPgMath
import Derived.Deep.RegionHeld3
namespace Go.Proofs.Yteaidpeifaeckaa
namespace Pg
open Go.RowKit

theorem l04Short_any (s : ByteArray) (hs : s.size ≤ 1000000000) (w : World) :
    Calls Try.prog 15 #[.string s] w fun e w' => e = .returned (.string (shortB s)) ∧ Below w.heap.size w w' := by
  have hl := varB_length 4 s.size
  go_enter Try.func15, Try.ntmps15
  go_wp2_with fail
  refine (l01Var_any s.size (by omega) _).mono ?_
  rintro e w1 ⟨rfl, hb1⟩
  go_wp2
  go_ret
  exact ⟨rfl, hb1⟩

theorem varForm_any (n : Int) (w : World) :
    Calls Try.prog 37 #[.int .i64 n] w fun e w' => e = .returned (.string (varT n)) ∧ Below w.heap.size w w' := by
  by_cases h : 0 ≤ n ∧ n ≤ 1000000000
  · rw [varT_yes h]
    go_enter Try.func37, Try.ntmps37
    go_wp2_with fail
    refine (implVar_int n h.1 h.2 _).mono ?_
    rintro e w1 ⟨rfl, hb1⟩
    go_wp2
    go_ret
    exact ⟨rfl, hb1⟩
  · rw [varT_no h]
    go_enter Try.func37, Try.ntmps37
    go_wp2_with fail
    refine (implVar_no n (by omega) _).mono ?_
    rintro e w1 ⟨rfl, rfl⟩
    go_wp2
    go_ret
    exact ⟨rfl, Below.refl _ _⟩

theorem shortSize_any (s : ByteArray) (hs : s.size ≤ 1000000000) (w : World) :
    Calls Try.prog 35 #[.string s] w fun e w' => e = .returned (.int .i64 ((shortB s).size : Int)) ∧ Below w.heap.size w w' := by
  have hv := varForm_any (s.size : Int)
  rw [varT_nat hs] at hv
  have HV := hide hv
  have hl := varB_length 4 s.size
  have hz := size_mk (varB 4 s.size)
  have HE := hide (shortB_size s)
  generalize (ByteArray.mk (varB 4 s.size).toArray) = t at HV hz
  have hz1 : t.size ≤ 5 := by omega
  have HZ := hide hz
  clear hv hz hl
  go_enter Try.func35, Try.ntmps35
  go_wp2_with fail
  refine (unhide HV _).mono ?_
  rintro e w1 ⟨rfl, hb1⟩
  go_wp2
  go_ret
  refine ⟨?_, hb1⟩
  rw [unhide HE, ← unhide HZ]
  simp

theorem kindOf_one (w : World) : Calls Try.prog 32 #[.int .i64 1] w fun e w' => e = .returned (.tuple #[.iface 72 (.agg #[]), .bool true]) ∧ w' = w := by
  go_enter Try.func32, Try.ntmps32
  go_wp2
  go_ret2
  exact ⟨rfl, rfl⟩

theorem kindOf_two (w : World) : Calls Try.prog 32 #[.int .i64 2] w fun e w' => e = .returned (.tuple #[.iface 73 (.agg #[]), .bool true]) ∧ w' = w := by
  go_enter Try.func32, Try.ntmps32
  go_wp2
  go_ret2
  exact ⟨rfl, rfl⟩

theorem kindOf_no (k : Int) (h1 : k ≠ 1) (h2 : k ≠ 2) (w : World) : Calls Try.prog 32 #[.int .i64 k] w fun e w' => e = .returned (.tuple #[.nilIface, .bool false]) ∧ w' = w := by
  have e1 : (k == 1) = false := by simp [h1]
  have e2 : (k == 2) = false := by simp [h2]
  go_enter Try.func32, Try.ntmps32
  go_wp2
  go_ret2
  exact ⟨rfl, rfl⟩

end Pg
end Go.Proofs.Yteaidpeifaeckaa
