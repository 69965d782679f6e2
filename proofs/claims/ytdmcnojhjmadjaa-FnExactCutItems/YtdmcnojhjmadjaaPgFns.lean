/-
  The contracts of the small functions on items: spec.l04Short, spec.ItemSize; impl.varForm, shortForm, shortSize, kindOf, isPlace.
-/
import Derived.Test.YtdmcnojhjmadjaaWRead
import Derived.Test.YtdmcnojhjmadjaaPgMath
import Derived.Deep.RegionHeld3
namespace Go.Proofs.Ytdmcnojhjmadjaa
namespace Pg
open Go.RowKit

theorem l04Short_any (s : ByteArray) (hs : s.size ≤ 1000000000) (w : World) :
    Calls Try.prog 55 #[.string s] w fun e w' => e = .returned (.string (shortB s)) ∧ Below w.heap.size w w' := by
  have hl := varB_length 4 s.size
  go_enter Try.func55, Try.ntmps55
  go_wp2_with fail
  refine (l01Var_any s.size (by omega) _).mono ?_
  rintro e w1 ⟨rfl, hb1⟩
  go_wp2
  go_ret
  exact ⟨rfl, hb1⟩

theorem varForm_any (n : Int) (w : World) :
    Calls Try.prog 78 #[.int .i64 n] w fun e w' => e = .returned (.string (varT n)) ∧ Below w.heap.size w w' := by
  by_cases h : 0 ≤ n ∧ n ≤ 1000000000
  · rw [varT_yes h]
    go_enter Try.func78, Try.ntmps78
    go_wp2_with fail
    refine (implVar_int n h.1 h.2 _).mono ?_
    rintro e w1 ⟨rfl, hb1⟩
    go_wp2
    go_ret
    exact ⟨rfl, hb1⟩
  · rw [varT_no h]
    go_enter Try.func78, Try.ntmps78
    go_wp2_with fail
    refine (implVar_no n (by omega) _).mono ?_
    rintro e w1 ⟨rfl, rfl⟩
    go_wp2
    go_ret
    exact ⟨rfl, Below.refl _ _⟩

theorem shortSize_any (s : ByteArray) (hs : s.size ≤ 1000000000) (w : World) :
    Calls Try.prog 76 #[.string s] w fun e w' => e = .returned (.int .i64 ((shortB s).size : Int)) ∧ Below w.heap.size w w' := by
  have hv := varForm_any (s.size : Int)
  rw [varT_nat hs] at hv
  have HV := hide hv
  have hl := varB_length 4 s.size
  have hz := size_mk (varB 4 s.size)
  have HE := hide (shortB_size s)
  generalize (ByteArray.mk (varB 4 s.size).toArray) = t at HV hz
  have hz1 : t.size ≤ 5 := by omega
  have HZ := hide hz
  clear hv hz hl
  go_enter Try.func76, Try.ntmps76
  go_wp2_with fail
  refine (unhide HV _).mono ?_
  rintro e w1 ⟨rfl, hb1⟩
  go_wp2
  go_ret
  refine ⟨?_, hb1⟩
  rw [unhide HE, ← unhide HZ]
  simp

theorem kindOf_one (w : World) : Calls Try.prog 73 #[.int .i64 1] w fun e w' => e = .returned (.tuple #[.iface 114 (.agg #[]), .bool true]) ∧ w' = w := by
  go_enter Try.func73, Try.ntmps73
  go_wp2
  go_ret2
  exact ⟨rfl, rfl⟩

theorem kindOf_two (w : World) : Calls Try.prog 73 #[.int .i64 2] w fun e w' => e = .returned (.tuple #[.iface 115 (.agg #[]), .bool true]) ∧ w' = w := by
  go_enter Try.func73, Try.ntmps73
  go_wp2
  go_ret2
  exact ⟨rfl, rfl⟩

theorem kindOf_no (k : Int) (h1 : k ≠ 1) (h2 : k ≠ 2) (w : World) : Calls Try.prog 73 #[.int .i64 k] w fun e w' => e = .returned (.tuple #[.nilIface, .bool false]) ∧ w' = w := by
  have e1 : (k == 1) = false := by simp [h1]
  have e2 : (k == 2) = false := by simp [h2]
  go_enter Try.func73, Try.ntmps73
  go_wp2
  go_ret2
  exact ⟨rfl, rfl⟩

theorem isPlace_any (a n : Int) (w : World) : Calls Try.prog 66 #[.int .i64 a, .int .i64 n] w fun e w' => e = .returned (.bool (decide (0 ≤ a) && decide (a < n))) ∧ w' = w := by
  by_cases h1 : 0 ≤ a
  · by_cases h2 : a < n
    · go_enter Try.func66, Try.ntmps66
      go_wp2
      go_ret
      exact ⟨by simp [h1, h2], rfl⟩
    · go_enter Try.func66, Try.ntmps66
      go_wp2
      go_ret
      exact ⟨by simp; omega, rfl⟩
  · go_enter Try.func66, Try.ntmps66
    go_wp2
    go_ret
    exact ⟨by simp; omega, rfl⟩
end Pg
end Go.Proofs.Ytdmcnojhjmadjaa
