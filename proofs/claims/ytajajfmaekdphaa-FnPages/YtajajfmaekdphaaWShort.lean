/-
  The contracts of the writers and readers of short texts: spec.ShortText, impl.ShortText, spec.ReadShort, impl.ReadShort, strings.Clone.
-/
import Derived.Test.YtajajfmaekdphaaWRead
import Derived.Test.YtajajfmaekdphaaUnsealImpl
namespace Go.Proofs.Ytajajfmaekdphaa
open Go.RowKit


theorem implShort_no (s : ByteArray) (h : (8000 : Int) < (s.size : Int)) (w : World) :
    Calls Try.prog 60 #[.string s] w fun e w' => e = .returned (.tuple #[.string ⟨#[]⟩, .bool false]) ∧ w' = w := by
  go_enter Try.func60, Try.ntmps60
  go_wp2
  go_ret2
  exact ⟨rfl, rfl⟩


theorem implShort_yes (s : ByteArray) (h : s.size ≤ 8000) (w : World) :
    Calls Try.prog 60 #[.string s] w fun e w' => e = .returned (.tuple #[.string (⟨(varB 4 s.size).toArray⟩ ++ s), .bool true]) ∧ Below w.heap.size w w' := by
  have hl := varB_length 4 s.size
  go_enter Try.func60, Try.ntmps60
  go_wp2_with fail
  refine (implVar_yes s.size (by omega) _).mono ?_
  rintro e w1 ⟨rfl, hb1⟩
  go_wp2
  go_ret2
  exact ⟨rfl, hb1⟩


set_option maxRecDepth 100000 in
theorem specRS_any (s : ByteArray) (a : Int) (hs : s.size ≤ 140737488355328) (w : World) :
    Calls Try.prog 48 #[.string s, .int .i64 a] w fun e w' => e = .returned (rsOut s (readA s a)) ∧ Below w.heap.size w w' := by
  have h9 := specRead_any s a hs
  have hbd : ∀ x y, readA s a = some (x, y) → x ≤ 1000000000 ∧ y ≤ s.size := fun x y h => readA_bound h
  generalize readA s a = r at h9 hbd
  cases r with
  | none =>
    simp only [rvOut] at h9
    have H := hide h9
    clear h9 hbd
    go_enter Try.func48, Try.ntmps48
    go_wp2_with fail
    refine (unhide H _).mono ?_
    rintro e w1 ⟨rfl, hb1⟩
    go_wp2
    go_ret3
    exact ⟨rfl, hb1⟩
  | some p =>
    obtain ⟨x, y⟩ := p
    obtain ⟨hx, hy⟩ := hbd x y rfl
    simp only [rvOut] at h9
    have H := hide h9
    clear h9 hbd
    by_cases h8 : (8000 : Int) < (x : Int)
    · rw [show rsOut s (some (x, y)) = .tuple #[.string ⟨#[]⟩, .int .i64 0, .bool false] from if_neg (by simp only; omega)]
      go_enter Try.func48, Try.ntmps48
      go_wp2_with fail
      refine (unhide H _).mono ?_
      rintro e w1 ⟨rfl, hb1⟩
      go_wp2
      go_ret3
      exact ⟨rfl, hb1⟩
    · by_cases hl : (s.size : Int) - (y : Int) < (x : Int)
      · rw [show rsOut s (some (x, y)) = .tuple #[.string ⟨#[]⟩, .int .i64 0, .bool false] from if_neg (by simp only; omega)]
        go_enter Try.func48, Try.ntmps48
        go_wp2_with fail
        refine (unhide H _).mono ?_
        rintro e w1 ⟨rfl, hb1⟩
        go_wp2
        go_ret3
        exact ⟨rfl, hb1⟩
      · rw [show rsOut s (some (x, y)) = .tuple #[.string (s.extract y (y + x)), .int .i64 ((y : Int) + (x : Int)), .bool true] from if_pos (by simp only; omega)]
        have hcl : (s.extract y (y + x)).size ≤ 140737488355328 := by simp [ByteArray.size_extract]; omega
        have hsl : ∀ u, (Instr.slice 9 (.string s) (some (.int .i64 (y : Int))) (some (.int .i64 ((y : Int) + (x : Int)))) none).run Try.prog u = .ok (.string (s.extract y (y + x))) u := fun u => by
          have h := run_slice_string (P := Try.prog) u 9 s .i64 .i64 (y : Int) ((y : Int) + (x : Int)) Try.underlying9 (by omega) (by omega) (by omega)
          have e : ((y : Int) + (x : Int)).toNat = y + x := by omega
          rw [e] at h
          simpa using h
        go_enter Try.func48, Try.ntmps48
        go_wp2_with fail
        refine (unhide H _).mono ?_
        rintro e w1 ⟨rfl, hb1⟩
        go_wp2
        go_ret3
        exact ⟨rfl, hb1⟩

set_option maxRecDepth 100000 in
theorem implRS_any (s : ByteArray) (a : Int) (hs : s.size ≤ 140737488355328) (w : World) :
    Calls Try.prog 82 #[.string s, .int .i64 a] w fun e w' => e = .returned (rsOut s (readA s a)) ∧ Below w.heap.size w w' := by
  have h9 := implRead_any s a hs
  have hbd : ∀ x y, readA s a = some (x, y) → x ≤ 1000000000 ∧ y ≤ s.size := fun x y h => readA_bound h
  generalize readA s a = r at h9 hbd
  cases r with
  | none =>
    simp only [rvOut] at h9
    have H := hide h9
    clear h9 hbd
    go_enter Try.func82, Try.ntmps82
    go_wp2_with fail
    refine (unhide H _).mono ?_
    rintro e w1 ⟨rfl, hb1⟩
    go_wp2
    go_ret3
    exact ⟨rfl, hb1⟩
  | some p =>
    obtain ⟨x, y⟩ := p
    obtain ⟨hx, hy⟩ := hbd x y rfl
    simp only [rvOut] at h9
    have H := hide h9
    clear h9 hbd
    by_cases h8 : (8000 : Int) < (x : Int)
    · rw [show rsOut s (some (x, y)) = .tuple #[.string ⟨#[]⟩, .int .i64 0, .bool false] from if_neg (by simp only; omega)]
      go_enter Try.func82, Try.ntmps82
      go_wp2_with fail
      refine (unhide H _).mono ?_
      rintro e w1 ⟨rfl, hb1⟩
      go_wp2
      go_ret3
      exact ⟨rfl, hb1⟩
    · by_cases hl : (s.size : Int) - (y : Int) < (x : Int)
      · rw [show rsOut s (some (x, y)) = .tuple #[.string ⟨#[]⟩, .int .i64 0, .bool false] from if_neg (by simp only; omega)]
        go_enter Try.func82, Try.ntmps82
        go_wp2_with fail
        refine (unhide H _).mono ?_
        rintro e w1 ⟨rfl, hb1⟩
        go_wp2
        go_ret3
        exact ⟨rfl, hb1⟩
      · rw [show rsOut s (some (x, y)) = .tuple #[.string (s.extract y (y + x)), .int .i64 ((y : Int) + (x : Int)), .bool true] from if_pos (by simp only; omega)]
        have hcl : (s.extract y (y + x)).size ≤ 140737488355328 := by simp [ByteArray.size_extract]; omega
        have hsl : ∀ u, (Instr.slice 9 (.string s) (some (.int .i64 (y : Int))) (some (.int .i64 ((y : Int) + (x : Int)))) none).run Try.prog u = .ok (.string (s.extract y (y + x))) u := fun u => by
          have h := run_slice_string (P := Try.prog) u 9 s .i64 .i64 (y : Int) ((y : Int) + (x : Int)) Try.underlying9 (by omega) (by omega) (by omega)
          have e : ((y : Int) + (x : Int)).toNat = y + x := by omega
          rw [e] at h
          simpa using h
        go_enter Try.func82, Try.ntmps82
        go_wp2_with fail
        refine (unhide H _).mono ?_
        rintro e w1 ⟨rfl, hb1⟩
        go_wp2_with fail
        refine (clone_any _ hcl _).mono ?_
        rintro e w2 ⟨rfl, hb2⟩
        go_wp2
        go_ret3
        exact ⟨rfl, hb1.trans (hb2.mono hb1.size)⟩
end Go.Proofs.Ytajajfmaekdphaa
