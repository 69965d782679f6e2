/-
  The contracts of the writers and readers of short texts: spec.ShortText, impl.ShortText, spec.ReadShort, impl.ReadShort, strings.Clone.
-/
import Derived.Test.YtbcefikjacjplafRead
import Derived.Lib.Strings
import Derived.Lib.BufferWrite
import Derived.Lib.UnsafeStr
import Derived.Laws.MakeOwn
namespace Go.Proofs.Ytbcefikjacjplaf
open Go.RowKit

theorem specShort_no (s : ByteArray) (h : (8000 : Int) < (s.size : Int)) (w : World) :
    Calls Try.prog 11 #[.string s] w fun e w' => e = .returned (.tuple #[.string ⟨#[]⟩, .bool false]) ∧ w' = w := by
  go_enter Try.func11, Try.ntmps11
  go_wp2
  go_ret2
  exact ⟨rfl, rfl⟩

theorem implShort_no (s : ByteArray) (h : (8000 : Int) < (s.size : Int)) (w : World) :
    Calls Try.prog 12 #[.string s] w fun e w' => e = .returned (.tuple #[.string ⟨#[]⟩, .bool false]) ∧ w' = w := by
  go_enter Try.func12, Try.ntmps12
  go_wp2
  go_ret2
  exact ⟨rfl, rfl⟩

theorem specShort_yes (s : ByteArray) (h : s.size ≤ 8000) (w : World) :
    Calls Try.prog 11 #[.string s] w fun e w' => e = .returned (.tuple #[.string (⟨(varB 4 s.size).toArray⟩ ++ s), .bool true]) ∧ Below w.heap.size w w' := by
  have hl := varB_length 4 s.size
  go_enter Try.func11, Try.ntmps11
  go_wp2_with fail
  refine (l01Var_any s.size (by omega) _).mono ?_
  rintro e w1 ⟨rfl, hb1⟩
  go_wp2
  go_ret2
  exact ⟨rfl, hb1⟩

theorem implShort_yes (s : ByteArray) (h : s.size ≤ 8000) (w : World) :
    Calls Try.prog 12 #[.string s] w fun e w' => e = .returned (.tuple #[.string (⟨(varB 4 s.size).toArray⟩ ++ s), .bool true]) ∧ Below w.heap.size w w' := by
  have hl := varB_length 4 s.size
  go_enter Try.func12, Try.ntmps12
  go_wp2_with fail
  refine (implVar_yes s.size (by omega) _).mono ?_
  rintro e w1 ⟨rfl, hb1⟩
  go_wp2
  go_ret2
  exact ⟨rfl, hb1⟩

theorem cells5 : Try.prog.cellsOf 5 = 1 := by kernel_rfl

set_option maxHeartbeats 1000000 in
set_option maxRecDepth 100000 in
/-- internal/stringslite.Clone: the same bytes; what was there has not turned. -/
theorem slClone_any (s : ByteArray) (hs : s.size ≤ 140737488355328) (w : World) :
    Calls Try.prog 19 #[.string s] w fun e w' => e = .returned (.string s) ∧ Below w.heap.size w w' := by
  by_cases h0 : s.size = 0
  · obtain rfl : s = ⟨#[]⟩ := ByteArray.ext (Array.eq_empty_of_size_eq_zero h0)
    go_enter Try.func19, Try.ntmps19
    go_wp2
    go_ret
    exact ⟨rfl, Below.refl _ _⟩
  · obtain ⟨i0, hi, hz0, hz1, hz2⟩ := info_parts info5
    have hinfo : (Try.prog.info? 5).map (·.size) = some 1 := by rw [hi]; simp [hz1]
    obtain ⟨M, hM⟩ : ∃ M, M = madeCells (Value.int .u8 0).cells (((s.size : Nat) : Int).toNat * i0.size) := ⟨_, rfl⟩
    have hMs : M.size = s.size := by rw [hM, size_madeCells, hz1]; simp
    have hmk : ∀ W : World, (Instr.makeSlice 34 (.int .i64 (s.size : Int)) (.int .i64 (s.size : Int))).run Try.prog W = .ok (.slice (some ⟨W.heap.size, 0, none⟩) s.size s.size) (W.alloc (.cells M 5)) := fun W => by
      have h := run_make (P := Try.prog) W 34 5 i0 (.int .u8 0) Try.underlying34 hi hz0 .i64 .i64 (s.size : Int) (s.size : Int) (by omega) (by omega) (by rw [hz2]; omega) (by omega)
      rw [← hM] at h
      simpa using h
    clear hM
    have hcp := Lib.run_copy_row_string (P := Try.prog) (w.alloc (.cells M 5)) 34 9 3 5 w.heap.size 0 s.size s.size s M 5 Try.underlying34 hinfo (heap_alloc_new w _) (Nat.le_refl _) (by omega)
    obtain ⟨Y, hY⟩ : ∃ Y, Y = (M.toList.take 0 ++ Lib.byteCells s.data.toList ++ M.toList.drop (0 + s.size)).toArray := ⟨_, rfl⟩
    rw [← hY] at hcp
    have hYl : Y.toList = Lib.byteCells s.data.toList := by
      rw [hY, List.toList_toArray, List.take_zero, List.nil_append, List.drop_of_length_le (by rw [Array.length_toList]; omega), List.append_nil]
    have hYs : Y.size = s.size := by rw [← Array.length_toList, hYl, Lib.byteCells_length, ← Lib.size_eq]
    have hgY : ((w.alloc (.cells M 5)).setRow w.heap.size Y).heap[w.heap.size]? = some (.cells Y 5 (0, 0)) := setRow_heap _ _ M _ 5 (0, 0) (heap_alloc_new w _)
    have hne : s.data.toList ≠ [] := fun e => h0 (by rw [Lib.size_eq, e]; rfl)
    have hUS := Lib.run_unsafeString_row (P := Try.prog) ((w.alloc (.cells M 5)).setRow w.heap.size Y) 37 3 9 5 Try.underlying37 cells5 w.heap.size Y.size (by unfold World.shape?; rw [hgY]) s.data.toList hne (by rw [← Lib.size_eq]; omega) (by rw [← Lib.size_eq]; omega)
      (fun j x hx => Lib.cells_of_row hgY Y.size j _ (by rw [List.take_of_length_le (by rw [Array.length_toList]; exact Nat.le_refl _), hYl]; simp [Lib.byteCells, hx]))
    rw [← Lib.size_eq] at hUS
    clear hY
    go_enter Try.func19, Try.ntmps19
    go_wp2
    go_ret
    have hb1 : Below w.heap.size w (w.alloc (.cells M 5)) := (Below.refl _ w).alloc (Nat.le_refl _) _
    have hb2 : Below w.heap.size (w.alloc (.cells M 5)) ((w.alloc (.cells M 5)).setRow w.heap.size Y) := ⟨rfl, rfl, rfl, by simp, fun k hk => setRow_other _ _ _ _ (by omega)⟩
    exact ⟨rfl, Lib.below_freeze (hb1.trans hb2) (p := ⟨w.heap.size, 0, none⟩) (Nat.le_refl _) _⟩

theorem clone_any (s : ByteArray) (hs : s.size ≤ 140737488355328) (w : World) :
    Calls Try.prog 18 #[.string s] w fun e w' => e = .returned (.string s) ∧ Below w.heap.size w w' := by
  go_enter Try.func18, Try.ntmps18
  go_wp2_with fail
  refine (slClone_any s hs _).mono ?_
  rintro e w1 ⟨rfl, hb1⟩
  go_wp2
  go_ret
  exact ⟨rfl, hb1⟩

set_option maxRecDepth 100000 in
theorem specRS_any (s : ByteArray) (a : Int) (hs : s.size ≤ 140737488355328) (w : World) :
    Calls Try.prog 13 #[.string s, .int .i64 a] w fun e w' => e = .returned (rsOut s (readA s a)) ∧ Below w.heap.size w w' := by
  have h9 := specRead_any s a hs
  have hbd : ∀ x y, readA s a = some (x, y) → x ≤ 1000000000 ∧ y ≤ s.size := fun x y h => readA_bound h
  generalize readA s a = r at h9 hbd
  cases r with
  | none =>
    simp only [rvOut] at h9
    have H := hide h9
    clear h9 hbd
    go_enter Try.func13, Try.ntmps13
    go_wp2_with fail
    refine (unhide H _).mono ?_
    rintro e w1 ⟨rfl, hb1⟩
    go_wp2
    go_ret3
    exact ⟨rfl, hb1⟩
  | some p =>
    obtain ⟨x, y⟩ := p
    obtain ⟨hx, hy⟩ := hbd x y rfl
    simp only [rvOut] at h9
    have H := hide h9
    clear h9 hbd
    by_cases h8 : (8000 : Int) < (x : Int)
    · rw [show rsOut s (some (x, y)) = .tuple #[.string ⟨#[]⟩, .int .i64 0, .bool false] from if_neg (by simp only; omega)]
      go_enter Try.func13, Try.ntmps13
      go_wp2_with fail
      refine (unhide H _).mono ?_
      rintro e w1 ⟨rfl, hb1⟩
      go_wp2
      go_ret3
      exact ⟨rfl, hb1⟩
    · by_cases hl : (s.size : Int) - (y : Int) < (x : Int)
      · rw [show rsOut s (some (x, y)) = .tuple #[.string ⟨#[]⟩, .int .i64 0, .bool false] from if_neg (by simp only; omega)]
        go_enter Try.func13, Try.ntmps13
        go_wp2_with fail
        refine (unhide H _).mono ?_
        rintro e w1 ⟨rfl, hb1⟩
        go_wp2
        go_ret3
        exact ⟨rfl, hb1⟩
      · rw [show rsOut s (some (x, y)) = .tuple #[.string (s.extract y (y + x)), .int .i64 ((y : Int) + (x : Int)), .bool true] from if_pos (by simp only; omega)]
        have hcl : (s.extract y (y + x)).size ≤ 140737488355328 := by simp [ByteArray.size_extract]; omega
        have hsl : ∀ u, (Instr.slice 9 (.string s) (some (.int .i64 (y : Int))) (some (.int .i64 ((y : Int) + (x : Int)))) none).run Try.prog u = .ok (.string (s.extract y (y + x))) u := fun u => by
          have h := run_slice_string (P := Try.prog) u 9 s .i64 .i64 (y : Int) ((y : Int) + (x : Int)) Try.underlying9 (by omega) (by omega) (by omega)
          have e : ((y : Int) + (x : Int)).toNat = y + x := by omega
          rw [e] at h
          simpa using h
        go_enter Try.func13, Try.ntmps13
        go_wp2_with fail
        refine (unhide H _).mono ?_
        rintro e w1 ⟨rfl, hb1⟩
        go_wp2
        go_ret3
        exact ⟨rfl, hb1⟩

set_option maxRecDepth 100000 in
theorem implRS_any (s : ByteArray) (a : Int) (hs : s.size ≤ 140737488355328) (w : World) :
    Calls Try.prog 14 #[.string s, .int .i64 a] w fun e w' => e = .returned (rsOut s (readA s a)) ∧ Below w.heap.size w w' := by
  have h9 := implRead_any s a hs
  have hbd : ∀ x y, readA s a = some (x, y) → x ≤ 1000000000 ∧ y ≤ s.size := fun x y h => readA_bound h
  generalize readA s a = r at h9 hbd
  cases r with
  | none =>
    simp only [rvOut] at h9
    have H := hide h9
    clear h9 hbd
    go_enter Try.func14, Try.ntmps14
    go_wp2_with fail
    refine (unhide H _).mono ?_
    rintro e w1 ⟨rfl, hb1⟩
    go_wp2
    go_ret3
    exact ⟨rfl, hb1⟩
  | some p =>
    obtain ⟨x, y⟩ := p
    obtain ⟨hx, hy⟩ := hbd x y rfl
    simp only [rvOut] at h9
    have H := hide h9
    clear h9 hbd
    by_cases h8 : (8000 : Int) < (x : Int)
    · rw [show rsOut s (some (x, y)) = .tuple #[.string ⟨#[]⟩, .int .i64 0, .bool false] from if_neg (by simp only; omega)]
      go_enter Try.func14, Try.ntmps14
      go_wp2_with fail
      refine (unhide H _).mono ?_
      rintro e w1 ⟨rfl, hb1⟩
      go_wp2
      go_ret3
      exact ⟨rfl, hb1⟩
    · by_cases hl : (s.size : Int) - (y : Int) < (x : Int)
      · rw [show rsOut s (some (x, y)) = .tuple #[.string ⟨#[]⟩, .int .i64 0, .bool false] from if_neg (by simp only; omega)]
        go_enter Try.func14, Try.ntmps14
        go_wp2_with fail
        refine (unhide H _).mono ?_
        rintro e w1 ⟨rfl, hb1⟩
        go_wp2
        go_ret3
        exact ⟨rfl, hb1⟩
      · rw [show rsOut s (some (x, y)) = .tuple #[.string (s.extract y (y + x)), .int .i64 ((y : Int) + (x : Int)), .bool true] from if_pos (by simp only; omega)]
        have hcl : (s.extract y (y + x)).size ≤ 140737488355328 := by simp [ByteArray.size_extract]; omega
        have hsl : ∀ u, (Instr.slice 9 (.string s) (some (.int .i64 (y : Int))) (some (.int .i64 ((y : Int) + (x : Int)))) none).run Try.prog u = .ok (.string (s.extract y (y + x))) u := fun u => by
          have h := run_slice_string (P := Try.prog) u 9 s .i64 .i64 (y : Int) ((y : Int) + (x : Int)) Try.underlying9 (by omega) (by omega) (by omega)
          have e : ((y : Int) + (x : Int)).toNat = y + x := by omega
          rw [e] at h
          simpa using h
        go_enter Try.func14, Try.ntmps14
        go_wp2_with fail
        refine (unhide H _).mono ?_
        rintro e w1 ⟨rfl, hb1⟩
        go_wp2_with fail
        refine (clone_any _ hcl _).mono ?_
        rintro e w2 ⟨rfl, hb2⟩
        go_wp2
        go_ret3
        exact ⟨rfl, hb1.trans (hb2.mono hb1.size)⟩
end Go.Proofs.Ytbcefikjacjplaf
