/-
 UnsealImpl, WShort.
-/
import Derived.Test.YtihnaddfpmjpaaaGreatDoorJ46
import Derived.Test.YtihnaddfpmjpaaaGreatDoorJ39
import Derived.Test.YtihnaddfpmjpaaaGreatDoorJ25
namespace Go.Proofs.YtihnaddfpmjpaaaGreatDoor
open Go.RowKit
theorem clone_any (s : ByteArray) (hs : s.size ≤ 140737488355328) (w : World) :
    Calls Tryz.prog 91 #[.string s] w fun e w' => e = .returned (.string s) ∧ Below w.heap.size w w' := by
  go_enter Tryz.func91, Tryz.ntmps91
  go_wp2_with fail
  refine (Tryz.stringslite_Clone s _ (by omega)).mono ?_
  rintro e w1 ⟨rfl, hb1⟩
  go_wp2
  go_ret
  exact ⟨rfl, hb1⟩
theorem implUnsealed_short (s : ByteArray) (h : s.size < 4) (w : World) :
    Calls Tryz.prog 60 #[.string s] w fun e w' => e = .returned (.tuple #[.string ⟨#[]⟩, .bool false]) ∧ Below w.heap.size w w' := by
  have hx : (s.size : Int) < 4 := by omega
  go_enter Tryz.func60, Tryz.ntmps60
  go_wp2
  go_ret2
  exact ⟨rfl, Below.refl _ _⟩
set_option maxRecDepth 100000 in
theorem implUnsealed_long (s u : ByteArray) (h : 4 ≤ s.size) (w : World)
    (H1 : Hid (∀ w, Calls Tryz.prog 56 #[.string u] w fun e w' => e = .returned (.tuple #[.string ⟨#[]⟩, .bool false]) ∧ Below w.heap.size w w'))
    (hs2 : ∀ w, (Instr.slice 9 (.string s) none (some (.int .i64 ((s.size : Int) - 4))) none).run Tryz.prog w = .ok (.string u) w) (hs : s.size ≤ 140737488355328) :
    Calls Tryz.prog 60 #[.string s] w fun e w' => e = .returned (.tuple #[.string ⟨#[]⟩, .bool false]) ∧ Below w.heap.size w w' := by
  have hx : ¬ (s.size : Int) < 4 := by omega
  go_enter Tryz.func60, Tryz.ntmps60
  go_wp2_with fail
  refine (unhide H1 _).mono ?_
  rintro e w1 ⟨rfl, hb1⟩
  go_wp2
  go_ret2
  exact ⟨rfl, hb1⟩
set_option maxRecDepth 100000 in
set_option maxHeartbeats 1000000 in
theorem implUnsealed_walk (s u t : ByteArray) (h : 4 ≤ s.size) (hs : s.size ≤ 8004) (w : World)
    (H1 : Hid (∀ w, Calls Tryz.prog 56 #[.string u] w fun e w' => e = .returned (.tuple #[.string t, .bool true]) ∧ Below w.heap.size w w'))
    (H2 : Hid (∀ w, Calls Tryz.prog 91 #[.string u] w fun e w' => e = .returned (.string u) ∧ Below w.heap.size w w'))
    (hs2 : ∀ w, (Instr.slice 9 (.string s) none (some (.int .i64 ((s.size : Int) - 4))) none).run Tryz.prog w = .ok (.string u) w) :
    Calls Tryz.prog 60 #[.string s] w fun e w' => e = .returned (unOut u t s) ∧ Below w.heap.size w w' := by
  have hx : ¬ (s.size : Int) < 4 := by omega
  cases hq : (t.toList == s.toList)
  · have hne : t ≠ s := fun e => by rw [e] at hq; simp at hq
    have E := hide (unOut_no (u := u) hne)
    clear hne
    go_enter Tryz.func60, Tryz.ntmps60
    go_wp2_with fail
    refine (unhide H1 _).mono ?_
    rintro e w1 ⟨rfl, hb1⟩
    go_wp2
    go_ret2
    rw [unhide E]
    exact ⟨rfl, hb1⟩
  · have he : t = s := toList_inj (eq_of_beq hq)
    have E := hide (unOut_yes (u := u) he)
    clear he
    go_enter Tryz.func60, Tryz.ntmps60
    go_wp2_with fail
    refine (unhide H1 _).mono ?_
    rintro e w1 ⟨rfl, hb1⟩
    go_wp2_with fail
    refine (unhide H2 _).mono ?_
    rintro e w2 ⟨rfl, hb2⟩
    go_wp2
    go_ret2
    rw [unhide E]
    exact ⟨rfl, hb1.trans (hb2.mono hb1.size)⟩
theorem data_inj {a b : ByteArray} (h : a.data.toList = b.data.toList) : a = b := by
  cases a; cases b; simp_all [Array.toList_inj]
theorem cut_join (s : ByteArray) (n : Nat) : s.extract 0 n ++ s.extract n s.size = s := by
  apply data_inj
  simp
theorem join_right {u f v : ByteArray} (h : u ++ f = u ++ v) : f = v := by
  have h2 := congrArg (fun x : ByteArray => x.data.toList) h
  simp [ByteArray.data_append] at h2
  exact data_inj (by rw [h2])
theorem unOut_sealed (s : ByteArray) : unOut (s.extract 0 (s.size - 4)) (sealB (s.extract 0 (s.size - 4))) s = unsealOut s := by
  unfold unsealOut
  by_cases h : s.extract (s.size - 4) s.size = fourB (sumB (s.extract 0 (s.size - 4)))
  · rw [unOut_yes h, unOut_yes]
    show s.extract 0 (s.size - 4) ++ _ = _
    rw [← h]
    exact cut_join s _
  · rw [unOut_no h, unOut_no]
    intro e
    refine h (join_right (u := s.extract 0 (s.size - 4)) ?_)
    rw [cut_join]
    exact e.symm
theorem implUnsealed_any (s : ByteArray) (hs : s.size ≤ 140737488355328) (w : World) :
    Calls Tryz.prog 60 #[.string s] w fun e w' => e = .returned (unsealA s) ∧ Below w.heap.size w w' := by
  have e4 : 4 ≤ s.size → ((s.size : Int) - 4).toNat = s.size - 4 := by omega
  have hsl : 4 ≤ s.size → ∀ w, (Instr.slice 9 (.string s) none (some (.int .i64 ((s.size : Int) - 4))) none).run Tryz.prog w = .ok (.string (s.extract 0 (s.size - 4))) w := fun h4 u => by
    have h := run_slice_string_to_if (P := Tryz.prog) u 9 s .i64 ((s.size : Int) - 4) Tryz.underlying9
    rw [if_pos ⟨by omega, by omega⟩, e4 h4] at h
    exact h
  have hsz : (s.extract 0 (s.size - 4)).size = s.size - 4 := by simp
  unfold unsealA
  split
  · rename_i h
    rw [← unOut_sealed]
    refine implUnsealed_walk s _ _ h.1 h.2 w (fun w => ?_) (fun w => clone_any _ (by omega) w) (hsl h.1)
    have hh := implSealed_any (s.extract 0 (s.size - 4)) w
    unfold sealA at hh
    rw [if_pos (by omega)] at hh
    exact hh
  · rename_i h
    by_cases h4 : s.size < 4
    · exact implUnsealed_short s h4 w
    · refine implUnsealed_long s (s.extract 0 (s.size - 4)) (by omega) w (fun w => ?_) (hsl (by omega)) hs
      have hh := implSealed_any (s.extract 0 (s.size - 4)) w
      unfold sealA at hh
      rw [if_neg (by omega)] at hh
      exact hh
theorem implShort_yes (s : ByteArray) (h : s.size ≤ 8000) (w : World) :
    Calls Tryz.prog 87 #[.string s] w fun e w' => e = .returned (.tuple #[.string (⟨(varB 4 s.size).toArray⟩ ++ s), .bool true]) ∧ Below w.heap.size w w' := by
  have hl := varB_length 4 s.size
  go_enter Tryz.func87, Tryz.ntmps87
  go_wp2_with fail
  refine (implVar_yes s.size (by omega) _).mono ?_
  rintro e w1 ⟨rfl, hb1⟩
  go_wp2
  go_ret2
  exact ⟨rfl, hb1⟩
set_option maxRecDepth 100000 in
theorem specRS_any (s : ByteArray) (a : Int) (hs : s.size ≤ 140737488355328) (w : World) :
    Calls Tryz.prog 59 #[.string s, .int .i64 a] w fun e w' => e = .returned (rsOut s (readA s a)) ∧ Below w.heap.size w w' := by
  have h9 := specRead_any s a hs
  have hbd : ∀ x y, readA s a = some (x, y) → x ≤ 1000000000 ∧ y ≤ s.size := fun x y h => readA_bound h
  generalize readA s a = r at h9 hbd
  cases r with
  | none =>
    simp only [rvOut] at h9
    have H := hide h9
    clear h9 hbd
    go_enter Tryz.func59, Tryz.ntmps59
    go_wp2_with fail
    refine (unhide H _).mono ?_
    rintro e w1 ⟨rfl, hb1⟩
    go_wp2
    go_ret3
    exact ⟨rfl, hb1⟩
  | some p =>
    obtain ⟨x, y⟩ := p
    obtain ⟨hx, hy⟩ := hbd x y rfl
    simp only [rvOut] at h9
    have H := hide h9
    clear h9 hbd
    by_cases h8 : (8000 : Int) < (x : Int)
    · rw [show rsOut s (some (x, y)) = .tuple #[.string ⟨#[]⟩, .int .i64 0, .bool false] from if_neg (by simp only; omega)]
      go_enter Tryz.func59, Tryz.ntmps59
      go_wp2_with fail
      refine (unhide H _).mono ?_
      rintro e w1 ⟨rfl, hb1⟩
      go_wp2
      go_ret3
      exact ⟨rfl, hb1⟩
    · by_cases hl : (s.size : Int) - (y : Int) < (x : Int)
      · rw [show rsOut s (some (x, y)) = .tuple #[.string ⟨#[]⟩, .int .i64 0, .bool false] from if_neg (by simp only; omega)]
        go_enter Tryz.func59, Tryz.ntmps59
        go_wp2_with fail
        refine (unhide H _).mono ?_
        rintro e w1 ⟨rfl, hb1⟩
        go_wp2
        go_ret3
        exact ⟨rfl, hb1⟩
      · rw [show rsOut s (some (x, y)) = .tuple #[.string (s.extract y (y + x)), .int .i64 ((y : Int) + (x : Int)), .bool true] from if_pos (by simp only; omega)]
        have hcl : (s.extract y (y + x)).size ≤ 140737488355328 := by simp [ByteArray.size_extract]; omega
        have hsl : ∀ u, (Instr.slice 9 (.string s) (some (.int .i64 (y : Int))) (some (.int .i64 ((y : Int) + (x : Int)))) none).run Tryz.prog u = .ok (.string (s.extract y (y + x))) u := fun u => by
          have h := run_slice_string (P := Tryz.prog) u 9 s .i64 .i64 (y : Int) ((y : Int) + (x : Int)) Tryz.underlying9 (by omega) (by omega) (by omega)
          have e : ((y : Int) + (x : Int)).toNat = y + x := by omega
          rw [e] at h
          simpa using h
        go_enter Tryz.func59, Tryz.ntmps59
        go_wp2_with fail
        refine (unhide H _).mono ?_
        rintro e w1 ⟨rfl, hb1⟩
        go_wp2
        go_ret3
        exact ⟨rfl, hb1⟩
set_option maxRecDepth 100000 in
theorem implRS_any (s : ByteArray) (a : Int) (hs : s.size ≤ 140737488355328) (w : World) :
    Calls Tryz.prog 116 #[.string s, .int .i64 a] w fun e w' => e = .returned (rsOut s (readA s a)) ∧ Below w.heap.size w w' := by
  have h9 := implRead_any s a hs
  have hbd : ∀ x y, readA s a = some (x, y) → x ≤ 1000000000 ∧ y ≤ s.size := fun x y h => readA_bound h
  generalize readA s a = r at h9 hbd
  cases r with
  | none =>
    simp only [rvOut] at h9
    have H := hide h9
    clear h9 hbd
    go_enter Tryz.func116, Tryz.ntmps116
    go_wp2_with fail
    refine (unhide H _).mono ?_
    rintro e w1 ⟨rfl, hb1⟩
    go_wp2
    go_ret3
    exact ⟨rfl, hb1⟩
  | some p =>
    obtain ⟨x, y⟩ := p
    obtain ⟨hx, hy⟩ := hbd x y rfl
    simp only [rvOut] at h9
    have H := hide h9
    clear h9 hbd
    by_cases h8 : (8000 : Int) < (x : Int)
    · rw [show rsOut s (some (x, y)) = .tuple #[.string ⟨#[]⟩, .int .i64 0, .bool false] from if_neg (by simp only; omega)]
      go_enter Tryz.func116, Tryz.ntmps116
      go_wp2_with fail
      refine (unhide H _).mono ?_
      rintro e w1 ⟨rfl, hb1⟩
      go_wp2
      go_ret3
      exact ⟨rfl, hb1⟩
    · by_cases hl : (s.size : Int) - (y : Int) < (x : Int)
      · rw [show rsOut s (some (x, y)) = .tuple #[.string ⟨#[]⟩, .int .i64 0, .bool false] from if_neg (by simp only; omega)]
        go_enter Tryz.func116, Tryz.ntmps116
        go_wp2_with fail
        refine (unhide H _).mono ?_
        rintro e w1 ⟨rfl, hb1⟩
        go_wp2
        go_ret3
        exact ⟨rfl, hb1⟩
      · rw [show rsOut s (some (x, y)) = .tuple #[.string (s.extract y (y + x)), .int .i64 ((y : Int) + (x : Int)), .bool true] from if_pos (by simp only; omega)]
        have hcl : (s.extract y (y + x)).size ≤ 140737488355328 := by simp [ByteArray.size_extract]; omega
        have hsl : ∀ u, (Instr.slice 9 (.string s) (some (.int .i64 (y : Int))) (some (.int .i64 ((y : Int) + (x : Int)))) none).run Tryz.prog u = .ok (.string (s.extract y (y + x))) u := fun u => by
          have h := run_slice_string (P := Tryz.prog) u 9 s .i64 .i64 (y : Int) ((y : Int) + (x : Int)) Tryz.underlying9 (by omega) (by omega) (by omega)
          have e : ((y : Int) + (x : Int)).toNat = y + x := by omega
          rw [e] at h
          simpa using h
        go_enter Tryz.func116, Tryz.ntmps116
        go_wp2_with fail
        refine (unhide H _).mono ?_
        rintro e w1 ⟨rfl, hb1⟩
        go_wp2_with fail
        refine (clone_any _ hcl _).mono ?_
        rintro e w2 ⟨rfl, hb2⟩
        go_wp2
        go_ret3
        exact ⟨rfl, hb1.trans (hb2.mono hb1.size)⟩
end Go.Proofs.YtihnaddfpmjpaaaGreatDoor
