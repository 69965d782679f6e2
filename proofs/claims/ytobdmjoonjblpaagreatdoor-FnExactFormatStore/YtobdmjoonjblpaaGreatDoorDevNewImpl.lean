/-
  The contract of impl.DeviceNew.
-/
import Derived.Test.YtobdmjoonjblpaaGreatDoorDevNew
namespace Go.Proofs.YtobdmjoonjblpaaGreatDoor
open Go.RowKit

set_option maxRecDepth 100000 in
theorem implNew_no (x : Int) (h : ¬ (1 ≤ x ∧ x ≤ 400)) (w : World) :
    Calls Tryz.prog 43 #[.int .i64 x] w fun e w' => DevPost w [] [] false e w' := by
  by_cases h1 : x < 1
  · go_enter Tryz.func43, Tryz.ntmps43
    go_wp2
    go_returns
    exact ⟨⟨_, rfl, devNil _ _⟩, (Below.refl _ _).alloc (Nat.le_refl _) _⟩
  · have h2 : 400 < x := by omega
    go_enter Tryz.func43, Tryz.ntmps43
    go_wp2
    go_returns
    exact ⟨⟨_, rfl, devNil _ _⟩, (Below.refl _ _).alloc (Nat.le_refl _) _⟩

set_option maxRecDepth 100000 in
theorem implNew_yes (n : Nat) (h0 : 1 ≤ n) (h1 : n ≤ 400) (w : World) :
    Calls Tryz.prog 43 #[.int .i64 (n : Int)] w fun e w' => DevPost w (List.replicate n ⟨#[]⟩) [] true e w' := by
  obtain ⟨i0, hi, hz0, hz1, hz2⟩ := info_parts info9
  obtain ⟨M, hM⟩ : ∃ M, M = madeCells (Value.string ⟨#[]⟩).cells (n * i0.size) := ⟨_, rfl⟩
  have hMM := made_strs n M (by rw [hM, hz1])
  have hmk : ∀ W : World, (Instr.makeSlice 22 (.int .i64 (n : Int)) (.int .i64 (n : Int))).run Tryz.prog W = .ok (.slice (some ⟨W.heap.size, 0, none⟩) n n) (W.alloc (.cells M 9)) := fun W => by
    have h := run_make (P := Tryz.prog) W 22 9 i0 (.string ⟨#[]⟩) Tryz.underlying22 hi hz0 .i64 .i64 (n : Int) (n : Int) (by omega) (by omega) (by rw [hz2]; omega) (by omega)
    rw [Int.toNat_natCast, ← hM] at h
    simpa using h
  have hown : ∀ W : World, (W.alloc (.cells M 9)).ownsRow W.heap.size 9 1 (.slice (some ⟨W.heap.size, 0, none⟩) n n) n (strsV (List.replicate n ⟨#[]⟩)) := fun W =>
    ⟨by simp [strsV], .inr ⟨W.heap.size, n, M, rfl, Nat.le_refl _, heap_alloc_new W _, Nat.le_refl _, by unfold maxLen; omega, hMM.2, by rw [hMM.1, Nat.mul_one, List.take_of_length_le (by simp [strsV])]⟩⟩
  have HO := hide hown
  have i1 : ¬ (n : Int) < 1 := by omega
  have i2 : ¬ (400 : Int) < (n : Int) := by omega
  clear hM hMM hown
  go_enter Tryz.func43, Tryz.ntmps43
  go_wp2
  go_returns
  have h := unhide HO (w.alloc (Obj.cells #[Value.slice (some ⟨w.heap.size + 1, 0, none⟩) n n, Value.slice none 0 0] 25))
  simp only [World.size_alloc] at h
  refine ⟨⟨_, rfl, _, _, rfl, ?_, ⟨rfl, .inl ⟨rfl, rfl⟩⟩, .inl (by simp [Value.ownBlock])⟩, ((Below.refl _ _).alloc (Nat.le_refl _) _).alloc (by simp) _⟩
  rw [List.length_replicate]
  exact own_lower (by omega) h




theorem implNew_any (x : Int) (w : World) : Calls Tryz.prog 43 #[.int .i64 x] w fun e w' => DevPost w (newL x) [] (newOk x) e w' := by
  by_cases h : 1 ≤ x ∧ x ≤ 400
  · have e1 : newL x = List.replicate x.toNat ⟨#[]⟩ := if_pos h
    have e2 : newOk x = true := by simp [newOk, h]
    rw [e1, e2]
    obtain ⟨n, rfl⟩ := Int.eq_ofNat_of_zero_le (show 0 ≤ x by omega)
    exact implNew_yes n (by omega) (by omega) w
  · have e1 : newL x = [] := if_neg h
    have e2 : newOk x = false := by simp only [newOk, h, decide_false]
    rw [e1, e2]
    exact implNew_no x h w
end Go.Proofs.YtobdmjoonjblpaaGreatDoor
