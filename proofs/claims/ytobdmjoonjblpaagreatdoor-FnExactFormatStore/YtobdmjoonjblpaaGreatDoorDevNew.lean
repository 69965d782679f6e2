/-
  The contract of spec.DeviceNew.
-/
import Derived.Test.YtobdmjoonjblpaaGreatDoorMarkDev
namespace Go.Proofs.YtobdmjoonjblpaaGreatDoor
open Go.RowKit

/-- What a function answers that hands back a device and a flag: both new. -/
def DevPost (w : World) (L : List ByteArray) (Q : List (Int × ByteArray)) (b : Bool) (e : Ending) (w' : World) : Prop :=
  (∃ d, e = .returned (.tuple #[d, .bool b]) ∧ DevOwn w' w.heap.size d L Q) ∧ Below w.heap.size w w'

theorem devNil (w : World) (B : Nat) : DevOwn w B (.agg #[.slice none 0 0, .slice none 0 0]) [] [] :=
  ⟨_, _, rfl, ⟨rfl, .inl ⟨rfl, rfl⟩⟩, ⟨rfl, .inl ⟨rfl, rfl⟩⟩, .inr rfl⟩

set_option maxRecDepth 100000 in
theorem specNew_no (x : Int) (h : ¬ (1 ≤ x ∧ x ≤ 400)) (w : World) :
    Calls Tryz.prog 41 #[.int .i64 x] w fun e w' => DevPost w [] [] false e w' := by
  have hq : (decide ((1 : Int) ≤ x) && decide (x ≤ 400)) = false := by simp; omega
  have H := hide (fun w => l01In_any x 1 400 w)
  rw [hq] at H
  clear hq
  go_enter Tryz.func41, Tryz.ntmps41
  go_wp2_with fail
  refine (unhide H _).mono ?_
  rintro e w1 ⟨rfl, rfl⟩
  go_wp2
  go_returns
  exact ⟨⟨_, rfl, devNil _ _⟩, (Below.refl _ _).alloc (Nat.le_refl _) _⟩

set_option maxRecDepth 100000 in
theorem specNew_yes (n : Nat) (h0 : 1 ≤ n) (h1 : n ≤ 400) (w : World) :
    Calls Tryz.prog 41 #[.int .i64 (n : Int)] w fun e w' => DevPost w (List.replicate n ⟨#[]⟩) [] true e w' := by
  obtain ⟨i0, hi, hz0, hz1, hz2⟩ := info_parts info9
  obtain ⟨M, hM⟩ : ∃ M, M = madeCells (Value.string ⟨#[]⟩).cells (n * i0.size) := ⟨_, rfl⟩
  have hMM := made_strs n M (by rw [hM, hz1])
  have hmk : ∀ W : World, (Instr.makeSlice 22 (.int .i64 (n : Int)) (.int .i64 (n : Int))).run Tryz.prog W = .ok (.slice (some ⟨W.heap.size, 0, none⟩) n n) (W.alloc (.cells M 9)) := fun W => by
    have h := run_make (P := Tryz.prog) W 22 9 i0 (.string ⟨#[]⟩) Tryz.underlying22 hi hz0 .i64 .i64 (n : Int) (n : Int) (by omega) (by omega) (by rw [hz2]; omega) (by omega)
    rw [Int.toNat_natCast, ← hM] at h
    simpa using h
  have hown : ∀ W : World, (W.alloc (.cells M 9)).ownsRow W.heap.size 9 1 (.slice (some ⟨W.heap.size, 0, none⟩) n n) n (strsV (List.replicate n ⟨#[]⟩)) := fun W =>
    ⟨by simp [strsV], .inr ⟨W.heap.size, n, M, rfl, Nat.le_refl _, heap_alloc_new W _, Nat.le_refl _, by unfold maxLen; omega, hMM.2, by rw [hMM.1, Nat.mul_one, List.take_of_length_le (by simp [strsV])]⟩⟩
  have HO := hide hown
  have hq : (decide ((1 : Int) ≤ (n : Int)) && decide ((n : Int) ≤ 400)) = true := by simp; omega
  have H := hide (fun w => l01In_any (n : Int) 1 400 w)
  rw [hq] at H
  clear hq hM hMM hown
  go_enter Tryz.func41, Tryz.ntmps41
  go_wp2_with fail
  refine (unhide H _).mono ?_
  rintro e w1 ⟨rfl, rfl⟩
  go_wp2
  go_returns
  have h := unhide HO (w.alloc (Obj.cells #[Value.slice (some ⟨w.heap.size + 1, 0, none⟩) n n, Value.slice none 0 0] 25))
  simp only [World.size_alloc] at h
  refine ⟨⟨_, rfl, _, _, rfl, ?_, ⟨rfl, .inl ⟨rfl, rfl⟩⟩, .inl (by simp [Value.ownBlock])⟩, ((Below.refl _ _).alloc (Nat.le_refl _) _).alloc (by simp) _⟩
  rw [List.length_replicate]
  exact own_lower (by omega) h

/-- The sectors of a new device. -/
def newL (x : Int) : List ByteArray := if 1 ≤ x ∧ x ≤ 400 then List.replicate x.toNat ⟨#[]⟩ else []
def newOk (x : Int) : Bool := decide (1 ≤ x ∧ x ≤ 400)

theorem newL_length (x : Int) : (newL x).length ≤ 400 := by
  unfold newL
  split
  · simp; omega
  · simp

theorem specNew_any (x : Int) (w : World) : Calls Tryz.prog 41 #[.int .i64 x] w fun e w' => DevPost w (newL x) [] (newOk x) e w' := by
  by_cases h : 1 ≤ x ∧ x ≤ 400
  · have e1 : newL x = List.replicate x.toNat ⟨#[]⟩ := if_pos h
    have e2 : newOk x = true := by simp [newOk, h]
    rw [e1, e2]
    obtain ⟨n, rfl⟩ := Int.eq_ofNat_of_zero_le (show 0 ≤ x by omega)
    exact specNew_yes n (by omega) (by omega) w
  · have e1 : newL x = [] := if_neg h
    have e2 : newOk x = false := by simp only [newOk, h, decide_false]
    rw [e1, e2]
    exact specNew_no x h w
end Go.Proofs.YtobdmjoonjblpaaGreatDoor
