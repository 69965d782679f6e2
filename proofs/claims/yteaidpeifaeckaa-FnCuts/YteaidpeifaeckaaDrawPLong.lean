/-
  The contract of spec.l01Long: some text of so many bytes; nothing old is written.
-/
import Derived.Test.YteaidpeifaeckaaDrawPText
namespace Go.Proofs.Yteaidpeifaeckaa
namespace Pg
open Go.RowKit

theorem set_bytes (l : List UInt8) (i : Nat) (c : UInt8) : (bytesV l).set i (.int .u8 (c.toNat : Int)) = bytesV (l.set i c) := by
  simp [bytesV, List.map_set]

set_option maxRecDepth 100000 in
set_option maxHeartbeats 1000000 in
theorem long_any (n : Nat) (hn : n ≤ 100000) (w : World) :
    Calls Try.prog 12 #[.int .i64 (n : Int), .int .u8 200] w fun e w' => (∃ s : ByteArray, e = .returned (.string s) ∧ s.size = n) ∧ Below w.heap.size w w' := by
  obtain ⟨i0, hi, hz0, hz1, hz2⟩ := info_parts info5d
  obtain ⟨M, hM⟩ : ∃ M, M = madeCells (Value.int .u8 0).cells (n * i0.size) := ⟨_, rfl⟩
  have hMs : M.size = n * 1 := by rw [hM, size_madeCells, hz1]
  have hMl : M.toList = bytesV (List.replicate n 0) := by
    rw [hM, hz1]
    simp [madeCells, bytesV, Value.cells]
    refine List.eq_replicate_iff.2 ⟨by simp, fun b hb => ?_⟩
    obtain ⟨x, _, rfl⟩ := List.mem_map.1 hb
    simp [Nat.mod_one]
  have hmk : ∀ W : World, (Instr.makeSlice 22 (.int .i64 (n : Int)) (.int .i64 (n : Int))).run Try.prog W = .ok (.slice (some ⟨W.heap.size, 0, none⟩) n n) (W.alloc (.cells M 5)) := fun W => by
    have h := run_make (P := Try.prog) W 22 5 i0 (.int .u8 0) Try.underlying22 hi hz0 .i64 .i64 (n : Int) (n : Int) (by omega) (by omega) (by rw [hz2]; omega) (by omega)
    rw [Int.toNat_natCast, ← hM] at h
    simpa using h
  have hown0 : (w.alloc (.cells M 5)).ownsRow w.heap.size 5 1 (.slice (some ⟨w.heap.size, 0, none⟩) n n) n (bytesV (List.replicate n 0)) :=
    ⟨by simp [bytesV], .inr ⟨w.heap.size, n, M, rfl, Nat.le_refl _, heap_alloc_new w _, Nat.le_refl _, by unfold maxLen; omega, hMs, by rw [hMl, Nat.mul_one, List.take_of_length_le (by simp [bytesV])]⟩⟩
  have HO0 := hide hown0
  clear hM hMs hMl hown0
  go_enter Try.func12, Try.ntmps12
  go_wp2_with fail
  go_loopw [6] (fun a6 wr => ∃ (i : Nat) (l : List UInt8), a6 = .int .i64 i ∧ i ≤ n ∧ l.length = n ∧ wr.ownsRow w.heap.size 5 1 (.slice (some ⟨w.heap.size, 0, none⟩) n n) n (bytesV l) ∧ Below w.heap.size w wr) (fun a6 _ => n - (intOf a6).toNat)
  case atStart => exact ⟨0, List.replicate n 0, rfl, Nat.zero_le _, by simp, unhide HO0, (Below.refl _ _).alloc (Nat.le_refl _) _⟩
  case round =>
    obtain ⟨i, l, rfl, hi2, hll, hown, hb⟩ := hrel
    by_cases hlt : i < n
    · have hx0 : (0 : Int) ≤ (i : Int) := by omega
      have hx1 : (i : Int) < (n : Int) := by omega
      have hfz := hown.frozenAt i
      obtain ⟨u, hce⟩ : ∃ u, wr.cell? ⟨w.heap.size, i, none⟩ = some (.int .u8 u) := by
        have hil : i < l.length := by omega
        exact ⟨((l[i]'hil).toNat : Int), by rw [hown.cellAt i (by omega)]; simp [bytesV, hil]⟩
      have hst := (hown.stored i (.int .u8 ((200 : UInt8).toNat : Int))).1
      rw [set_bytes] at hst
      have HST := hide hst
      have HL := hide hll
      clear hst hown hll
      go_wp2
      go_roundw
      case rel => exact ⟨i + 1, l.set i 200, by go_num, by omega, by simp; exact unhide HL, unhide HST, hb.setCell (p := ⟨w.heap.size, i, none⟩) (Nat.le_refl _) _⟩
      case measure => simp [intOf]; omega
    · have hown2 : wr.ownsRow w.heap.size 5 1 (.slice (some ⟨w.heap.size, 0, none⟩) n n) l.length (bytesV l) := by rw [hll]; exact hown
      have hcv := convert_own wr 22 9 5 w.heap.size (.slice (some ⟨w.heap.size, 0, none⟩) n n) l Try.underlying22 Try.underlying5 Try.underlying9 hown2
      have HL := hide hll
      clear hown hown2 hll
      go_wp2
      go_ret
      exact ⟨⟨⟨l.toArray⟩, rfl, by simp [ByteArray.size]; exact unhide HL⟩, hb⟩
end Pg
end Go.Proofs.Yteaidpeifaeckaa
