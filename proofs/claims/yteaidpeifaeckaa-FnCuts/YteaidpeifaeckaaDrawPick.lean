/-
  The contracts of the small draws of pages: l01Pick, l01PickInt, l04Key, l01Long: what they answer is small; nothing old but the cursor is written.
-/
import Derived.Test.YteaidpeifaeckaaDrawPKept
import Derived.Test.YteaidpeifaeckaaDrawPLong
namespace Go.Proofs.Yteaidpeifaeckaa
namespace Pg
open Go.RowKit

set_option maxRecDepth 100000 in
set_option maxHeartbeats 1000000 in
theorem long65_any (n : Nat) (hn : n ≤ 100000) (w : World) :
    Calls Try.prog 12 #[.int .i64 (n : Int), .int .u8 65] w fun e w' => (∃ s : ByteArray, e = .returned (.string s) ∧ s.size = n) ∧ Below w.heap.size w w' := by
  obtain ⟨i0, hi, hz0, hz1, hz2⟩ := info_parts info5d
  obtain ⟨M, hM⟩ : ∃ M, M = madeCells (Value.int .u8 0).cells (n * i0.size) := ⟨_, rfl⟩
  have hMs : M.size = n * 1 := by rw [hM, size_madeCells, hz1]
  have hMl : M.toList = bytesV (List.replicate n 0) := by
    rw [hM, hz1]
    simp [madeCells, bytesV, Value.cells]
    refine List.eq_replicate_iff.2 ⟨by simp, fun b hb => ?_⟩
    obtain ⟨x, _, rfl⟩ := List.mem_map.1 hb
    simp [Nat.mod_one]
  have hmk : ∀ W : World, (Instr.makeSlice 22 (.int .i64 (n : Int)) (.int .i64 (n : Int))).run Try.prog W = .ok (.slice (some ⟨W.heap.size, 0, none⟩) n n) (W.alloc (.cells M 5)) := fun W => by
    have h := run_make (P := Try.prog) W 22 5 i0 (.int .u8 0) Try.underlying22 hi hz0 .i64 .i64 (n : Int) (n : Int) (by omega) (by omega) (by rw [hz2]; omega) (by omega)
    rw [Int.toNat_natCast, ← hM] at h
    simpa using h
  have hown0 : (w.alloc (.cells M 5)).ownsRow w.heap.size 5 1 (.slice (some ⟨w.heap.size, 0, none⟩) n n) n (bytesV (List.replicate n 0)) :=
    ⟨by simp [bytesV], .inr ⟨w.heap.size, n, M, rfl, Nat.le_refl _, heap_alloc_new w _, Nat.le_refl _, by unfold maxLen; omega, hMs, by rw [hMl, Nat.mul_one, List.take_of_length_le (by simp [bytesV])]⟩⟩
  have HO0 := hide hown0
  clear hM hMs hMl hown0
  go_enter Try.func12, Try.ntmps12
  go_wp2_with fail
  go_loopw [6] (fun a6 wr => ∃ (i : Nat) (l : List UInt8), a6 = .int .i64 i ∧ i ≤ n ∧ l.length = n ∧ wr.ownsRow w.heap.size 5 1 (.slice (some ⟨w.heap.size, 0, none⟩) n n) n (bytesV l) ∧ Below w.heap.size w wr) (fun a6 _ => n - (intOf a6).toNat)
  case atStart => exact ⟨0, List.replicate n 0, rfl, Nat.zero_le _, by simp, unhide HO0, (Below.refl _ _).alloc (Nat.le_refl _) _⟩
  case round =>
    obtain ⟨i, l, rfl, hi2, hll, hown, hb⟩ := hrel
    by_cases hlt : i < n
    · have hx0 : (0 : Int) ≤ (i : Int) := by omega
      have hx1 : (i : Int) < (n : Int) := by omega
      have hfz := hown.frozenAt i
      obtain ⟨u, hce⟩ : ∃ u, wr.cell? ⟨w.heap.size, i, none⟩ = some (.int .u8 u) := by
        have hil : i < l.length := by omega
        exact ⟨((l[i]'hil).toNat : Int), by rw [hown.cellAt i (by omega)]; simp [bytesV, hil]⟩
      have hst := (hown.stored i (.int .u8 ((65 : UInt8).toNat : Int))).1
      rw [set_bytes] at hst
      have HST := hide hst
      have HL := hide hll
      clear hst hown hll
      go_wp2
      go_roundw
      case rel => exact ⟨i + 1, l.set i 65, by go_num, by omega, by simp; exact unhide HL, unhide HST, hb.setCell (p := ⟨w.heap.size, i, none⟩) (Nat.le_refl _) _⟩
      case measure => simp [intOf]; omega
    · have hown2 : wr.ownsRow w.heap.size 5 1 (.slice (some ⟨w.heap.size, 0, none⟩) n n) l.length (bytesV l) := by rw [hll]; exact hown
      have hcv := convert_own wr 22 9 5 w.heap.size (.slice (some ⟨w.heap.size, 0, none⟩) n n) l Try.underlying22 Try.underlying5 Try.underlying9 hown2
      have HL := hide hll
      clear hown hown2 hll
      go_wp2
      go_ret
      exact ⟨⟨⟨l.toArray⟩, rfl, by simp [ByteArray.size]; exact unhide HL⟩, hb⟩

set_option maxRecDepth 100000 in
set_option maxHeartbeats 1000000 in
theorem long66_any (n : Nat) (hn : n ≤ 100000) (w : World) :
    Calls Try.prog 12 #[.int .i64 (n : Int), .int .u8 66] w fun e w' => (∃ s : ByteArray, e = .returned (.string s) ∧ s.size = n) ∧ Below w.heap.size w w' := by
  obtain ⟨i0, hi, hz0, hz1, hz2⟩ := info_parts info5d
  obtain ⟨M, hM⟩ : ∃ M, M = madeCells (Value.int .u8 0).cells (n * i0.size) := ⟨_, rfl⟩
  have hMs : M.size = n * 1 := by rw [hM, size_madeCells, hz1]
  have hMl : M.toList = bytesV (List.replicate n 0) := by
    rw [hM, hz1]
    simp [madeCells, bytesV, Value.cells]
    refine List.eq_replicate_iff.2 ⟨by simp, fun b hb => ?_⟩
    obtain ⟨x, _, rfl⟩ := List.mem_map.1 hb
    simp [Nat.mod_one]
  have hmk : ∀ W : World, (Instr.makeSlice 22 (.int .i64 (n : Int)) (.int .i64 (n : Int))).run Try.prog W = .ok (.slice (some ⟨W.heap.size, 0, none⟩) n n) (W.alloc (.cells M 5)) := fun W => by
    have h := run_make (P := Try.prog) W 22 5 i0 (.int .u8 0) Try.underlying22 hi hz0 .i64 .i64 (n : Int) (n : Int) (by omega) (by omega) (by rw [hz2]; omega) (by omega)
    rw [Int.toNat_natCast, ← hM] at h
    simpa using h
  have hown0 : (w.alloc (.cells M 5)).ownsRow w.heap.size 5 1 (.slice (some ⟨w.heap.size, 0, none⟩) n n) n (bytesV (List.replicate n 0)) :=
    ⟨by simp [bytesV], .inr ⟨w.heap.size, n, M, rfl, Nat.le_refl _, heap_alloc_new w _, Nat.le_refl _, by unfold maxLen; omega, hMs, by rw [hMl, Nat.mul_one, List.take_of_length_le (by simp [bytesV])]⟩⟩
  have HO0 := hide hown0
  clear hM hMs hMl hown0
  go_enter Try.func12, Try.ntmps12
  go_wp2_with fail
  go_loopw [6] (fun a6 wr => ∃ (i : Nat) (l : List UInt8), a6 = .int .i64 i ∧ i ≤ n ∧ l.length = n ∧ wr.ownsRow w.heap.size 5 1 (.slice (some ⟨w.heap.size, 0, none⟩) n n) n (bytesV l) ∧ Below w.heap.size w wr) (fun a6 _ => n - (intOf a6).toNat)
  case atStart => exact ⟨0, List.replicate n 0, rfl, Nat.zero_le _, by simp, unhide HO0, (Below.refl _ _).alloc (Nat.le_refl _) _⟩
  case round =>
    obtain ⟨i, l, rfl, hi2, hll, hown, hb⟩ := hrel
    by_cases hlt : i < n
    · have hx0 : (0 : Int) ≤ (i : Int) := by omega
      have hx1 : (i : Int) < (n : Int) := by omega
      have hfz := hown.frozenAt i
      obtain ⟨u, hce⟩ : ∃ u, wr.cell? ⟨w.heap.size, i, none⟩ = some (.int .u8 u) := by
        have hil : i < l.length := by omega
        exact ⟨((l[i]'hil).toNat : Int), by rw [hown.cellAt i (by omega)]; simp [bytesV, hil]⟩
      have hst := (hown.stored i (.int .u8 ((66 : UInt8).toNat : Int))).1
      rw [set_bytes] at hst
      have HST := hide hst
      have HL := hide hll
      clear hst hown hll
      go_wp2
      go_roundw
      case rel => exact ⟨i + 1, l.set i 66, by go_num, by omega, by simp; exact unhide HL, unhide HST, hb.setCell (p := ⟨w.heap.size, i, none⟩) (Nat.le_refl _) _⟩
      case measure => simp [intOf]; omega
    · have hown2 : wr.ownsRow w.heap.size 5 1 (.slice (some ⟨w.heap.size, 0, none⟩) n n) l.length (bytesV l) := by rw [hll]; exact hown
      have hcv := convert_own wr 22 9 5 w.heap.size (.slice (some ⟨w.heap.size, 0, none⟩) n n) l Try.underlying22 Try.underlying5 Try.underlying9 hown2
      have HL := hide hll
      clear hown hown2 hll
      go_wp2
      go_ret
      exact ⟨⟨⟨l.toArray⟩, rfl, by simp [ByteArray.size]; exact unhide HL⟩, hb⟩

set_option maxRecDepth 100000 in
set_option maxHeartbeats 1000000 in
theorem pickS_any (a : Option Addr) (len cap g B b n : Nat) (X : List ByteArray) (hn : 0 < n) (hn1 : n ≤ 1000) (hX : X.length = n) (hok : ∀ y ∈ X, y.size ≤ 5) (hl : len ≤ 1048576) (hB : B ≤ g) (hb : b ≠ g) (w : World) (hc : Cur a len cap g w) (hd : Code a len B w) (hx : w.heap[b]? = some (.cells (X.map fun y => Value.string y).toArray 9 (0, 0))) :
    Calls Try.prog 20 #[.pointer (some ⟨g, 0, none⟩), .slice (some ⟨b, 0, none⟩) n n] w fun e w' => (∃ y, e = .returned (Value.string y) ∧ y.size ≤ 5) ∧ Cur a len cap g w' ∧ w.grownBy w' (some g) := by
  have H := hide (below_any a len cap g B (n : Int) hl hB (by omega) w hc hd)
  have HX := hide hx
  have hbl : b < w.heap.size := by
    rcases Nat.lt_or_ge b w.heap.size with h | h
    · exact h
    · rw [Array.getElem?_eq_none h] at hx; cases hx
  have HOK := hide hok
  clear hc hd hx hok
  go_enter Try.func20, Try.ntmps20
  go_wp2_with fail
  refine (unhide H).mono ?_
  rintro e w1 ⟨x, rfl, hx0, hx1, hc1, hg1⟩
  obtain ⟨j, rfl⟩ := Int.eq_ofNat_of_zero_le hx0
  have hj : j < X.length := by omega
  have hrow : w1.heap[b]? = some (.cells (X.map fun y => Value.string y).toArray 9 (0, 0)) := by rw [hg1.block b hbl (by simp; exact hb)]; exact unhide HX
  have hce : w1.cell? ⟨b, j, none⟩ = some (Value.string X[j]) := by
    rw [cell_of_row w1 b j _ 9 (0, 0) hrow]
    simp [hj]
  have hgd := unhide HOK _ (List.getElem_mem hj)
  have HC := hide hc1
  have HG := hide hg1
  generalize X[j] = y at hce hgd
  clear hc1 hg1 hrow H HX
  go_wp2
  go_ret
  exact ⟨⟨y, rfl, hgd⟩, unhide HC, unhide HG⟩

theorem keys_small : ∀ y ∈ ([⟨#[97]⟩, ⟨#[98]⟩, ⟨#[118, 48, 48]⟩, ⟨#[118, 48, 49]⟩, ⟨#[101, 48, 49, 48, 50]⟩, ⟨#[114, 48, 48, 48, 48]⟩, ⟨#[113, 48, 48]⟩, ⟨#[122, 122]⟩, ⟨#[107, 49]⟩, ⟨#[107, 50]⟩] : List ByteArray), y.size ≤ 5 := by decide

end Pg
end Go.Proofs.Yteaidpeifaeckaa
