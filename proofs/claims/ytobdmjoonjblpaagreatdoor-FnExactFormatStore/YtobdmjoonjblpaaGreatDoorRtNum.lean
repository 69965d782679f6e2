/-
  The contracts of impl.numberText and impl.numberIn: a number in so many bytes, the highest first, and back.
-/
import Derived.Test.YtobdmjoonjblpaaGreatDoorRtRead
namespace Go.Proofs.YtobdmjoonjblpaaGreatDoor
namespace Rt
open Go.RowKit

theorem or_byte (y b : Nat) (hy : y < 4294967296) (hb : b < 256) : bits .or .i64 ((y : Int) * 256) (b : Int) = 256 * (y : Int) + (b : Int) := by
  have e : bits .or .i64 ((y : Int) * 256) (b : Int) = IntKind.i64.wrap ((BitVec.ofInt 64 (((256 * y : Nat) : Int)) ||| BitVec.ofInt 64 (b : Int)).toNat : Int) := by
    rw [show ((256 * y : Nat) : Int) = (y : Int) * 256 by omega]
    rfl
  have ho : 256 * y ||| b = 256 * y + b := (Nat.two_pow_add_eq_or_of_lt (i := 8) (by omega) y).symm
  rw [e, BitVec.toNat_or, ofInt_u64 _ (by omega), ofInt_u64 _ (by omega), ho, IntWalk.i64_in _ ⟨by omega, by omega⟩]
  omega

/-- The number of all bytes, the highest first. -/
def numN (x : ByteArray) : Nat → Nat
  | 0 => 0
  | j + 1 => 256 * numN x j + byteI x j

theorem numN_lt (x : ByteArray) (j : Nat) : numN x j < 256 ^ j := by
  induction j with
  | zero => simp [numN]
  | succ j ih =>
    have := byteI_lt x j
    rw [numN, Nat.pow_succ]
    omega

set_option maxRecDepth 100000 in
set_option maxHeartbeats 1000000 in
theorem numIn_any (x : ByteArray) (hx : x.size ≤ 4) (w : World) :
    Calls Tryz.prog 203 #[.string x] w fun e w' => e = .returned (.int .i64 ((numN x x.size : Nat) : Int)) ∧ w' = w := by
  go_enter Tryz.func203, Tryz.ntmps203
  go_wp2_with fail
  go_loopw [3, 4] (fun a3 a4 wr => ∃ i : Nat, a4 = .int .i64 (i : Int) ∧ i ≤ x.size ∧ a3 = .int .i64 ((numN x i : Nat) : Int) ∧ wr = w) (fun _ a4 _ => x.size - (intOf a4).toNat)
  case atStart => exact ⟨0, rfl, Nat.zero_le _, rfl, rfl⟩
  case round =>
    obtain ⟨i, rfl, hi, rfl, rfl⟩ := hrel
    by_cases hlt : i < x.size
    · have hs := numN_lt x i
      have hs2 : numN x i < 16777216 := by
        have h3 : (256 : Nat) ^ i ≤ 256 ^ 3 := Nat.pow_le_pow_right (by omega) (by omega)
        omega
      have hse : numN x (i + 1) = 256 * numN x i + byteI x i := rfl
      have hbe : byteI x i = (x[i]'hlt).toNat := by unfold byteI; rw [dif_pos hlt]
      have hbl := byteI_lt x i
      rw [hbe] at hse hbl
      have HSE := hide hse
      have hbl2 : ((x[i]'hlt).toNat : Int) ≤ 255 := by omega
      have hi0 : (0 : Int) ≤ (i : Int) := by omega
      have hi7 : (i : Int) < (x.size : Int) := by omega
      generalize numN x i = y at hs2 HSE
      have hor := or_byte y (x[i]'hlt).toNat (by omega) hbl
      have hy1 : (y : Int) < 16777216 := by omega
      have hy0 : (0 : Int) ≤ (y : Int) := by omega
      have HN : Hid (((256 * y + (x[i]'hlt).toNat : Nat) : Int) = 256 * (y : Int) + ((x[i]'hlt).toNat : Int)) := by show _ = _; omega
      clear hs hse hbe hbl
      go_wp2
      go_roundw
      case rel => exact ⟨i + 1, by go_num, by omega, by rw [unhide HSE, unhide HN], trivial⟩
      case measure => simp [intOf]; omega
    · obtain rfl : i = x.size := by omega
      have hi7 : ¬ (x.size : Int) < (x.size : Int) := by omega
      go_wp2
      go_ret
      exact ⟨rfl, rfl⟩
theorem rep_put {α : Type} (z v : α) (j : Nat) (out : List α) : (List.replicate (j + 1) z ++ out).set j v = List.replicate j z ++ v :: out := by
  induction j with
  | zero => rfl
  | succ j ih =>
    rw [List.replicate_succ (n := j + 1), List.cons_append, List.set_cons_succ, ih]
    rfl

theorem bytes_put (j y : Nat) (out : List UInt8) : (bytesV (List.replicate (j + 1) 0 ++ out)).set j (.int .u8 ((y : Int) % 256)) = bytesV (List.replicate j 0 ++ UInt8.ofNat y :: out) := by
  have h : ((UInt8.ofNat y).toNat : Int) = (y : Int) % 256 := by simp [UInt8.toNat_ofNat']
  unfold bytesV
  rw [List.map_append, List.map_append, List.map_cons, List.map_replicate, List.map_replicate, ← h]
  exact rep_put _ _ _ _

theorem info5r : (Tryz.prog.info? 5).map (fun i => (i.zero, i.size, i.bytes)) = some (some (.int .u8 0), 1, 1) := by kernel_rfl

theorem made_bytes (n : Nat) (M : Array Value) (hM : M = madeCells (Value.int .u8 0).cells (n * 1)) : M.toList = bytesV (List.replicate n 0) ∧ M.size = n := by
  have hs : M.size = n := by rw [hM, size_madeCells, Nat.mul_one]
  refine ⟨?_, hs⟩
  apply List.ext_getElem?
  intro j
  by_cases hj : j < n
  · rw [hM]
    simp [madeCells, Value.cells, hj, bytesV, Nat.mod_one]
  · rw [List.getElem?_eq_none (by simp; omega), List.getElem?_eq_none (by rw [bytesV_length]; simp; omega)]

set_option maxRecDepth 100000 in
set_option maxHeartbeats 1000000 in
theorem numText_any (n f : Nat) (hn : n ≤ 4294967296) (hf : f ≤ 8) (w : World) :
    Calls Tryz.prog 90 #[.int .i64 (n : Int), .int .i64 (f : Int)] w fun e w' => e = .returned (.string (bigB f n)) ∧ Below w.heap.size w w' := by
  obtain ⟨i0, hi, hz0, hz1, hz2⟩ := info_parts info5r
  obtain ⟨M, hM⟩ : ∃ M, M = madeCells (Value.int .u8 0).cells (f * i0.size) := ⟨_, rfl⟩
  have hmk : ∀ W : World, (Instr.makeSlice 67 (.int .i64 (f : Int)) (.int .i64 (f : Int))).run Tryz.prog W = .ok (.slice (some ⟨W.heap.size, 0, none⟩) f f) (W.alloc (.cells M 5)) := fun W => by
    have h := run_make (P := Tryz.prog) W 67 5 i0 (.int .u8 0) Tryz.underlying67 hi hz0 .i64 .i64 (f : Int) (f : Int) (by omega) (by omega) (by rw [hz2]; omega) (by omega)
    rw [Int.toNat_natCast, ← hM] at h
    simpa using h
  have hMM := made_bytes f M (by rw [hM, hz1])
  have hown0 : (w.alloc (.cells M 5)).ownsRow w.heap.size 5 1 (.slice (some ⟨w.heap.size, 0, none⟩) f f) f (bytesV (List.replicate f 0 ++ [])) :=
    ⟨by rw [bytesV_length]; simp, .inr ⟨w.heap.size, f, M, rfl, Nat.le_refl _, heap_alloc_new w _, Nat.le_refl _, by unfold maxLen; omega, by rw [hMM.2]; omega, by rw [hMM.1, List.append_nil, List.take_of_length_le (by rw [bytesV_length]; simp)]⟩⟩
  have HO0 := hide hown0
  clear hM hMM hown0
  go_enter Tryz.func90, Tryz.ntmps90
  go_wp2_with fail
  go_loopw [0, 6] (fun a0 a6 wr => ∃ (y j : Nat) (out : ByteArray), a0 = .int .i64 (y : Int) ∧ y ≤ 4294967296 ∧ a6 = .int .i64 ((j : Int) - 1) ∧ j ≤ f ∧ wr.ownsRow w.heap.size 5 1 (.slice (some ⟨w.heap.size, 0, none⟩) f f) f (bytesV (List.replicate j 0 ++ out.data.toList)) ∧ out.size + j = f ∧ Hid (bigG j y out = bigB f n) ∧ Below w.heap.size w wr) (fun _ a6 _ => (intOf a6 + 1).toNat)
  case atStart => exact ⟨n, f, ⟨#[]⟩, rfl, hn, by go_num, Nat.le_refl _, unhide HO0, by show 0 + f = f; omega, rfl, (Below.refl _ _).alloc (Nat.le_refl _) _⟩
  case round =>
    obtain ⟨y, j, out, rfl, hy, rfl, hj, hown, hoj, HB, hb⟩ := hrel
    have HOJ := hide hoj
    have HO := hide hown
    cases j with
    | zero =>
      have hco := convert_own wr 67 9 5 w.heap.size _ out.data.toList Tryz.underlying67 Tryz.underlying5 Tryz.underlying9 (by
        have h := hown
        have e : out.data.toList.length = f := by rw [Array.length_toList]; show out.size = f; omega
        rw [e]
        simpa using h)
      have HM : Hid (out = bigB f n) := by
        show _ = _
        rw [← unhide HB, bigG]
      clear hoj hown
      have hx : ¬ (0 : Int) ≤ ((0 : Nat) : Int) - 1 := by omega
      go_wp2
      go_ret
      refine ⟨?_, hb⟩
      rw [← unhide HM]
      rfl
    | succ j =>
      have hx0 : (0 : Int) ≤ (((j + 1 : Nat) : Int)) - 1 := by omega
      have hxj : (((j + 1 : Nat) : Int)) - 1 = (j : Int) := by omega
      rw [hxj] at hx0 ⊢
      have hx1 : (j : Int) < (f : Int) := by omega
      have hce := hown.cellAt j (by omega)
      have hat : (bytesV (List.replicate (j + 1) 0 ++ out.data.toList))[j]? = some (.int .u8 0) := by
        rw [bytesV, List.getElem?_map, List.getElem?_append_left (by simp), List.getElem?_replicate]
        simp
      rw [hat] at hce
      have hfr := hown.frozenAt j
      have hst := (hown.stored j (.int .u8 ((y : Int) % 256))).1
      rw [bytes_put] at hst
      have HST := hide hst
      have HM : Hid (bigG j (y / 256) (byte1 y ++ out) = bigB f n) := by
        show _ = _
        rw [← unhide HB, bigG]
      have hbo : (byte1 y ++ out).data.toList = UInt8.ofNat y :: out.data.toList := by simp [byte1, ByteArray.data_append]
      have HBO := hide hbo
      clear hoj hown hst hat hxj hbo
      go_wp2
      go_roundw
      case rel => exact ⟨y / 256, j, byte1 y ++ out, by go_num, by omega, by go_num, by omega, by rw [unhide HBO]; exact unhide HST, by rw [ByteArray.size_append]; have := unhide HOJ; show 1 + out.size + j = f; omega, unhide HM, hb.setCell (p := ⟨w.heap.size, j, none⟩) (Nat.le_refl _) _⟩
      case measure => simp [intOf]
end Rt
end Go.Proofs.YtobdmjoonjblpaaGreatDoor
