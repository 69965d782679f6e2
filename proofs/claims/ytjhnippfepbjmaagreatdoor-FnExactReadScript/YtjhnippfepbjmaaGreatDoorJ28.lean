/-
  Texts of this claim, one behind the other: RtRead, RtTrip, RtNum.
-/
import Derived.Test.YtjhnippfepbjmaaGreatDoorJ27
import Derived.Test.YtjhnippfepbjmaaGreatDoorJ4
import Derived.Laws.ResultCell

/-
  What a text tells as a root; the contract of spec.ReadRoot.
-/
namespace Go.Proofs.YtjhnippfepbjmaaGreatDoor
namespace Rt
open Go.RowKit

def byteI (x : ByteArray) (i : Nat) : Nat := if h : i < x.size then (x[i]'h).toNat else 0

theorem byteI_lt (x : ByteArray) (i : Nat) : byteI x i < 256 := by
  unfold byteI; split
  · exact UInt8.toNat_lt _
  · omega

/-- The number of the bytes 1 .. j. -/
def serN (x : ByteArray) : Nat → Nat
  | 0 => 0
  | j + 1 => 256 * serN x j + byteI x (j + 1)

theorem serN_lt (x : ByteArray) (j : Nat) : serN x j < 256 ^ j := by
  induction j with
  | zero => simp [serN]
  | succ j ih =>
    have := byteI_lt x (j + 1)
    rw [serN, Nat.pow_succ]
    omega

def treN (x : ByteArray) : Nat := 256 * byteI x 5 + byteI x 6

/-- The root that a text tells. -/
def rootA (x : ByteArray) : Option (Int × Int) :=
  if x.size = 11 ∧ okR ((serN x 4 : Nat) : Int) (((treN x : Nat) : Int) - 1) = true ∧ (sealB (rootB ((serN x 4 : Nat) : Int) (((treN x : Nat) : Int) - 1))).toList = x.toList then some (((serN x 4 : Nat) : Int), ((treN x : Nat) : Int) - 1) else none

/-- What ReadRoot tells. -/
def rootV (x : ByteArray) : Value := match rootA x with
  | some (s, t) => .tuple #[.agg #[.int .i64 s, .int .i64 t], .bool true]
  | none => .tuple #[.agg #[.int .i64 0, .int .i64 0], .bool false]

theorem rootV_some {x : ByteArray} {s t : Int} (h : rootA x = some (s, t)) : rootV x = .tuple #[.agg #[.int .i64 s, .int .i64 t], .bool true] := by unfold rootV; rw [h]
theorem rootV_none {x : ByteArray} (h : rootA x = none) : rootV x = .tuple #[.agg #[.int .i64 0, .int .i64 0], .bool false] := by unfold rootV; rw [h]

/-- A root's variable. -/
def RBox (w : World) (g : Nat) (s t : Int) : Prop := w.heap[g]? = some (.cells #[.int .i64 s, .int .i64 t] 39 (0, 0))

theorem results_root {fn : Func} {p u : Tmp} (h : fn.results = #[.cell p 39, .tmp u]) (tmps : Array Value) (w : World) (g : Nat) (a b : Int) (hp : tmps.getD p undef = .pointer (some ⟨g, 0, none⟩)) (hg : RBox w g a b) :
    (results fn tmps).run Tryz.prog w = .ok (.tuple #[.agg #[.int .i64 a, .int .i64 b], tmps.getD u undef]) w := by
  have hr := run_loadVar_row (P := Tryz.prog) w g 39 39 #[.int .i64 a, .int .i64 b] (0, 0) _ hg Tryz.underlying39 rfl (by kernel_rfl)
  rw [results_cell_tmp h, hp]
  simp [asAddr, hr, Result.andThen]

theorem RBox.two {w : World} {g : Nat} {a b : Int} (h : RBox w g a b) (x y : Int) : RBox ((w.setCell ⟨g, 0, none⟩ (.int .i64 x)).setCell ⟨g, 1, none⟩ (.int .i64 y)) g x y :=
  two_one (two_zero h _) _

end Rt
end Go.Proofs.YtjhnippfepbjmaaGreatDoor

/-
  A right root comes back from its text; what a text tells as a root has just that text.
-/
namespace Go.Proofs.YtjhnippfepbjmaaGreatDoor
namespace Rt
open Go.RowKit

theorem byteI_list (x : ByteArray) (i : Nat) : byteI x i = ((x.data.toList)[i]?.map UInt8.toNat).getD 0 := by
  unfold byteI
  split
  · rename_i h
    have e : x.data.toList[i]? = some (x[i]'h) := by
      rw [Array.getElem?_toList]
      exact Array.getElem?_eq_getElem h
    rw [e]
    rfl
  · rename_i h
    have e : x.data.toList[i]? = none := by
      rw [Array.getElem?_toList]
      exact Array.getElem?_eq_none (by show x.size ≤ i; omega)
    rw [e]
    rfl

theorem big4_list (n : Nat) : (bigB 4 n).data.toList = [UInt8.ofNat (n / 256 / 256 / 256), UInt8.ofNat (n / 256 / 256), UInt8.ofNat (n / 256), UInt8.ofNat n] := by
  simp [bigB, bigG, byte1, ByteArray.data_append]

theorem big2_list (n : Nat) : (bigB 2 n).data.toList = [UInt8.ofNat (n / 256), UInt8.ofNat n] := by
  simp [bigB, bigG, byte1, ByteArray.data_append]

theorem root_list (s t : Int) : (rootB s t).data.toList = [82, UInt8.ofNat (s.toNat / 256 / 256 / 256), UInt8.ofNat (s.toNat / 256 / 256), UInt8.ofNat (s.toNat / 256), UInt8.ofNat s.toNat, UInt8.ofNat ((t + 1).toNat / 256), UInt8.ofNat (t + 1).toNat] := by
  unfold rootB
  rw [ByteArray.data_append, ByteArray.data_append, Array.toList_append, Array.toList_append, big4_list, big2_list]
  rfl

theorem seal_list (s t : Int) : ∃ r, (sealB (rootB s t)).data.toList = [82, UInt8.ofNat (s.toNat / 256 / 256 / 256), UInt8.ofNat (s.toNat / 256 / 256), UInt8.ofNat (s.toNat / 256), UInt8.ofNat s.toNat, UInt8.ofNat ((t + 1).toNat / 256), UInt8.ofNat (t + 1).toNat] ++ r ∧ r.length = 4 := by
  refine ⟨(fourB (sumB (rootB s t))).data.toList, ?_, ?_⟩
  · unfold sealB
    rw [ByteArray.data_append, Array.toList_append, root_list]
  · rfl

theorem rootA_back (s t : Int) (h : okR s t = true) : rootA (sealB (rootB s t)) = some (s, t) := by
  obtain ⟨r, hl, hr⟩ := seal_list s t
  have hb : 0 ≤ s ∧ s ≤ 1000000000 ∧ -1 ≤ t ∧ t ≤ 399 := by
    unfold okR at h
    simp at h
    omega
  have h1 : serN (sealB (rootB s t)) 4 = s.toNat := by
    simp only [serN, byteI_list, hl]
    simp [UInt8.toNat_ofNat']
    omega
  have h2 : treN (sealB (rootB s t)) = (t + 1).toNat := by
    simp only [treN, byteI_list, hl]
    simp [UInt8.toNat_ofNat']
    omega
  have hs : (sealB (rootB s t)).size = 11 := by
    show (sealB (rootB s t)).data.size = 11
    rw [← Array.length_toList, hl, List.length_append, hr]
    rfl
  have e1 : ((serN (sealB (rootB s t)) 4 : Nat) : Int) = s := by rw [h1]; omega
  have e2 : ((treN (sealB (rootB s t)) : Nat) : Int) - 1 = t := by rw [h2]; omega
  unfold rootA
  rw [e1, e2, if_pos ⟨hs, h, rfl⟩]

theorem rootA_text {x : ByteArray} {s t : Int} (h : rootA x = some (s, t)) : okR s t = true ∧ sealB (rootB s t) = x := by
  unfold rootA at h
  split at h
  · rename_i hc
    simp at h
    obtain ⟨rfl, rfl⟩ := h
    refine ⟨hc.2.1, ?_⟩
    exact toList_inj hc.2.2
  · cases h
end Rt
end Go.Proofs.YtjhnippfepbjmaaGreatDoor

/-
  The contracts of impl.numberText and impl.numberIn: a number in so many bytes, the highest first, and back.
-/
namespace Go.Proofs.YtjhnippfepbjmaaGreatDoor
namespace Rt
open Go.RowKit

theorem or_byte (y b : Nat) (hy : y < 4294967296) (hb : b < 256) : bits .or .i64 ((y : Int) * 256) (b : Int) = 256 * (y : Int) + (b : Int) := by
  have e : bits .or .i64 ((y : Int) * 256) (b : Int) = IntKind.i64.wrap ((BitVec.ofInt 64 (((256 * y : Nat) : Int)) ||| BitVec.ofInt 64 (b : Int)).toNat : Int) := by
    rw [show ((256 * y : Nat) : Int) = (y : Int) * 256 by omega]
    rfl
  have ho : 256 * y ||| b = 256 * y + b := (Nat.two_pow_add_eq_or_of_lt (i := 8) (by omega) y).symm
  rw [e, BitVec.toNat_or, ofInt_u64 _ (by omega), ofInt_u64 _ (by omega), ho, IntWalk.i64_in _ ⟨by omega, by omega⟩]
  omega

/-- The number of all bytes, the highest first. -/
def numN (x : ByteArray) : Nat → Nat
  | 0 => 0
  | j + 1 => 256 * numN x j + byteI x j

theorem numN_lt (x : ByteArray) (j : Nat) : numN x j < 256 ^ j := by
  induction j with
  | zero => simp [numN]
  | succ j ih =>
    have := byteI_lt x j
    rw [numN, Nat.pow_succ]
    omega

set_option maxRecDepth 100000 in
set_option maxHeartbeats 1000000 in
theorem numIn_any (x : ByteArray) (hx : x.size ≤ 4) (w : World) :
    Calls Tryz.prog 172 #[.string x] w fun e w' => e = .returned (.int .i64 ((numN x x.size : Nat) : Int)) ∧ w' = w := by
  go_enter Tryz.func172, Tryz.ntmps172
  go_wp2_with fail
  go_loopw [3, 4] (fun a3 a4 wr => ∃ i : Nat, a4 = .int .i64 (i : Int) ∧ i ≤ x.size ∧ a3 = .int .i64 ((numN x i : Nat) : Int) ∧ wr = w) (fun _ a4 _ => x.size - (intOf a4).toNat)
  case atStart => exact ⟨0, rfl, Nat.zero_le _, rfl, rfl⟩
  case round =>
    obtain ⟨i, rfl, hi, rfl, rfl⟩ := hrel
    by_cases hlt : i < x.size
    · have hs := numN_lt x i
      have hs2 : numN x i < 16777216 := by
        have h3 : (256 : Nat) ^ i ≤ 256 ^ 3 := Nat.pow_le_pow_right (by omega) (by omega)
        omega
      have hse : numN x (i + 1) = 256 * numN x i + byteI x i := rfl
      have hbe : byteI x i = (x[i]'hlt).toNat := by unfold byteI; rw [dif_pos hlt]
      have hbl := byteI_lt x i
      rw [hbe] at hse hbl
      have HSE := hide hse
      have hbl2 : ((x[i]'hlt).toNat : Int) ≤ 255 := by omega
      have hi0 : (0 : Int) ≤ (i : Int) := by omega
      have hi7 : (i : Int) < (x.size : Int) := by omega
      generalize numN x i = y at hs2 HSE
      have hor := or_byte y (x[i]'hlt).toNat (by omega) hbl
      have hy1 : (y : Int) < 16777216 := by omega
      have hy0 : (0 : Int) ≤ (y : Int) := by omega
      have HN : Hid (((256 * y + (x[i]'hlt).toNat : Nat) : Int) = 256 * (y : Int) + ((x[i]'hlt).toNat : Int)) := by show _ = _; omega
      clear hs hse hbe hbl
      go_wp2
      go_roundw
      case rel => exact ⟨i + 1, by go_num, by omega, by rw [unhide HSE, unhide HN], trivial⟩
      case measure => simp [intOf]; omega
    · obtain rfl : i = x.size := by omega
      have hi7 : ¬ (x.size : Int) < (x.size : Int) := by omega
      go_wp2
      go_ret
      exact ⟨rfl, rfl⟩
theorem rep_put {α : Type} (z v : α) (j : Nat) (out : List α) : (List.replicate (j + 1) z ++ out).set j v = List.replicate j z ++ v :: out := by
  induction j with
  | zero => rfl
  | succ j ih =>
    rw [List.replicate_succ (n := j + 1), List.cons_append, List.set_cons_succ, ih]
    rfl

theorem bytes_put (j y : Nat) (out : List UInt8) : (bytesV (List.replicate (j + 1) 0 ++ out)).set j (.int .u8 ((y : Int) % 256)) = bytesV (List.replicate j 0 ++ UInt8.ofNat y :: out) := by
  have h : ((UInt8.ofNat y).toNat : Int) = (y : Int) % 256 := by simp [UInt8.toNat_ofNat']
  unfold bytesV
  rw [List.map_append, List.map_append, List.map_cons, List.map_replicate, List.map_replicate, ← h]
  exact rep_put _ _ _ _

theorem info5r : (Tryz.prog.info? 5).map (fun i => (i.zero, i.size, i.bytes)) = some (some (.int .u8 0), 1, 1) := by kernel_rfl

theorem made_bytes (n : Nat) (M : Array Value) (hM : M = madeCells (Value.int .u8 0).cells (n * 1)) : M.toList = bytesV (List.replicate n 0) ∧ M.size = n := by
  have hs : M.size = n := by rw [hM, size_madeCells, Nat.mul_one]
  refine ⟨?_, hs⟩
  apply List.ext_getElem?
  intro j
  by_cases hj : j < n
  · rw [hM]
    simp [madeCells, Value.cells, hj, bytesV, Nat.mod_one]
  · rw [List.getElem?_eq_none (by simp; omega), List.getElem?_eq_none (by rw [bytesV_length]; simp; omega)]

set_option maxRecDepth 100000 in
set_option maxHeartbeats 1000000 in
theorem numText_any (n f : Nat) (hn : n ≤ 4294967296) (hf : f ≤ 8) (w : World) :
    Calls Tryz.prog 75 #[.int .i64 (n : Int), .int .i64 (f : Int)] w fun e w' => e = .returned (.string (bigB f n)) ∧ Below w.heap.size w w' := by
  obtain ⟨i0, hi, hz0, hz1, hz2⟩ := info_parts info5r
  obtain ⟨M, hM⟩ : ∃ M, M = madeCells (Value.int .u8 0).cells (f * i0.size) := ⟨_, rfl⟩
  have hmk : ∀ W : World, (Instr.makeSlice 66 (.int .i64 (f : Int)) (.int .i64 (f : Int))).run Tryz.prog W = .ok (.slice (some ⟨W.heap.size, 0, none⟩) f f) (W.alloc (.cells M 5)) := fun W => by
    have h := run_make (P := Tryz.prog) W 66 5 i0 (.int .u8 0) Tryz.underlying66 hi hz0 .i64 .i64 (f : Int) (f : Int) (by omega) (by omega) (by rw [hz2]; omega) (by omega)
    rw [Int.toNat_natCast, ← hM] at h
    simpa using h
  have hMM := made_bytes f M (by rw [hM, hz1])
  have hown0 : (w.alloc (.cells M 5)).ownsRow w.heap.size 5 1 (.slice (some ⟨w.heap.size, 0, none⟩) f f) f (bytesV (List.replicate f 0 ++ [])) :=
    ⟨by rw [bytesV_length]; simp, .inr ⟨w.heap.size, f, M, rfl, Nat.le_refl _, heap_alloc_new w _, Nat.le_refl _, by unfold maxLen; omega, by rw [hMM.2]; omega, by rw [hMM.1, List.append_nil, List.take_of_length_le (by rw [bytesV_length]; simp)]⟩⟩
  have HO0 := hide hown0
  clear hM hMM hown0
  go_enter Tryz.func75, Tryz.ntmps75
  go_wp2_with fail
  go_loopw [0, 6] (fun a0 a6 wr => ∃ (y j : Nat) (out : ByteArray), a0 = .int .i64 (y : Int) ∧ y ≤ 4294967296 ∧ a6 = .int .i64 ((j : Int) - 1) ∧ j ≤ f ∧ wr.ownsRow w.heap.size 5 1 (.slice (some ⟨w.heap.size, 0, none⟩) f f) f (bytesV (List.replicate j 0 ++ out.data.toList)) ∧ out.size + j = f ∧ Hid (bigG j y out = bigB f n) ∧ Below w.heap.size w wr) (fun _ a6 _ => (intOf a6 + 1).toNat)
  case atStart => exact ⟨n, f, ⟨#[]⟩, rfl, hn, by go_num, Nat.le_refl _, unhide HO0, by show 0 + f = f; omega, rfl, (Below.refl _ _).alloc (Nat.le_refl _) _⟩
  case round =>
    obtain ⟨y, j, out, rfl, hy, rfl, hj, hown, hoj, HB, hb⟩ := hrel
    have HOJ := hide hoj
    have HO := hide hown
    cases j with
    | zero =>
      have hco := convert_own wr 66 9 5 w.heap.size _ out.data.toList Tryz.underlying66 Tryz.underlying5 Tryz.underlying9 (by
        have h := hown
        have e : out.data.toList.length = f := by rw [Array.length_toList]; show out.size = f; omega
        rw [e]
        simpa using h)
      have HM : Hid (out = bigB f n) := by
        show _ = _
        rw [← unhide HB, bigG]
      clear hoj hown
      have hx : ¬ (0 : Int) ≤ ((0 : Nat) : Int) - 1 := by omega
      go_wp2
      go_ret
      refine ⟨?_, hb⟩
      rw [← unhide HM]
      rfl
    | succ j =>
      have hx0 : (0 : Int) ≤ (((j + 1 : Nat) : Int)) - 1 := by omega
      have hxj : (((j + 1 : Nat) : Int)) - 1 = (j : Int) := by omega
      rw [hxj] at hx0 ⊢
      have hx1 : (j : Int) < (f : Int) := by omega
      have hce := hown.cellAt j (by omega)
      have hat : (bytesV (List.replicate (j + 1) 0 ++ out.data.toList))[j]? = some (.int .u8 0) := by
        rw [bytesV, List.getElem?_map, List.getElem?_append_left (by simp), List.getElem?_replicate]
        simp
      rw [hat] at hce
      have hfr := hown.frozenAt j
      have hst := (hown.stored j (.int .u8 ((y : Int) % 256))).1
      rw [bytes_put] at hst
      have HST := hide hst
      have HM : Hid (bigG j (y / 256) (byte1 y ++ out) = bigB f n) := by
        show _ = _
        rw [← unhide HB, bigG]
      have hbo : (byte1 y ++ out).data.toList = UInt8.ofNat y :: out.data.toList := by simp [byte1, ByteArray.data_append]
      have HBO := hide hbo
      clear hoj hown hst hat hxj hbo
      go_wp2
      go_roundw
      case rel => exact ⟨y / 256, j, byte1 y ++ out, by go_num, by omega, by go_num, by omega, by rw [unhide HBO]; exact unhide HST, by rw [ByteArray.size_append]; have := unhide HOJ; show 1 + out.size + j = f; omega, unhide HM, hb.setCell (p := ⟨w.heap.size, j, none⟩) (Nat.le_refl _) _⟩
      case measure => simp [intOf]
end Rt
end Go.Proofs.YtjhnippfepbjmaaGreatDoor
