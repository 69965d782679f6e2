/-
  Over the program: what VarText, Decimal, ShortText and Hex write is read back, as contracts of the calls.
-/
import Derived.Test.YtbcefikjacjplaaDoorDraws
import Derived.Test.YtbcefikjacjplaaDoorTrips
namespace Go.Proofs.YtbcefikjacjplaaDoor
open Go.RowKit

abbrev Pow (w : World) : Prop := Lib.TabIs Tryd.prog w "internal/strconv.uint64pow10" .u64 Lib.pow10Tab

theorem numbers (Y : Int) (h0 : 0 ≤ Y) (h1 : Y ≤ 1000000000) : ∃ V D : ByteArray, V.size ≤ 5 ∧
    (∀ w, Calls Tryd.prog 6 #[.int .i64 Y] w fun e w' => e = .returned (.tuple #[.string V, .bool true]) ∧ Below w.heap.size w w') ∧
    (∀ w, Calls Tryd.prog 7 #[.string (⟨#[120]⟩ ++ V ++ ⟨#[121]⟩), .int .i64 1] w fun e w' => e = .returned (.tuple #[.int .i64 Y, .int .i64 ((V.size : Int) + 1), .bool true]) ∧ Below w.heap.size w w') ∧
    (∀ w, Pow w → Calls Tryd.prog 9 #[.int .i64 Y] w fun e w' => e = .returned (.string D) ∧ Below w.heap.size w w') ∧
    (∀ w, Pow w → Calls Tryd.prog 8 #[.string D] w fun e w' => e = .returned (.tuple #[.int .i64 Y, .bool true]) ∧ Below w.heap.size w w') := by
  obtain ⟨n, rfl⟩ := Int.eq_ofNat_of_zero_le h0
  have hn : n ≤ 1000000000 := by omega
  have hl := varB_length 4 n
  refine ⟨⟨(varB 4 n).toArray⟩, ⟨(Lib.itoa (n : Int)).toArray⟩, by rw [size_mk]; exact hl, fun w => implVar_yes n hn w, fun w => ?_, fun w hp => implDec_any (n : Int) (by omega) (by omega) w hp, fun w hp => ?_⟩
  · have e : (ByteArray.mk #[120] ++ ByteArray.mk (varB 4 n).toArray ++ ByteArray.mk #[121]) = ByteArray.mk ([120] ++ varB 4 n ++ [121]).toArray := by
      exact (congrArg (fun x => x ++ ByteArray.mk #[121]) (ByteArray.mk_append_mk [120] (varB 4 n))).trans (ByteArray.mk_append_mk ([120] ++ varB 4 n) [121])
    have h := implRead_any (ByteArray.mk ([120] ++ varB 4 n ++ [121]).toArray) 1 (by rw [size_mk]; simp; omega) w
    have hr := readA_var [120] [121] n hn
    rw [show ((([120] : List UInt8).length : Nat) : Int) = 1 from rfl] at hr
    rw [hr] at h
    rw [e, size_mk]
    have e2 : rvOut (some (n, [(120 : UInt8)].length + (varB 4 n).length)) = .tuple #[.int .i64 (n : Int), .int .i64 (((varB 4 n).length : Int) + 1), .bool true] := by
      simp only [rvOut, List.length_cons, List.length_nil]
      rw [show ((0 + 1 + (varB 4 n).length : Nat) : Int) = ((varB 4 n).length : Int) + 1 by omega]
    rw [e2] at h
    exact h
  · obtain ⟨d1, d2⟩ := readDec_dec n hn
    have h := implRD_yes ⟨(Lib.itoa (n : Int)).toArray⟩ d1 w hp
    rw [d2] at h
    exact h

theorem texts (T : ByteArray) (h : T.size ≤ 300) : ∃ A X : ByteArray, A.size ≤ 400 ∧
    (∀ w, Calls Tryd.prog 11 #[.string T] w fun e w' => e = .returned (.tuple #[.string A, .bool true]) ∧ Below w.heap.size w w') ∧
    (∀ w, Calls Tryd.prog 12 #[.string A, .int .i64 0] w fun e w' => e = .returned (.tuple #[.string T, .int .i64 (A.size : Int), .bool true]) ∧ Below w.heap.size w w') ∧
    (∀ w, Calls Tryd.prog 13 #[.string T] w fun e w' => e = .returned (.tuple #[.string X, .bool true]) ∧ Below w.heap.size w w') ∧
    (∀ w, Calls Tryd.prog 14 #[.string X] w fun e w' => e = .returned (.tuple #[.string T, .bool true]) ∧ Below w.heap.size w w') := by
  have hl := varB_length 4 T.size
  have hT : T = ByteArray.mk T.data.toList.toArray := by simp
  have eA : (ByteArray.mk (varB 4 T.size).toArray ++ T) = ByteArray.mk ([] ++ varB 4 T.size ++ T.data.toList).toArray := by
    conv => lhs; rw [hT]
    rw [ByteArray.mk_append_mk]
    simp
  have hsA : (ByteArray.mk (varB 4 T.size).toArray ++ T).size = (varB 4 T.size).length + T.size := by
    rw [ByteArray.size_append', size_mk]
  have hdl : T.data.toList.length = T.size := by simp
  refine ⟨ByteArray.mk (varB 4 T.size).toArray ++ T, ⟨(hexB T.data.toList).toArray⟩, by rw [hsA]; omega, fun w => implShort_yes T (by omega) w, fun w => ?_, fun w => implHex_yes T (by omega) w, fun w => ?_⟩
  · have hs := implRS_any (ByteArray.mk (varB 4 T.size).toArray ++ T) 0 (by rw [hsA]; omega) w
    have hr := readA_var [] T.data.toList T.size (by omega)
    rw [show ((([] : List UInt8).length : Nat) : Int) = 0 from rfl, ← eA] at hr
    rw [hr] at hs
    have e2 : rsOut (ByteArray.mk (varB 4 T.size).toArray ++ T) (some (T.size, ([] : List UInt8).length + (varB 4 T.size).length)) = .tuple #[.string T, .int .i64 ((ByteArray.mk (varB 4 T.size).toArray ++ T).size : Int), .bool true] := by
      simp only [rsOut, List.length_nil, Nat.zero_add]
      rw [if_pos ⟨by omega, by rw [hsA]; omega⟩, hsA]
      have ex : (ByteArray.mk (varB 4 T.size).toArray ++ T).extract (varB 4 T.size).length ((varB 4 T.size).length + T.size) = T := by
        apply ByteArray.ext
        apply Array.toList_inj.1
        rw [Lib.extract_data, eA]
        simp only [List.nil_append]
        rw [List.drop_left, Nat.add_sub_cancel_left, List.take_of_length_le (by rw [hdl]; exact Nat.le_refl _)]
      rw [ex, Int.natCast_add]
    rw [e2] at hs
    exact hs
  · have hz : (ByteArray.mk (hexB T.data.toList).toArray).size = 2 * T.size := by rw [size_mk, hexB_length, hdl]
    have hu := implUnhex_yes ⟨(hexB T.data.toList).toArray⟩ (by rw [hz]; omega) (by rw [hz]; omega) w
    have ht := unhex_hex T.data.toList T.size 0 (by rw [hdl]; rfl)
    rw [hz, show 2 * T.size / 2 = T.size by omega] at hu
    rw [show 2 * 0 = 0 from rfl, List.take_zero] at ht
    rw [ht] at hu
    have e3 : uhOut (some T.data.toList) = .tuple #[.string T, .bool true] := by simp [uhOut]
    rw [e3] at hu
    exact hu
end Go.Proofs.YtbcefikjacjplaaDoor
