/-
 Four, SealSpec, SumImpl, Turn.
-/
import Derived.Test.YtihnaddfpmjpaaaGreatDoorJ45
import Derived.Deep.RegionHeld3
namespace Go.Proofs.YtihnaddfpmjpaaaGreatDoor
open Go.RowKit
theorem four_row (X : Nat) (hX : X < 4294967296) (w : World) :
    (convert 103 9 (.slice (some ⟨w.heap.size, 0, none⟩) 4 4)).run Tryz.prog (w.alloc (.cells #[.int .u8 ((X : Int) / 16777216), .int .u8 ((X : Int) / 65536 % 256), .int .u8 ((X : Int) / 256 % 256), .int .u8 ((X : Int) % 256)] 5)) =
      .ok (.string ⟨(four X).toArray⟩) (w.alloc (.cells #[.int .u8 ((X : Int) / 16777216), .int .u8 ((X : Int) / 65536 % 256), .int .u8 ((X : Int) / 256 % 256), .int .u8 ((X : Int) % 256)] 5)) := by
  refine run_convert_bytes_back _ 103 9 5 ⟨w.heap.size, 0, none⟩ 4 (four X) Tryz.underlying103 Tryz.underlying5 Tryz.underlying9 fun j hj => ?_
  have hj4 : j < 4 := hj
  rw [Addr.add_lit, Nat.zero_add, cell_of_row _ w.heap.size j _ 5 (0, 0) (heap_alloc_new w _)]
  have h1 : ((UInt8.ofNat (X / 16777216)).toNat : Int) = (X : Int) / 16777216 := by rw [toNat_ofNat_small _ (by omega)]; omega
  have h2 : ((UInt8.ofNat (X / 65536)).toNat : Int) = (X : Int) / 65536 % 256 := by simp [UInt8.toNat_ofNat']
  have h3 : ((UInt8.ofNat (X / 256)).toNat : Int) = (X : Int) / 256 % 256 := by simp [UInt8.toNat_ofNat']
  have h4 : ((UInt8.ofNat X).toNat : Int) = (X : Int) % 256 := by simp [UInt8.toNat_ofNat']
  rw [← h1, ← h2, ← h3, ← h4]
  match j, hj4 with
  | 0, _ => rfl
  | 1, _ => rfl
  | 2, _ => rfl
  | 3, _ => rfl
set_option maxRecDepth 100000 in
set_option maxHeartbeats 1000000 in
theorem four_any (X : Nat) (hX : X < 4294967296) (w : World) :
    Calls Tryz.prog 84 #[.int .u32 X] w fun e w' => e = .returned (.string ⟨(four X).toArray⟩) ∧ Below w.heap.size w w' := by
  have hcv := four_row X hX w
  go_enter Tryz.func84, Tryz.ntmps84
  go_wp2
  go_ret
  exact ⟨rfl, (Below.refl _ _).alloc (Nat.le_refl _) _⟩
theorem specSumOf_any (s : ByteArray) (hs : s.size ≤ 140737488355328) (w : World) :
    Calls Tryz.prog 85 #[.string s] w fun e w' => e = .returned (.int .u32 ((sumN 4294967295 s.data.toList : Nat) : Int)) ∧ w' = w := by
  have H := hide (specSum_any 4294967295 (by omega) s hs w)
  go_enter Tryz.func85, Tryz.ntmps85
  go_wp2_with fail
  refine (unhide H).mono ?_
  rintro e w1 ⟨rfl, rfl⟩
  go_wp2
  go_ret
  exact ⟨rfl, rfl⟩
def sumB (s : ByteArray) : Nat := sumN 4294967295 s.data.toList
def fourB (x : Nat) : ByteArray := ⟨(four x).toArray⟩
def sealB (s : ByteArray) : ByteArray := s ++ fourB (sumB s)
theorem sumB_lt (s : ByteArray) : sumB s < 4294967296 := sumN_lt _ (by omega)
set_option maxRecDepth 100000 in
set_option maxHeartbeats 1000000 in
theorem specSealed_yes (s : ByteArray) (h : s.size ≤ 8000) (w : World) :
    Calls Tryz.prog 52 #[.string s] w fun e w' => e = .returned (.tuple #[.string (sealB s), .bool true]) ∧ Below w.heap.size w w' := by
  have H1 := hide (fun w => specSumOf_any s (by omega) w)
  have H2 := hide (fun w => four_any (sumB s) (sumB_lt s) w)
  have hn : ¬ (8000 : Int) < (s.size : Int) := by omega
  have hl : (four (sumB s)).length = 4 := rfl
  go_enter Tryz.func52, Tryz.ntmps52
  go_wp2_with fail
  refine (unhide H1 _).mono ?_
  rintro e w1 ⟨rfl, rfl⟩
  go_wp2_with fail
  refine (unhide H2 _).mono ?_
  rintro e w2 ⟨rfl, hb⟩
  go_wp2
  go_ret2
  exact ⟨rfl, hb⟩
theorem toList_inj {v f : ByteArray} (h : v.toList = f.toList) : v = f := by
  have h2 : v.data.toList = f.data.toList := by rw [← ByteArray.toList_eq, ← ByteArray.toList_eq]; exact h
  cases v; cases f; simp_all [Array.toList_inj]
theorem specUnsealed_short (s : ByteArray) (h : s.size < 4) (w : World) :
    Calls Tryz.prog 57 #[.string s] w fun e w' => e = .returned (.tuple #[.string ⟨#[]⟩, .bool false]) ∧ Below w.heap.size w w' := by
  have hx : (s.size : Int) < 4 := by omega
  have hy : decide ((s.size : Int) - 4 < 0) = true := by simp; omega
  go_enter Tryz.func57, Tryz.ntmps57
  go_wp2_with fail
  go_quiet (fail)
  go_wp2
  go_ret2
  exact ⟨rfl, below_drewN (Below.refl _ _) _⟩
theorem specUnsealed_long (s : ByteArray) (h : 8004 < s.size) (hs : s.size ≤ 140737488355328) (w : World) :
    Calls Tryz.prog 57 #[.string s] w fun e w' => e = .returned (.tuple #[.string ⟨#[]⟩, .bool false]) ∧ Below w.heap.size w w' := by
  have hx : (8004 : Int) < (s.size : Int) := by omega
  have hy : decide ((s.size : Int) - 4 < 0) = false := by simp; omega
  have hz : decide ((8000 : Int) < (s.size : Int) - 4) = true := by simp; omega
  go_enter Tryz.func57, Tryz.ntmps57
  go_wp2_with fail
  go_quiet (fail)
  go_wp2
  go_ret2
  exact ⟨rfl, below_drewN (Below.refl _ _) _⟩
def unOut (u v f : ByteArray) : Value := if v = f then .tuple #[.string u, .bool true] else .tuple #[.string ⟨#[]⟩, .bool false]
def unsealOut (s : ByteArray) : Value := unOut (s.extract 0 (s.size - 4)) (s.extract (s.size - 4) s.size) (fourB (sumB (s.extract 0 (s.size - 4))))
theorem unOut_yes {u v f : ByteArray} (h : v = f) : unOut u v f = .tuple #[.string u, .bool true] := if_pos h
theorem unOut_no {u v f : ByteArray} (h : v ≠ f) : unOut u v f = .tuple #[.string ⟨#[]⟩, .bool false] := if_neg h
set_option maxRecDepth 100000 in
set_option maxHeartbeats 1000000 in
theorem specUnsealed_walk (s u v f : ByteArray) (S : Nat) (h : 4 ≤ s.size) (h2 : s.size ≤ 8004) (w : World)
    (H1 : Hid (∀ w, Calls Tryz.prog 85 #[.string u] w fun e w' => e = .returned (.int .u32 (S : Int)) ∧ w' = w))
    (H2 : Hid (∀ w, Calls Tryz.prog 84 #[.int .u32 (S : Int)] w fun e w' => e = .returned (.string f) ∧ Below w.heap.size w w'))
    (hs1 : ∀ w, (Instr.slice 9 (.string s) (some (.int .i64 ((s.size : Int) - 4))) none none).run Tryz.prog w = .ok (.string v) w)
    (hs2 : ∀ w, (Instr.slice 9 (.string s) none (some (.int .i64 ((s.size : Int) - 4))) none).run Tryz.prog w = .ok (.string u) w) :
    Calls Tryz.prog 57 #[.string s] w fun e w' => e = .returned (unOut u v f) ∧ Below w.heap.size w w' := by
  have hy : decide ((s.size : Int) - 4 < 0) = false := by simp; omega
  have hz : decide ((8000 : Int) < (s.size : Int) - 4) = false := by simp; omega
  go_enter Tryz.func57, Tryz.ntmps57
  go_wp2_with fail
  go_region_held3 (fun _ => True) (go_keep)
    (first
      | (go_at_call 85; refine (unhide H1 _).mono ?_; rintro e w1 ⟨rfl, rfl⟩)
      | (go_at_call 84; refine (unhide H2 _).mono ?_; rintro e w1 ⟨rfl, hb1⟩))
  cases hq : (v.toList == f.toList)
  · have hne : v ≠ f := fun e => by rw [e] at hq; simp at hq
    have E := hide (unOut_no (u := u) hne)
    clear hne
    go_wp2
    go_ret2
    rw [unhide E]
    exact ⟨rfl, (Below.refl _ _).drew.trans hb1⟩
  · have he : v = f := toList_inj (eq_of_beq hq)
    have E := hide (unOut_yes (u := u) he)
    clear he
    go_wp2
    go_ret2
    rw [unhide E]
    exact ⟨rfl, (Below.refl _ _).drew.trans hb1⟩
theorem specUnsealed_mid (s : ByteArray) (h : 4 ≤ s.size) (h2 : s.size ≤ 8004) (w : World) :
    Calls Tryz.prog 57 #[.string s] w fun e w' => e = .returned (unsealOut s) ∧ Below w.heap.size w w' := by
  have e4 : ((s.size : Int) - 4).toNat = s.size - 4 := by omega
  refine specUnsealed_walk s (s.extract 0 (s.size - 4)) (s.extract (s.size - 4) s.size) (fourB (sumB (s.extract 0 (s.size - 4)))) (sumB (s.extract 0 (s.size - 4))) h h2 w ?_ ?_ ?_ ?_
  · exact fun w => specSumOf_any _ (by simp; omega) w
  · exact fun w => four_any _ (sumB_lt _) w
  · intro u
    have h := run_slice_string_from_if (P := Tryz.prog) u 9 s .i64 ((s.size : Int) - 4) Tryz.underlying9
    rw [if_pos ⟨by omega, by omega⟩, e4] at h
    exact h
  · intro u
    have h := run_slice_string_to_if (P := Tryz.prog) u 9 s .i64 ((s.size : Int) - 4) Tryz.underlying9
    rw [if_pos ⟨by omega, by omega⟩, e4] at h
    exact h
def unsealA (s : ByteArray) : Value := if 4 ≤ s.size ∧ s.size ≤ 8004 then unsealOut s else .tuple #[.string ⟨#[]⟩, .bool false]
theorem specUnsealed_any (s : ByteArray) (hs : s.size ≤ 140737488355328) (w : World) :
    Calls Tryz.prog 57 #[.string s] w fun e w' => e = .returned (unsealA s) ∧ Below w.heap.size w w' := by
  unfold unsealA
  split
  · rename_i h
    exact specUnsealed_mid s h.1 h.2 w
  · rename_i h
    by_cases h4 : s.size < 4
    · exact specUnsealed_short s h4 w
    · exact specUnsealed_long s (by omega) hs w
def sealA (s : ByteArray) : Value := if s.size ≤ 8000 then .tuple #[.string (sealB s), .bool true] else .tuple #[.string ⟨#[]⟩, .bool false]
set_option maxRecDepth 100000 in
theorem halved_any (Y : Nat) (hY : Y < 4294967296) (w : World) :
    Calls Tryz.prog 139 #[.int .u32 Y] w fun e w' => e = .returned (.int .u32 ((halfN Y : Nat) : Int)) ∧ w' = w := by
  have e2 : bits .xor .u32 ((Y : Int) / 2) 3558460437 = ((Y / 2 ^^^ 3558460437 : Nat) : Int) := by
    have h := xor_turn (Y / 2) (by omega)
    simpa using h
  by_cases hodd : (Y : Int) % 2 = 1
  · have hh : Hid (halfN Y = Y / 2 ^^^ 3558460437) := if_pos (by omega)
    go_enter Tryz.func139, Tryz.ntmps139
    go_wp2
    go_ret
    rw [unhide hh]
    exact ⟨rfl, rfl⟩
  · have hh : Hid (halfN Y = Y / 2) := if_neg (by omega)
    go_enter Tryz.func139, Tryz.ntmps139
    go_wp2
    go_ret
    rw [unhide hh]
    exact ⟨by simp, rfl⟩
set_option maxRecDepth 100000 in
set_option maxHeartbeats 1000000 in
theorem overByte_any (S : Nat) (hS : S < 4294967296) (b : Nat) (hb : b < 256) (w : World) :
    Calls Tryz.prog 128 #[.int .u32 S, .int .u8 b] w fun e w' => e = .returned (.int .u32 ((byteN S b : Nat) : Int)) ∧ w' = w := by
  have hX := xor_lt hS hb
  have e1 : bits .xor .u32 (S : Int) (b : Int) = ((S ^^^ b : Nat) : Int) := xor_u32 _ _ hS (by omega)
  have HE : Hid (byteN S b = halves 8 (S ^^^ b)) := rfl
  obtain ⟨X, hXe⟩ : ∃ X, X = S ^^^ b := ⟨_, rfl⟩
  rw [← hXe] at hX e1 HE
  clear hXe
  go_enter Tryz.func128, Tryz.ntmps128
  go_wp2_with fail
  go_loop [0, 9] (fun a j => ∃ n : Nat, j = .int .i64 n ∧ n ≤ 8 ∧ a = .int .u32 ((halves n X : Nat) : Int))
    (fun _ j => 8 - (intOf j).toNat)
  case atStart => exact ⟨0, rfl, Nat.zero_le _, rfl⟩
  case round =>
    obtain ⟨n, rfl, hn, rfl⟩ := hrel
    have hY := halves_lt n hX
    by_cases hn8 : n < 8
    · have hs1 := hide (halves_succ n X)
      have H := hide (fun w => halved_any (halves n X) hY w)
      go_wp2_with fail
      refine (unhide H _).mono ?_
      rintro e w1 ⟨rfl, rfl⟩
      go_wp2
      go_round
      case rel => exact ⟨n + 1, by go_num, by omega, by rw [unhide hs1]⟩
      case measure => simp [intOf]; omega
    · obtain rfl : n = 8 := by omega
      go_wp2
      go_ret
      rw [unhide HE]
      exact ⟨rfl, rfl⟩
set_option maxRecDepth 100000 in
set_option maxHeartbeats 1000000 in
theorem over_any (S : Nat) (hS : S < 4294967296) (s : ByteArray) (hs : s.size ≤ 140737488355328) (w : World) :
    Calls Tryz.prog 111 #[.int .u32 S, .string s] w fun e w' => e = .returned (.int .u32 ((sumN S s.data.toList : Nat) : Int)) ∧ w' = w := by
  go_enter Tryz.func111, Tryz.ntmps111
  go_wp2_with fail
  go_loop [0, 5] (fun a i => ∃ k : Nat, i = .int .i64 k ∧ k ≤ s.size ∧ a = .int .u32 ((sumN S (s.data.toList.take k) : Nat) : Int))
    (fun _ i => s.size - (intOf i).toNat)
  case atStart => exact ⟨0, rfl, Nat.zero_le _, rfl⟩
  case round =>
    obtain ⟨k, rfl, hk, rfl⟩ := hrel
    have hL := sumN_lt (s.data.toList.take k) hS
    by_cases hlt : k < s.size
    · have hB := UInt8.toNat_lt (s[k]'hlt)
      have hx0 : (0 : Int) ≤ (k : Int) := by omega
      have hx1 : (k : Int) < (s.size : Int) := by omega
      have hst : sumN S (s.data.toList.take (k + 1)) = byteN (sumN S (s.data.toList.take k)) (s[k]'hlt).toNat := sumN_take_succ S s.data.toList k (by simpa using hlt)
      have HST := hide hst
      clear hst
      obtain ⟨A, hA⟩ : ∃ A, A = sumN S (s.data.toList.take k) := ⟨_, rfl⟩
      rw [← hA] at hL HST ⊢
      clear hA
      have H := hide (fun w => overByte_any A hL (s[k]'hlt).toNat hB w)
      go_wp2_with fail
      refine (unhide H _).mono ?_
      rintro e w1 ⟨rfl, rfl⟩
      go_wp2
      go_round
      case rel => exact ⟨k + 1, by go_num, by omega, by rw [unhide HST]⟩
      case measure => simp [intOf]; omega
    · obtain rfl : k = s.size := by omega
      go_wp2
      go_ret
      rw [List.take_of_length_le (by simp)]
      exact ⟨rfl, rfl⟩
theorem sumStart_any (s : ByteArray) (hs : s.size ≤ 140737488355328) (w : World) :
    Calls Tryz.prog 88 #[.string s] w fun e w' => e = .returned (.int .u32 ((sumB s : Nat) : Int)) ∧ w' = w := by
  have H := hide (over_any 4294967295 (by omega) s hs w)
  go_enter Tryz.func88, Tryz.ntmps88
  go_wp2_with fail
  refine (unhide H).mono ?_
  rintro e w1 ⟨rfl, rfl⟩
  go_wp2
  go_ret
  exact ⟨rfl, rfl⟩
set_option maxRecDepth 100000 in
set_option maxHeartbeats 1000000 in
theorem bytes_any (X : Nat) (hX : X < 4294967296) (w : World) :
    Calls Tryz.prog 89 #[.int .u32 X] w fun e w' => e = .returned (.string (fourB X)) ∧ Below w.heap.size w w' := by
  have hcv := four_row X hX w
  go_enter Tryz.func89, Tryz.ntmps89
  go_wp2
  go_ret
  exact ⟨rfl, (Below.refl _ _).alloc (Nat.le_refl _) _⟩
theorem implSealed_no (s : ByteArray) (h : (8000 : Int) < (s.size : Int)) (w : World) :
    Calls Tryz.prog 56 #[.string s] w fun e w' => e = .returned (.tuple #[.string ⟨#[]⟩, .bool false]) ∧ w' = w := by
  go_enter Tryz.func56, Tryz.ntmps56
  go_wp2
  go_ret2
  exact ⟨rfl, rfl⟩
set_option maxRecDepth 100000 in
set_option maxHeartbeats 1000000 in
theorem implSealed_walk (s f : ByteArray) (S : Nat) (h : s.size ≤ 8000) (hf : f.size = 4) (w : World)
    (H1 : Hid (∀ w, Calls Tryz.prog 88 #[.string s] w fun e w' => e = .returned (.int .u32 (S : Int)) ∧ w' = w))
    (H2 : Hid (∀ w, Calls Tryz.prog 89 #[.int .u32 (S : Int)] w fun e w' => e = .returned (.string f) ∧ Below w.heap.size w w')) :
    Calls Tryz.prog 56 #[.string s] w fun e w' => e = .returned (.tuple #[.string (s ++ f), .bool true]) ∧ Below w.heap.size w w' := by
  have hn : ¬ (8000 : Int) < (s.size : Int) := by omega
  go_enter Tryz.func56, Tryz.ntmps56
  go_wp2_with fail
  refine (unhide H1 _).mono ?_
  rintro e w1 ⟨rfl, rfl⟩
  go_wp2_with fail
  refine (unhide H2 _).mono ?_
  rintro e w2 ⟨rfl, hb⟩
  go_wp2
  go_ret2
  exact ⟨rfl, hb⟩
theorem implSealed_any (s : ByteArray) (w : World) :
    Calls Tryz.prog 56 #[.string s] w fun e w' => e = .returned (sealA s) ∧ Below w.heap.size w w' := by
  unfold sealA
  split
  · rename_i h
    exact implSealed_walk s (fourB (sumB s)) (sumB s) h rfl w (fun w => sumStart_any s (by omega) w) (fun w => bytes_any _ (sumB_lt s) w)
  · rename_i h
    exact (implSealed_no s (by omega) w).mono fun e w' hw => ⟨hw.1, hw.2 ▸ Below.refl _ _⟩
def ofL (l : List UInt8) : ByteArray := ⟨l.toArray⟩
theorem ofL_size (l : List UInt8) : (ofL l).size = l.length := by simp [ofL, ByteArray.size]
theorem ofL_data (s : ByteArray) : ofL s.data.toList = s := by cases s; simp [ofL]
theorem four_length (x : Nat) : (four x).length = 4 := rfl
theorem extract_head (A B : List UInt8) (hB : B.length = 4) : (ofL (A ++ B)).extract 0 ((ofL (A ++ B)).size - 4) = ofL A := by
  have e : (ofL (A ++ B)).size - 4 = A.length := by rw [ofL_size]; simp; omega
  rw [e]
  have h : ((ofL (A ++ B)).extract 0 A.length).data.toList = A := by simp [ofL]
  rw [← ofL_data ((ofL (A ++ B)).extract 0 A.length), h]
theorem extract_tail (A B : List UInt8) (hB : B.length = 4) : (ofL (A ++ B)).extract ((ofL (A ++ B)).size - 4) (ofL (A ++ B)).size = ofL B := by
  have e : (ofL (A ++ B)).size - 4 = A.length := by rw [ofL_size]; simp; omega
  rw [e]
  have h : ((ofL (A ++ B)).extract A.length (ofL (A ++ B)).size).data.toList = B := by rw [ofL_size]; simp [ofL]
  rw [← ofL_data ((ofL (A ++ B)).extract A.length (ofL (A ++ B)).size), h]
theorem unsealA_parts (A B : List UInt8) (hB : B.length = 4) (hA : A.length ≤ 8000) : unsealA (ofL (A ++ B)) = unOut (ofL A) (ofL B) (ofL (four (sumN 4294967295 A))) := by
  unfold unsealA
  rw [if_pos (by rw [ofL_size]; simp; omega)]
  unfold unsealOut
  rw [extract_head A B hB, extract_tail A B hB]
  simp [sumB, fourB, ofL]
theorem sealB_parts (s : ByteArray) : sealB s = ofL (s.data.toList ++ four (sumN 4294967295 s.data.toList)) := by
  have h : (sealB s).data.toList = s.data.toList ++ four (sumN 4294967295 s.data.toList) := by simp [sealB, fourB, sumB, ByteArray.data_append]
  rw [← ofL_data (sealB s), h]
theorem unsealA_back (s : ByteArray) (h : s.size ≤ 8000) : unsealA (sealB s) = .tuple #[.string s, .bool true] := by
  rw [sealB_parts, unsealA_parts _ _ (four_length _) (by simpa using h), unOut_yes rfl, ofL_data]
end Go.Proofs.YtihnaddfpmjpaaaGreatDoor
