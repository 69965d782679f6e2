/-
  Texts of this claim, one behind the other: Four, SealSpec, SumImpl, Turn.
-/
import Derived.Test.YtjhnippfepbjmaaGreatDoorJ25
import Derived.Deep.RegionHeld3

/-
  The contracts of the four bytes of a sum, and of the specification's Sealed and Unsealed.
-/
namespace Go.Proofs.YtjhnippfepbjmaaGreatDoor
open Go.RowKit

theorem four_row (X : Nat) (hX : X < 4294967296) (w : World) :
    (convert 66 9 (.slice (some ⟨w.heap.size, 0, none⟩) 4 4)).run Tryz.prog (w.alloc (.cells #[.int .u8 ((X : Int) / 16777216), .int .u8 ((X : Int) / 65536 % 256), .int .u8 ((X : Int) / 256 % 256), .int .u8 ((X : Int) % 256)] 5)) =
      .ok (.string ⟨(four X).toArray⟩) (w.alloc (.cells #[.int .u8 ((X : Int) / 16777216), .int .u8 ((X : Int) / 65536 % 256), .int .u8 ((X : Int) / 256 % 256), .int .u8 ((X : Int) % 256)] 5)) := by
  refine run_convert_bytes_back _ 66 9 5 ⟨w.heap.size, 0, none⟩ 4 (four X) Tryz.underlying66 Tryz.underlying5 Tryz.underlying9 fun j hj => ?_
  have hj4 : j < 4 := hj
  rw [Addr.add_lit, Nat.zero_add, cell_of_row _ w.heap.size j _ 5 (0, 0) (heap_alloc_new w _)]
  have h1 : ((UInt8.ofNat (X / 16777216)).toNat : Int) = (X : Int) / 16777216 := by rw [toNat_ofNat_small _ (by omega)]; omega
  have h2 : ((UInt8.ofNat (X / 65536)).toNat : Int) = (X : Int) / 65536 % 256 := by simp [UInt8.toNat_ofNat']
  have h3 : ((UInt8.ofNat (X / 256)).toNat : Int) = (X : Int) / 256 % 256 := by simp [UInt8.toNat_ofNat']
  have h4 : ((UInt8.ofNat X).toNat : Int) = (X : Int) % 256 := by simp [UInt8.toNat_ofNat']
  rw [← h1, ← h2, ← h3, ← h4]
  match j, hj4 with
  | 0, _ => rfl
  | 1, _ => rfl
  | 2, _ => rfl
  | 3, _ => rfl

set_option maxRecDepth 100000 in
set_option maxHeartbeats 1000000 in
theorem four_any (X : Nat) (hX : X < 4294967296) (w : World) :
    Calls Tryz.prog 43 #[.int .u32 X] w fun e w' => e = .returned (.string ⟨(four X).toArray⟩) ∧ Below w.heap.size w w' := by
  have hcv := four_row X hX w
  go_enter Tryz.func43, Tryz.ntmps43
  go_wp2
  go_ret
  exact ⟨rfl, (Below.refl _ _).alloc (Nat.le_refl _) _⟩

theorem specSumOf_any (s : ByteArray) (hs : s.size ≤ 140737488355328) (w : World) :
    Calls Tryz.prog 44 #[.string s] w fun e w' => e = .returned (.int .u32 ((sumN 4294967295 s.data.toList : Nat) : Int)) ∧ w' = w := by
  have H := hide (specSum_any 4294967295 (by omega) s hs w)
  go_enter Tryz.func44, Tryz.ntmps44
  go_wp2_with fail
  refine (unhide H).mono ?_
  rintro e w1 ⟨rfl, rfl⟩
  go_wp2
  go_ret
  exact ⟨rfl, rfl⟩
end Go.Proofs.YtjhnippfepbjmaaGreatDoor

/-
  The contracts of the specification's Sealed and Unsealed, for every text.
-/
namespace Go.Proofs.YtjhnippfepbjmaaGreatDoor
open Go.RowKit

def sumB (s : ByteArray) : Nat := sumN 4294967295 s.data.toList
def fourB (x : Nat) : ByteArray := ⟨(four x).toArray⟩
/-- A text and its four bytes. -/
def sealB (s : ByteArray) : ByteArray := s ++ fourB (sumB s)

theorem sumB_lt (s : ByteArray) : sumB s < 4294967296 := sumN_lt _ (by omega)

theorem specSealed_no (s : ByteArray) (h : (8000 : Int) < (s.size : Int)) (w : World) :
    Calls Tryz.prog 32 #[.string s] w fun e w' => e = .returned (.tuple #[.string ⟨#[]⟩, .bool false]) ∧ w' = w := by
  go_enter Tryz.func32, Tryz.ntmps32
  go_wp2
  go_ret2
  exact ⟨rfl, rfl⟩

set_option maxRecDepth 100000 in
set_option maxHeartbeats 1000000 in
theorem specSealed_yes (s : ByteArray) (h : s.size ≤ 8000) (w : World) :
    Calls Tryz.prog 32 #[.string s] w fun e w' => e = .returned (.tuple #[.string (sealB s), .bool true]) ∧ Below w.heap.size w w' := by
  have H1 := hide (fun w => specSumOf_any s (by omega) w)
  have H2 := hide (fun w => four_any (sumB s) (sumB_lt s) w)
  have hn : ¬ (8000 : Int) < (s.size : Int) := by omega
  have hl : (four (sumB s)).length = 4 := rfl
  go_enter Tryz.func32, Tryz.ntmps32
  go_wp2_with fail
  refine (unhide H1 _).mono ?_
  rintro e w1 ⟨rfl, rfl⟩
  go_wp2_with fail
  refine (unhide H2 _).mono ?_
  rintro e w2 ⟨rfl, hb⟩
  go_wp2
  go_ret2
  exact ⟨rfl, hb⟩

theorem toList_inj {v f : ByteArray} (h : v.toList = f.toList) : v = f := by
  have h2 : v.data.toList = f.data.toList := by rw [← ByteArray.toList_eq, ← ByteArray.toList_eq]; exact h
  cases v; cases f; simp_all [Array.toList_inj]

/-- What Unsealed answers to a text of 4 to 8004 bytes. -/
def unOut (u v f : ByteArray) : Value := if v = f then .tuple #[.string u, .bool true] else .tuple #[.string ⟨#[]⟩, .bool false]
def unsealOut (s : ByteArray) : Value := unOut (s.extract 0 (s.size - 4)) (s.extract (s.size - 4) s.size) (fourB (sumB (s.extract 0 (s.size - 4))))

theorem unOut_yes {u v f : ByteArray} (h : v = f) : unOut u v f = .tuple #[.string u, .bool true] := if_pos h
theorem unOut_no {u v f : ByteArray} (h : v ≠ f) : unOut u v f = .tuple #[.string ⟨#[]⟩, .bool false] := if_neg h

/-- What Unsealed answers. -/
def unsealA (s : ByteArray) : Value := if 4 ≤ s.size ∧ s.size ≤ 8004 then unsealOut s else .tuple #[.string ⟨#[]⟩, .bool false]

/-- What Sealed answers. -/
def sealA (s : ByteArray) : Value := if s.size ≤ 8000 then .tuple #[.string (sealB s), .bool true] else .tuple #[.string ⟨#[]⟩, .bool false]

theorem specSealed_any (s : ByteArray) (w : World) :
    Calls Tryz.prog 32 #[.string s] w fun e w' => e = .returned (sealA s) ∧ Below w.heap.size w w' := by
  unfold sealA
  split
  · rename_i h
    exact specSealed_yes s h w
  · rename_i h
    exact (specSealed_no s (by omega) w).mono fun e w' hw => ⟨hw.1, hw.2 ▸ Below.refl _ _⟩
end Go.Proofs.YtjhnippfepbjmaaGreatDoor

/-
  The contracts of the program's sums, for every sum and text.
-/
namespace Go.Proofs.YtjhnippfepbjmaaGreatDoor
open Go.RowKit

set_option maxRecDepth 100000 in
theorem halved_any (Y : Nat) (hY : Y < 4294967296) (w : World) :
    Calls Tryz.prog 148 #[.int .u32 Y] w fun e w' => e = .returned (.int .u32 ((halfN Y : Nat) : Int)) ∧ w' = w := by
  have e2 : bits .xor .u32 ((Y : Int) / 2) 3558460437 = ((Y / 2 ^^^ 3558460437 : Nat) : Int) := by
    have h := xor_turn (Y / 2) (by omega)
    simpa using h
  by_cases hodd : (Y : Int) % 2 = 1
  · have hh : Hid (halfN Y = Y / 2 ^^^ 3558460437) := if_pos (by omega)
    go_enter Tryz.func148, Tryz.ntmps148
    go_wp2
    go_ret
    rw [unhide hh]
    exact ⟨rfl, rfl⟩
  · have hh : Hid (halfN Y = Y / 2) := if_neg (by omega)
    go_enter Tryz.func148, Tryz.ntmps148
    go_wp2
    go_ret
    rw [unhide hh]
    exact ⟨by simp, rfl⟩

set_option maxRecDepth 100000 in
set_option maxHeartbeats 1000000 in
theorem overByte_any (S : Nat) (hS : S < 4294967296) (b : Nat) (hb : b < 256) (w : World) :
    Calls Tryz.prog 121 #[.int .u32 S, .int .u8 b] w fun e w' => e = .returned (.int .u32 ((byteN S b : Nat) : Int)) ∧ w' = w := by
  have hX := xor_lt hS hb
  have e1 : bits .xor .u32 (S : Int) (b : Int) = ((S ^^^ b : Nat) : Int) := xor_u32 _ _ hS (by omega)
  have HE : Hid (byteN S b = halves 8 (S ^^^ b)) := rfl
  obtain ⟨X, hXe⟩ : ∃ X, X = S ^^^ b := ⟨_, rfl⟩
  rw [← hXe] at hX e1 HE
  clear hXe
  go_enter Tryz.func121, Tryz.ntmps121
  go_wp2_with fail
  go_loop [0, 9] (fun a j => ∃ n : Nat, j = .int .i64 n ∧ n ≤ 8 ∧ a = .int .u32 ((halves n X : Nat) : Int))
    (fun _ j => 8 - (intOf j).toNat)
  case atStart => exact ⟨0, rfl, Nat.zero_le _, rfl⟩
  case round =>
    obtain ⟨n, rfl, hn, rfl⟩ := hrel
    have hY := halves_lt n hX
    by_cases hn8 : n < 8
    · have hs1 := hide (halves_succ n X)
      have H := hide (fun w => halved_any (halves n X) hY w)
      go_wp2_with fail
      refine (unhide H _).mono ?_
      rintro e w1 ⟨rfl, rfl⟩
      go_wp2
      go_round
      case rel => exact ⟨n + 1, by go_num, by omega, by rw [unhide hs1]⟩
      case measure => simp [intOf]; omega
    · obtain rfl : n = 8 := by omega
      go_wp2
      go_ret
      rw [unhide HE]
      exact ⟨rfl, rfl⟩

set_option maxRecDepth 100000 in
set_option maxHeartbeats 1000000 in
theorem over_any (S : Nat) (hS : S < 4294967296) (s : ByteArray) (hs : s.size ≤ 140737488355328) (w : World) :
    Calls Tryz.prog 105 #[.int .u32 S, .string s] w fun e w' => e = .returned (.int .u32 ((sumN S s.data.toList : Nat) : Int)) ∧ w' = w := by
  go_enter Tryz.func105, Tryz.ntmps105
  go_wp2_with fail
  go_loop [0, 5] (fun a i => ∃ k : Nat, i = .int .i64 k ∧ k ≤ s.size ∧ a = .int .u32 ((sumN S (s.data.toList.take k) : Nat) : Int))
    (fun _ i => s.size - (intOf i).toNat)
  case atStart => exact ⟨0, rfl, Nat.zero_le _, rfl⟩
  case round =>
    obtain ⟨k, rfl, hk, rfl⟩ := hrel
    have hL := sumN_lt (s.data.toList.take k) hS
    by_cases hlt : k < s.size
    · have hB := UInt8.toNat_lt (s[k]'hlt)
      have hx0 : (0 : Int) ≤ (k : Int) := by omega
      have hx1 : (k : Int) < (s.size : Int) := by omega
      have hst : sumN S (s.data.toList.take (k + 1)) = byteN (sumN S (s.data.toList.take k)) (s[k]'hlt).toNat := sumN_take_succ S s.data.toList k (by simpa using hlt)
      have HST := hide hst
      clear hst
      obtain ⟨A, hA⟩ : ∃ A, A = sumN S (s.data.toList.take k) := ⟨_, rfl⟩
      rw [← hA] at hL HST ⊢
      clear hA
      have H := hide (fun w => overByte_any A hL (s[k]'hlt).toNat hB w)
      go_wp2_with fail
      refine (unhide H _).mono ?_
      rintro e w1 ⟨rfl, rfl⟩
      go_wp2
      go_round
      case rel => exact ⟨k + 1, by go_num, by omega, by rw [unhide HST]⟩
      case measure => simp [intOf]; omega
    · obtain rfl : k = s.size := by omega
      go_wp2
      go_ret
      rw [List.take_of_length_le (by simp)]
      exact ⟨rfl, rfl⟩

theorem sumStart_any (s : ByteArray) (hs : s.size ≤ 140737488355328) (w : World) :
    Calls Tryz.prog 89 #[.string s] w fun e w' => e = .returned (.int .u32 ((sumB s : Nat) : Int)) ∧ w' = w := by
  have H := hide (over_any 4294967295 (by omega) s hs w)
  go_enter Tryz.func89, Tryz.ntmps89
  go_wp2_with fail
  refine (unhide H).mono ?_
  rintro e w1 ⟨rfl, rfl⟩
  go_wp2
  go_ret
  exact ⟨rfl, rfl⟩

set_option maxRecDepth 100000 in
set_option maxHeartbeats 1000000 in
theorem bytes_any (X : Nat) (hX : X < 4294967296) (w : World) :
    Calls Tryz.prog 90 #[.int .u32 X] w fun e w' => e = .returned (.string (fourB X)) ∧ Below w.heap.size w w' := by
  have hcv := four_row X hX w
  go_enter Tryz.func90, Tryz.ntmps90
  go_wp2
  go_ret
  exact ⟨rfl, (Below.refl _ _).alloc (Nat.le_refl _) _⟩

theorem implSealed_no (s : ByteArray) (h : (8000 : Int) < (s.size : Int)) (w : World) :
    Calls Tryz.prog 74 #[.string s] w fun e w' => e = .returned (.tuple #[.string ⟨#[]⟩, .bool false]) ∧ w' = w := by
  go_enter Tryz.func74, Tryz.ntmps74
  go_wp2
  go_ret2
  exact ⟨rfl, rfl⟩

set_option maxRecDepth 100000 in
set_option maxHeartbeats 1000000 in
theorem implSealed_walk (s f : ByteArray) (S : Nat) (h : s.size ≤ 8000) (hf : f.size = 4) (w : World)
    (H1 : Hid (∀ w, Calls Tryz.prog 89 #[.string s] w fun e w' => e = .returned (.int .u32 (S : Int)) ∧ w' = w))
    (H2 : Hid (∀ w, Calls Tryz.prog 90 #[.int .u32 (S : Int)] w fun e w' => e = .returned (.string f) ∧ Below w.heap.size w w')) :
    Calls Tryz.prog 74 #[.string s] w fun e w' => e = .returned (.tuple #[.string (s ++ f), .bool true]) ∧ Below w.heap.size w w' := by
  have hn : ¬ (8000 : Int) < (s.size : Int) := by omega
  go_enter Tryz.func74, Tryz.ntmps74
  go_wp2_with fail
  refine (unhide H1 _).mono ?_
  rintro e w1 ⟨rfl, rfl⟩
  go_wp2_with fail
  refine (unhide H2 _).mono ?_
  rintro e w2 ⟨rfl, hb⟩
  go_wp2
  go_ret2
  exact ⟨rfl, hb⟩

theorem implSealed_any (s : ByteArray) (w : World) :
    Calls Tryz.prog 74 #[.string s] w fun e w' => e = .returned (sealA s) ∧ Below w.heap.size w w' := by
  unfold sealA
  split
  · rename_i h
    exact implSealed_walk s (fourB (sumB s)) (sumB s) h rfl w (fun w => sumStart_any s (by omega) w) (fun w => bytes_any _ (sumB_lt s) w)
  · rename_i h
    exact (implSealed_no s (by omega) w).mono fun e w' hw => ⟨hw.1, hw.2 ▸ Below.refl _ _⟩
end Go.Proofs.YtjhnippfepbjmaaGreatDoor

/-
  A sealed text is Unsealed as it was; with one byte turned it is none. Without a program.
-/
namespace Go.Proofs.YtjhnippfepbjmaaGreatDoor
open Go.RowKit

def ofL (l : List UInt8) : ByteArray := ⟨l.toArray⟩

theorem ofL_size (l : List UInt8) : (ofL l).size = l.length := by simp [ofL, ByteArray.size]

theorem ofL_inj {l m : List UInt8} (h : ofL l = ofL m) : l = m := by
  have := congrArg (fun x : ByteArray => x.data.toList) h
  simpa [ofL] using this

theorem ofL_data (s : ByteArray) : ofL s.data.toList = s := by cases s; simp [ofL]

theorem four_length (x : Nat) : (four x).length = 4 := rfl

theorem extract_head (A B : List UInt8) (hB : B.length = 4) : (ofL (A ++ B)).extract 0 ((ofL (A ++ B)).size - 4) = ofL A := by
  have e : (ofL (A ++ B)).size - 4 = A.length := by rw [ofL_size]; simp; omega
  rw [e]
  have h : ((ofL (A ++ B)).extract 0 A.length).data.toList = A := by simp [ofL]
  rw [← ofL_data ((ofL (A ++ B)).extract 0 A.length), h]

theorem extract_tail (A B : List UInt8) (hB : B.length = 4) : (ofL (A ++ B)).extract ((ofL (A ++ B)).size - 4) (ofL (A ++ B)).size = ofL B := by
  have e : (ofL (A ++ B)).size - 4 = A.length := by rw [ofL_size]; simp; omega
  rw [e]
  have h : ((ofL (A ++ B)).extract A.length (ofL (A ++ B)).size).data.toList = B := by rw [ofL_size]; simp [ofL]
  rw [← ofL_data ((ofL (A ++ B)).extract A.length (ofL (A ++ B)).size), h]

theorem unsealA_parts (A B : List UInt8) (hB : B.length = 4) (hA : A.length ≤ 8000) : unsealA (ofL (A ++ B)) = unOut (ofL A) (ofL B) (ofL (four (sumN 4294967295 A))) := by
  unfold unsealA
  rw [if_pos (by rw [ofL_size]; simp; omega)]
  unfold unsealOut
  rw [extract_head A B hB, extract_tail A B hB]
  simp [sumB, fourB, ofL]

theorem sealB_parts (s : ByteArray) : sealB s = ofL (s.data.toList ++ four (sumN 4294967295 s.data.toList)) := by
  have h : (sealB s).data.toList = s.data.toList ++ four (sumN 4294967295 s.data.toList) := by simp [sealB, fourB, sumB, ByteArray.data_append]
  rw [← ofL_data (sealB s), h]

theorem sealA_small (s : ByteArray) (h : s.size ≤ 8000) : sealA s = .tuple #[.string (sealB s), .bool true] := if_pos h

theorem sealB_size (s : ByteArray) : (sealB s).size = s.size + 4 := by
  rw [sealB_parts, ofL_size]
  simp [four_length]

theorem unsealA_back (s : ByteArray) (h : s.size ≤ 8000) : unsealA (sealB s) = .tuple #[.string s, .bool true] := by
  rw [sealB_parts, unsealA_parts _ _ (four_length _) (by simpa using h), unOut_yes rfl, ofL_data]

theorem set_parts {l : List UInt8} {i : Nat} (h : i < l.length) (c : UInt8) : l = l.take i ++ l[i] :: l.drop (i + 1) ∧ l.set i c = l.take i ++ c :: l.drop (i + 1) := by
  constructor
  · rw [List.getElem_cons_drop, List.take_append_drop]
  · rw [List.set_eq_take_append_cons_drop, if_pos h]

/-- One byte turned: not Unsealed. -/
theorem unsealA_turned (s : ByteArray) (h : s.size ≤ 8000) (i : Nat) (hi : i < (sealB s).data.toList.length) (c : UInt8) (hc : c ≠ (sealB s).data.toList[i]) :
    unsealA (ofL ((sealB s).data.toList.set i c)) = .tuple #[.string ⟨#[]⟩, .bool false] := by
  have hp : (sealB s).data.toList = s.data.toList ++ four (sumN 4294967295 s.data.toList) := by rw [sealB_parts]; simp [ofL]
  generalize hL : (sealB s).data.toList = L at hi hc hp ⊢
  subst hp
  have hl : s.data.toList.length = s.size := by simp
  generalize s.data.toList = A at hi hc hl ⊢
  by_cases hA : i < A.length
  · rw [List.set_append_left _ _ hA]
    rw [List.getElem_append_left hA] at hc
    rw [unsealA_parts _ _ (four_length _) (by simp; omega), unOut_no]
    intro e
    have h2 := four_inj (sumN_lt _ (by omega)) (sumN_lt _ (by omega)) (ofL_inj e)
    obtain ⟨h3, h4⟩ := set_parts hA c
    rw [h4] at h2
    conv at h2 => lhs; rw [h3]
    exact sumN_turned _ _ _ _ (by omega) (fun e => hc e.symm) h2
  · rw [List.set_append_right _ _ (by omega)]
    rw [List.getElem_append_right (by omega)] at hc
    rw [unsealA_parts _ _ (by simp [four_length]) (by omega), unOut_no]
    intro e
    have h2 := ofL_inj e
    have hj : i - A.length < (four (sumN 4294967295 A)).length := by simp at hi; simp [four_length] at hi ⊢; omega
    apply hc
    have h3 := List.getElem_set_self (l := four (sumN 4294967295 A)) (i := i - A.length) (a := c) (by simpa using hj)
    rw [← h3]
    congr 1

theorem xor_other (a x : UInt8) (hx : x ≠ 0) : a ^^^ x ≠ a := by
  intro e
  apply hx
  have h := congrArg (fun y => a ^^^ y) e
  simpa [← UInt8.xor_assoc] using h

theorem sum_more (s : ByteArray) : sumN (sumB s) [120] = sumB (s ++ ⟨#[120]⟩) := by
  unfold sumB
  rw [ByteArray.data_append, Array.toList_append, sumN_append]
end Go.Proofs.YtjhnippfepbjmaaGreatDoor
