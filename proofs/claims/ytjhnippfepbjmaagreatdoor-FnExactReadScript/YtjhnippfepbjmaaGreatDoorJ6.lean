/-
  Texts of this claim, one behind the other: Marks, Held, MarkDev, DevNew, DevRead, DevOkImpl, KeptG, DevNewImpl.
-/
import Derived.Test.YtjhnippfepbjmaaGreatDoorJ5
import Derived.Deep.AppendLies
import Derived.Deep.RegionHeld3

/-
  The contracts of laws.markStringS and heldStringS: what is marked is held; nothing but that row is written.
-/
namespace Go.Proofs.YtjhnippfepbjmaaGreatDoor
open Go.RowKit

/-- Nothing of old memory is turned but blocks in S. -/
def Kept (S : Nat → Prop) (w w' : World) : Prop :=
  w'.os = w.os ∧ w'.tape = w.tape ∧ w'.output = w.output ∧ w.heap.size ≤ w'.heap.size ∧ ∀ i, i < w.heap.size → ¬ S i → w'.heap[i]? = w.heap[i]?

theorem Kept.refl (S : Nat → Prop) (w : World) : Kept S w w := ⟨rfl, rfl, rfl, Nat.le_refl _, fun _ _ _ => rfl⟩

theorem Kept.trans {S : Nat → Prop} {a b c : World} (h : Kept S a b) (k : Kept S b c) : Kept S a c :=
  ⟨k.1.trans h.1, k.2.1.trans h.2.1, k.2.2.1.trans h.2.2.1, Nat.le_trans h.2.2.2.1 k.2.2.2.1, fun i hi hn => (k.2.2.2.2 i (Nat.lt_of_lt_of_le hi h.2.2.2.1) hn).trans (h.2.2.2.2 i hi hn)⟩

theorem Kept.weak {S T : Nat → Prop} {w w' : World} (h : Kept S w w') (hST : ∀ i, S i → T i) : Kept T w w' :=
  ⟨h.1, h.2.1, h.2.2.1, h.2.2.2.1, fun i hi hn => h.2.2.2.2 i hi (fun hs => hn (hST i hs))⟩

theorem Kept.of_below {S : Nat → Prop} {w w' : World} (h : Below w.heap.size w w') : Kept S w w' :=
  ⟨h.os, h.tape, h.output, h.size, fun i hi _ => h.block i hi⟩

theorem Kept.below {S : Nat → Prop} {w w' : World} {B : Nat} (h : Kept S w w') (hB : B ≤ w.heap.size) (hS : ∀ i, S i → B ≤ i) : Below B w w' :=
  ⟨h.1, h.2.1, h.2.2.1, h.2.2.2.1, fun i hi => h.2.2.2.2 i (by omega) (fun hs => by have := hS i hs; omega)⟩

theorem Kept.set {S : Nat → Prop} (w : World) (g j : Nat) (v : Value) (hg : S g) : Kept S w (w.setCell ⟨g, j, none⟩ v) :=
  ⟨rfl, rfl, rfl, by simp [World.setCell], fun i _ hn => Below.heap_setCell _ _ _ _ (fun e => hn (by rw [e]; exact hg))⟩

theorem Kept.drew {S : Nat → Prop} {w w' : World} (h : Kept S w w') : Kept S w w'.drew := h

theorem Kept.own {S : Nat → Prop} {w w' : World} {B e size n : Nat} {v : Value} {xs : List Value} (h : Kept S w w') (ho : w.ownsRow B e size v n xs) (hS : ∀ g, v.ownBlock = some g → ¬ S g) : w'.ownsRow B e size v n xs := by
  obtain ⟨h1, h2⟩ := ho
  refine ⟨h1, ?_⟩
  rcases h2 with h2 | ⟨g, cap, cur, rfl, a2, a3, a4⟩
  · exact .inl h2
  · refine .inr ⟨g, cap, cur, rfl, a2, ?_, a4⟩
    rw [h.2.2.2.2 g ?_ (hS g rfl)]
    · exact a3
    · rcases Nat.lt_or_ge g w.heap.size with h | h
      · exact h
      · rw [Array.getElem?_eq_none h] at a3; cases a3

/-- The texts of n numbers from k on. -/
def marks (k n : Nat) : List ByteArray := (List.range n).map fun i => markT (k + i)

theorem marks_length (k n : Nat) : (marks k n).length = n := by simp [marks]
theorem marks_at (k n i : Nat) (h : i < (marks k n).length) : (marks k n)[i] = markT (k + i) := by simp [marks]

/-- The first j of a list, and of another one the rest. -/
def over {α : Type} (M L : List α) (j : Nat) : List α := M.take j ++ L.drop j

theorem over_zero {α : Type} (M L : List α) : over M L 0 = L := by simp [over]
theorem over_all {α : Type} (M L : List α) (h : M.length = L.length) : over M L L.length = M := by simp [over, ← h]
theorem over_length {α : Type} (M L : List α) (j : Nat) (h : M.length = L.length) (hj : j ≤ L.length) : (over M L j).length = L.length := by simp [over]; omega

theorem over_set {α : Type} (M L : List α) (j : Nat) (h : M.length = L.length) (hj : j < L.length) : (over M L j).set j (M[j]'(by omega)) = over M L (j + 1) := by
  unfold over
  have e : (M.take j).length = j := by simp; omega
  rw [List.set_append_right _ _ (by omega), e, Nat.sub_self]
  have e2 : L.drop j = L[j] :: L.drop (j + 1) := (List.getElem_cons_drop hj).symm
  rw [e2, List.set_cons_zero, List.take_succ_eq_append_getElem (by omega), List.append_assoc]
  rfl

end Go.Proofs.YtjhnippfepbjmaaGreatDoor

/-
  The contracts of laws.heldStringS, markPutS and heldPutS.
-/
namespace Go.Proofs.YtjhnippfepbjmaaGreatDoor
open Go.RowKit

/-- The marks of n puts from k on. -/
def marksQ (k n : Nat) : List (Int × ByteArray) := (List.range n).map fun i => (((k + i * 2 : Nat) : Int), markT (k + i * 2 + 1))

theorem marksQ_length (k n : Nat) : (marksQ k n).length = n := by simp [marksQ]
theorem marksQ_at (k n i : Nat) (h : i < (marksQ k n).length) : (marksQ k n)[i] = (((k + i * 2 : Nat) : Int), markT (k + i * 2 + 1)) := by simp [marksQ]

end Go.Proofs.YtjhnippfepbjmaaGreatDoor

/-
  The contracts of laws.markDevice and heldDevice: what is marked is held; nothing but the device's own rows is written.
-/
namespace Go.Proofs.YtjhnippfepbjmaaGreatDoor
open Go.RowKit

/-- The blocks of a device's rows. -/
def DevBlk (v : Value) (g : Nat) : Prop := ∃ v0 v1, v = .agg #[v0, v1] ∧ (v0.ownBlock = some g ∨ v1.ownBlock = some g)

theorem DevOwn.blk {w : World} {B : Nat} {v : Value} {L : List ByteArray} {Q : List (Int × ByteArray)} (h : DevOwn w B v L Q) : ∀ g, DevBlk v g → B ≤ g ∧ g < w.heap.size := by
  obtain ⟨v0, v1, rfl, h0, h1, _⟩ := h
  rintro g ⟨u0, u1, e, hg⟩
  simp at e
  obtain ⟨rfl, rfl⟩ := e
  rcases hg with hg | hg
  · exact h0.lt g hg
  · exact h1.lt g hg

theorem DevOwn.kept {S : Nat → Prop} {w w' : World} {B : Nat} {v : Value} {L : List ByteArray} {Q : List (Int × ByteArray)} (h : DevOwn w B v L Q) (hk : Kept S w w') (hS : ∀ g, DevBlk v g → ¬ S g) : DevOwn w' B v L Q := by
  obtain ⟨v0, v1, rfl, h0, h1, h2⟩ := h
  exact ⟨v0, v1, rfl, hk.own h0 (fun g hg => hS g ⟨v0, v1, rfl, .inl hg⟩), hk.own h1 (fun g hg => hS g ⟨v0, v1, rfl, .inr hg⟩), h2⟩

/-- A device's variable in memory: its two fields in block g. -/
def Box (w : World) (g : Nat) (a b : Value) : Prop := w.heap[g]? = some (.cells #[a, b] 36 (0, 0))

theorem Box.lt {w : World} {g : Nat} {a b : Value} (h : Box w g a b) : g < w.heap.size := by
  rcases Nat.lt_or_ge g w.heap.size with h1 | h1
  · exact h1
  · unfold Box at h; rw [Array.getElem?_eq_none h1] at h; cases h

theorem Box.below {w w' : World} {g : Nat} {a b : Value} (h : Box w g a b) (hb : Below w.heap.size w w') : Box w' g a b := by
  unfold Box; rw [hb.block g h.lt]; exact h

theorem Box.kept {S : Nat → Prop} {w w' : World} {g : Nat} {a b : Value} (h : Box w g a b) (hk : Kept S w w') (hS : ¬ S g) : Box w' g a b := by
  unfold Box; rw [hk.2.2.2.2 g h.lt hS]; exact h

theorem Box.new (w : World) (a b : Value) : Box (w.alloc (Obj.cells #[a, b] 36)) w.heap.size a b := heap_alloc_new w _

theorem Box.cells {w : World} {g : Nat} {a b : Value} (h : Box w g a b) : w.cell? ⟨g, 0, none⟩ = some a ∧ w.cell? ⟨g, 1, none⟩ = some b :=
  ⟨(cells_of_two h).1, (cells_of_two h).2.1⟩

theorem below_new (w : World) (o : Obj) : Below w.heap.size w (w.alloc o) := (Below.refl _ _).alloc (Nat.le_refl _) _

end Go.Proofs.YtjhnippfepbjmaaGreatDoor

/-
  The contract of spec.DeviceNew.
-/
namespace Go.Proofs.YtjhnippfepbjmaaGreatDoor
open Go.RowKit

/-- What a function answers that hands back a device and a flag: both new. -/
def DevPost (w : World) (L : List ByteArray) (Q : List (Int × ByteArray)) (b : Bool) (e : Ending) (w' : World) : Prop :=
  (∃ d, e = .returned (.tuple #[d, .bool b]) ∧ DevOwn w' w.heap.size d L Q) ∧ Below w.heap.size w w'

theorem devNil (w : World) (B : Nat) : DevOwn w B (.agg #[.slice none 0 0, .slice none 0 0]) [] [] :=
  ⟨_, _, rfl, ⟨rfl, .inl ⟨rfl, rfl⟩⟩, ⟨rfl, .inl ⟨rfl, rfl⟩⟩, .inr rfl⟩

set_option maxRecDepth 100000 in
theorem specNew_no (x : Int) (h : ¬ (1 ≤ x ∧ x ≤ 400)) (w : World) :
    Calls Tryz.prog 21 #[.int .i64 x] w fun e w' => DevPost w [] [] false e w' := by
  have hq : (decide ((1 : Int) ≤ x) && decide (x ≤ 400)) = false := by simp; omega
  have H := hide (fun w => l01In_dv x 1 400 w)
  rw [hq] at H
  clear hq
  go_enter Tryz.func21, Tryz.ntmps21
  go_wp2_with fail
  refine (unhide H _).mono ?_
  rintro e w1 ⟨rfl, rfl⟩
  go_wp2
  go_returns
  exact ⟨⟨_, rfl, devNil _ _⟩, (Below.refl _ _).alloc (Nat.le_refl _) _⟩

set_option maxRecDepth 100000 in
theorem specNew_yes (n : Nat) (h0 : 1 ≤ n) (h1 : n ≤ 400) (w : World) :
    Calls Tryz.prog 21 #[.int .i64 (n : Int)] w fun e w' => DevPost w (List.replicate n ⟨#[]⟩) [] true e w' := by
  obtain ⟨i0, hi, hz0, hz1, hz2⟩ := info_parts info9
  obtain ⟨M, hM⟩ : ∃ M, M = madeCells (Value.string ⟨#[]⟩).cells (n * i0.size) := ⟨_, rfl⟩
  have hMM := made_strs n M (by rw [hM, hz1])
  have hmk : ∀ W : World, (Instr.makeSlice 28 (.int .i64 (n : Int)) (.int .i64 (n : Int))).run Tryz.prog W = .ok (.slice (some ⟨W.heap.size, 0, none⟩) n n) (W.alloc (.cells M 9)) := fun W => by
    have h := run_make (P := Tryz.prog) W 28 9 i0 (.string ⟨#[]⟩) Tryz.underlying28 hi hz0 .i64 .i64 (n : Int) (n : Int) (by omega) (by omega) (by rw [hz2]; omega) (by omega)
    rw [Int.toNat_natCast, ← hM] at h
    simpa using h
  have hown : ∀ W : World, (W.alloc (.cells M 9)).ownsRow W.heap.size 9 1 (.slice (some ⟨W.heap.size, 0, none⟩) n n) n (strsV (List.replicate n ⟨#[]⟩)) := fun W =>
    ⟨by simp [strsV], .inr ⟨W.heap.size, n, M, rfl, Nat.le_refl _, heap_alloc_new W _, Nat.le_refl _, by unfold maxLen; omega, hMM.2, by rw [hMM.1, Nat.mul_one, List.take_of_length_le (by simp [strsV])]⟩⟩
  have HO := hide hown
  have hq : (decide ((1 : Int) ≤ (n : Int)) && decide ((n : Int) ≤ 400)) = true := by simp; omega
  have H := hide (fun w => l01In_dv (n : Int) 1 400 w)
  rw [hq] at H
  clear hq hM hMM hown
  go_enter Tryz.func21, Tryz.ntmps21
  go_wp2_with fail
  refine (unhide H _).mono ?_
  rintro e w1 ⟨rfl, rfl⟩
  go_wp2
  go_returns
  have h := unhide HO (w.alloc (Obj.cells #[Value.slice (some ⟨w.heap.size + 1, 0, none⟩) n n, Value.slice none 0 0] 36))
  simp only [World.size_alloc] at h
  refine ⟨⟨_, rfl, _, _, rfl, ?_, ⟨rfl, .inl ⟨rfl, rfl⟩⟩, .inl (by simp [Value.ownBlock])⟩, ((Below.refl _ _).alloc (Nat.le_refl _) _).alloc (by simp) _⟩
  rw [List.length_replicate]
  exact own_lower (by omega) h

/-- The sectors of a new device. -/
def newL (x : Int) : List ByteArray := if 1 ≤ x ∧ x ≤ 400 then List.replicate x.toNat ⟨#[]⟩ else []
def newOk (x : Int) : Bool := decide (1 ≤ x ∧ x ≤ 400)

theorem newL_length (x : Int) : (newL x).length ≤ 400 := by
  unfold newL
  split
  · simp; omega
  · simp

theorem specNew_any (x : Int) (w : World) : Calls Tryz.prog 21 #[.int .i64 x] w fun e w' => DevPost w (newL x) [] (newOk x) e w' := by
  by_cases h : 1 ≤ x ∧ x ≤ 400
  · have e1 : newL x = List.replicate x.toNat ⟨#[]⟩ := if_pos h
    have e2 : newOk x = true := by simp [newOk, h]
    rw [e1, e2]
    obtain ⟨n, rfl⟩ := Int.eq_ofNat_of_zero_le (show 0 ≤ x by omega)
    exact specNew_yes n (by omega) (by omega) w
  · have e1 : newL x = [] := if_neg h
    have e2 : newOk x = false := by simp only [newOk, h, decide_false]
    rw [e1, e2]
    exact specNew_no x h w
end Go.Proofs.YtjhnippfepbjmaaGreatDoor

/-
  The contracts of spec.l03Read and spec.ReadSector.
-/
namespace Go.Proofs.YtjhnippfepbjmaaGreatDoor
open Go.RowKit

/-- The text of the last of some puts at a place, or what stood there. -/
def lastOf (k : Nat) (s : ByteArray) (Q : List (Int × ByteArray)) : ByteArray := Q.foldl (fun s q => if q.1 = (k : Int) then q.2 else s) s

theorem lastOf_snoc (k : Nat) (s : ByteArray) (Q : List (Int × ByteArray)) (j : Nat) (h : j < Q.length) :
    lastOf k s (Q.take (j + 1)) = if Q[j].1 = (k : Int) then Q[j].2 else lastOf k s (Q.take j) := by
  unfold lastOf
  rw [List.take_succ_eq_append_getElem h, List.foldl_append]
  rfl

/-- What ReadSector answers. -/
def readDv (L : List ByteArray) (Q : List (Int × ByteArray)) (x : Int) : ByteArray × Bool :=
  if devOk L Q = true ∧ 0 ≤ x ∧ x < (L.length : Int) then (lastOf x.toNat (L.getD x.toNat ⟨#[]⟩) Q, true) else (⟨#[]⟩, false)

end Go.Proofs.YtjhnippfepbjmaaGreatDoor

/-
  The contracts of impl.isPlace, impl.isPutTo, impl.areSectors and impl.DeviceOk.
-/
namespace Go.Proofs.YtjhnippfepbjmaaGreatDoor
open Go.RowKit

theorem isPlace_any (x y : Int) (w : World) :
    Calls Tryz.prog 68 #[.int .i64 x, .int .i64 y] w fun e w' => e = .returned (.bool (decide (0 ≤ x) && decide (x < y))) ∧ w' = w := by
  go_enter Tryz.func68, Tryz.ntmps68
  go_wp2
  all_goals (go_ret; exact ⟨by simp_all <;> omega, rfl⟩)

theorem putOk_lt (n : Nat) (x : Int) (s : ByteArray) : putOk n x s = ((decide (0 ≤ x) && decide (x < (n : Int))) && decide ((s.size : Int) ≤ 64)) := by
  have e : decide (x ≤ (n : Int) - 1) = decide (x < (n : Int)) := by
    by_cases h : x < (n : Int)
    · rw [decide_eq_true h, decide_eq_true (by omega)]
    · rw [decide_eq_false h, decide_eq_false (by omega)]
  unfold putOk
  rw [e]

set_option maxRecDepth 100000 in
theorem isPutTo_any (n : Nat) (x : Int) (s : ByteArray) (w : World) :
    Calls Tryz.prog 77 #[.agg #[.int .i64 x, .string s], .int .i64 (n : Int)] w fun e w' => e = .returned (.bool (putOk n x s)) ∧ Below w.heap.size w w' := by
  have H := hide (fun w => isPlace_any x (n : Int) w)
  rw [putOk_lt]
  cases hq : (decide (0 ≤ x) && decide (x < (n : Int)))
  · rw [hq] at H
    clear hq
    go_enter Tryz.func77, Tryz.ntmps77
    go_wp2_with fail
    refine (unhide H _).mono ?_
    rintro e w1 ⟨rfl, rfl⟩
    go_wp2
    go_ret
    exact ⟨rfl, (Below.refl _ _).alloc (Nat.le_refl _) _⟩
  · rw [hq] at H
    clear hq
    go_enter Tryz.func77, Tryz.ntmps77
    go_wp2_with fail
    refine (unhide H _).mono ?_
    rintro e w1 ⟨rfl, rfl⟩
    go_wp2
    go_ret
    exact ⟨rfl, (Below.refl _ _).alloc (Nat.le_refl _) _⟩

set_option maxRecDepth 100000 in
theorem areSectors_no (a : Option Addr) (n c : Nat) (hno : ¬ (1 ≤ n ∧ n ≤ 400)) (hn : n ≤ 1048576) (w : World) :
    Calls Tryz.prog 91 #[.slice a n c] w fun e w' => e = .returned (.bool false) ∧ w' = w := by
  by_cases h1 : (n : Int) < 1
  · go_enter Tryz.func91, Tryz.ntmps91
    go_wp2
    go_ret
    exact ⟨rfl, rfl⟩
  · have h2 : (400 : Int) < (n : Int) := by omega
    go_enter Tryz.func91, Tryz.ntmps91
    go_wp2
    go_ret
    exact ⟨rfl, rfl⟩

set_option maxRecDepth 100000 in
set_option maxHeartbeats 1000000 in
theorem areSectors_yes (a : Option Addr) (n c B : Nat) (L : List ByteArray) (h1 : 1 ≤ n) (h2 : n ≤ 400) (hm : ∀ s ∈ L, s.size ≤ 9223372036854775807) (w : World) (hs : StrsAt w a n B L) :
    Calls Tryz.prog 91 #[.slice a n c] w fun e w' => e = .returned (.bool (L.all secOk)) ∧ w' = w := by
  obtain ⟨hL, hc⟩ := hs
  have HC := hide hc
  have HM := hide hm
  have HN := hide hL
  clear hc hm hL
  have i1 : ¬ (n : Int) < 1 := by omega
  have i2 : ¬ (400 : Int) < (n : Int) := by omega
  go_enter Tryz.func91, Tryz.ntmps91
  go_wp2_with fail
  go_loop [15] (fun i => ∃ k : Nat, i = .int .i64 k ∧ k ≤ n ∧ Hid ((L.take k).all secOk = true)) (fun i => n - (intOf i).toNat)
  case atStart => exact ⟨0, rfl, Nat.zero_le _, rfl⟩
  case round =>
    obtain ⟨k, rfl, hk, hall⟩ := hrel
    by_cases hlt : k < n
    · have hkL : k < L.length := by have := unhide HN; omega
      obtain ⟨b, off, rfl, hbB, hcell⟩ := unhide HC k hkL
      have hsz := unhide HM _ (List.getElem_mem hkL)
      have HA := hide (all_take_succ secOk L k hkL)
      have HF := hide (fun h => all_false secOk L k hkL h)
      have hx0 : (0 : Int) ≤ (k : Int) := by omega
      have hx1 : (k : Int) < (n : Int) := by omega
      generalize L[k] = s at hcell hsz HA HF
      by_cases hok : (s.size : Int) ≤ 64
      · go_wp2
        go_round
        case rel => exact ⟨k + 1, by go_num, by omega, by show _ = _; rw [unhide HA, unhide hall]; simp [secOk, hok]⟩
        case measure => simp [intOf]; omega
      · have hgt : (64 : Int) < (s.size : Int) := by omega
        go_wp2
        go_ret
        refine ⟨?_, rfl⟩
        rw [unhide HF (by simp [secOk]; omega)]
        rfl
    · obtain rfl : k = n := by omega
      have HA : Hid (L.all secOk = true) := by
        have h := unhide hall
        rw [List.take_of_length_le (by have := unhide HN; omega)] at h
        exact h
      clear hall
      go_wp2
      go_ret
      exact ⟨by rw [unhide HA]; rfl, rfl⟩

/-- Whether some texts are the sectors of a device. -/
def areL (L : List ByteArray) : Bool := (decide ((1 : Int) ≤ (L.length : Int)) && decide ((L.length : Int) ≤ 400)) && L.all secOk

theorem areSectors_any (a : Option Addr) (n c B : Nat) (L : List ByteArray) (hn : n ≤ 1048576) (hm : ∀ s ∈ L, s.size ≤ 9223372036854775807) (w : World) (hs : StrsAt w a n B L) :
    Calls Tryz.prog 91 #[.slice a n c] w fun e w' => e = .returned (.bool (areL L)) ∧ w' = w := by
  have hl := hs.1
  by_cases h : 1 ≤ n ∧ n ≤ 400
  · have e : areL L = L.all secOk := by
      unfold areL
      rw [hl, decide_eq_true (by omega), decide_eq_true (by omega)]
      rfl
    rw [e]
    exact areSectors_yes a n c B L h.1 h.2 hm w hs
  · have e : areL L = false := by
      unfold areL
      rw [hl]
      have a2 : (decide ((1 : Int) ≤ (n : Int)) && decide ((n : Int) ≤ 400)) = false := by simp; omega
      rw [a2]
      rfl
    rw [e]
    exact areSectors_no a n c h hn w

theorem devOk_eq (L : List ByteArray) (Q : List (Int × ByteArray)) : devOk L Q = (areL L && (decide ((Q.length : Int) ≤ 400) && Q.all (putOk2 L.length))) := by
  unfold devOk areL
  generalize (decide ((1 : Int) ≤ (L.length : Int)) && decide ((L.length : Int) ≤ 400)) = p
  generalize L.all secOk = q
  cases p <;> cases q <;> simp

/-- A put's variable in memory. -/
def PBox (w : World) (g : Nat) (x : Int) (s : ByteArray) : Prop := w.heap[g]? = some (.cells #[.int .i64 x, .string s] 121 (0, 0))

set_option maxRecDepth 100000 in
set_option maxHeartbeats 2000000 in
theorem implDev_any (v : Value) (B : Nat) (L : List ByteArray) (Q : List (Int × ByteArray)) (h1 : L.length ≤ 1048576) (h2 : Q.length ≤ 1048576) (hm : ∀ s ∈ L, s.size ≤ 9223372036854775807) (w : World) (hB : B ≤ w.heap.size) (hv : DevAt w v B L Q) :
    Calls Tryz.prog 76 #[v] w fun e w' => e = .returned (.bool (devOk L Q)) ∧ Below w.heap.size w w' := by
  obtain ⟨a, n, c, a', n', c', rfl, hL, hQ⟩ := hv
  have AR := hide (fun w1 (hb : Below w.heap.size w w1) => areSectors_any a n c B L (by rw [← hL.1]; exact h1) hm w1 (hL.below hb hB))
  obtain ⟨e1, hLc⟩ := hL
  obtain ⟨e2, hQc⟩ := hQ
  rw [devOk_eq]
  subst e1 e2
  have HQC := hide hQc
  obtain ⟨n, hn⟩ : ∃ n, n = L.length := ⟨_, rfl⟩
  obtain ⟨n', hn'⟩ : ∃ n, n = Q.length := ⟨_, rfl⟩
  rw [← hn] at AR h1 ⊢
  rw [← hn'] at h2 ⊢
  have HN' := hide hn'
  clear hLc hQc hm hn hn'
  generalize areL L = ar at AR
  cases ar
  · have hb1 := below_new w (Obj.cells #[Value.slice a n c, Value.slice a' n' c'] 36)
    go_enter Tryz.func76, Tryz.ntmps76
    go_wp2_with fail
    refine (unhide AR _ hb1).mono ?_
    rintro e w1 ⟨rfl, rfl⟩
    go_wp2
    go_ret
    exact ⟨rfl, hb1⟩
  · by_cases hbig : (400 : Int) < (n' : Int)
    · have hd : decide ((n' : Int) ≤ 400) = false := by simp; omega
      rw [hd]
      have hb1 := below_new w (Obj.cells #[Value.slice a n c, Value.slice a' n' c'] 36)
      go_enter Tryz.func76, Tryz.ntmps76
      go_wp2_with fail
      refine (unhide AR _ hb1).mono ?_
      rintro e w1 ⟨rfl, rfl⟩
      go_wp2
      go_ret
      exact ⟨rfl, hb1⟩
    · have hd : decide ((n' : Int) ≤ 400) = true := by simp; omega
      rw [hd]
      have hd400 : decide ((400 : Int) < (n' : Int)) = false := by simp; omega
      clear hd
      go_enter Tryz.func76, Tryz.ntmps76
      go_wp2_with fail
      have hb0 := below_new w (Obj.cells #[Value.slice a n c, Value.slice a' n' c'] 36)
      refine (unhide AR _ hb0).mono ?_
      rintro e w1 ⟨rfl, rfl⟩
      clear hb0
      go_wp2_with fail
      obtain ⟨W1, hW1⟩ : ∃ W, W = w.alloc (Obj.cells #[Value.slice a n c, Value.slice a' n' c'] 36) := ⟨_, rfl⟩
      rw [← hW1]
      have hs1 : W1.heap.size = w.heap.size + 1 := by rw [hW1]; simp
      have b0 : W1.heap[w.heap.size]? = some (.cells #[Value.slice a n c, Value.slice a' n' c'] 36 (0, 0)) := by rw [hW1]; exact heap_alloc_new w _
      have hb1 : Below w.heap.size w W1 := by rw [hW1]; exact (Below.refl _ _).alloc (Nat.le_refl _) _
      obtain ⟨p0, p1, _⟩ := cells_of_two b0
      clear hW1 b0
      go_loopw [18] (fun i wr => ∃ j : Nat, i = .int .i64 j ∧ j ≤ n' ∧ Hid ((Q.take j).all (putOk2 n) = true) ∧ Below W1.heap.size W1 wr) (fun i _ => n' - (intOf i).toNat)
      case atStart => exact ⟨0, rfl, Nat.zero_le _, rfl, Below.refl _ _⟩
      case round =>
        obtain ⟨j, rfl, hj, hallQ, hbw⟩ := hrel
        have hbw0 : Below w.heap.size w wr := hb1.trans (hbw.mono (by omega))
        by_cases hltj : j < n'
        · have hjQ : j < Q.length := by have := unhide HN'; omega
          obtain ⟨b, off, rfl, hbB, hcell, hcell1⟩ := unhide HQC j hjQ
          rw [← hbw0.cell (p := ⟨b, off + j * 2, none⟩) (by simp; omega)] at hcell
          rw [← hbw0.cell (p := ⟨b, off + j * 2 + 1, none⟩) (by simp; omega)] at hcell1
          have HAQ := hide (all_take_succ (putOk2 n) Q j hjQ)
          have HFQ := hide (fun h => all_false (putOk2 n) Q j hjQ h)
          have hx0 : (0 : Int) ≤ (j : Int) := by omega
          have hx1 : (j : Int) < (n' : Int) := by omega
          generalize Q[j] = q at hcell hcell1 HAQ HFQ
          obtain ⟨x, s⟩ := q
          simp only at hcell hcell1
          have HP := hide (fun w => isPutTo_any n x s w)
          have HE : Hid (putOk2 n (x, s) = putOk n x s) := rfl
          have hkl : w.heap.size < wr.heap.size := by have := hbw.size; omega
          have q0 : (wr.alloc (Obj.cells #[Value.int .i64 x, Value.string s] 121)).cell? ⟨w.heap.size, 0, none⟩ = some (Value.slice a n c) := by
            rw [(below_new wr _).cell (p := ⟨w.heap.size, 0, none⟩) hkl, hbw.cell (p := ⟨w.heap.size, 0, none⟩) (by simp; omega)]; exact p0
          cases hq : putOk n x s
          · rw [hq] at HP HE
            clear hq
            go_wp2_with fail
            refine (unhide HP _).mono ?_
            rintro e w2 ⟨rfl, hb2⟩
            have hbe := (hbw0.trans ((below_new wr _).mono hbw0.size)).trans (hb2.mono (by simp; have := hbw0.size; omega))
            clear hb2
            go_wp2
            go_ret
            refine ⟨?_, hbe⟩
            rw [unhide HFQ (unhide HE)]
            rfl
          · rw [hq] at HP HE
            clear hq
            go_wp2_with fail
            refine (unhide HP _).mono ?_
            rintro e w2 ⟨rfl, hb2⟩
            have hbe := (hbw.trans ((below_new wr _).mono hbw.size)).trans (hb2.mono (by simp; have := hbw.size; omega))
            clear hb2
            go_wp2
            go_roundw
            case rel => exact ⟨j + 1, by go_num, by omega, by show _ = _; rw [unhide HAQ, unhide hallQ, unhide HE]; rfl, hbe⟩
            case measure => simp [intOf]; omega
        · go_wp2
          go_ret
          refine ⟨?_, hbw0⟩
          have h := unhide hallQ
          rw [List.take_of_length_le (by have := unhide HN'; omega)] at h
          rw [h]
          rfl
end Go.Proofs.YtjhnippfepbjmaaGreatDoor

/-
  What a world that has grown has kept.
-/
namespace Go.Proofs.YtjhnippfepbjmaaGreatDoor
open Go.RowKit

theorem Kept.of_grown {w w' : World} {row : Option Nat} (h : w.grownBy w' row) : Kept (fun k => row = some k) w w' :=
  ⟨h.os, h.tape, h.output, h.size, fun i hi hn => h.block i hi (fun e => hn e.symm)⟩

end Go.Proofs.YtjhnippfepbjmaaGreatDoor

/-
  The contract of impl.DeviceNew.
-/
namespace Go.Proofs.YtjhnippfepbjmaaGreatDoor
open Go.RowKit

set_option maxRecDepth 100000 in
theorem implNew_no (x : Int) (h : ¬ (1 ≤ x ∧ x ≤ 400)) (w : World) :
    Calls Tryz.prog 60 #[.int .i64 x] w fun e w' => DevPost w [] [] false e w' := by
  by_cases h1 : x < 1
  · go_enter Tryz.func60, Tryz.ntmps60
    go_wp2
    go_returns
    exact ⟨⟨_, rfl, devNil _ _⟩, (Below.refl _ _).alloc (Nat.le_refl _) _⟩
  · have h2 : 400 < x := by omega
    go_enter Tryz.func60, Tryz.ntmps60
    go_wp2
    go_returns
    exact ⟨⟨_, rfl, devNil _ _⟩, (Below.refl _ _).alloc (Nat.le_refl _) _⟩

set_option maxRecDepth 100000 in
theorem implNew_yes (n : Nat) (h0 : 1 ≤ n) (h1 : n ≤ 400) (w : World) :
    Calls Tryz.prog 60 #[.int .i64 (n : Int)] w fun e w' => DevPost w (List.replicate n ⟨#[]⟩) [] true e w' := by
  obtain ⟨i0, hi, hz0, hz1, hz2⟩ := info_parts info9
  obtain ⟨M, hM⟩ : ∃ M, M = madeCells (Value.string ⟨#[]⟩).cells (n * i0.size) := ⟨_, rfl⟩
  have hMM := made_strs n M (by rw [hM, hz1])
  have hmk : ∀ W : World, (Instr.makeSlice 28 (.int .i64 (n : Int)) (.int .i64 (n : Int))).run Tryz.prog W = .ok (.slice (some ⟨W.heap.size, 0, none⟩) n n) (W.alloc (.cells M 9)) := fun W => by
    have h := run_make (P := Tryz.prog) W 28 9 i0 (.string ⟨#[]⟩) Tryz.underlying28 hi hz0 .i64 .i64 (n : Int) (n : Int) (by omega) (by omega) (by rw [hz2]; omega) (by omega)
    rw [Int.toNat_natCast, ← hM] at h
    simpa using h
  have hown : ∀ W : World, (W.alloc (.cells M 9)).ownsRow W.heap.size 9 1 (.slice (some ⟨W.heap.size, 0, none⟩) n n) n (strsV (List.replicate n ⟨#[]⟩)) := fun W =>
    ⟨by simp [strsV], .inr ⟨W.heap.size, n, M, rfl, Nat.le_refl _, heap_alloc_new W _, Nat.le_refl _, by unfold maxLen; omega, hMM.2, by rw [hMM.1, Nat.mul_one, List.take_of_length_le (by simp [strsV])]⟩⟩
  have HO := hide hown
  have i1 : ¬ (n : Int) < 1 := by omega
  have i2 : ¬ (400 : Int) < (n : Int) := by omega
  clear hM hMM hown
  go_enter Tryz.func60, Tryz.ntmps60
  go_wp2
  go_returns
  have h := unhide HO (w.alloc (Obj.cells #[Value.slice (some ⟨w.heap.size + 1, 0, none⟩) n n, Value.slice none 0 0] 36))
  simp only [World.size_alloc] at h
  refine ⟨⟨_, rfl, _, _, rfl, ?_, ⟨rfl, .inl ⟨rfl, rfl⟩⟩, .inl (by simp [Value.ownBlock])⟩, ((Below.refl _ _).alloc (Nat.le_refl _) _).alloc (by simp) _⟩
  rw [List.length_replicate]
  exact own_lower (by omega) h




theorem implNew_any (x : Int) (w : World) : Calls Tryz.prog 60 #[.int .i64 x] w fun e w' => DevPost w (newL x) [] (newOk x) e w' := by
  by_cases h : 1 ≤ x ∧ x ≤ 400
  · have e1 : newL x = List.replicate x.toNat ⟨#[]⟩ := if_pos h
    have e2 : newOk x = true := by simp [newOk, h]
    rw [e1, e2]
    obtain ⟨n, rfl⟩ := Int.eq_ofNat_of_zero_le (show 0 ≤ x by omega)
    exact implNew_yes n (by omega) (by omega) w
  · have e1 : newL x = [] := if_neg h
    have e2 : newOk x = false := by simp only [newOk, h, decide_false]
    rw [e1, e2]
    exact implNew_no x h w
end Go.Proofs.YtjhnippfepbjmaaGreatDoor
