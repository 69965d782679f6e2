/-
 TrPair.
-/
import Derived.Test.YtihnaddfpmjpaaaGreatDoorProg
import Derived.Test.YtihnaddfpmjpaaaGreatDoorJ1
import Derived.Handy
import Derived.Deep.RegionHeld3
namespace Go.Proofs.YtihnaddfpmjpaaaGreatDoor
namespace Tr
open Go.RowKit
def PairsAt (w : World) (a : Option Addr) (len B : Nat) (Q : List (ByteArray × ByteArray)) : Prop :=
  Q.length = len ∧ ∀ j (h : j < Q.length), ∃ b off, a = some ⟨b, off, none⟩ ∧ b < B ∧ w.cell? ⟨b, off + j * 2, none⟩ = some (.string Q[j].1) ∧ w.cell? ⟨b, off + j * 2 + 1, none⟩ = some (.string Q[j].2)
theorem PairsAt.below {w w' : World} {a : Option Addr} {len B C : Nat} {Q : List (ByteArray × ByteArray)} (h : PairsAt w a len B Q) (hb : Below C w w') (hC : B ≤ C) : PairsAt w' a len B Q := by
  refine ⟨h.1, fun j hj => ?_⟩
  obtain ⟨b, off, e, hbB, hc, hc1⟩ := h.2 j hj
  exact ⟨b, off, e, hbB, by rw [hb.cell (p := ⟨b, off + j * 2, none⟩) (by simp; omega)]; exact hc, by rw [hb.cell (p := ⟨b, off + j * 2 + 1, none⟩) (by simp; omega)]; exact hc1⟩
theorem PairsAt.mono {w : World} {a : Option Addr} {len B C : Nat} {Q : List (ByteArray × ByteArray)} (h : PairsAt w a len B Q) (hC : B ≤ C) : PairsAt w a len C Q := by
  refine ⟨h.1, fun j hj => ?_⟩
  obtain ⟨b, off, e, hbB, hc, hc1⟩ := h.2 j hj
  exact ⟨b, off, e, by omega, hc, hc1⟩
def totP (Q : List (ByteArray × ByteArray)) : Nat := (Q.map fun q => q.1.size + q.2.size).sum
theorem totP_snoc (Q : List (ByteArray × ByteArray)) (k : Nat) (h : k < Q.length) : totP (Q.take (k + 1)) = totP (Q.take k) + (Q[k].1.size + Q[k].2.size) := by
  unfold totP
  rw [List.take_succ_eq_append_getElem h, List.map_append, List.sum_append]
  simp
theorem szPair_any (x s : ByteArray) (left : Int) (h0 : 0 ≤ left) (h1 : left ≤ 1048576) (hx : x.size ≤ 9223372036854775807) (hm : s.size ≤ 9223372036854775807) (w : World) :
    Calls Tryz.prog 35 #[.agg #[.string x, .string s], .int .i64 left] w fun e w' => e = .returned (.int .i64 (if left - ((x.size + s.size : Nat) : Int) < 0 then -1 else left - ((x.size + s.size : Nat) : Int))) ∧ Below w.heap.size w w' := by
  by_cases h : left - ((x.size + s.size : Nat) : Int) < 0
  · rw [if_pos h]
    by_cases h2 : left - (x.size : Int) < 0
    · go_enter Tryz.func35, Tryz.ntmps35
      go_wp2
      go_ret
      exact ⟨rfl, (Below.refl _ _).alloc (Nat.le_refl _) _⟩
    · have h3 : left - (x.size : Int) - (s.size : Int) < 0 := by omega
      clear h
      go_enter Tryz.func35, Tryz.ntmps35
      go_wp2
      go_ret
      exact ⟨rfl, (Below.refl _ _).alloc (Nat.le_refl _) _⟩
  · rw [if_neg h]
    have h2 : ¬ left - (x.size : Int) < 0 := by omega
    have h3 : ¬ left - (x.size : Int) - (s.size : Int) < 0 := by omega
    have e : left - ((x.size + s.size : Nat) : Int) = left - (x.size : Int) - (s.size : Int) := by omega
    rw [e]
    clear h e
    go_enter Tryz.func35, Tryz.ntmps35
    go_wp2
    go_ret
    exact ⟨rfl, (Below.refl _ _).alloc (Nat.le_refl _) _⟩
set_option maxRecDepth 100000 in
set_option maxHeartbeats 1000000 in
theorem szPairs_any (a : Option Addr) (len cap B : Nat) (Q : List (ByteArray × ByteArray)) (left : Int) (h0 : 0 ≤ left) (h1 : left ≤ 1048576) (hlen : len ≤ 9223372036854775807) (hm : ∀ q ∈ Q, q.1.size ≤ 9223372036854775807 ∧ q.2.size ≤ 9223372036854775807) (w : World) (hB : B ≤ w.heap.size) (hs : PairsAt w a len B Q) :
    Calls Tryz.prog 9 #[.slice a len cap, .int .i64 left] w fun e w' => (∃ x : Int, e = .returned (.int .i64 x) ∧ x ≤ left ∧ -1 ≤ x ∧ (0 ≤ x → (Q.length : Int) + (totP Q : Int) + x ≤ left)) ∧ Below w.heap.size w w' := by
  obtain ⟨hL, hc⟩ := hs
  have HC := hide hc
  have HM := hide hm
  have HL := hide hL
  clear hc hm hL
  by_cases hbig : left - (len : Int) < 0
  · go_enter Tryz.func9, Tryz.ntmps9
    go_wp2
    go_ret
    exact ⟨⟨-1, rfl, by omega, by omega, by omega⟩, Below.refl _ _⟩
  · go_enter Tryz.func9, Tryz.ntmps9
    go_wp2_with fail
    go_loopw [1, 5] (fun l i wr => ∃ (k : Nat) (y : Int), i = .int .i64 k ∧ k ≤ len ∧ l = .int .i64 y ∧ 0 ≤ y ∧ y = left - (len : Int) - (totP (Q.take k) : Int) ∧ Below w.heap.size w wr) (fun _ i _ => len - (intOf i).toNat)
    case atStart => exact ⟨0, _, rfl, Nat.zero_le _, rfl, by omega, by simp [totP], Below.refl _ _⟩
    case round =>
      obtain ⟨k, y, rfl, hk, rfl, hy0, hy, hbw⟩ := hrel
      have HY := hide hy
      clear hy
      have hyl : y ≤ 1048576 := by have := unhide HY; omega
      by_cases hlt : k < len
      · have hkL : k < Q.length := by have := unhide HL; omega
        obtain ⟨b, off, rfl, hb, hcell, hcell1⟩ := unhide HC k hkL
        rw [← hbw.cell (p := ⟨b, off + k * 2, none⟩) (by simp; omega)] at hcell
        rw [← hbw.cell (p := ⟨b, off + k * 2 + 1, none⟩) (by simp; omega)] at hcell1
        have hsz := unhide HM _ (List.getElem_mem hkL)
        have HT := hide (totP_snoc Q k hkL)
        generalize Q[k] = q at hcell hcell1 hsz HT
        obtain ⟨x, s⟩ := q
        simp only at hcell hcell1 hsz HT
        have H := hide (fun w => szPair_any x s y hy0 hyl hsz.1 hsz.2 w)
        have hx0 : (0 : Int) ≤ (k : Int) := by omega
        have hx1 : (k : Int) < (len : Int) := by omega
        by_cases hneg : y - ((x.size + s.size : Nat) : Int) < 0
        · rw [if_pos hneg] at H
          go_wp2_with fail
          refine (unhide H _).mono ?_
          rintro e w1 ⟨rfl, hb1⟩
          have hbw1 := hbw.trans (hb1.mono hbw.size)
          clear hbw hb1
          go_wp2
          go_ret
          exact ⟨⟨-1, rfl, by omega, by omega, by omega⟩, hbw1⟩
        · rw [if_neg hneg] at H
          go_wp2_with fail
          refine (unhide H _).mono ?_
          rintro e w1 ⟨rfl, hb1⟩
          have hbw1 := hbw.trans (hb1.mono hbw.size)
          clear hbw hb1
          go_wp2
          go_roundw
          case rel => exact ⟨k + 1, y - ((x.size + s.size : Nat) : Int), by go_num, by omega, rfl, by omega, by rw [unhide HT, unhide HY]; omega, hbw1⟩
          case measure => simp [intOf]; omega
      · go_wp2
        go_ret
        refine ⟨⟨y, rfl, by have := unhide HY; omega, by omega, fun _ => ?_⟩, hbw⟩
        have h2 := unhide HY
        rw [List.take_of_length_le (by have := unhide HL; omega)] at h2
        have := unhide HL
        omega
def part {α : Type} (L : List α) (z : α) (k : Nat) : List α := L.take k ++ List.replicate (L.length - k) z
theorem part_zero {α : Type} (L : List α) (z : α) : part L z 0 = List.replicate L.length z := by simp [part]
theorem part_all {α : Type} (L : List α) (z : α) : part L z L.length = L := by simp [part]
theorem part_length {α : Type} (L : List α) (z : α) (k : Nat) (h : k ≤ L.length) : (part L z k).length = L.length := by simp [part]; omega
theorem part_set {α : Type} (L : List α) (z : α) (k : Nat) (h : k < L.length) : (part L z k).set k L[k] = part L z (k + 1) := by
  unfold part
  rw [List.set_append_right _ _ (by simp; omega)]
  have e : L.length - k = (L.length - (k + 1)) + 1 := by omega
  rw [e, List.replicate_succ, List.take_succ_eq_append_getElem h]
  have e2 : k - (L.take k).length = 0 := by simp; omega
  rw [e2, List.set_cons_zero, List.append_assoc]
  rfl
theorem toPair_any (x s : ByteArray) (w : World) :
    Calls Tryz.prog 38 #[.agg #[.string x, .string s]] w fun e w' => e = .returned (.agg #[.string x, .string s]) ∧ Below w.heap.size w w' := by
  go_enter Tryz.func38, Tryz.ntmps38
  go_wp2
  go_returns
  exact ⟨rfl, (((Below.refl _ _).alloc (Nat.le_refl _) _).alloc (by simp) _).alloc (by simp; omega) _⟩
theorem infoPair : (Tryz.prog.info? 55).map (fun i => (i.zero, i.size, i.bytes)) = some (some (.agg #[.string ⟨#[]⟩, .string ⟨#[]⟩]), 2, 32) := by kernel_rfl
theorem own_below {B : Nat} {e : TypeId} {k : Nat} {v : Value} {n : Nat} {xs : List Value} {w w' : World} (h : w.ownsRow B e k v n xs) (hb : Below w.heap.size w w') : w'.ownsRow B e k v n xs :=
  h.kept (row := none) ⟨hb.os, hb.tape, hb.output, hb.size, fun j hj _ => hb.block j hj⟩ (by cases hv : v.ownBlock <;> simp)
def pairsV (Q : List (ByteArray × ByteArray)) : List Value := Q.flatMap fun q => [.string q.1, .string q.2]
theorem pairsV_length (Q : List (ByteArray × ByteArray)) : (pairsV Q).length = Q.length * 2 := by
  induction Q with
  | nil => rfl
  | cons q Q ih => simp [pairsV] at ih ⊢; omega
theorem pairsV_at (Q : List (ByteArray × ByteArray)) (k : Nat) (h : k < Q.length) : (pairsV Q)[k * 2]? = some (.string Q[k].1) ∧ (pairsV Q)[k * 2 + 1]? = some (.string Q[k].2) := by
  induction Q generalizing k with
  | nil => simp at h
  | cons q Q ih =>
    cases k with
    | zero => simp [pairsV]
    | succ k =>
      have := ih k (by simpa using h)
      have e : (k + 1) * 2 = k * 2 + 2 := by omega
      simpa [pairsV, e] using this
theorem pairsV_set (Q : List (ByteArray × ByteArray)) (k : Nat) (h : k < Q.length) (x s : ByteArray) : ((pairsV Q).set (k * 2) (.string x)).set (k * 2 + 1) (.string s) = pairsV (Q.set k (x, s)) := by
  induction Q generalizing k with
  | nil => simp at h
  | cons q Q ih =>
    cases k with
    | zero => simp [pairsV]
    | succ k =>
      have := ih k (by simpa using h)
      have e : (k + 1) * 2 = k * 2 + 2 := by omega
      simpa [pairsV, e] using this
theorem made_pairs (n : Nat) (M : Array Value) (hM : M = madeCells (Value.agg #[.string ⟨#[]⟩, .string ⟨#[]⟩]).cells (n * 2)) : M.toList = pairsV (List.replicate n (⟨#[]⟩, ⟨#[]⟩)) ∧ M.size = n * 2 := by
  have hs : M.size = n * 2 := by rw [hM, size_madeCells]
  refine ⟨?_, hs⟩
  apply List.ext_getElem?
  intro j
  by_cases hj : j < n * 2
  · have e : M.toList[j]? = some (if j % 2 = 0 then .string ⟨#[]⟩ else .string ⟨#[]⟩) := by
      rw [hM]
      have h2 : j % 2 = 0 ∨ j % 2 = 1 := by omega
      rcases h2 with h2 | h2 <;> simp [madeCells, Value.cells, hj, h2]
    rw [e]
    have hp := pairsV_at (List.replicate n ((⟨#[]⟩ : ByteArray), (⟨#[]⟩ : ByteArray))) (j / 2) (by simp; omega)
    by_cases h2 : j % 2 = 0
    · have ej : j / 2 * 2 = j := by omega
      rw [ej] at hp
      rw [if_pos h2, hp.1]
      simp
    · have ej : j / 2 * 2 + 1 = j := by omega
      rw [ej] at hp
      rw [if_neg h2, hp.2]
      simp
  · rw [List.getElem?_eq_none (by simp; omega), List.getElem?_eq_none (by rw [pairsV_length]; simp; omega)]
set_option maxRecDepth 100000 in
set_option maxHeartbeats 1000000 in
theorem toPairs_any (a : Option Addr) (len cap B : Nat) (Q : List (ByteArray × ByteArray)) (hlen : len ≤ 1048576) (w : World) (hB : B ≤ w.heap.size) (hs : PairsAt w a len B Q) :
    Calls Tryz.prog 11 #[.slice a len cap] w fun e w' => (∃ v, e = .returned v ∧ w'.ownsRow w.heap.size 55 2 v len (pairsV Q)) ∧ Below w.heap.size w w' := by
  obtain ⟨hL, hc⟩ := hs
  obtain ⟨i0, hi, hz0, hz1, hz2⟩ := info_parts infoPair
  obtain ⟨M, hM⟩ : ∃ M, M = madeCells (Value.agg #[.string ⟨#[]⟩, .string ⟨#[]⟩]).cells (len * i0.size) := ⟨_, rfl⟩
  have hmk : ∀ W : World, (Instr.makeSlice 26 (.int .i64 (len : Int)) (.int .i64 (len : Int))).run Tryz.prog W = .ok (.slice (some ⟨W.heap.size, 0, none⟩) len len) (W.alloc (.cells M 55)) := fun W => by
    have h := run_make (P := Tryz.prog) W 26 55 i0 (.agg #[.string ⟨#[]⟩, .string ⟨#[]⟩]) Tryz.underlying26 hi hz0 .i64 .i64 (len : Int) (len : Int) (by omega) (by omega) (by rw [hz2]; omega) (by omega)
    rw [Int.toNat_natCast, ← hM] at h
    simpa using h
  have hMM := made_pairs len M (by rw [hM, hz1])
  have hown0 : (w.alloc (.cells M 55)).ownsRow w.heap.size 55 2 (.slice (some ⟨w.heap.size, 0, none⟩) len len) len (pairsV (part Q (⟨#[]⟩, ⟨#[]⟩) 0)) :=
    ⟨by rw [pairsV_length, part_length _ _ _ (by omega)]; omega, .inr ⟨w.heap.size, len, M, rfl, Nat.le_refl _, heap_alloc_new w _, Nat.le_refl _, by unfold maxLen; omega, hMM.2, by rw [hMM.1, part_zero, hL, List.take_of_length_le (by rw [pairsV_length]; simp)]⟩⟩
  have HO0 := hide hown0
  have HC := hide hc
  have HL := hide hL
  clear hc hL hM hMM hown0
  go_enter Tryz.func11, Tryz.ntmps11
  go_wp2_with fail
  go_loopw [4] (fun a4 wr => ∃ k : Nat, a4 = .int .i64 k ∧ k ≤ len ∧ wr.ownsRow w.heap.size 55 2 (.slice (some ⟨w.heap.size, 0, none⟩) len len) len (pairsV (part Q (⟨#[]⟩, ⟨#[]⟩) k)) ∧ Below w.heap.size w wr) (fun a4 _ => len - (intOf a4).toNat)
  case atStart => exact ⟨0, rfl, Nat.zero_le _, unhide HO0, (Below.refl _ _).alloc (Nat.le_refl _) _⟩
  case round =>
    obtain ⟨k, rfl, hk, hown, hb⟩ := hrel
    by_cases hlt : k < len
    · have hkL : k < Q.length := by have := unhide HL; omega
      obtain ⟨b, off, rfl, hbB, hcell, hcell1⟩ := unhide HC k hkL
      rw [← hb.cell (p := ⟨b, off + k * 2, none⟩) (by simp; omega)] at hcell
      rw [← hb.cell (p := ⟨b, off + k * 2 + 1, none⟩) (by simp; omega)] at hcell1
      have hx0 : (0 : Int) ≤ (k : Int) := by omega
      have hx1 : (k : Int) < (len : Int) := by omega
      have HO := hide hown
      clear hown
      have HP := hide (part_set Q (⟨#[]⟩, ⟨#[]⟩) k hkL)
      generalize Q[k] = q at hcell hcell1 HP
      obtain ⟨x, s⟩ := q
      simp only at hcell hcell1
      go_wp2_with fail
      refine (toPair_any _ _ _).mono ?_
      rintro e w1 ⟨rfl, hb1⟩
      have hown := own_below (unhide HO) hb1
      have hkp : k < (part Q (⟨#[]⟩, ⟨#[]⟩) k).length := by rw [part_length _ _ _ (by omega)]; omega
      have hat := pairsV_at _ k hkp
      have hce0 := hown.cellAt (k * 2) (by omega)
      have hce1 := hown.cellAt (k * 2 + 1) (by omega)
      rw [hat.1] at hce0
      rw [hat.2] at hce1
      have hf0 := hown.frozenAt (k * 2)
      have hf1 := hown.frozenAt (k * 2 + 1)
      have hst := ((hown.stored (k * 2) (.string x)).1.stored (k * 2 + 1) (.string s)).1
      rw [pairsV_set _ k hkp, unhide HP] at hst
      have HST := hide hst
      have hbb := hb.trans (hb1.mono hb.size)
      clear hst hown hat hb hb1 hcell hcell1
      go_wp2
      go_roundw
      case rel => exact ⟨k + 1, by go_num, by omega, unhide HST, (hbb.setCell (p := ⟨w.heap.size, k * 2, none⟩) (Nat.le_refl _) _).setCell (p := ⟨w.heap.size, k * 2 + 1, none⟩) (Nat.le_refl _) _⟩
      case measure => simp [intOf]; omega
    · obtain rfl : k = len := by omega
      have HO := hide hown
      clear hown
      go_wp2
      go_ret
      refine ⟨⟨_, rfl, ?_⟩, hb⟩
      have h := unhide HO
      have e := unhide HL
      subst e
      rw [part_all] at h
      exact h
theorem PairsAt.of_own {w : World} {B : Nat} {v : Value} {n : Nat} {Q : List (ByteArray × ByteArray)} (h : w.ownsRow B 55 2 v n (pairsV Q)) : ∃ a c, v = .slice a n c ∧ PairsAt w a n w.heap.size Q := by
  have hl : Q.length = n := by have := h.1; rw [pairsV_length] at this; omega
  rcases h.2 with ⟨rfl, h0⟩ | ⟨g, cap, cur, rfl, hg, hh, _⟩
  · subst h0
    exact ⟨none, 0, rfl, hl, fun j hj => by omega⟩
  · refine ⟨_, _, rfl, hl, fun j hj => ⟨g, 0, rfl, (h.lt g rfl).2, ?_, ?_⟩⟩
    · rw [Nat.zero_add, h.cellAt (j * 2) (by omega)]
      exact (pairsV_at Q j hj).1
    · rw [Nat.zero_add, h.cellAt (j * 2 + 1) (by omega)]
      exact (pairsV_at Q j hj).2
set_option maxRecDepth 100000 in
theorem eqPair_same (x s : ByteArray) (w : World) :
    Calls Tryz.prog 42 #[.agg #[.string x, .string s], .agg #[.string x, .string s]] w fun e w' => e = .returned (.bool true) ∧ Below w.heap.size w w' := by
  go_enter Tryz.func42, Tryz.ntmps42
  go_wp2
  go_ret
  exact ⟨rfl, ((Below.refl _ _).alloc (Nat.le_refl _) _).alloc (by simp) _⟩
set_option maxRecDepth 100000 in
set_option maxHeartbeats 1000000 in
theorem eqPairs_same (a a' : Option Addr) (len c c' B B' : Nat) (Q : List (ByteArray × ByteArray)) (hlen : len ≤ 1048576) (w : World) (hB : B ≤ w.heap.size) (hB' : B' ≤ w.heap.size) (hs : PairsAt w a len B Q) (hs' : PairsAt w a' len B' Q) :
    Calls Tryz.prog 14 #[.slice a len c, .slice a' len c'] w fun e w' => e = .returned (.bool true) ∧ Below w.heap.size w w' := by
  obtain ⟨hL, hc⟩ := hs
  obtain ⟨_, hc'⟩ := hs'
  have HC := hide hc
  have HC' := hide hc'
  have HL := hide hL
  clear hc hc' hL
  go_enter Tryz.func14, Tryz.ntmps14
  go_wp2_with fail
  go_loopw [5] (fun i wr => ∃ k : Nat, i = .int .i64 k ∧ k ≤ len ∧ Below w.heap.size w wr) (fun i _ => len - (intOf i).toNat)
  case atStart => exact ⟨0, rfl, Nat.zero_le _, Below.refl _ _⟩
  case round =>
    obtain ⟨k, rfl, hk, hb⟩ := hrel
    by_cases hlt : k < len
    · have hkL : k < Q.length := by have := unhide HL; omega
      obtain ⟨b, off, rfl, hbB, hc0, hc1⟩ := unhide HC k hkL
      obtain ⟨b', off', rfl, hbB', hc0', hc1'⟩ := unhide HC' k hkL
      rw [← hb.cell (p := ⟨b, off + k * 2, none⟩) (by simp; omega)] at hc0
      rw [← hb.cell (p := ⟨b, off + k * 2 + 1, none⟩) (by simp; omega)] at hc1
      rw [← hb.cell (p := ⟨b', off' + k * 2, none⟩) (by simp; omega)] at hc0'
      rw [← hb.cell (p := ⟨b', off' + k * 2 + 1, none⟩) (by simp; omega)] at hc1'
      have hx0 : (0 : Int) ≤ (k : Int) := by omega
      have hx1 : (k : Int) < (len : Int) := by omega
      generalize Q[k] = q at hc0 hc1 hc0' hc1'
      obtain ⟨x, s⟩ := q
      simp only at hc0 hc1 hc0' hc1'
      have HP := hide (fun w => eqPair_same x s w)
      have hl := hb.size
      have hkl : b < wr.heap.size := by omega
      have hkl' : b' < wr.heap.size := by omega
      go_wp2_with fail
      go_region_held3 (fun u => u.cell? ⟨b, off + k * 2, none⟩ = some (.string x) ∧ u.cell? ⟨b, off + k * 2 + 1, none⟩ = some (.string s) ∧ u.cell? ⟨b', off' + k * 2, none⟩ = some (.string x) ∧ u.cell? ⟨b', off' + k * 2 + 1, none⟩ = some (.string s))
        (first | go_keep | exact ⟨(hb2.cell (p := ⟨b, off + k * 2, none⟩) hkl).trans hc0, (hb2.cell (p := ⟨b, off + k * 2 + 1, none⟩) hkl).trans hc1, (hb2.cell (p := ⟨b', off' + k * 2, none⟩) hkl').trans hc0', (hb2.cell (p := ⟨b', off' + k * 2 + 1, none⟩) hkl').trans hc1'⟩)
        ((go_at_call 42; refine (unhide HP _).mono ?_; rintro e w2 ⟨rfl, hb2⟩))
      have hbe := hb.drew.trans (hb2.mono hb.size)
      clear hb2
      go_wp2
      go_roundw
      case rel => exact ⟨k + 1, by go_num, by omega, hbe⟩
      case measure => simp [intOf]; omega
    · go_wp2
      go_ret
      exact ⟨rfl, hb⟩
end Tr
end Go.Proofs.YtihnaddfpmjpaaaGreatDoor
