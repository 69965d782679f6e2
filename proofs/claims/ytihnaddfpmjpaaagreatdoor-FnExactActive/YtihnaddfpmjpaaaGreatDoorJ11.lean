/-
 GrInts, GrKInts.
-/
import Derived.Test.YtihnaddfpmjpaaaGreatDoorJ2
import Derived.Test.YtihnaddfpmjpaaaGreatDoorJ10
import Derived.Deep.RegionHeld3
import Derived.Lib.SmallJoins
import Derived.SliceStrings
import Derived.ShutString
namespace Go.Proofs.YtihnaddfpmjpaaaGreatDoor
namespace Gr
open Go.ChangeShapes Go.WideShapes Go.ChangeAt Go.RowKit
theorem info3 : (Tryz.prog.info? 3).map (fun i => (i.zero, i.size, i.bytes)) = some (some (.int .i64 0), 1, 8) := by kernel_rfl
def intsV (K : List Int) : List Value := K.map (Value.int .i64)
theorem intsV_set (K : List Int) (i : Nat) (x : Int) : (intsV K).set i (.int .i64 x) = intsV (K.set i x) := by simp [intsV, List.map_set]
theorem intsAt_of_own {w : World} {B : Nat} {v : Value} {n : Nat} {K : List Int} (h : w.ownsRow B 3 1 v n (intsV K)) : ∃ a c, v = .slice a n c ∧ IntsAt w a n w.heap.size K := by
  have hl : K.length = n := by have := h.1; simp [intsV] at this; omega
  rcases h.2 with ⟨rfl, h0⟩ | ⟨g, cap, cur, rfl, hg, hh, _⟩
  · subst h0
    exact ⟨none, 0, rfl, hl, fun j hj => by omega⟩
  · refine ⟨_, _, rfl, hl, fun j hj => ⟨g, 0, rfl, (h.lt g rfl).2, ?_⟩⟩
    rw [Nat.zero_add, h.cellAt j (by omega)]
    simp [intsV, hj]
set_option maxRecDepth 100000 in
set_option maxHeartbeats 1000000 in
theorem eqInts_same (a a' : Option Addr) (len c c' B B' : Nat) (L : List Int) (hlen : len ≤ 1048576) (w : World) (hB : B ≤ w.heap.size) (hB' : B' ≤ w.heap.size) (hs : IntsAt w a len B L) (hs' : IntsAt w a' len B' L) :
    Calls Tryz.prog 13 #[.slice a len c, .slice a' len c'] w fun e w' => e = .returned (.bool true) ∧ Below w.heap.size w w' := by
  obtain ⟨hL, hc⟩ := hs
  obtain ⟨_, hc'⟩ := hs'
  have HC := hide hc
  have HC' := hide hc'
  have HL := hide hL
  clear hc hc' hL
  go_enter Tryz.func13, Tryz.ntmps13
  go_wp2_with fail
  go_loopw [5] (fun i wr => ∃ k : Nat, i = .int .i64 k ∧ k ≤ len ∧ Below w.heap.size w wr) (fun i _ => len - (intOf i).toNat)
  case atStart => exact ⟨0, rfl, Nat.zero_le _, Below.refl _ _⟩
  case round =>
    obtain ⟨k, rfl, hk, hb⟩ := hrel
    by_cases hlt : k < len
    · have hkL : k < L.length := by have := unhide HL; omega
      obtain ⟨b, off, rfl, hbB, hcell⟩ := unhide HC k hkL
      obtain ⟨b', off', rfl, hbB', hcell'⟩ := unhide HC' k hkL
      rw [← hb.cell (p := ⟨b, off + k, none⟩) (by simp; omega)] at hcell
      rw [← hb.cell (p := ⟨b', off' + k, none⟩) (by simp; omega)] at hcell'
      have hx0 : (0 : Int) ≤ (k : Int) := by omega
      have hx1 : (k : Int) < (len : Int) := by omega
      generalize L[k] = s at hcell hcell'
      go_wp2_with fail
      go_quiet (fail)
      go_wp2
      go_roundw
      case rel => exact ⟨k + 1, by go_num, by omega, below_drewN hb _⟩
      case measure => simp [intOf]; omega
    · go_wp2
      go_ret
      exact ⟨rfl, hb⟩
def marksN (k n : Nat) : List Int := (List.range n).map fun i => ((k + i : Nat) : Int)
theorem marksN_length (k n : Nat) : (marksN k n).length = n := by simp [marksN]
theorem marksN_at (k n i : Nat) (h : i < (marksN k n).length) : (marksN k n)[i] = ((k + i : Nat) : Int) := by simp [marksN]
set_option maxRecDepth 100000 in
set_option maxHeartbeats 1000000 in
theorem markInts_to (v : Value) (B n k : Nat) (K : List Int) (h1 : k + n ≤ 100000000) (w : World) (ho : w.ownsRow B 3 1 v n (intsV K)) :
    Calls Tryz.prog 16 #[v, .int .i64 (k : Int)] w fun e w' => e = .returned (.int .i64 ((k + n : Nat) : Int)) ∧ w'.ownsRow B 3 1 v n (intsV (marksN k n)) ∧ Kept (fun g => v.ownBlock = some g) w w' := by
  obtain ⟨A, cap, rfl, _⟩ := intsAt_of_own ho
  have hKl : K.length = n := by have := ho.1; simp [intsV] at this; omega
  have HO : Hid (w.ownsRow B 3 1 (.slice A n cap) n (intsV (over (marksN k n) K 0))) := by show World.ownsRow _ _ _ _ _ _ _; rw [over_zero]; exact ho
  have HKL := hide hKl
  clear ho hKl
  go_enter Tryz.func16, Tryz.ntmps16
  go_wp2_with fail
  go_loopw [1, 5] (fun a1 a5 wr => ∃ j y : Nat, a5 = .int .i64 j ∧ j ≤ n ∧ y = k + j ∧ a1 = .int .i64 (y : Int) ∧ wr.ownsRow B 3 1 (.slice A n cap) n (intsV (over (marksN k n) K j)) ∧ Kept (fun g => (Value.slice A n cap).ownBlock = some g) w wr) (fun _ a5 _ => n - (intOf a5).toNat)
  case atStart => exact ⟨0, k, rfl, Nat.zero_le _, rfl, rfl, unhide HO, Kept.refl _ _⟩
  case round =>
    obtain ⟨j, y, rfl, hj, hy, rfl, hown, hkp⟩ := hrel
    have HY := hide hy
    have hyl : (y : Int) ≤ 100000000 := by omega
    clear hy
    by_cases hlt : j < n
    · obtain ⟨g, cap', hA, hBg, hgl⟩ := hown.form (by omega)
      simp at hA
      obtain ⟨rfl, rfl⟩ := hA
      have hx0 : (0 : Int) ≤ (j : Int) := by omega
      have hx1 : (j : Int) < (n : Int) := by omega
      have hKl := unhide HKL
      have hlo : (over (marksN k n) K j).length = n := by rw [over_length _ _ _ (by rw [marksN_length]; omega) (by omega)]; omega
      have hce := hown.cellAt j (by omega)
      have hjl : j < (over (marksN k n) K j).length := by omega
      have hce2 : (intsV (over (marksN k n) K j))[j]? = some (.int .i64 (over (marksN k n) K j)[j]) := by simp [intsV, hjl]
      rw [hce2] at hce
      have hfz := hown.frozenAt j
      have hst := (hown.stored j (.int .i64 (y : Int))).1
      have hys : (y : Int) = (marksN k n)[j]'(by rw [marksN_length]; exact hlt) := by rw [marksN_at]; rw [unhide HY]
      have hov := over_set (marksN k n) K j (by rw [marksN_length]; omega) (by omega)
      rw [intsV_set, hys, hov, ← hys] at hst
      have HST := hide hst
      have HKP := hide (hkp.trans (Kept.set wr g j (.int .i64 (y : Int)) rfl))
      generalize (over (marksN k n) K j)[j] = z at hce
      clear hst hown hce2 hkp hlo hjl hys hov hKl
      go_wp2
      go_roundw
      case rel => exact ⟨j + 1, y + 1, by go_num, by omega, by have := unhide HY; omega, by go_num, unhide HST, unhide HKP⟩
      case measure => simp [intOf]; omega
    · obtain rfl : j = n := by omega
      have HOW := hide hown
      clear hown
      go_wp2
      go_ret
      refine ⟨by rw [← unhide HY]; rfl, ?_, hkp⟩
      have h := unhide HOW
      have e := over_all (marksN k j) K (by rw [marksN_length, unhide HKL])
      rw [unhide HKL] at e
      rw [e] at h
      exact h
set_option maxRecDepth 100000 in
set_option maxHeartbeats 1000000 in
theorem heldInts_any (A : Option Addr) (n cap B k : Nat) (h1 : k + n ≤ 100000000) (w : World) (hs : IntsAt w A n B (marksN k n)) :
    Calls Tryz.prog 17 #[.slice A n cap, .int .i64 (k : Int)] w fun e w' => e = .returned (.int .i64 ((k + n : Nat) : Int)) ∧ w' = w := by
  have HC := hide hs.2
  clear hs
  go_enter Tryz.func17, Tryz.ntmps17
  go_wp2_with fail
  go_loop [1, 5] (fun a1 a5 => ∃ j y : Nat, a5 = .int .i64 j ∧ j ≤ n ∧ Hid (y = k + j) ∧ y ≤ 100000000 ∧ a1 = .int .i64 (y : Int)) (fun _ a5 => n - (intOf a5).toNat)
  case atStart => exact ⟨0, k, rfl, Nat.zero_le _, rfl, by omega, rfl⟩
  case round =>
    obtain ⟨j, y, rfl, hj, HY, hyl, rfl⟩ := hrel
    by_cases hlt : j < n
    · have hjm : j < (marksN k n).length := by rw [marksN_length]; exact hlt
      obtain ⟨b, off, rfl, hbB, hcell⟩ := unhide HC j hjm
      rw [marksN_at k n j hjm, ← unhide HY] at hcell
      have hx0 : (0 : Int) ≤ (j : Int) := by omega
      have hx1 : (j : Int) < (n : Int) := by omega
      go_wp2
      go_round
      case rel => exact ⟨j + 1, y + 1, by go_num, by omega, by show _ = _; rw [unhide HY]; rfl, by have := unhide HY; omega, by go_num⟩
      case measure => simp [intOf]; omega
    · obtain rfl : j = n := by omega
      go_wp2
      go_ret
      refine ⟨?_, rfl⟩
      have e : (y : Int) = (k : Int) + (j : Int) := by rw [unhide HY]; simp
      rw [← e]
      rfl
def InAt (w : World) (v : Value) (B : Nat) (K : List Int) : Prop := ∃ a c, v = .slice a K.length c ∧ IntsAt w a K.length B K
def InOwn (w : World) (B : Nat) (v : Value) (K : List Int) : Prop := w.ownsRow B 3 1 v K.length (intsV K)
def InBlk (v : Value) (g : Nat) : Prop := v.ownBlock = some g
theorem InAt.shape {w : World} {v : Value} {B : Nat} {K : List Int} (h : InAt w v B K) : ∃ a c, v = .slice a K.length c := by
  obtain ⟨a, c, rfl, _⟩ := h
  exact ⟨a, c, rfl⟩
theorem InAt.below {w w' : World} {v : Value} {B C : Nat} {K : List Int} (h : InAt w v B K) (hb : Below C w w') (hC : B ≤ C) : InAt w' v B K := by
  obtain ⟨a, c, rfl, hQ⟩ := h
  exact ⟨a, c, rfl, hQ.below hb hC⟩
theorem InAt.mono {w : World} {v : Value} {B C : Nat} {K : List Int} (h : InAt w v B K) (hC : B ≤ C) : InAt w v C K := by
  obtain ⟨a, c, rfl, h1, h2⟩ := h
  refine ⟨a, c, rfl, h1, fun j hj => ?_⟩
  obtain ⟨b, off, e, hb, hc⟩ := h2 j hj
  exact ⟨b, off, e, by omega, hc⟩
theorem InOwn.at {w : World} {B : Nat} {v : Value} {K : List Int} (h : InOwn w B v K) : InAt w v w.heap.size K := by
  obtain ⟨a, c, rfl, hQ⟩ := intsAt_of_own h
  exact ⟨a, c, rfl, hQ⟩
theorem InOwn.below {w w' : World} {B : Nat} {v : Value} {K : List Int} (h : InOwn w B v K) (hb : Below w.heap.size w w') : InOwn w' B v K := own_below h hb
theorem InOwn.lower {w : World} {B C : Nat} {v : Value} {K : List Int} (h : InOwn w B v K) (hC : C ≤ B) : InOwn w C v K := own_lower hC h
theorem InOwn.blk {w : World} {B : Nat} {v : Value} {K : List Int} (h : InOwn w B v K) : ∀ g, InBlk v g → B ≤ g ∧ g < w.heap.size := fun g hg => World.ownsRow.lt h g hg
theorem InOwn.kept {S : Nat → Prop} {w w' : World} {B : Nat} {v : Value} {K : List Int} (h : InOwn w B v K) (hk : Kept S w w') (hS : ∀ g, InBlk v g → ¬ S g) : InOwn w' B v K := hk.own h hS
theorem eqInts_gen (v u : Value) (B B' : Nat) (K : List Int) (h1 : K.length ≤ 1048576) (w : World) (hB : B ≤ w.heap.size) (hB' : B' ≤ w.heap.size) (hv : InAt w v B K) (hu : InAt w u B' K) :
    Calls Tryz.prog 13 #[v, u] w fun e w' => e = .returned (.bool true) ∧ Below w.heap.size w w' := by
  obtain ⟨a, c, rfl, hQ⟩ := hv
  obtain ⟨a', c', rfl, hQ'⟩ := hu
  exact eqInts_same a a' K.length c c' B B' K h1 w hB hB' hQ hQ'
theorem markInts_gen (v : Value) (B k : Nat) (K : List Int) (h1 : k + K.length ≤ 100000000) (w : World) (ho : InOwn w B v K) :
    Calls Tryz.prog 16 #[v, .int .i64 (k : Int)] w fun e w' => e = .returned (.int .i64 ((k + K.length : Nat) : Int)) ∧ InOwn w' B v (marksN k K.length) ∧ Kept (InBlk v) w w' := by
  refine (markInts_to v B K.length k K h1 w ho).mono ?_
  rintro e w' ⟨rfl, ho', hk⟩
  refine ⟨rfl, ?_, hk⟩
  unfold InOwn
  rw [marksN_length]
  exact ho'
theorem heldInts_gen (v : Value) (B k n : Nat) (h1 : k + n ≤ 100000000) (w : World) (hB : B ≤ w.heap.size) (hv : InAt w v B (marksN k n)) :
    Calls Tryz.prog 17 #[v, .int .i64 (k : Int)] w fun e w' => e = .returned (.int .i64 ((k + n : Nat) : Int)) ∧ Below w.heap.size w w' := by
  obtain ⟨a, c, rfl, hQ⟩ := hv
  rw [marksN_length] at hQ ⊢
  refine (heldInts_any a n c B k h1 w hQ).mono ?_
  rintro e w' ⟨rfl, rfl⟩
  exact ⟨rfl, Below.refl _ _⟩
end Gr
end Go.Proofs.YtihnaddfpmjpaaaGreatDoor
