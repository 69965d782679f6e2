/-
  Texts of this claim, one behind the other: GrEdge, GrEdgeM, GrEdgeO, GrCouple, GrCoupleM, GrCoupleO, GrKCoupleS, GrSums, GrSumsM, GrSumsO, GrKSums, GrBetter.
-/
import Derived.Test.YtfhclbpbjlbebaaJ2
import Derived.Deep.RegionHeld3
import Derived.Lib.SmallJoins
import Derived.Deep.Slices

/-
  Rows of Edge (5 numbers each) in memory, and the contracts of what the laws do with them. Written by program (tools/introws.py).
-/
namespace Go.Proofs.Ytfhclbpbjlbebaa
namespace Gr
open Go.ChangeShapes Go.WideShapes Go.ChangeAt Go.RowKit

structure EdgeI where
  A : Int
  B : Int
  W1 : Int
  W2 : Int
  W3 : Int
deriving DecidableEq

def EdgeI.v (x : EdgeI) : Value := .agg #[.int .i64 x.A, .int .i64 x.B, .int .i64 x.W1, .int .i64 x.W2, .int .i64 x.W3]
def EdgeI.zero : EdgeI := ⟨0, 0, 0, 0, 0⟩

/-- A row that can be read, below block B. -/
def edgesAt (w : World) (a : Option Addr) (len B : Nat) (Q : List EdgeI) : Prop :=
  Q.length = len ∧ ∀ j (h : j < Q.length), ∃ b off, a = some ⟨b, off, none⟩ ∧ b < B ∧ w.cell? ⟨b, off + j * 5, none⟩ = some (.int .i64 Q[j].A) ∧ w.cell? ⟨b, off + j * 5 + 1, none⟩ = some (.int .i64 Q[j].B) ∧ w.cell? ⟨b, off + j * 5 + 2, none⟩ = some (.int .i64 Q[j].W1) ∧ w.cell? ⟨b, off + j * 5 + 3, none⟩ = some (.int .i64 Q[j].W2) ∧ w.cell? ⟨b, off + j * 5 + 4, none⟩ = some (.int .i64 Q[j].W3)

theorem edgesAt.below {w w' : World} {a : Option Addr} {len B C : Nat} {Q : List EdgeI} (h : edgesAt w a len B Q) (hb : Below C w w') (hC : B ≤ C) : edgesAt w' a len B Q := by
  refine ⟨h.1, fun j hj => ?_⟩
  obtain ⟨b, off, e, hbB, c0, c1, c2, c3, c4⟩ := h.2 j hj
  exact ⟨b, off, e, hbB, (by rw [hb.cell (p := ⟨b, off + j * 5, none⟩) (by simp; omega)]; exact c0), (by rw [hb.cell (p := ⟨b, off + j * 5 + 1, none⟩) (by simp; omega)]; exact c1), (by rw [hb.cell (p := ⟨b, off + j * 5 + 2, none⟩) (by simp; omega)]; exact c2), (by rw [hb.cell (p := ⟨b, off + j * 5 + 3, none⟩) (by simp; omega)]; exact c3), (by rw [hb.cell (p := ⟨b, off + j * 5 + 4, none⟩) (by simp; omega)]; exact c4)⟩

theorem edgesAt.mono {w : World} {a : Option Addr} {len B C : Nat} {Q : List EdgeI} (h : edgesAt w a len B Q) (hC : B ≤ C) : edgesAt w a len C Q := by
  refine ⟨h.1, fun j hj => ?_⟩
  obtain ⟨b, off, e, hbB, hc⟩ := h.2 j hj
  exact ⟨b, off, e, by omega, hc⟩

def edgesV (Q : List EdgeI) : List Value := Q.flatMap fun q => [.int .i64 q.A, .int .i64 q.B, .int .i64 q.W1, .int .i64 q.W2, .int .i64 q.W3]

theorem edgesV_length (Q : List EdgeI) : (edgesV Q).length = Q.length * 5 := by
  induction Q with
  | nil => rfl
  | cons q Q ih => simp [edgesV] at ih ⊢; omega

theorem edgesV_at (Q : List EdgeI) (k : Nat) (h : k < Q.length) : (edgesV Q)[k * 5]? = some (.int .i64 Q[k].A) ∧ (edgesV Q)[k * 5 + 1]? = some (.int .i64 Q[k].B) ∧ (edgesV Q)[k * 5 + 2]? = some (.int .i64 Q[k].W1) ∧ (edgesV Q)[k * 5 + 3]? = some (.int .i64 Q[k].W2) ∧ (edgesV Q)[k * 5 + 4]? = some (.int .i64 Q[k].W3) := by
  induction Q generalizing k with
  | nil => simp at h
  | cons q Q ih =>
    cases k with
    | zero => simp [edgesV]
    | succ k =>
      have := ih k (by simpa using h)
      have e : (k + 1) * 5 = k * 5 + 5 := by omega
      simpa [edgesV, e] using this

theorem edgesV_set (Q : List EdgeI) (k : Nat) (h : k < Q.length) (x : EdgeI) : (((((edgesV Q).set (k * 5) (.int .i64 x.A)).set (k * 5 + 1) (.int .i64 x.B)).set (k * 5 + 2) (.int .i64 x.W1)).set (k * 5 + 3) (.int .i64 x.W2)).set (k * 5 + 4) (.int .i64 x.W3) = edgesV (Q.set k x) := by
  induction Q generalizing k with
  | nil => simp at h
  | cons q Q ih =>
    cases k with
    | zero => simp [edgesV]
    | succ k =>
      have := ih k (by simpa using h)
      have e : (k + 1) * 5 = k * 5 + 5 := by omega
      simpa [edgesV, e] using this

theorem edgesV_snoc (Q : List EdgeI) (x : EdgeI) : edgesV (Q ++ [x]) = edgesV Q ++ [.int .i64 x.A, .int .i64 x.B, .int .i64 x.W1, .int .i64 x.W2, .int .i64 x.W3] := by
  unfold edgesV; rw [List.flatMap_append]; rfl

theorem edgesAt.of_own {w : World} {B : Nat} {v : Value} {n : Nat} {Q : List EdgeI} (h : w.ownsRow B 64 5 v n (edgesV Q)) : ∃ a c, v = .slice a n c ∧ edgesAt w a n w.heap.size Q := by
  have hl : Q.length = n := by have := h.1; rw [edgesV_length] at this; omega
  rcases h.2 with ⟨rfl, h0⟩ | ⟨g, cap, cur, rfl, hg, hh, _⟩
  · subst h0
    exact ⟨none, 0, rfl, hl, fun j hj => by omega⟩
  · refine ⟨_, _, rfl, hl, fun j hj => ⟨g, 0, rfl, (h.lt g rfl).2, ?_, ?_, ?_, ?_, ?_⟩⟩
    · rw [Nat.zero_add, h.cellAt (j * 5) (by omega)]
      exact (edgesV_at Q j hj).1
    · rw [Nat.zero_add, h.cellAt (j * 5 + 1) (by omega)]
      exact (edgesV_at Q j hj).2.1
    · rw [Nat.zero_add, h.cellAt (j * 5 + 2) (by omega)]
      exact (edgesV_at Q j hj).2.2.1
    · rw [Nat.zero_add, h.cellAt (j * 5 + 3) (by omega)]
      exact (edgesV_at Q j hj).2.2.2.1
    · rw [Nat.zero_add, h.cellAt (j * 5 + 4) (by omega)]
      exact (edgesV_at Q j hj).2.2.2.2

theorem infoEdge : (Try.prog.info? 64).map (fun i => (i.zero, i.size, i.bytes)) = some (some (.agg #[.int .i64 0, .int .i64 0, .int .i64 0, .int .i64 0, .int .i64 0]), 5, 40) := by kernel_rfl

theorem made_edges (n : Nat) (M : Array Value) (hM : M = madeCells (Value.agg #[.int .i64 0, .int .i64 0, .int .i64 0, .int .i64 0, .int .i64 0]).cells (n * 5)) : M.toList = edgesV (List.replicate n EdgeI.zero) ∧ M.size = n * 5 := by
  have hs : M.size = n * 5 := by rw [hM, size_madeCells]
  refine ⟨?_, hs⟩
  apply List.ext_getElem?
  intro j
  by_cases hj : j < n * 5
  · have e : M.toList[j]? = some (.int .i64 0) := by
      rw [hM]
      have h2 : j % 5 = 0 ∨ j % 5 = 1 ∨ j % 5 = 2 ∨ j % 5 = 3 ∨ j % 5 = 4 := by omega
      rcases h2 with h2 | h2 | h2 | h2 | h2 <;> simp [madeCells, Value.cells, hj, h2]
    rw [e]
    have hp := edgesV_at (List.replicate n EdgeI.zero) (j / 5) (by simp; omega)
    have h2 : j % 5 = 0 ∨ j % 5 = 1 ∨ j % 5 = 2 ∨ j % 5 = 3 ∨ j % 5 = 4 := by omega
    rcases h2 with h2 | h2 | h2 | h2 | h2
    · have ej : j / 5 * 5 = j := by omega
      rw [ej] at hp
      rw [hp.1]
      simp [EdgeI.zero]
    · have ej : j / 5 * 5 + 1 = j := by omega
      rw [ej] at hp
      rw [hp.2.1]
      simp [EdgeI.zero]
    · have ej : j / 5 * 5 + 2 = j := by omega
      rw [ej] at hp
      rw [hp.2.2.1]
      simp [EdgeI.zero]
    · have ej : j / 5 * 5 + 3 = j := by omega
      rw [ej] at hp
      rw [hp.2.2.2.1]
      simp [EdgeI.zero]
    · have ej : j / 5 * 5 + 4 = j := by omega
      rw [ej] at hp
      rw [hp.2.2.2.2]
      simp [EdgeI.zero]
  · rw [List.getElem?_eq_none (by simp; omega), List.getElem?_eq_none (by rw [edgesV_length]; simp; omega)]

theorem toEdge_any (x : EdgeI) (w : World) :
    Calls Try.prog 66 #[x.v] w fun e w' => e = .returned x.v ∧ Below w.heap.size w w' := by
  unfold EdgeI.v
  go_enter Try.func66, Try.ntmps66
  go_wp2
  go_returns
  exact ⟨rfl, (((Below.refl _ _).alloc (Nat.le_refl _) _).alloc (by simp) _).alloc (by simp; omega) _⟩

set_option maxRecDepth 100000 in
set_option maxHeartbeats 1000000 in
theorem toEdgeS_any (a : Option Addr) (len cap B : Nat) (Q : List EdgeI) (hlen : len ≤ 1048576) (w : World) (hB : B ≤ w.heap.size) (hs : edgesAt w a len B Q) :
    Calls Try.prog 42 #[.slice a len cap] w fun e w' => (∃ v, e = .returned v ∧ w'.ownsRow w.heap.size 64 5 v len (edgesV Q)) ∧ Below w.heap.size w w' := by
  obtain ⟨hL, hc⟩ := hs
  obtain ⟨i0, hi, hz0, hz1, hz2⟩ := info_parts infoEdge
  obtain ⟨M, hM⟩ : ∃ M, M = madeCells (Value.agg #[.int .i64 0, .int .i64 0, .int .i64 0, .int .i64 0, .int .i64 0]).cells (len * i0.size) := ⟨_, rfl⟩
  have hmk : ∀ W : World, (Instr.makeSlice 24 (.int .i64 (len : Int)) (.int .i64 (len : Int))).run Try.prog W = .ok (.slice (some ⟨W.heap.size, 0, none⟩) len len) (W.alloc (.cells M 64)) := fun W => by
    have h := run_make (P := Try.prog) W 24 64 i0 (.agg #[.int .i64 0, .int .i64 0, .int .i64 0, .int .i64 0, .int .i64 0]) Try.underlying24 hi hz0 .i64 .i64 (len : Int) (len : Int) (by omega) (by omega) (by rw [hz2]; omega) (by omega)
    rw [Int.toNat_natCast, ← hM] at h
    simpa using h
  have hMM := made_edges len M (by rw [hM, hz1])
  have hown0 : (w.alloc (.cells M 64)).ownsRow w.heap.size 64 5 (.slice (some ⟨w.heap.size, 0, none⟩) len len) len (edgesV (part Q EdgeI.zero 0)) :=
    ⟨by rw [edgesV_length, part_length _ _ _ (by omega)]; omega, .inr ⟨w.heap.size, len, M, rfl, Nat.le_refl _, heap_alloc_new w _, Nat.le_refl _, by unfold maxLen; omega, hMM.2, by rw [hMM.1, part_zero, hL, List.take_of_length_le (by rw [edgesV_length]; simp)]⟩⟩
  have HO0 := hide hown0
  have HC := hide hc
  have HL := hide hL
  clear hc hL hM hMM hown0
  go_enter Try.func42, Try.ntmps42
  go_wp2_with fail
  go_loopw [4] (fun a4 wr => ∃ k : Nat, a4 = .int .i64 k ∧ k ≤ len ∧ wr.ownsRow w.heap.size 64 5 (.slice (some ⟨w.heap.size, 0, none⟩) len len) len (edgesV (part Q EdgeI.zero k)) ∧ Below w.heap.size w wr) (fun a4 _ => len - (intOf a4).toNat)
  case atStart => exact ⟨0, rfl, Nat.zero_le _, unhide HO0, (Below.refl _ _).alloc (Nat.le_refl _) _⟩
  case round =>
    obtain ⟨k, rfl, hk, hown, hb⟩ := hrel
    by_cases hlt : k < len
    · have hkL : k < Q.length := by have := unhide HL; omega
      obtain ⟨b, off, rfl, hbB, c0, c1, c2, c3, c4⟩ := unhide HC k hkL
      rw [← hb.cell (p := ⟨b, off + k * 5, none⟩) (by simp; omega)] at c0
      rw [← hb.cell (p := ⟨b, off + k * 5 + 1, none⟩) (by simp; omega)] at c1
      rw [← hb.cell (p := ⟨b, off + k * 5 + 2, none⟩) (by simp; omega)] at c2
      rw [← hb.cell (p := ⟨b, off + k * 5 + 3, none⟩) (by simp; omega)] at c3
      rw [← hb.cell (p := ⟨b, off + k * 5 + 4, none⟩) (by simp; omega)] at c4
      have hx0 : (0 : Int) ≤ (k : Int) := by omega
      have hx1 : (k : Int) < (len : Int) := by omega
      have HO := hide hown
      clear hown
      have HP := hide (part_set Q EdgeI.zero k hkL)
      generalize Q[k] = q at c0 c1 c2 c3 c4 HP
      have HTI := hide (fun w => toEdge_any q w)
      have HIS := hide (fun (h : k < (part Q EdgeI.zero k).length) => edgesV_set (part Q EdgeI.zero k) k h q)
      obtain ⟨x0, x1, x2, x3, x4⟩ := q
      simp only [EdgeI.v] at c0 c1 c2 c3 c4 HTI HIS
      go_wp2_with fail
      refine (unhide HTI _).mono ?_
      rintro e w1 ⟨rfl, hb1⟩
      have hown := own_below (unhide HO) hb1
      have hkp : k < (part Q EdgeI.zero k).length := by rw [part_length _ _ _ (by omega)]; omega
      have hat := edgesV_at _ k hkp
      have hce0 := hown.cellAt (k * 5) (by omega)
      rw [hat.1] at hce0
      have hf0 := hown.frozenAt (k * 5)
      have hce1 := hown.cellAt (k * 5 + 1) (by omega)
      rw [hat.2.1] at hce1
      have hf1 := hown.frozenAt (k * 5 + 1)
      have hce2 := hown.cellAt (k * 5 + 2) (by omega)
      rw [hat.2.2.1] at hce2
      have hf2 := hown.frozenAt (k * 5 + 2)
      have hce3 := hown.cellAt (k * 5 + 3) (by omega)
      rw [hat.2.2.2.1] at hce3
      have hf3 := hown.frozenAt (k * 5 + 3)
      have hce4 := hown.cellAt (k * 5 + 4) (by omega)
      rw [hat.2.2.2.2] at hce4
      have hf4 := hown.frozenAt (k * 5 + 4)
      have hst := (((((hown.stored (k * 5) (.int .i64 x0)).1.stored (k * 5 + 1) (.int .i64 x1)).1.stored (k * 5 + 2) (.int .i64 x2)).1.stored (k * 5 + 3) (.int .i64 x3)).1.stored (k * 5 + 4) (.int .i64 x4)).1
      rw [unhide HIS hkp, unhide HP] at hst
      have HST := hide hst
      have hbb := hb.trans (hb1.mono hb.size)
      clear hst hown hat hb hb1 c0 c1 c2 c3 c4
      go_wp2
      go_roundw
      case rel => exact ⟨k + 1, by go_num, by omega, unhide HST, ((((hbb.setCell (p := ⟨w.heap.size, k * 5, none⟩) (Nat.le_refl _) _).setCell (p := ⟨w.heap.size, k * 5 + 1, none⟩) (Nat.le_refl _) _).setCell (p := ⟨w.heap.size, k * 5 + 2, none⟩) (Nat.le_refl _) _).setCell (p := ⟨w.heap.size, k * 5 + 3, none⟩) (Nat.le_refl _) _).setCell (p := ⟨w.heap.size, k * 5 + 4, none⟩) (Nat.le_refl _) _⟩
      case measure => simp [intOf]; omega
    · obtain rfl : k = len := by omega
      have HO := hide hown
      clear hown
      go_wp2
      go_ret
      refine ⟨⟨_, rfl, ?_⟩, hb⟩
      have h := unhide HO
      have e := unhide HL
      subst e
      rw [part_all] at h
      exact h

set_option maxRecDepth 100000 in
theorem eqEdge_same (x : EdgeI) (w : World) :
    Calls Try.prog 67 #[x.v, x.v] w fun e w' => e = .returned (.bool true) ∧ Below w.heap.size w w' := by
  unfold EdgeI.v
  go_enter Try.func67, Try.ntmps67
  go_wp2
  go_ret
  exact ⟨rfl, ((Below.refl _ _).alloc (Nat.le_refl _) _).alloc (by simp) _⟩

set_option maxRecDepth 100000 in
set_option maxHeartbeats 2000000 in
theorem eqEdgeS_same (a a' : Option Addr) (len c c' B B' : Nat) (Q : List EdgeI) (hlen : len ≤ 1048576) (w : World) (hB : B ≤ w.heap.size) (hB' : B' ≤ w.heap.size) (hs : edgesAt w a len B Q) (hs' : edgesAt w a' len B' Q) :
    Calls Try.prog 43 #[.slice a len c, .slice a' len c'] w fun e w' => e = .returned (.bool true) ∧ Below w.heap.size w w' := by
  obtain ⟨hL, hc⟩ := hs
  obtain ⟨_, hc'⟩ := hs'
  have HC := hide hc
  have HC' := hide hc'
  have HL := hide hL
  clear hc hc' hL
  go_enter Try.func43, Try.ntmps43
  go_wp2_with fail
  go_loopw [5] (fun i wr => ∃ k : Nat, i = .int .i64 k ∧ k ≤ len ∧ Below w.heap.size w wr) (fun i _ => len - (intOf i).toNat)
  case atStart => exact ⟨0, rfl, Nat.zero_le _, Below.refl _ _⟩
  case round =>
    obtain ⟨k, rfl, hk, hb⟩ := hrel
    by_cases hlt : k < len
    · have hkL : k < Q.length := by have := unhide HL; omega
      obtain ⟨b, off, rfl, hbB, c0, c1, c2, c3, c4⟩ := unhide HC k hkL
      obtain ⟨b', off', rfl, hbB', d0, d1, d2, d3, d4⟩ := unhide HC' k hkL
      rw [← hb.cell (p := ⟨b, off + k * 5, none⟩) (by simp; omega)] at c0
      rw [← hb.cell (p := ⟨b', off' + k * 5, none⟩) (by simp; omega)] at d0
      rw [← hb.cell (p := ⟨b, off + k * 5 + 1, none⟩) (by simp; omega)] at c1
      rw [← hb.cell (p := ⟨b', off' + k * 5 + 1, none⟩) (by simp; omega)] at d1
      rw [← hb.cell (p := ⟨b, off + k * 5 + 2, none⟩) (by simp; omega)] at c2
      rw [← hb.cell (p := ⟨b', off' + k * 5 + 2, none⟩) (by simp; omega)] at d2
      rw [← hb.cell (p := ⟨b, off + k * 5 + 3, none⟩) (by simp; omega)] at c3
      rw [← hb.cell (p := ⟨b', off' + k * 5 + 3, none⟩) (by simp; omega)] at d3
      rw [← hb.cell (p := ⟨b, off + k * 5 + 4, none⟩) (by simp; omega)] at c4
      rw [← hb.cell (p := ⟨b', off' + k * 5 + 4, none⟩) (by simp; omega)] at d4
      have hx0 : (0 : Int) ≤ (k : Int) := by omega
      have hx1 : (k : Int) < (len : Int) := by omega
      generalize Q[k] = q at c0 d0 c1 d1 c2 d2 c3 d3 c4 d4
      have HP := hide (fun w => eqEdge_same q w)
      obtain ⟨x0, x1, x2, x3, x4⟩ := q
      simp only [EdgeI.v] at c0 d0 c1 d1 c2 d2 c3 d3 c4 d4 HP
      have hl := hb.size
      have hkl : b < wr.heap.size := by omega
      have hkl' : b' < wr.heap.size := by omega
      go_wp2_with fail
      go_region_held3 (fun u => u.cell? ⟨b, off + k * 5, none⟩ = some (.int .i64 x0) ∧ u.cell? ⟨b, off + k * 5 + 1, none⟩ = some (.int .i64 x1) ∧ u.cell? ⟨b, off + k * 5 + 2, none⟩ = some (.int .i64 x2) ∧ u.cell? ⟨b, off + k * 5 + 3, none⟩ = some (.int .i64 x3) ∧ u.cell? ⟨b, off + k * 5 + 4, none⟩ = some (.int .i64 x4) ∧ u.cell? ⟨b', off' + k * 5, none⟩ = some (.int .i64 x0) ∧ u.cell? ⟨b', off' + k * 5 + 1, none⟩ = some (.int .i64 x1) ∧ u.cell? ⟨b', off' + k * 5 + 2, none⟩ = some (.int .i64 x2) ∧ u.cell? ⟨b', off' + k * 5 + 3, none⟩ = some (.int .i64 x3) ∧ u.cell? ⟨b', off' + k * 5 + 4, none⟩ = some (.int .i64 x4))
        (first | go_keep | exact ⟨(hb2.cell (p := ⟨b, off + k * 5, none⟩) hkl).trans c0, (hb2.cell (p := ⟨b, off + k * 5 + 1, none⟩) hkl).trans c1, (hb2.cell (p := ⟨b, off + k * 5 + 2, none⟩) hkl).trans c2, (hb2.cell (p := ⟨b, off + k * 5 + 3, none⟩) hkl).trans c3, (hb2.cell (p := ⟨b, off + k * 5 + 4, none⟩) hkl).trans c4, (hb2.cell (p := ⟨b', off' + k * 5, none⟩) hkl').trans d0, (hb2.cell (p := ⟨b', off' + k * 5 + 1, none⟩) hkl').trans d1, (hb2.cell (p := ⟨b', off' + k * 5 + 2, none⟩) hkl').trans d2, (hb2.cell (p := ⟨b', off' + k * 5 + 3, none⟩) hkl').trans d3, (hb2.cell (p := ⟨b', off' + k * 5 + 4, none⟩) hkl').trans d4⟩)
        ((go_at_call 67; refine (unhide HP _).mono ?_; rintro e w2 ⟨rfl, hb2⟩))
      have hbe := hb.drew.trans (hb2.mono hb.size)
      clear hb2
      go_wp2
      go_roundw
      case rel => exact ⟨k + 1, by go_num, by omega, hbe⟩
      case measure => simp [intOf]; omega
    · go_wp2
      go_ret
      exact ⟨rfl, hb⟩

set_option maxRecDepth 100000 in
theorem szEdgeS_any (a : Option Addr) (len cap : Nat) (left : Int) (h0 : 0 ≤ left) (h1 : left ≤ 1048576) (hlen : len ≤ 9223372036854775807) (w : World) :
    Calls Try.prog 41 #[.slice a len cap, .int .i64 left] w fun e w' => e = .returned (.int .i64 (if left - (len : Int) < 0 then -1 else left - (len : Int))) ∧ w' = w := by
  by_cases h : left - (len : Int) < 0
  · rw [if_pos h]
    go_enter Try.func41, Try.ntmps41
    go_wp2
    go_ret
    exact ⟨rfl, rfl⟩
  · rw [if_neg h]
    go_enter Try.func41, Try.ntmps41
    go_wp2
    go_ret
    exact ⟨rfl, rfl⟩

end Gr
end Go.Proofs.Ytfhclbpbjlbebaa

/-
  Rows of Edge: what is marked is held. Written by program (tools/introws.py).
-/
namespace Go.Proofs.Ytfhclbpbjlbebaa
namespace Gr
open Go.ChangeShapes Go.WideShapes Go.ChangeAt Go.RowKit

/-- The marks of n rows from k on. -/
def marksEdge (k n : Nat) : List EdgeI := (List.range n).map fun i => ⟨((k + i * 5 : Nat) : Int), ((k + i * 5 + 1 : Nat) : Int), ((k + i * 5 + 2 : Nat) : Int), ((k + i * 5 + 3 : Nat) : Int), ((k + i * 5 + 4 : Nat) : Int)⟩

theorem marksEdge_length (k n : Nat) : (marksEdge k n).length = n := by simp [marksEdge]
theorem marksEdge_at (k n i : Nat) (h : i < (marksEdge k n).length) : (marksEdge k n)[i] = ⟨((k + i * 5 : Nat) : Int), ((k + i * 5 + 1 : Nat) : Int), ((k + i * 5 + 2 : Nat) : Int), ((k + i * 5 + 3 : Nat) : Int), ((k + i * 5 + 4 : Nat) : Int)⟩ := by simp [marksEdge]

set_option maxRecDepth 100000 in
set_option maxHeartbeats 2000000 in
theorem markEdgeS_any (v : Value) (B n k : Nat) (Q : List EdgeI) (h1 : k + n * 5 ≤ 100000000) (w : World) (ho : w.ownsRow B 64 5 v n (edgesV Q)) :
    Calls Try.prog 46 #[v, .int .i64 (k : Int)] w fun e w' => e = .returned (.int .i64 ((k + n * 5 : Nat) : Int)) ∧ w'.ownsRow B 64 5 v n (edgesV (marksEdge k n)) ∧ Kept (fun g => v.ownBlock = some g) w w' := by
  have hl : Q.length = n := by have := ho.1; rw [edgesV_length] at this; omega
  obtain ⟨A, cap, rfl⟩ : ∃ A cap, v = .slice A n cap := by
    obtain ⟨a, c, e, _⟩ := edgesAt.of_own ho
    exact ⟨a, c, e⟩
  have HO := hide ho
  have HL := hide hl
  clear ho hl
  go_enter Try.func46, Try.ntmps46
  go_wp2_with fail
  go_loopw [1, 5] (fun a1 a5 wr => ∃ j y : Nat, a5 = .int .i64 j ∧ j ≤ n ∧ y = k + j * 5 ∧ a1 = .int .i64 (y : Int) ∧ wr.ownsRow B 64 5 (.slice A n cap) n (edgesV (over (marksEdge k n) Q j)) ∧ Kept (fun g => (Value.slice A n cap).ownBlock = some g) w wr) (fun _ a5 _ => n - (intOf a5).toNat)
  case atStart => exact ⟨0, k, rfl, Nat.zero_le _, rfl, rfl, by rw [over_zero]; exact unhide HO, Kept.refl _ _⟩
  case round =>
    obtain ⟨j, y, rfl, hj, hy, rfl, s0, hkp⟩ := hrel
    have HY := hide hy
    by_cases hlt : j < n
    · obtain ⟨g, cap', hA, hBg, hgl⟩ := s0.form (by omega)
      simp at hA
      obtain ⟨rfl, rfl⟩ := hA
      have hm := marksEdge_at k n j (by rw [marksEdge_length]; exact hlt)
      have hjL : j < Q.length := by have := unhide HL; omega
      have hset := over_set (marksEdge k n) Q j (by rw [marksEdge_length]; exact (unhide HL).symm) hjL
      rw [hm] at hset
      have hol : j < (over (marksEdge k n) Q j).length := by rw [over_length _ _ _ (by rw [marksEdge_length]; exact (unhide HL).symm) (by omega)]; exact hjL
      have hme : (⟨((k + j * 5 : Nat) : Int), ((k + j * 5 + 1 : Nat) : Int), ((k + j * 5 + 2 : Nat) : Int), ((k + j * 5 + 3 : Nat) : Int), ((k + j * 5 + 4 : Nat) : Int)⟩ : EdgeI) = ⟨(y : Int), (y : Int) + 1, (y : Int) + 1 + 1, (y : Int) + 1 + 1 + 1, (y : Int) + 1 + 1 + 1 + 1⟩ := by simp only [EdgeI.mk.injEq]; omega
      rw [hme] at hset
      have hps := edgesV_set (over (marksEdge k n) Q j) j hol ⟨(y : Int), (y : Int) + 1, (y : Int) + 1 + 1, (y : Int) + 1 + 1 + 1, (y : Int) + 1 + 1 + 1 + 1⟩
      rw [hset] at hps
      have hx0 : (0 : Int) ≤ (j : Int) := by omega
      have hx1 : (j : Int) < (n : Int) := by omega
      generalize hZ : over (marksEdge k n) Q j = Z at s0 hol hps
      have hat := edgesV_at Z j hol
      have e0 : (edgesV Z)[j * 5]? = some (.int .i64 Z[j].A) := by exact hat.1
      have e1 : ((edgesV Z).set (j * 5) (.int .i64 ((y : Int))))[j * 5 + 1]? = some (.int .i64 Z[j].B) := by rw [List.getElem?_set_ne (by omega)]; exact hat.2.1
      have e2 : (((edgesV Z).set (j * 5) (.int .i64 ((y : Int)))).set (j * 5 + 1) (.int .i64 ((y : Int) + 1)))[j * 5 + 2]? = some (.int .i64 Z[j].W1) := by rw [List.getElem?_set_ne (by omega), List.getElem?_set_ne (by omega)]; exact hat.2.2.1
      have e3 : ((((edgesV Z).set (j * 5) (.int .i64 ((y : Int)))).set (j * 5 + 1) (.int .i64 ((y : Int) + 1))).set (j * 5 + 2) (.int .i64 ((y : Int) + 1 + 1)))[j * 5 + 3]? = some (.int .i64 Z[j].W2) := by rw [List.getElem?_set_ne (by omega), List.getElem?_set_ne (by omega), List.getElem?_set_ne (by omega)]; exact hat.2.2.2.1
      have e4 : (((((edgesV Z).set (j * 5) (.int .i64 ((y : Int)))).set (j * 5 + 1) (.int .i64 ((y : Int) + 1))).set (j * 5 + 2) (.int .i64 ((y : Int) + 1 + 1))).set (j * 5 + 3) (.int .i64 ((y : Int) + 1 + 1 + 1)))[j * 5 + 4]? = some (.int .i64 Z[j].W3) := by rw [List.getElem?_set_ne (by omega), List.getElem?_set_ne (by omega), List.getElem?_set_ne (by omega), List.getElem?_set_ne (by omega)]; exact hat.2.2.2.2
      have hf0 := s0.frozenAt (j * 5)
      have hce0 := s0.cellAt (j * 5) (by omega)
      rw [e0] at hce0
      have s1 := (s0.stored (j * 5) (.int .i64 ((y : Int)))).1
      have hf1 := s1.frozenAt (j * 5 + 1)
      have hce1 := s1.cellAt (j * 5 + 1) (by omega)
      rw [e1] at hce1
      have s2 := (s1.stored (j * 5 + 1) (.int .i64 ((y : Int) + 1))).1
      have hf2 := s2.frozenAt (j * 5 + 2)
      have hce2 := s2.cellAt (j * 5 + 2) (by omega)
      rw [e2] at hce2
      have s3 := (s2.stored (j * 5 + 2) (.int .i64 ((y : Int) + 1 + 1))).1
      have hf3 := s3.frozenAt (j * 5 + 3)
      have hce3 := s3.cellAt (j * 5 + 3) (by omega)
      rw [e3] at hce3
      have s4 := (s3.stored (j * 5 + 3) (.int .i64 ((y : Int) + 1 + 1 + 1))).1
      have hf4 := s4.frozenAt (j * 5 + 4)
      have hce4 := s4.cellAt (j * 5 + 4) (by omega)
      rw [e4] at hce4
      have s5 := (s4.stored (j * 5 + 4) (.int .i64 ((y : Int) + 1 + 1 + 1 + 1))).1
      rw [hps] at s5
      have HST := hide s5
      have HKP := hide (((((hkp.trans (Kept.set _ g (j * 5) (.int .i64 ((y : Int))) rfl)).trans (Kept.set _ g (j * 5 + 1) (.int .i64 ((y : Int) + 1)) rfl)).trans (Kept.set _ g (j * 5 + 2) (.int .i64 ((y : Int) + 1 + 1)) rfl)).trans (Kept.set _ g (j * 5 + 3) (.int .i64 ((y : Int) + 1 + 1 + 1)) rfl)).trans (Kept.set _ g (j * 5 + 4) (.int .i64 ((y : Int) + 1 + 1 + 1 + 1)) rfl))
      have hyl : (y : Int) ≤ 100000000 - 5 := by omega
      clear hm hme hset hat hps hy hZ HO hkp e0 e1 e2 e3 e4 s0 s1 s2 s3 s4
      generalize Z[j] = q at hce0 hce1 hce2 hce3 hce4
      go_wp2
      go_roundw
      case rel => exact ⟨j + 1, y + 5, by go_num, by omega, by have := unhide HY; omega, by go_num, unhide HST, unhide HKP⟩
      case measure => simp [intOf]; omega
    · obtain rfl : j = n := by omega
      have HW := hide s0
      clear s0 hy
      go_wp2
      go_ret
      refine ⟨by rw [← unhide HY]; rfl, ?_, hkp⟩
      have h := unhide HW
      have e := unhide HL
      have e2 := over_all (marksEdge k Q.length) Q (by rw [marksEdge_length])
      rw [e] at e2
      rw [e2] at h
      exact h

end Gr
end Go.Proofs.Ytfhclbpbjlbebaa

/-
  Rows of Edge: a row that came in, read. Written by program (tools/introws.py).
-/
namespace Go.Proofs.Ytfhclbpbjlbebaa
namespace Gr
open Go.ChangeShapes Go.WideShapes Go.ChangeAt Go.RowKit

theorem cells_Edge : Try.prog.cellsOf 119 = 5 := by kernel_rfl

set_option maxRecDepth 100000 in
theorem edges_cells {H : Type} {enc : TypeId × Value → H} {W : World} {base : Nat} {spare : Nat → Bool} {held : Bool} {n : Nat} {cs : List Value} {x : DataW H × List MemPlace} (hl : cs.length = 5)
    (h : DataW.trod enc Try.prog W base spare held n 119 cs = some x) : ∃ y : EdgeI, cs = [.int .i64 y.A, .int .i64 y.B, .int .i64 y.W1, .int .i64 y.W2, .int .i64 y.W3] := by
  obtain ⟨xs, k, hk, hxy, _, hxl, hf⟩ := DataW.trod_struct Try.underlying119 h
  match cs, hl with
  | [v0, v1, v2, v3, v4], _ =>
    have hl3 : xs.length = 5 := by simpa using hxl
    match xs, hl3 with
    | [y0, y1, y2, y3, y4], _ =>
      have g0 := hf 0 _ rfl
      have g1 := hf 1 _ rfl
      have g2 := hf 2 _ rfl
      have g3 := hf 3 _ rfl
      have g4 := hf 4 _ rfl
      simp [cells_int] at g0 g1 g2 g3 g4
      obtain ⟨z0, e0, _, _⟩ := DataW.trod_int Try.underlying3 g0
      obtain ⟨z1, e1, _, _⟩ := DataW.trod_int Try.underlying3 g1
      obtain ⟨z2, e2, _, _⟩ := DataW.trod_int Try.underlying3 g2
      obtain ⟨z3, e3, _, _⟩ := DataW.trod_int Try.underlying3 g3
      obtain ⟨z4, e4, _, _⟩ := DataW.trod_int Try.underlying3 g4
      simp at e0 e1 e2 e3 e4
      subst e0 e1 e2 e3 e4
      exact ⟨⟨z0, z1, z2, z3, z4⟩, rfl⟩

theorem edges_open {H : Type} {enc : TypeId × Value → H} {W : World} {spare : Nat → Bool} {held : Bool} {fuel : Nat} {v : Value} {x : DataW H × List MemPlace}
    (h : DataW.trod enc Try.prog W 0 spare held fuel 39 [v] = some x) :
    ∃ a n c Q, v = .slice a n c ∧ edgesAt W a n W.heap.size Q ∧ Q.length ≤ 9223372036854775807 := by
  rcases Deep.open_slice Try.underlying39 h with ⟨hcs, _⟩ | ⟨a, len, cap, m, n, D, Pl, hcs, hb, hl, hm, hmm, _, hx⟩
  · simp at hcs
    exact ⟨none, 0, 0, [], hcs, ⟨rfl, fun j hj => by simp at hj⟩, by simp⟩
  · simp at hcs
    have hlm : len ≤ m := by rw [hmm]; split <;> omega
    have hv : ∀ i, i < m → ∃ y : EdgeI, W.cell? (a.add (i * 5)) = some (.int .i64 y.A) ∧ W.cell? (a.add (i * 5 + 1)) = some (.int .i64 y.B) ∧ W.cell? (a.add (i * 5 + 2)) = some (.int .i64 y.W1) ∧ W.cell? (a.add (i * 5 + 3)) = some (.int .i64 y.W2) ∧ W.cell? (a.add (i * 5 + 4)) = some (.int .i64 y.W3) := by
      intro i hi
      obtain ⟨cs', h1, h2⟩ := hx i hi
      rw [cells_Edge] at h1
      obtain ⟨_, hlen, hcell⟩ := World.cells?_some h1
      obtain ⟨y, rfl⟩ := edges_cells hlen h2
      have e0 := hcell 0 (by omega)
      have e1 := hcell 1 (by omega)
      have e2 := hcell 2 (by omega)
      have e3 := hcell 3 (by omega)
      have e4 := hcell 4 (by omega)
      rw [Deep.add_add] at e0 e1 e2 e3 e4
      exact ⟨y, by simpa using e0, by simpa using e1, by simpa using e2, by simpa using e3, by simpa using e4⟩
    let X : Nat → EdgeI := fun i => if hi : i < m then (hv i hi).choose else EdgeI.zero
    have hX : ∀ i, i < m → W.cell? (a.add (i * 5)) = some (.int .i64 (X i).A) ∧ W.cell? (a.add (i * 5 + 1)) = some (.int .i64 (X i).B) ∧ W.cell? (a.add (i * 5 + 2)) = some (.int .i64 (X i).W1) ∧ W.cell? (a.add (i * 5 + 3)) = some (.int .i64 (X i).W2) ∧ W.cell? (a.add (i * 5 + 4)) = some (.int .i64 (X i).W3) := by
      intro i hi
      have hsp2 := (hv i hi).choose_spec
      simp only [X, hi, dif_pos]
      exact hsp2
    refine ⟨some a, len, cap, (List.range len).map X, hcs, ⟨by simp, fun j hj => ?_⟩, by unfold maxLen at hm; simp; omega⟩
    have hj1 : j < len := by simpa using hj
    obtain ⟨b, off, spot⟩ := a
    have hspot : spot = none := by simpa [Addr.add] using World.cell?_spot (hX 0 (by omega)).1
    subst hspot
    obtain ⟨h0, h1, h2, h3, h4⟩ := hX j (by omega)
    rw [Addr.add_lit] at h0 h1 h2 h3 h4
    refine ⟨b, off, rfl, by simpa using World.block_lt_of_cell? W _ h0, ?_, ?_, ?_, ?_, ?_⟩
    · rw [h0]; simp
    · rw [← Nat.add_assoc] at h1
      rw [h1]; simp
    · rw [← Nat.add_assoc] at h2
      rw [h2]; simp
    · rw [← Nat.add_assoc] at h3
      rw [h3]; simp
    · rw [← Nat.add_assoc] at h4
      rw [h4]; simp

set_option maxRecDepth 100000 in
/-- One that came in. -/
theorem edges_one {H : Type} {enc : TypeId × Value → H} {W : World} {r : Reach} {b0 : Nat} {spare : Nat → Bool} {held : Bool} {v : Value} {d : DataW H} {p : List MemPlace}
    (hv : Value.okWide Try.prog W r b0 119 v) (h : DataW.Trod enc Try.prog W 0 spare held 119 v d p) : ∃ x : EdgeI, v = x.v := by
  obtain ⟨cs, rfl, hsz⟩ := okWide_struct Try.underlying119 hv
  obtain ⟨fuel, hf⟩ := h
  have hl : (Value.agg cs).cells.toList.length = 5 := by simpa [Value.cells, cells_Edge] using hsz
  obtain ⟨y, e⟩ := edges_cells hl hf
  refine ⟨y, ?_⟩
  have e2 : cs.toList = [.int .i64 y.A, .int .i64 y.B, .int .i64 y.W1, .int .i64 y.W2, .int .i64 y.W3] := by simpa [Value.cells] using e
  unfold EdgeI.v
  congr 1
  exact Array.toList_inj.1 e2

end Gr
end Go.Proofs.Ytfhclbpbjlbebaa

/-
  Rows of Couple (2 numbers each) in memory, and the contracts of what the laws do with them. Written by program (tools/introws.py).
-/
namespace Go.Proofs.Ytfhclbpbjlbebaa
namespace Gr
open Go.ChangeShapes Go.WideShapes Go.ChangeAt Go.RowKit

structure CoupleI where
  A : Int
  B : Int
deriving DecidableEq

def CoupleI.v (x : CoupleI) : Value := .agg #[.int .i64 x.A, .int .i64 x.B]
def CoupleI.zero : CoupleI := ⟨0, 0⟩

/-- A row that can be read, below block B. -/
def couplesAt (w : World) (a : Option Addr) (len B : Nat) (Q : List CoupleI) : Prop :=
  Q.length = len ∧ ∀ j (h : j < Q.length), ∃ b off, a = some ⟨b, off, none⟩ ∧ b < B ∧ w.cell? ⟨b, off + j * 2, none⟩ = some (.int .i64 Q[j].A) ∧ w.cell? ⟨b, off + j * 2 + 1, none⟩ = some (.int .i64 Q[j].B)

theorem couplesAt.below {w w' : World} {a : Option Addr} {len B C : Nat} {Q : List CoupleI} (h : couplesAt w a len B Q) (hb : Below C w w') (hC : B ≤ C) : couplesAt w' a len B Q := by
  refine ⟨h.1, fun j hj => ?_⟩
  obtain ⟨b, off, e, hbB, c0, c1⟩ := h.2 j hj
  exact ⟨b, off, e, hbB, (by rw [hb.cell (p := ⟨b, off + j * 2, none⟩) (by simp; omega)]; exact c0), (by rw [hb.cell (p := ⟨b, off + j * 2 + 1, none⟩) (by simp; omega)]; exact c1)⟩

theorem couplesAt.mono {w : World} {a : Option Addr} {len B C : Nat} {Q : List CoupleI} (h : couplesAt w a len B Q) (hC : B ≤ C) : couplesAt w a len C Q := by
  refine ⟨h.1, fun j hj => ?_⟩
  obtain ⟨b, off, e, hbB, hc⟩ := h.2 j hj
  exact ⟨b, off, e, by omega, hc⟩

def couplesV (Q : List CoupleI) : List Value := Q.flatMap fun q => [.int .i64 q.A, .int .i64 q.B]

theorem couplesV_length (Q : List CoupleI) : (couplesV Q).length = Q.length * 2 := by
  induction Q with
  | nil => rfl
  | cons q Q ih => simp [couplesV] at ih ⊢; omega

theorem couplesV_at (Q : List CoupleI) (k : Nat) (h : k < Q.length) : (couplesV Q)[k * 2]? = some (.int .i64 Q[k].A) ∧ (couplesV Q)[k * 2 + 1]? = some (.int .i64 Q[k].B) := by
  induction Q generalizing k with
  | nil => simp at h
  | cons q Q ih =>
    cases k with
    | zero => simp [couplesV]
    | succ k =>
      have := ih k (by simpa using h)
      have e : (k + 1) * 2 = k * 2 + 2 := by omega
      simpa [couplesV, e] using this

theorem couplesV_set (Q : List CoupleI) (k : Nat) (h : k < Q.length) (x : CoupleI) : ((couplesV Q).set (k * 2) (.int .i64 x.A)).set (k * 2 + 1) (.int .i64 x.B) = couplesV (Q.set k x) := by
  induction Q generalizing k with
  | nil => simp at h
  | cons q Q ih =>
    cases k with
    | zero => simp [couplesV]
    | succ k =>
      have := ih k (by simpa using h)
      have e : (k + 1) * 2 = k * 2 + 2 := by omega
      simpa [couplesV, e] using this

theorem couplesV_snoc (Q : List CoupleI) (x : CoupleI) : couplesV (Q ++ [x]) = couplesV Q ++ [.int .i64 x.A, .int .i64 x.B] := by
  unfold couplesV; rw [List.flatMap_append]; rfl

theorem couplesAt.of_own {w : World} {B : Nat} {v : Value} {n : Nat} {Q : List CoupleI} (h : w.ownsRow B 86 2 v n (couplesV Q)) : ∃ a c, v = .slice a n c ∧ couplesAt w a n w.heap.size Q := by
  have hl : Q.length = n := by have := h.1; rw [couplesV_length] at this; omega
  rcases h.2 with ⟨rfl, h0⟩ | ⟨g, cap, cur, rfl, hg, hh, _⟩
  · subst h0
    exact ⟨none, 0, rfl, hl, fun j hj => by omega⟩
  · refine ⟨_, _, rfl, hl, fun j hj => ⟨g, 0, rfl, (h.lt g rfl).2, ?_, ?_⟩⟩
    · rw [Nat.zero_add, h.cellAt (j * 2) (by omega)]
      exact (couplesV_at Q j hj).1
    · rw [Nat.zero_add, h.cellAt (j * 2 + 1) (by omega)]
      exact (couplesV_at Q j hj).2

theorem infoCouple : (Try.prog.info? 86).map (fun i => (i.zero, i.size, i.bytes)) = some (some (.agg #[.int .i64 0, .int .i64 0]), 2, 16) := by kernel_rfl

theorem made_couples (n : Nat) (M : Array Value) (hM : M = madeCells (Value.agg #[.int .i64 0, .int .i64 0]).cells (n * 2)) : M.toList = couplesV (List.replicate n CoupleI.zero) ∧ M.size = n * 2 := by
  have hs : M.size = n * 2 := by rw [hM, size_madeCells]
  refine ⟨?_, hs⟩
  apply List.ext_getElem?
  intro j
  by_cases hj : j < n * 2
  · have e : M.toList[j]? = some (.int .i64 0) := by
      rw [hM]
      have h2 : j % 2 = 0 ∨ j % 2 = 1 := by omega
      rcases h2 with h2 | h2 <;> simp [madeCells, Value.cells, hj, h2]
    rw [e]
    have hp := couplesV_at (List.replicate n CoupleI.zero) (j / 2) (by simp; omega)
    have h2 : j % 2 = 0 ∨ j % 2 = 1 := by omega
    rcases h2 with h2 | h2
    · have ej : j / 2 * 2 = j := by omega
      rw [ej] at hp
      rw [hp.1]
      simp [CoupleI.zero]
    · have ej : j / 2 * 2 + 1 = j := by omega
      rw [ej] at hp
      rw [hp.2]
      simp [CoupleI.zero]
  · rw [List.getElem?_eq_none (by simp; omega), List.getElem?_eq_none (by rw [couplesV_length]; simp; omega)]

end Gr
end Go.Proofs.Ytfhclbpbjlbebaa

/-
  Rows of Couple: what is marked is held. Written by program (tools/introws.py).
-/
namespace Go.Proofs.Ytfhclbpbjlbebaa
namespace Gr
open Go.ChangeShapes Go.WideShapes Go.ChangeAt Go.RowKit

/-- The marks of n rows from k on. -/
def marksCouple (k n : Nat) : List CoupleI := (List.range n).map fun i => ⟨((k + i * 2 : Nat) : Int), ((k + i * 2 + 1 : Nat) : Int)⟩

theorem marksCouple_length (k n : Nat) : (marksCouple k n).length = n := by simp [marksCouple]
theorem marksCouple_at (k n i : Nat) (h : i < (marksCouple k n).length) : (marksCouple k n)[i] = ⟨((k + i * 2 : Nat) : Int), ((k + i * 2 + 1 : Nat) : Int)⟩ := by simp [marksCouple]

end Gr
end Go.Proofs.Ytfhclbpbjlbebaa

/-
  Rows of Couple: a row that came in, read. Written by program (tools/introws.py).
-/
namespace Go.Proofs.Ytfhclbpbjlbebaa
namespace Gr
open Go.ChangeShapes Go.WideShapes Go.ChangeAt Go.RowKit

end Gr
end Go.Proofs.Ytfhclbpbjlbebaa

/-
  The kind of Couple, in the form that a law's walk asks for. Written by program (tools/kinds.py).
-/
namespace Go.Proofs.Ytfhclbpbjlbebaa
namespace Gr
open Go.ChangeShapes Go.WideShapes Go.ChangeAt Go.RowKit

def CoAt (w : World) (v : Value) (B : Nat) (K : List CoupleI) : Prop := ∃ a c, v = .slice a K.length c ∧ couplesAt w a K.length B K
def CoOwn (w : World) (B : Nat) (v : Value) (K : List CoupleI) : Prop := w.ownsRow B 86 2 v K.length (couplesV K)
def CoBlk (v : Value) (g : Nat) : Prop := v.ownBlock = some g

theorem CoAt.shape {w : World} {v : Value} {B : Nat} {K : List CoupleI} (h : CoAt w v B K) : ∃ a c, v = .slice a K.length c := by
  obtain ⟨a, c, rfl, _⟩ := h
  exact ⟨a, c, rfl⟩

theorem CoAt.below {w w' : World} {v : Value} {B C : Nat} {K : List CoupleI} (h : CoAt w v B K) (hb : Below C w w') (hC : B ≤ C) : CoAt w' v B K := by
  obtain ⟨a, c, rfl, hQ⟩ := h
  exact ⟨a, c, rfl, hQ.below hb hC⟩

theorem CoAt.mono {w : World} {v : Value} {B C : Nat} {K : List CoupleI} (h : CoAt w v B K) (hC : B ≤ C) : CoAt w v C K := by
  obtain ⟨a, c, rfl, hQ⟩ := h
  exact ⟨a, c, rfl, hQ.mono hC⟩

theorem CoOwn.at {w : World} {B : Nat} {v : Value} {K : List CoupleI} (h : CoOwn w B v K) : CoAt w v w.heap.size K := by
  obtain ⟨a, c, rfl, hQ⟩ := couplesAt.of_own h
  exact ⟨a, c, rfl, hQ⟩

theorem CoOwn.below {w w' : World} {B : Nat} {v : Value} {K : List CoupleI} (h : CoOwn w B v K) (hb : Below w.heap.size w w') : CoOwn w' B v K := own_below h hb

theorem CoOwn.lower {w : World} {B C : Nat} {v : Value} {K : List CoupleI} (h : CoOwn w B v K) (hC : C ≤ B) : CoOwn w C v K := own_lower hC h

theorem CoOwn.blk {w : World} {B : Nat} {v : Value} {K : List CoupleI} (h : CoOwn w B v K) : ∀ g, CoBlk v g → B ≤ g ∧ g < w.heap.size := fun g hg => World.ownsRow.lt h g hg

theorem CoOwn.kept {S : Nat → Prop} {w w' : World} {B : Nat} {v : Value} {K : List CoupleI} (h : CoOwn w B v K) (hk : Kept S w w') (hS : ∀ g, CoBlk v g → ¬ S g) : CoOwn w' B v K := hk.own h hS

end Gr
end Go.Proofs.Ytfhclbpbjlbebaa

/-
  Rows of Sums (3 numbers each) in memory, and the contracts of what the laws do with them. Written by program (tools/introws.py).
-/
namespace Go.Proofs.Ytfhclbpbjlbebaa
namespace Gr
open Go.ChangeShapes Go.WideShapes Go.ChangeAt Go.RowKit

structure SumsI where
  W1 : Int
  W2 : Int
  W3 : Int
deriving DecidableEq

def SumsI.v (x : SumsI) : Value := .agg #[.int .i64 x.W1, .int .i64 x.W2, .int .i64 x.W3]
def SumsI.zero : SumsI := ⟨0, 0, 0⟩

/-- A row that can be read, below block B. -/
def sumsAt (w : World) (a : Option Addr) (len B : Nat) (Q : List SumsI) : Prop :=
  Q.length = len ∧ ∀ j (h : j < Q.length), ∃ b off, a = some ⟨b, off, none⟩ ∧ b < B ∧ w.cell? ⟨b, off + j * 3, none⟩ = some (.int .i64 Q[j].W1) ∧ w.cell? ⟨b, off + j * 3 + 1, none⟩ = some (.int .i64 Q[j].W2) ∧ w.cell? ⟨b, off + j * 3 + 2, none⟩ = some (.int .i64 Q[j].W3)

theorem sumsAt.below {w w' : World} {a : Option Addr} {len B C : Nat} {Q : List SumsI} (h : sumsAt w a len B Q) (hb : Below C w w') (hC : B ≤ C) : sumsAt w' a len B Q := by
  refine ⟨h.1, fun j hj => ?_⟩
  obtain ⟨b, off, e, hbB, c0, c1, c2⟩ := h.2 j hj
  exact ⟨b, off, e, hbB, (by rw [hb.cell (p := ⟨b, off + j * 3, none⟩) (by simp; omega)]; exact c0), (by rw [hb.cell (p := ⟨b, off + j * 3 + 1, none⟩) (by simp; omega)]; exact c1), (by rw [hb.cell (p := ⟨b, off + j * 3 + 2, none⟩) (by simp; omega)]; exact c2)⟩

theorem sumsAt.mono {w : World} {a : Option Addr} {len B C : Nat} {Q : List SumsI} (h : sumsAt w a len B Q) (hC : B ≤ C) : sumsAt w a len C Q := by
  refine ⟨h.1, fun j hj => ?_⟩
  obtain ⟨b, off, e, hbB, hc⟩ := h.2 j hj
  exact ⟨b, off, e, by omega, hc⟩

def sumsV (Q : List SumsI) : List Value := Q.flatMap fun q => [.int .i64 q.W1, .int .i64 q.W2, .int .i64 q.W3]

theorem sumsV_length (Q : List SumsI) : (sumsV Q).length = Q.length * 3 := by
  induction Q with
  | nil => rfl
  | cons q Q ih => simp [sumsV] at ih ⊢; omega

theorem sumsV_at (Q : List SumsI) (k : Nat) (h : k < Q.length) : (sumsV Q)[k * 3]? = some (.int .i64 Q[k].W1) ∧ (sumsV Q)[k * 3 + 1]? = some (.int .i64 Q[k].W2) ∧ (sumsV Q)[k * 3 + 2]? = some (.int .i64 Q[k].W3) := by
  induction Q generalizing k with
  | nil => simp at h
  | cons q Q ih =>
    cases k with
    | zero => simp [sumsV]
    | succ k =>
      have := ih k (by simpa using h)
      have e : (k + 1) * 3 = k * 3 + 3 := by omega
      simpa [sumsV, e] using this

theorem sumsV_set (Q : List SumsI) (k : Nat) (h : k < Q.length) (x : SumsI) : (((sumsV Q).set (k * 3) (.int .i64 x.W1)).set (k * 3 + 1) (.int .i64 x.W2)).set (k * 3 + 2) (.int .i64 x.W3) = sumsV (Q.set k x) := by
  induction Q generalizing k with
  | nil => simp at h
  | cons q Q ih =>
    cases k with
    | zero => simp [sumsV]
    | succ k =>
      have := ih k (by simpa using h)
      have e : (k + 1) * 3 = k * 3 + 3 := by omega
      simpa [sumsV, e] using this

theorem sumsV_snoc (Q : List SumsI) (x : SumsI) : sumsV (Q ++ [x]) = sumsV Q ++ [.int .i64 x.W1, .int .i64 x.W2, .int .i64 x.W3] := by
  unfold sumsV; rw [List.flatMap_append]; rfl

theorem sumsAt.of_own {w : World} {B : Nat} {v : Value} {n : Nat} {Q : List SumsI} (h : w.ownsRow B 66 3 v n (sumsV Q)) : ∃ a c, v = .slice a n c ∧ sumsAt w a n w.heap.size Q := by
  have hl : Q.length = n := by have := h.1; rw [sumsV_length] at this; omega
  rcases h.2 with ⟨rfl, h0⟩ | ⟨g, cap, cur, rfl, hg, hh, _⟩
  · subst h0
    exact ⟨none, 0, rfl, hl, fun j hj => by omega⟩
  · refine ⟨_, _, rfl, hl, fun j hj => ⟨g, 0, rfl, (h.lt g rfl).2, ?_, ?_, ?_⟩⟩
    · rw [Nat.zero_add, h.cellAt (j * 3) (by omega)]
      exact (sumsV_at Q j hj).1
    · rw [Nat.zero_add, h.cellAt (j * 3 + 1) (by omega)]
      exact (sumsV_at Q j hj).2.1
    · rw [Nat.zero_add, h.cellAt (j * 3 + 2) (by omega)]
      exact (sumsV_at Q j hj).2.2

theorem infoSums : (Try.prog.info? 66).map (fun i => (i.zero, i.size, i.bytes)) = some (some (.agg #[.int .i64 0, .int .i64 0, .int .i64 0]), 3, 24) := by kernel_rfl

theorem made_sums (n : Nat) (M : Array Value) (hM : M = madeCells (Value.agg #[.int .i64 0, .int .i64 0, .int .i64 0]).cells (n * 3)) : M.toList = sumsV (List.replicate n SumsI.zero) ∧ M.size = n * 3 := by
  have hs : M.size = n * 3 := by rw [hM, size_madeCells]
  refine ⟨?_, hs⟩
  apply List.ext_getElem?
  intro j
  by_cases hj : j < n * 3
  · have e : M.toList[j]? = some (.int .i64 0) := by
      rw [hM]
      have h2 : j % 3 = 0 ∨ j % 3 = 1 ∨ j % 3 = 2 := by omega
      rcases h2 with h2 | h2 | h2 <;> simp [madeCells, Value.cells, hj, h2]
    rw [e]
    have hp := sumsV_at (List.replicate n SumsI.zero) (j / 3) (by simp; omega)
    have h2 : j % 3 = 0 ∨ j % 3 = 1 ∨ j % 3 = 2 := by omega
    rcases h2 with h2 | h2 | h2
    · have ej : j / 3 * 3 = j := by omega
      rw [ej] at hp
      rw [hp.1]
      simp [SumsI.zero]
    · have ej : j / 3 * 3 + 1 = j := by omega
      rw [ej] at hp
      rw [hp.2.1]
      simp [SumsI.zero]
    · have ej : j / 3 * 3 + 2 = j := by omega
      rw [ej] at hp
      rw [hp.2.2]
      simp [SumsI.zero]
  · rw [List.getElem?_eq_none (by simp; omega), List.getElem?_eq_none (by rw [sumsV_length]; simp; omega)]

end Gr
end Go.Proofs.Ytfhclbpbjlbebaa

/-
  Rows of Sums: what is marked is held. Written by program (tools/introws.py).
-/
namespace Go.Proofs.Ytfhclbpbjlbebaa
namespace Gr
open Go.ChangeShapes Go.WideShapes Go.ChangeAt Go.RowKit

/-- The marks of n rows from k on. -/
def marksSums (k n : Nat) : List SumsI := (List.range n).map fun i => ⟨((k + i * 3 : Nat) : Int), ((k + i * 3 + 1 : Nat) : Int), ((k + i * 3 + 2 : Nat) : Int)⟩

theorem marksSums_length (k n : Nat) : (marksSums k n).length = n := by simp [marksSums]
theorem marksSums_at (k n i : Nat) (h : i < (marksSums k n).length) : (marksSums k n)[i] = ⟨((k + i * 3 : Nat) : Int), ((k + i * 3 + 1 : Nat) : Int), ((k + i * 3 + 2 : Nat) : Int)⟩ := by simp [marksSums]

end Gr
end Go.Proofs.Ytfhclbpbjlbebaa

/-
  Rows of Sums: a row that came in, read. Written by program (tools/introws.py).
-/
namespace Go.Proofs.Ytfhclbpbjlbebaa
namespace Gr
open Go.ChangeShapes Go.WideShapes Go.ChangeAt Go.RowKit

end Gr
end Go.Proofs.Ytfhclbpbjlbebaa

/-
  The kind of Sums, in the form that a law's walk asks for. Written by program (tools/kinds.py).
-/
namespace Go.Proofs.Ytfhclbpbjlbebaa
namespace Gr
open Go.ChangeShapes Go.WideShapes Go.ChangeAt Go.RowKit

def SuAt (_w : World) (v : Value) (_B : Nat) (x : SumsI) : Prop := v = x.v
def SuOwn (_w : World) (_B : Nat) (v : Value) (x : SumsI) : Prop := v = x.v

theorem SuAt.shape {w : World} {v : Value} {B : Nat} {x : SumsI} (h : SuAt w v B x) : v = x.v := h
theorem SuAt.below {w w' : World} {v : Value} {B C : Nat} {x : SumsI} (h : SuAt w v B x) (_hb : Below C w w') (_hC : B ≤ C) : SuAt w' v B x := h
theorem SuAt.mono {w : World} {v : Value} {B C : Nat} {x : SumsI} (h : SuAt w v B x) (_hC : B ≤ C) : SuAt w v C x := h
theorem SuOwn.at {w : World} {B : Nat} {v : Value} {x : SumsI} (h : SuOwn w B v x) : SuAt w v w.heap.size x := h
theorem SuOwn.below {w w' : World} {B : Nat} {v : Value} {x : SumsI} (h : SuOwn w B v x) (_hb : Below w.heap.size w w') : SuOwn w' B v x := h

end Gr
end Go.Proofs.Ytfhclbpbjlbebaa

/-
  The contract of spec.Better.
-/
namespace Go.Proofs.Ytfhclbpbjlbebaa
namespace Gr
open Go.RowKit

def better (a b : SumsI) : Bool := if a.W1 ≠ b.W1 then decide (b.W1 < a.W1) else if a.W2 ≠ b.W2 then decide (b.W2 < a.W2) else decide (b.W3 < a.W3)

set_option maxRecDepth 100000 in
theorem specBetter_any (a b : SumsI) (w : World) :
    Calls Try.prog 61 #[a.v, b.v] w fun e w' => e = .returned (.bool (better a b)) ∧ Below w.heap.size w w' := by
  unfold better SumsI.v
  obtain ⟨a1, a2, a3⟩ := a
  obtain ⟨b1, b2, b3⟩ := b
  simp only
  have hbel : Below w.heap.size w ((w.alloc (Obj.cells #[Value.int .i64 a1, Value.int .i64 a2, Value.int .i64 a3] 66)).alloc (Obj.cells #[Value.int .i64 b1, Value.int .i64 b2, Value.int .i64 b3] 66)) := ((Below.refl _ _).alloc (Nat.le_refl _) _).alloc (by simp) _
  have HB := hide hbel
  clear hbel
  by_cases h1 : a1 = b1
  · subst h1
    by_cases h2 : a2 = b2
    · subst h2
      rw [if_neg (by simp), if_neg (by simp)]
      have e1 : (a1 != a1) = false := by simp
      have e2 : (a2 != a2) = false := by simp
      go_enter Try.func61, Try.ntmps61
      go_wp2
      go_ret
      exact ⟨rfl, unhide HB⟩
    · rw [if_neg (by simp), if_pos h2]
      have e1 : (a1 != a1) = false := by simp
      have e2 : (a2 != b2) = true := by simpa using h2
      go_enter Try.func61, Try.ntmps61
      go_wp2
      go_ret
      exact ⟨rfl, unhide HB⟩
  · rw [if_pos h1]
    have e1 : (a1 != b1) = true := by simpa using h1
    go_enter Try.func61, Try.ntmps61
    go_wp2
    go_ret
    exact ⟨rfl, unhide HB⟩

theorem specBetter_gen (B : Nat) (v : Value) (x : SumsI) (u : Value) (y : SumsI) (w : World) (_hB : B ≤ w.heap.size) (hv : SuAt w v B x) (hu : SuAt w u B y) :
    Calls Try.prog 61 #[v, u] w fun e w' => e = .returned (.bool (better x y)) ∧ Below w.heap.size w w' := by
  unfold SuAt at hv hu
  subst hv hu
  exact specBetter_any x y w

end Gr
end Go.Proofs.Ytfhclbpbjlbebaa
