/-
  Rows of Edge (5 numbers each) in memory, and the contracts of what the laws do with them. Written by program (tools/introws.py).
-/
import Derived.Test.YtejfknkcakeakaaGrBase
import Derived.Deep.RegionHeld3
import Derived.Lib.SmallJoins
import Derived.Deep.Slices
namespace Go.Proofs.Ytejfknkcakeakaa
namespace Gr
open Go.ChangeShapes Go.WideShapes Go.ChangeAt Go.RowKit

structure EdgeI where
  A : Int
  B : Int
  W1 : Int
  W2 : Int
  W3 : Int
deriving DecidableEq

def EdgeI.v (x : EdgeI) : Value := .agg #[.int .i64 x.A, .int .i64 x.B, .int .i64 x.W1, .int .i64 x.W2, .int .i64 x.W3]
def EdgeI.zero : EdgeI := ⟨0, 0, 0, 0, 0⟩

/-- A row that can be read, below block B. -/
def edgesAt (w : World) (a : Option Addr) (len B : Nat) (Q : List EdgeI) : Prop :=
  Q.length = len ∧ ∀ j (h : j < Q.length), ∃ b off, a = some ⟨b, off, none⟩ ∧ b < B ∧ w.cell? ⟨b, off + j * 5, none⟩ = some (.int .i64 Q[j].A) ∧ w.cell? ⟨b, off + j * 5 + 1, none⟩ = some (.int .i64 Q[j].B) ∧ w.cell? ⟨b, off + j * 5 + 2, none⟩ = some (.int .i64 Q[j].W1) ∧ w.cell? ⟨b, off + j * 5 + 3, none⟩ = some (.int .i64 Q[j].W2) ∧ w.cell? ⟨b, off + j * 5 + 4, none⟩ = some (.int .i64 Q[j].W3)

theorem edgesAt.below {w w' : World} {a : Option Addr} {len B C : Nat} {Q : List EdgeI} (h : edgesAt w a len B Q) (hb : Below C w w') (hC : B ≤ C) : edgesAt w' a len B Q := by
  refine ⟨h.1, fun j hj => ?_⟩
  obtain ⟨b, off, e, hbB, c0, c1, c2, c3, c4⟩ := h.2 j hj
  exact ⟨b, off, e, hbB, (by rw [hb.cell (p := ⟨b, off + j * 5, none⟩) (by simp; omega)]; exact c0), (by rw [hb.cell (p := ⟨b, off + j * 5 + 1, none⟩) (by simp; omega)]; exact c1), (by rw [hb.cell (p := ⟨b, off + j * 5 + 2, none⟩) (by simp; omega)]; exact c2), (by rw [hb.cell (p := ⟨b, off + j * 5 + 3, none⟩) (by simp; omega)]; exact c3), (by rw [hb.cell (p := ⟨b, off + j * 5 + 4, none⟩) (by simp; omega)]; exact c4)⟩

theorem edgesAt.mono {w : World} {a : Option Addr} {len B C : Nat} {Q : List EdgeI} (h : edgesAt w a len B Q) (hC : B ≤ C) : edgesAt w a len C Q := by
  refine ⟨h.1, fun j hj => ?_⟩
  obtain ⟨b, off, e, hbB, hc⟩ := h.2 j hj
  exact ⟨b, off, e, by omega, hc⟩

def edgesV (Q : List EdgeI) : List Value := Q.flatMap fun q => [.int .i64 q.A, .int .i64 q.B, .int .i64 q.W1, .int .i64 q.W2, .int .i64 q.W3]

theorem edgesV_length (Q : List EdgeI) : (edgesV Q).length = Q.length * 5 := by
  induction Q with
  | nil => rfl
  | cons q Q ih => simp [edgesV] at ih ⊢; omega

theorem edgesV_at (Q : List EdgeI) (k : Nat) (h : k < Q.length) : (edgesV Q)[k * 5]? = some (.int .i64 Q[k].A) ∧ (edgesV Q)[k * 5 + 1]? = some (.int .i64 Q[k].B) ∧ (edgesV Q)[k * 5 + 2]? = some (.int .i64 Q[k].W1) ∧ (edgesV Q)[k * 5 + 3]? = some (.int .i64 Q[k].W2) ∧ (edgesV Q)[k * 5 + 4]? = some (.int .i64 Q[k].W3) := by
  induction Q generalizing k with
  | nil => simp at h
  | cons q Q ih =>
    cases k with
    | zero => simp [edgesV]
    | succ k =>
      have := ih k (by simpa using h)
      have e : (k + 1) * 5 = k * 5 + 5 := by omega
      simpa [edgesV, e] using this

theorem edgesV_set (Q : List EdgeI) (k : Nat) (h : k < Q.length) (x : EdgeI) : (((((edgesV Q).set (k * 5) (.int .i64 x.A)).set (k * 5 + 1) (.int .i64 x.B)).set (k * 5 + 2) (.int .i64 x.W1)).set (k * 5 + 3) (.int .i64 x.W2)).set (k * 5 + 4) (.int .i64 x.W3) = edgesV (Q.set k x) := by
  induction Q generalizing k with
  | nil => simp at h
  | cons q Q ih =>
    cases k with
    | zero => simp [edgesV]
    | succ k =>
      have := ih k (by simpa using h)
      have e : (k + 1) * 5 = k * 5 + 5 := by omega
      simpa [edgesV, e] using this

theorem edgesV_snoc (Q : List EdgeI) (x : EdgeI) : edgesV (Q ++ [x]) = edgesV Q ++ [.int .i64 x.A, .int .i64 x.B, .int .i64 x.W1, .int .i64 x.W2, .int .i64 x.W3] := by
  unfold edgesV; rw [List.flatMap_append]; rfl

theorem edgesAt.of_own {w : World} {B : Nat} {v : Value} {n : Nat} {Q : List EdgeI} (h : w.ownsRow B 76 5 v n (edgesV Q)) : ∃ a c, v = .slice a n c ∧ edgesAt w a n w.heap.size Q := by
  have hl : Q.length = n := by have := h.1; rw [edgesV_length] at this; omega
  rcases h.2 with ⟨rfl, h0⟩ | ⟨g, cap, cur, rfl, hg, hh, _⟩
  · subst h0
    exact ⟨none, 0, rfl, hl, fun j hj => by omega⟩
  · refine ⟨_, _, rfl, hl, fun j hj => ⟨g, 0, rfl, (h.lt g rfl).2, ?_, ?_, ?_, ?_, ?_⟩⟩
    · rw [Nat.zero_add, h.cellAt (j * 5) (by omega)]
      exact (edgesV_at Q j hj).1
    · rw [Nat.zero_add, h.cellAt (j * 5 + 1) (by omega)]
      exact (edgesV_at Q j hj).2.1
    · rw [Nat.zero_add, h.cellAt (j * 5 + 2) (by omega)]
      exact (edgesV_at Q j hj).2.2.1
    · rw [Nat.zero_add, h.cellAt (j * 5 + 3) (by omega)]
      exact (edgesV_at Q j hj).2.2.2.1
    · rw [Nat.zero_add, h.cellAt (j * 5 + 4) (by omega)]
      exact (edgesV_at Q j hj).2.2.2.2

theorem infoEdge : (Try.prog.info? 76).map (fun i => (i.zero, i.size, i.bytes)) = some (some (.agg #[.int .i64 0, .int .i64 0, .int .i64 0, .int .i64 0, .int .i64 0]), 5, 40) := by kernel_rfl

theorem made_edges (n : Nat) (M : Array Value) (hM : M = madeCells (Value.agg #[.int .i64 0, .int .i64 0, .int .i64 0, .int .i64 0, .int .i64 0]).cells (n * 5)) : M.toList = edgesV (List.replicate n EdgeI.zero) ∧ M.size = n * 5 := by
  have hs : M.size = n * 5 := by rw [hM, size_madeCells]
  refine ⟨?_, hs⟩
  apply List.ext_getElem?
  intro j
  by_cases hj : j < n * 5
  · have e : M.toList[j]? = some (.int .i64 0) := by
      rw [hM]
      have h2 : j % 5 = 0 ∨ j % 5 = 1 ∨ j % 5 = 2 ∨ j % 5 = 3 ∨ j % 5 = 4 := by omega
      rcases h2 with h2 | h2 | h2 | h2 | h2 <;> simp [madeCells, Value.cells, hj, h2]
    rw [e]
    have hp := edgesV_at (List.replicate n EdgeI.zero) (j / 5) (by simp; omega)
    have h2 : j % 5 = 0 ∨ j % 5 = 1 ∨ j % 5 = 2 ∨ j % 5 = 3 ∨ j % 5 = 4 := by omega
    rcases h2 with h2 | h2 | h2 | h2 | h2
    · have ej : j / 5 * 5 = j := by omega
      rw [ej] at hp
      rw [hp.1]
      simp [EdgeI.zero]
    · have ej : j / 5 * 5 + 1 = j := by omega
      rw [ej] at hp
      rw [hp.2.1]
      simp [EdgeI.zero]
    · have ej : j / 5 * 5 + 2 = j := by omega
      rw [ej] at hp
      rw [hp.2.2.1]
      simp [EdgeI.zero]
    · have ej : j / 5 * 5 + 3 = j := by omega
      rw [ej] at hp
      rw [hp.2.2.2.1]
      simp [EdgeI.zero]
    · have ej : j / 5 * 5 + 4 = j := by omega
      rw [ej] at hp
      rw [hp.2.2.2.2]
      simp [EdgeI.zero]
  · rw [List.getElem?_eq_none (by simp; omega), List.getElem?_eq_none (by rw [edgesV_length]; simp; omega)]

theorem toEdge_any (x : EdgeI) (w : World) :
    Calls Try.prog 71 #[x.v] w fun e w' => e = .returned x.v ∧ Below w.heap.size w w' := by
  unfold EdgeI.v
  go_enter Try.func71, Try.ntmps71
  go_wp2
  go_returns
  exact ⟨rfl, (((Below.refl _ _).alloc (Nat.le_refl _) _).alloc (by simp) _).alloc (by simp; omega) _⟩

set_option maxRecDepth 100000 in
set_option maxHeartbeats 1000000 in
theorem toEdgeS_any (a : Option Addr) (len cap B : Nat) (Q : List EdgeI) (hlen : len ≤ 1048576) (w : World) (hB : B ≤ w.heap.size) (hs : edgesAt w a len B Q) :
    Calls Try.prog 43 #[.slice a len cap] w fun e w' => (∃ v, e = .returned v ∧ w'.ownsRow w.heap.size 76 5 v len (edgesV Q)) ∧ Below w.heap.size w w' := by
  obtain ⟨hL, hc⟩ := hs
  obtain ⟨i0, hi, hz0, hz1, hz2⟩ := info_parts infoEdge
  obtain ⟨M, hM⟩ : ∃ M, M = madeCells (Value.agg #[.int .i64 0, .int .i64 0, .int .i64 0, .int .i64 0, .int .i64 0]).cells (len * i0.size) := ⟨_, rfl⟩
  have hmk : ∀ W : World, (Instr.makeSlice 28 (.int .i64 (len : Int)) (.int .i64 (len : Int))).run Try.prog W = .ok (.slice (some ⟨W.heap.size, 0, none⟩) len len) (W.alloc (.cells M 76)) := fun W => by
    have h := run_make (P := Try.prog) W 28 76 i0 (.agg #[.int .i64 0, .int .i64 0, .int .i64 0, .int .i64 0, .int .i64 0]) Try.underlying28 hi hz0 .i64 .i64 (len : Int) (len : Int) (by omega) (by omega) (by rw [hz2]; omega) (by omega)
    rw [Int.toNat_natCast, ← hM] at h
    simpa using h
  have hMM := made_edges len M (by rw [hM, hz1])
  have hown0 : (w.alloc (.cells M 76)).ownsRow w.heap.size 76 5 (.slice (some ⟨w.heap.size, 0, none⟩) len len) len (edgesV (part Q EdgeI.zero 0)) :=
    ⟨by rw [edgesV_length, part_length _ _ _ (by omega)]; omega, .inr ⟨w.heap.size, len, M, rfl, Nat.le_refl _, heap_alloc_new w _, Nat.le_refl _, by unfold maxLen; omega, hMM.2, by rw [hMM.1, part_zero, hL, List.take_of_length_le (by rw [edgesV_length]; simp)]⟩⟩
  have HO0 := hide hown0
  have HC := hide hc
  have HL := hide hL
  clear hc hL hM hMM hown0
  go_enter Try.func43, Try.ntmps43
  go_wp2_with fail
  go_loopw [4] (fun a4 wr => ∃ k : Nat, a4 = .int .i64 k ∧ k ≤ len ∧ wr.ownsRow w.heap.size 76 5 (.slice (some ⟨w.heap.size, 0, none⟩) len len) len (edgesV (part Q EdgeI.zero k)) ∧ Below w.heap.size w wr) (fun a4 _ => len - (intOf a4).toNat)
  case atStart => exact ⟨0, rfl, Nat.zero_le _, unhide HO0, (Below.refl _ _).alloc (Nat.le_refl _) _⟩
  case round =>
    obtain ⟨k, rfl, hk, hown, hb⟩ := hrel
    by_cases hlt : k < len
    · have hkL : k < Q.length := by have := unhide HL; omega
      obtain ⟨b, off, rfl, hbB, c0, c1, c2, c3, c4⟩ := unhide HC k hkL
      rw [← hb.cell (p := ⟨b, off + k * 5, none⟩) (by simp; omega)] at c0
      rw [← hb.cell (p := ⟨b, off + k * 5 + 1, none⟩) (by simp; omega)] at c1
      rw [← hb.cell (p := ⟨b, off + k * 5 + 2, none⟩) (by simp; omega)] at c2
      rw [← hb.cell (p := ⟨b, off + k * 5 + 3, none⟩) (by simp; omega)] at c3
      rw [← hb.cell (p := ⟨b, off + k * 5 + 4, none⟩) (by simp; omega)] at c4
      have hx0 : (0 : Int) ≤ (k : Int) := by omega
      have hx1 : (k : Int) < (len : Int) := by omega
      have HO := hide hown
      clear hown
      have HP := hide (part_set Q EdgeI.zero k hkL)
      generalize Q[k] = q at c0 c1 c2 c3 c4 HP
      have HTI := hide (fun w => toEdge_any q w)
      have HIS := hide (fun (h : k < (part Q EdgeI.zero k).length) => edgesV_set (part Q EdgeI.zero k) k h q)
      obtain ⟨x0, x1, x2, x3, x4⟩ := q
      simp only [EdgeI.v] at c0 c1 c2 c3 c4 HTI HIS
      go_wp2_with fail
      refine (unhide HTI _).mono ?_
      rintro e w1 ⟨rfl, hb1⟩
      have hown := own_below (unhide HO) hb1
      have hkp : k < (part Q EdgeI.zero k).length := by rw [part_length _ _ _ (by omega)]; omega
      have hat := edgesV_at _ k hkp
      have hce0 := hown.cellAt (k * 5) (by omega)
      rw [hat.1] at hce0
      have hf0 := hown.frozenAt (k * 5)
      have hce1 := hown.cellAt (k * 5 + 1) (by omega)
      rw [hat.2.1] at hce1
      have hf1 := hown.frozenAt (k * 5 + 1)
      have hce2 := hown.cellAt (k * 5 + 2) (by omega)
      rw [hat.2.2.1] at hce2
      have hf2 := hown.frozenAt (k * 5 + 2)
      have hce3 := hown.cellAt (k * 5 + 3) (by omega)
      rw [hat.2.2.2.1] at hce3
      have hf3 := hown.frozenAt (k * 5 + 3)
      have hce4 := hown.cellAt (k * 5 + 4) (by omega)
      rw [hat.2.2.2.2] at hce4
      have hf4 := hown.frozenAt (k * 5 + 4)
      have hst := (((((hown.stored (k * 5) (.int .i64 x0)).1.stored (k * 5 + 1) (.int .i64 x1)).1.stored (k * 5 + 2) (.int .i64 x2)).1.stored (k * 5 + 3) (.int .i64 x3)).1.stored (k * 5 + 4) (.int .i64 x4)).1
      rw [unhide HIS hkp, unhide HP] at hst
      have HST := hide hst
      have hbb := hb.trans (hb1.mono hb.size)
      clear hst hown hat hb hb1 c0 c1 c2 c3 c4
      go_wp2
      go_roundw
      case rel => exact ⟨k + 1, by go_num, by omega, unhide HST, ((((hbb.setCell (p := ⟨w.heap.size, k * 5, none⟩) (Nat.le_refl _) _).setCell (p := ⟨w.heap.size, k * 5 + 1, none⟩) (Nat.le_refl _) _).setCell (p := ⟨w.heap.size, k * 5 + 2, none⟩) (Nat.le_refl _) _).setCell (p := ⟨w.heap.size, k * 5 + 3, none⟩) (Nat.le_refl _) _).setCell (p := ⟨w.heap.size, k * 5 + 4, none⟩) (Nat.le_refl _) _⟩
      case measure => simp [intOf]; omega
    · obtain rfl : k = len := by omega
      have HO := hide hown
      clear hown
      go_wp2
      go_ret
      refine ⟨⟨_, rfl, ?_⟩, hb⟩
      have h := unhide HO
      have e := unhide HL
      subst e
      rw [part_all] at h
      exact h

set_option maxRecDepth 100000 in
theorem eqEdge_same (x : EdgeI) (w : World) :
    Calls Try.prog 74 #[x.v, x.v] w fun e w' => e = .returned (.bool true) ∧ Below w.heap.size w w' := by
  unfold EdgeI.v
  go_enter Try.func74, Try.ntmps74
  go_wp2
  go_ret
  exact ⟨rfl, ((Below.refl _ _).alloc (Nat.le_refl _) _).alloc (by simp) _⟩

set_option maxRecDepth 100000 in
set_option maxHeartbeats 2000000 in
theorem eqEdgeS_same (a a' : Option Addr) (len c c' B B' : Nat) (Q : List EdgeI) (hlen : len ≤ 1048576) (w : World) (hB : B ≤ w.heap.size) (hB' : B' ≤ w.heap.size) (hs : edgesAt w a len B Q) (hs' : edgesAt w a' len B' Q) :
    Calls Try.prog 48 #[.slice a len c, .slice a' len c'] w fun e w' => e = .returned (.bool true) ∧ Below w.heap.size w w' := by
  obtain ⟨hL, hc⟩ := hs
  obtain ⟨_, hc'⟩ := hs'
  have HC := hide hc
  have HC' := hide hc'
  have HL := hide hL
  clear hc hc' hL
  go_enter Try.func48, Try.ntmps48
  go_wp2_with fail
  go_loopw [5] (fun i wr => ∃ k : Nat, i = .int .i64 k ∧ k ≤ len ∧ Below w.heap.size w wr) (fun i _ => len - (intOf i).toNat)
  case atStart => exact ⟨0, rfl, Nat.zero_le _, Below.refl _ _⟩
  case round =>
    obtain ⟨k, rfl, hk, hb⟩ := hrel
    by_cases hlt : k < len
    · have hkL : k < Q.length := by have := unhide HL; omega
      obtain ⟨b, off, rfl, hbB, c0, c1, c2, c3, c4⟩ := unhide HC k hkL
      obtain ⟨b', off', rfl, hbB', d0, d1, d2, d3, d4⟩ := unhide HC' k hkL
      rw [← hb.cell (p := ⟨b, off + k * 5, none⟩) (by simp; omega)] at c0
      rw [← hb.cell (p := ⟨b', off' + k * 5, none⟩) (by simp; omega)] at d0
      rw [← hb.cell (p := ⟨b, off + k * 5 + 1, none⟩) (by simp; omega)] at c1
      rw [← hb.cell (p := ⟨b', off' + k * 5 + 1, none⟩) (by simp; omega)] at d1
      rw [← hb.cell (p := ⟨b, off + k * 5 + 2, none⟩) (by simp; omega)] at c2
      rw [← hb.cell (p := ⟨b', off' + k * 5 + 2, none⟩) (by simp; omega)] at d2
      rw [← hb.cell (p := ⟨b, off + k * 5 + 3, none⟩) (by simp; omega)] at c3
      rw [← hb.cell (p := ⟨b', off' + k * 5 + 3, none⟩) (by simp; omega)] at d3
      rw [← hb.cell (p := ⟨b, off + k * 5 + 4, none⟩) (by simp; omega)] at c4
      rw [← hb.cell (p := ⟨b', off' + k * 5 + 4, none⟩) (by simp; omega)] at d4
      have hx0 : (0 : Int) ≤ (k : Int) := by omega
      have hx1 : (k : Int) < (len : Int) := by omega
      generalize Q[k] = q at c0 d0 c1 d1 c2 d2 c3 d3 c4 d4
      have HP := hide (fun w => eqEdge_same q w)
      obtain ⟨x0, x1, x2, x3, x4⟩ := q
      simp only [EdgeI.v] at c0 d0 c1 d1 c2 d2 c3 d3 c4 d4 HP
      have hl := hb.size
      have hkl : b < wr.heap.size := by omega
      have hkl' : b' < wr.heap.size := by omega
      go_wp2_with fail
      go_region_held3 (fun u => u.cell? ⟨b, off + k * 5, none⟩ = some (.int .i64 x0) ∧ u.cell? ⟨b, off + k * 5 + 1, none⟩ = some (.int .i64 x1) ∧ u.cell? ⟨b, off + k * 5 + 2, none⟩ = some (.int .i64 x2) ∧ u.cell? ⟨b, off + k * 5 + 3, none⟩ = some (.int .i64 x3) ∧ u.cell? ⟨b, off + k * 5 + 4, none⟩ = some (.int .i64 x4) ∧ u.cell? ⟨b', off' + k * 5, none⟩ = some (.int .i64 x0) ∧ u.cell? ⟨b', off' + k * 5 + 1, none⟩ = some (.int .i64 x1) ∧ u.cell? ⟨b', off' + k * 5 + 2, none⟩ = some (.int .i64 x2) ∧ u.cell? ⟨b', off' + k * 5 + 3, none⟩ = some (.int .i64 x3) ∧ u.cell? ⟨b', off' + k * 5 + 4, none⟩ = some (.int .i64 x4))
        (first | go_keep | exact ⟨(hb2.cell (p := ⟨b, off + k * 5, none⟩) hkl).trans c0, (hb2.cell (p := ⟨b, off + k * 5 + 1, none⟩) hkl).trans c1, (hb2.cell (p := ⟨b, off + k * 5 + 2, none⟩) hkl).trans c2, (hb2.cell (p := ⟨b, off + k * 5 + 3, none⟩) hkl).trans c3, (hb2.cell (p := ⟨b, off + k * 5 + 4, none⟩) hkl).trans c4, (hb2.cell (p := ⟨b', off' + k * 5, none⟩) hkl').trans d0, (hb2.cell (p := ⟨b', off' + k * 5 + 1, none⟩) hkl').trans d1, (hb2.cell (p := ⟨b', off' + k * 5 + 2, none⟩) hkl').trans d2, (hb2.cell (p := ⟨b', off' + k * 5 + 3, none⟩) hkl').trans d3, (hb2.cell (p := ⟨b', off' + k * 5 + 4, none⟩) hkl').trans d4⟩)
        ((go_at_call 74; refine (unhide HP _).mono ?_; rintro e w2 ⟨rfl, hb2⟩))
      have hbe := hb.drew.trans (hb2.mono hb.size)
      clear hb2
      go_wp2
      go_roundw
      case rel => exact ⟨k + 1, by go_num, by omega, hbe⟩
      case measure => simp [intOf]; omega
    · go_wp2
      go_ret
      exact ⟨rfl, hb⟩

set_option maxRecDepth 100000 in
theorem szEdgeS_any (a : Option Addr) (len cap : Nat) (left : Int) (h0 : 0 ≤ left) (h1 : left ≤ 1048576) (hlen : len ≤ 9223372036854775807) (w : World) :
    Calls Try.prog 39 #[.slice a len cap, .int .i64 left] w fun e w' => e = .returned (.int .i64 (if left - (len : Int) < 0 then -1 else left - (len : Int))) ∧ w' = w := by
  by_cases h : left - (len : Int) < 0
  · rw [if_pos h]
    go_enter Try.func39, Try.ntmps39
    go_wp2
    go_ret
    exact ⟨rfl, rfl⟩
  · rw [if_neg h]
    go_enter Try.func39, Try.ntmps39
    go_wp2
    go_ret
    exact ⟨rfl, rfl⟩

end Gr
end Go.Proofs.Ytejfknkcakeakaa
