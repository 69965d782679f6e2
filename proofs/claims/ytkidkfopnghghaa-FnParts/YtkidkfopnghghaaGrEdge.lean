/-
  Rows of Edge (5 numbers each) in memory, and the contracts of what the laws do with them. Written by program (tools/introws.py).
-/
import Derived.Test.YtkidkfopnghghaaGrBase
import Derived.Deep.RegionHeld3
import Derived.Lib.SmallJoins
import Derived.Deep.Slices
namespace Go.Proofs.Ytkidkfopnghghaa
namespace Gr
open Go.ChangeShapes Go.WideShapes Go.ChangeAt Go.RowKit

structure EdgeI where
  A : Int
  B : Int
  W1 : Int
  W2 : Int
  W3 : Int
deriving DecidableEq

def EdgeI.v (x : EdgeI) : Value := .agg #[.int .i64 x.A, .int .i64 x.B, .int .i64 x.W1, .int .i64 x.W2, .int .i64 x.W3]
def EdgeI.zero : EdgeI := ⟨0, 0, 0, 0, 0⟩

/-- A row that can be read, below block B. -/
def edgesAt (w : World) (a : Option Addr) (len B : Nat) (Q : List EdgeI) : Prop :=
  Q.length = len ∧ ∀ j (h : j < Q.length), ∃ b off, a = some ⟨b, off, none⟩ ∧ b < B ∧ w.cell? ⟨b, off + j * 5, none⟩ = some (.int .i64 Q[j].A) ∧ w.cell? ⟨b, off + j * 5 + 1, none⟩ = some (.int .i64 Q[j].B) ∧ w.cell? ⟨b, off + j * 5 + 2, none⟩ = some (.int .i64 Q[j].W1) ∧ w.cell? ⟨b, off + j * 5 + 3, none⟩ = some (.int .i64 Q[j].W2) ∧ w.cell? ⟨b, off + j * 5 + 4, none⟩ = some (.int .i64 Q[j].W3)

theorem edgesAt.below {w w' : World} {a : Option Addr} {len B C : Nat} {Q : List EdgeI} (h : edgesAt w a len B Q) (hb : Below C w w') (hC : B ≤ C) : edgesAt w' a len B Q := by
  refine ⟨h.1, fun j hj => ?_⟩
  obtain ⟨b, off, e, hbB, c0, c1, c2, c3, c4⟩ := h.2 j hj
  exact ⟨b, off, e, hbB, (by rw [hb.cell (p := ⟨b, off + j * 5, none⟩) (by simp; omega)]; exact c0), (by rw [hb.cell (p := ⟨b, off + j * 5 + 1, none⟩) (by simp; omega)]; exact c1), (by rw [hb.cell (p := ⟨b, off + j * 5 + 2, none⟩) (by simp; omega)]; exact c2), (by rw [hb.cell (p := ⟨b, off + j * 5 + 3, none⟩) (by simp; omega)]; exact c3), (by rw [hb.cell (p := ⟨b, off + j * 5 + 4, none⟩) (by simp; omega)]; exact c4)⟩

theorem edgesAt.mono {w : World} {a : Option Addr} {len B C : Nat} {Q : List EdgeI} (h : edgesAt w a len B Q) (hC : B ≤ C) : edgesAt w a len C Q := by
  refine ⟨h.1, fun j hj => ?_⟩
  obtain ⟨b, off, e, hbB, hc⟩ := h.2 j hj
  exact ⟨b, off, e, by omega, hc⟩

def edgesV (Q : List EdgeI) : List Value := Q.flatMap fun q => [.int .i64 q.A, .int .i64 q.B, .int .i64 q.W1, .int .i64 q.W2, .int .i64 q.W3]

theorem edgesV_length (Q : List EdgeI) : (edgesV Q).length = Q.length * 5 := by
  induction Q with
  | nil => rfl
  | cons q Q ih => simp [edgesV] at ih ⊢; omega

theorem edgesV_at (Q : List EdgeI) (k : Nat) (h : k < Q.length) : (edgesV Q)[k * 5]? = some (.int .i64 Q[k].A) ∧ (edgesV Q)[k * 5 + 1]? = some (.int .i64 Q[k].B) ∧ (edgesV Q)[k * 5 + 2]? = some (.int .i64 Q[k].W1) ∧ (edgesV Q)[k * 5 + 3]? = some (.int .i64 Q[k].W2) ∧ (edgesV Q)[k * 5 + 4]? = some (.int .i64 Q[k].W3) := by
  induction Q generalizing k with
  | nil => simp at h
  | cons q Q ih =>
    cases k with
    | zero => simp [edgesV]
    | succ k =>
      have := ih k (by simpa using h)
      have e : (k + 1) * 5 = k * 5 + 5 := by omega
      simpa [edgesV, e] using this

theorem edgesV_set (Q : List EdgeI) (k : Nat) (h : k < Q.length) (x : EdgeI) : (((((edgesV Q).set (k * 5) (.int .i64 x.A)).set (k * 5 + 1) (.int .i64 x.B)).set (k * 5 + 2) (.int .i64 x.W1)).set (k * 5 + 3) (.int .i64 x.W2)).set (k * 5 + 4) (.int .i64 x.W3) = edgesV (Q.set k x) := by
  induction Q generalizing k with
  | nil => simp at h
  | cons q Q ih =>
    cases k with
    | zero => simp [edgesV]
    | succ k =>
      have := ih k (by simpa using h)
      have e : (k + 1) * 5 = k * 5 + 5 := by omega
      simpa [edgesV, e] using this

theorem edgesV_snoc (Q : List EdgeI) (x : EdgeI) : edgesV (Q ++ [x]) = edgesV Q ++ [.int .i64 x.A, .int .i64 x.B, .int .i64 x.W1, .int .i64 x.W2, .int .i64 x.W3] := by
  unfold edgesV; rw [List.flatMap_append]; rfl

theorem edgesAt.of_own {w : World} {B : Nat} {v : Value} {n : Nat} {Q : List EdgeI} (h : w.ownsRow B 43 5 v n (edgesV Q)) : ∃ a c, v = .slice a n c ∧ edgesAt w a n w.heap.size Q := by
  have hl : Q.length = n := by have := h.1; rw [edgesV_length] at this; omega
  rcases h.2 with ⟨rfl, h0⟩ | ⟨g, cap, cur, rfl, hg, hh, _⟩
  · subst h0
    exact ⟨none, 0, rfl, hl, fun j hj => by omega⟩
  · refine ⟨_, _, rfl, hl, fun j hj => ⟨g, 0, rfl, (h.lt g rfl).2, ?_, ?_, ?_, ?_, ?_⟩⟩
    · rw [Nat.zero_add, h.cellAt (j * 5) (by omega)]
      exact (edgesV_at Q j hj).1
    · rw [Nat.zero_add, h.cellAt (j * 5 + 1) (by omega)]
      exact (edgesV_at Q j hj).2.1
    · rw [Nat.zero_add, h.cellAt (j * 5 + 2) (by omega)]
      exact (edgesV_at Q j hj).2.2.1
    · rw [Nat.zero_add, h.cellAt (j * 5 + 3) (by omega)]
      exact (edgesV_at Q j hj).2.2.2.1
    · rw [Nat.zero_add, h.cellAt (j * 5 + 4) (by omega)]
      exact (edgesV_at Q j hj).2.2.2.2

theorem infoEdge : (Try.prog.info? 43).map (fun i => (i.zero, i.size, i.bytes)) = some (some (.agg #[.int .i64 0, .int .i64 0, .int .i64 0, .int .i64 0, .int .i64 0]), 5, 40) := by kernel_rfl

theorem made_edges (n : Nat) (M : Array Value) (hM : M = madeCells (Value.agg #[.int .i64 0, .int .i64 0, .int .i64 0, .int .i64 0, .int .i64 0]).cells (n * 5)) : M.toList = edgesV (List.replicate n EdgeI.zero) ∧ M.size = n * 5 := by
  have hs : M.size = n * 5 := by rw [hM, size_madeCells]
  refine ⟨?_, hs⟩
  apply List.ext_getElem?
  intro j
  by_cases hj : j < n * 5
  · have e : M.toList[j]? = some (.int .i64 0) := by
      rw [hM]
      have h2 : j % 5 = 0 ∨ j % 5 = 1 ∨ j % 5 = 2 ∨ j % 5 = 3 ∨ j % 5 = 4 := by omega
      rcases h2 with h2 | h2 | h2 | h2 | h2 <;> simp [madeCells, Value.cells, hj, h2]
    rw [e]
    have hp := edgesV_at (List.replicate n EdgeI.zero) (j / 5) (by simp; omega)
    have h2 : j % 5 = 0 ∨ j % 5 = 1 ∨ j % 5 = 2 ∨ j % 5 = 3 ∨ j % 5 = 4 := by omega
    rcases h2 with h2 | h2 | h2 | h2 | h2
    · have ej : j / 5 * 5 = j := by omega
      rw [ej] at hp
      rw [hp.1]
      simp [EdgeI.zero]
    · have ej : j / 5 * 5 + 1 = j := by omega
      rw [ej] at hp
      rw [hp.2.1]
      simp [EdgeI.zero]
    · have ej : j / 5 * 5 + 2 = j := by omega
      rw [ej] at hp
      rw [hp.2.2.1]
      simp [EdgeI.zero]
    · have ej : j / 5 * 5 + 3 = j := by omega
      rw [ej] at hp
      rw [hp.2.2.2.1]
      simp [EdgeI.zero]
    · have ej : j / 5 * 5 + 4 = j := by omega
      rw [ej] at hp
      rw [hp.2.2.2.2]
      simp [EdgeI.zero]
  · rw [List.getElem?_eq_none (by simp; omega), List.getElem?_eq_none (by rw [edgesV_length]; simp; omega)]

end Gr
end Go.Proofs.Ytkidkfopnghghaa
