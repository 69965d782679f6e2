/-
  Rows of Sums (3 numbers each) in memory, and the contracts of what the laws do with them. Written by program (tools/introws.py).
-/
import Derived.Test.YtejfknkcakeakaaGrBase
import Derived.Deep.RegionHeld3
import Derived.Lib.SmallJoins
import Derived.Deep.Slices
namespace Go.Proofs.Ytejfknkcakeakaa
namespace Gr
open Go.ChangeShapes Go.WideShapes Go.ChangeAt Go.RowKit

structure SumsI where
  W1 : Int
  W2 : Int
  W3 : Int
deriving DecidableEq

def SumsI.v (x : SumsI) : Value := .agg #[.int .i64 x.W1, .int .i64 x.W2, .int .i64 x.W3]
def SumsI.zero : SumsI := ⟨0, 0, 0⟩

/-- A row that can be read, below block B. -/
def sumsAt (w : World) (a : Option Addr) (len B : Nat) (Q : List SumsI) : Prop :=
  Q.length = len ∧ ∀ j (h : j < Q.length), ∃ b off, a = some ⟨b, off, none⟩ ∧ b < B ∧ w.cell? ⟨b, off + j * 3, none⟩ = some (.int .i64 Q[j].W1) ∧ w.cell? ⟨b, off + j * 3 + 1, none⟩ = some (.int .i64 Q[j].W2) ∧ w.cell? ⟨b, off + j * 3 + 2, none⟩ = some (.int .i64 Q[j].W3)

theorem sumsAt.below {w w' : World} {a : Option Addr} {len B C : Nat} {Q : List SumsI} (h : sumsAt w a len B Q) (hb : Below C w w') (hC : B ≤ C) : sumsAt w' a len B Q := by
  refine ⟨h.1, fun j hj => ?_⟩
  obtain ⟨b, off, e, hbB, c0, c1, c2⟩ := h.2 j hj
  exact ⟨b, off, e, hbB, (by rw [hb.cell (p := ⟨b, off + j * 3, none⟩) (by simp; omega)]; exact c0), (by rw [hb.cell (p := ⟨b, off + j * 3 + 1, none⟩) (by simp; omega)]; exact c1), (by rw [hb.cell (p := ⟨b, off + j * 3 + 2, none⟩) (by simp; omega)]; exact c2)⟩

theorem sumsAt.mono {w : World} {a : Option Addr} {len B C : Nat} {Q : List SumsI} (h : sumsAt w a len B Q) (hC : B ≤ C) : sumsAt w a len C Q := by
  refine ⟨h.1, fun j hj => ?_⟩
  obtain ⟨b, off, e, hbB, hc⟩ := h.2 j hj
  exact ⟨b, off, e, by omega, hc⟩

def sumsV (Q : List SumsI) : List Value := Q.flatMap fun q => [.int .i64 q.W1, .int .i64 q.W2, .int .i64 q.W3]

theorem sumsV_length (Q : List SumsI) : (sumsV Q).length = Q.length * 3 := by
  induction Q with
  | nil => rfl
  | cons q Q ih => simp [sumsV] at ih ⊢; omega

theorem sumsV_at (Q : List SumsI) (k : Nat) (h : k < Q.length) : (sumsV Q)[k * 3]? = some (.int .i64 Q[k].W1) ∧ (sumsV Q)[k * 3 + 1]? = some (.int .i64 Q[k].W2) ∧ (sumsV Q)[k * 3 + 2]? = some (.int .i64 Q[k].W3) := by
  induction Q generalizing k with
  | nil => simp at h
  | cons q Q ih =>
    cases k with
    | zero => simp [sumsV]
    | succ k =>
      have := ih k (by simpa using h)
      have e : (k + 1) * 3 = k * 3 + 3 := by omega
      simpa [sumsV, e] using this

theorem sumsV_set (Q : List SumsI) (k : Nat) (h : k < Q.length) (x : SumsI) : (((sumsV Q).set (k * 3) (.int .i64 x.W1)).set (k * 3 + 1) (.int .i64 x.W2)).set (k * 3 + 2) (.int .i64 x.W3) = sumsV (Q.set k x) := by
  induction Q generalizing k with
  | nil => simp at h
  | cons q Q ih =>
    cases k with
    | zero => simp [sumsV]
    | succ k =>
      have := ih k (by simpa using h)
      have e : (k + 1) * 3 = k * 3 + 3 := by omega
      simpa [sumsV, e] using this

theorem sumsV_snoc (Q : List SumsI) (x : SumsI) : sumsV (Q ++ [x]) = sumsV Q ++ [.int .i64 x.W1, .int .i64 x.W2, .int .i64 x.W3] := by
  unfold sumsV; rw [List.flatMap_append]; rfl

theorem sumsAt.of_own {w : World} {B : Nat} {v : Value} {n : Nat} {Q : List SumsI} (h : w.ownsRow B 78 3 v n (sumsV Q)) : ∃ a c, v = .slice a n c ∧ sumsAt w a n w.heap.size Q := by
  have hl : Q.length = n := by have := h.1; rw [sumsV_length] at this; omega
  rcases h.2 with ⟨rfl, h0⟩ | ⟨g, cap, cur, rfl, hg, hh, _⟩
  · subst h0
    exact ⟨none, 0, rfl, hl, fun j hj => by omega⟩
  · refine ⟨_, _, rfl, hl, fun j hj => ⟨g, 0, rfl, (h.lt g rfl).2, ?_, ?_, ?_⟩⟩
    · rw [Nat.zero_add, h.cellAt (j * 3) (by omega)]
      exact (sumsV_at Q j hj).1
    · rw [Nat.zero_add, h.cellAt (j * 3 + 1) (by omega)]
      exact (sumsV_at Q j hj).2.1
    · rw [Nat.zero_add, h.cellAt (j * 3 + 2) (by omega)]
      exact (sumsV_at Q j hj).2.2

theorem infoSums : (Try.prog.info? 78).map (fun i => (i.zero, i.size, i.bytes)) = some (some (.agg #[.int .i64 0, .int .i64 0, .int .i64 0]), 3, 24) := by kernel_rfl

theorem made_sums (n : Nat) (M : Array Value) (hM : M = madeCells (Value.agg #[.int .i64 0, .int .i64 0, .int .i64 0]).cells (n * 3)) : M.toList = sumsV (List.replicate n SumsI.zero) ∧ M.size = n * 3 := by
  have hs : M.size = n * 3 := by rw [hM, size_madeCells]
  refine ⟨?_, hs⟩
  apply List.ext_getElem?
  intro j
  by_cases hj : j < n * 3
  · have e : M.toList[j]? = some (.int .i64 0) := by
      rw [hM]
      have h2 : j % 3 = 0 ∨ j % 3 = 1 ∨ j % 3 = 2 := by omega
      rcases h2 with h2 | h2 | h2 <;> simp [madeCells, Value.cells, hj, h2]
    rw [e]
    have hp := sumsV_at (List.replicate n SumsI.zero) (j / 3) (by simp; omega)
    have h2 : j % 3 = 0 ∨ j % 3 = 1 ∨ j % 3 = 2 := by omega
    rcases h2 with h2 | h2 | h2
    · have ej : j / 3 * 3 = j := by omega
      rw [ej] at hp
      rw [hp.1]
      simp [SumsI.zero]
    · have ej : j / 3 * 3 + 1 = j := by omega
      rw [ej] at hp
      rw [hp.2.1]
      simp [SumsI.zero]
    · have ej : j / 3 * 3 + 2 = j := by omega
      rw [ej] at hp
      rw [hp.2.2]
      simp [SumsI.zero]
  · rw [List.getElem?_eq_none (by simp; omega), List.getElem?_eq_none (by rw [sumsV_length]; simp; omega)]

end Gr
end Go.Proofs.Ytejfknkcakeakaa
