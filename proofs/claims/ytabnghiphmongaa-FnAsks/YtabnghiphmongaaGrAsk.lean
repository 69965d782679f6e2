/-
  Rows of Ask (6 numbers each) in memory, and the contracts of what the laws do with them. Written by program (tools/introws.py).
-/
import Derived.Test.YtabnghiphmongaaGrBase
import Derived.Deep.RegionHeld3
import Derived.Lib.SmallJoins
import Derived.Deep.Slices
namespace Go.Proofs.Ytabnghiphmongaa
namespace Gr
open Go.ChangeShapes Go.WideShapes Go.ChangeAt Go.RowKit

structure AskI where
  Op : Int
  A : Int
  B : Int
  W1 : Int
  W2 : Int
  W3 : Int
deriving DecidableEq

def AskI.v (x : AskI) : Value := .agg #[.int .i64 x.Op, .int .i64 x.A, .int .i64 x.B, .int .i64 x.W1, .int .i64 x.W2, .int .i64 x.W3]
def AskI.zero : AskI := ⟨0, 0, 0, 0, 0, 0⟩

/-- A row that can be read, below block B. -/
def asksAt (w : World) (a : Option Addr) (len B : Nat) (Q : List AskI) : Prop :=
  Q.length = len ∧ ∀ j (h : j < Q.length), ∃ b off, a = some ⟨b, off, none⟩ ∧ b < B ∧ w.cell? ⟨b, off + j * 6, none⟩ = some (.int .i64 Q[j].Op) ∧ w.cell? ⟨b, off + j * 6 + 1, none⟩ = some (.int .i64 Q[j].A) ∧ w.cell? ⟨b, off + j * 6 + 2, none⟩ = some (.int .i64 Q[j].B) ∧ w.cell? ⟨b, off + j * 6 + 3, none⟩ = some (.int .i64 Q[j].W1) ∧ w.cell? ⟨b, off + j * 6 + 4, none⟩ = some (.int .i64 Q[j].W2) ∧ w.cell? ⟨b, off + j * 6 + 5, none⟩ = some (.int .i64 Q[j].W3)

theorem asksAt.below {w w' : World} {a : Option Addr} {len B C : Nat} {Q : List AskI} (h : asksAt w a len B Q) (hb : Below C w w') (hC : B ≤ C) : asksAt w' a len B Q := by
  refine ⟨h.1, fun j hj => ?_⟩
  obtain ⟨b, off, e, hbB, c0, c1, c2, c3, c4, c5⟩ := h.2 j hj
  exact ⟨b, off, e, hbB, (by rw [hb.cell (p := ⟨b, off + j * 6, none⟩) (by simp; omega)]; exact c0), (by rw [hb.cell (p := ⟨b, off + j * 6 + 1, none⟩) (by simp; omega)]; exact c1), (by rw [hb.cell (p := ⟨b, off + j * 6 + 2, none⟩) (by simp; omega)]; exact c2), (by rw [hb.cell (p := ⟨b, off + j * 6 + 3, none⟩) (by simp; omega)]; exact c3), (by rw [hb.cell (p := ⟨b, off + j * 6 + 4, none⟩) (by simp; omega)]; exact c4), (by rw [hb.cell (p := ⟨b, off + j * 6 + 5, none⟩) (by simp; omega)]; exact c5)⟩

theorem asksAt.mono {w : World} {a : Option Addr} {len B C : Nat} {Q : List AskI} (h : asksAt w a len B Q) (hC : B ≤ C) : asksAt w a len C Q := by
  refine ⟨h.1, fun j hj => ?_⟩
  obtain ⟨b, off, e, hbB, hc⟩ := h.2 j hj
  exact ⟨b, off, e, by omega, hc⟩

def asksV (Q : List AskI) : List Value := Q.flatMap fun q => [.int .i64 q.Op, .int .i64 q.A, .int .i64 q.B, .int .i64 q.W1, .int .i64 q.W2, .int .i64 q.W3]

theorem asksV_length (Q : List AskI) : (asksV Q).length = Q.length * 6 := by
  induction Q with
  | nil => rfl
  | cons q Q ih => simp [asksV] at ih ⊢; omega

theorem asksV_at (Q : List AskI) (k : Nat) (h : k < Q.length) : (asksV Q)[k * 6]? = some (.int .i64 Q[k].Op) ∧ (asksV Q)[k * 6 + 1]? = some (.int .i64 Q[k].A) ∧ (asksV Q)[k * 6 + 2]? = some (.int .i64 Q[k].B) ∧ (asksV Q)[k * 6 + 3]? = some (.int .i64 Q[k].W1) ∧ (asksV Q)[k * 6 + 4]? = some (.int .i64 Q[k].W2) ∧ (asksV Q)[k * 6 + 5]? = some (.int .i64 Q[k].W3) := by
  induction Q generalizing k with
  | nil => simp at h
  | cons q Q ih =>
    cases k with
    | zero => simp [asksV]
    | succ k =>
      have := ih k (by simpa using h)
      have e : (k + 1) * 6 = k * 6 + 6 := by omega
      simpa [asksV, e] using this

theorem asksV_set (Q : List AskI) (k : Nat) (h : k < Q.length) (x : AskI) : ((((((asksV Q).set (k * 6) (.int .i64 x.Op)).set (k * 6 + 1) (.int .i64 x.A)).set (k * 6 + 2) (.int .i64 x.B)).set (k * 6 + 3) (.int .i64 x.W1)).set (k * 6 + 4) (.int .i64 x.W2)).set (k * 6 + 5) (.int .i64 x.W3) = asksV (Q.set k x) := by
  induction Q generalizing k with
  | nil => simp at h
  | cons q Q ih =>
    cases k with
    | zero => simp [asksV]
    | succ k =>
      have := ih k (by simpa using h)
      have e : (k + 1) * 6 = k * 6 + 6 := by omega
      simpa [asksV, e] using this

theorem asksV_snoc (Q : List AskI) (x : AskI) : asksV (Q ++ [x]) = asksV Q ++ [.int .i64 x.Op, .int .i64 x.A, .int .i64 x.B, .int .i64 x.W1, .int .i64 x.W2, .int .i64 x.W3] := by
  unfold asksV; rw [List.flatMap_append]; rfl

theorem asksAt.of_own {w : World} {B : Nat} {v : Value} {n : Nat} {Q : List AskI} (h : w.ownsRow B 26 6 v n (asksV Q)) : ∃ a c, v = .slice a n c ∧ asksAt w a n w.heap.size Q := by
  have hl : Q.length = n := by have := h.1; rw [asksV_length] at this; omega
  rcases h.2 with ⟨rfl, h0⟩ | ⟨g, cap, cur, rfl, hg, hh, _⟩
  · subst h0
    exact ⟨none, 0, rfl, hl, fun j hj => by omega⟩
  · refine ⟨_, _, rfl, hl, fun j hj => ⟨g, 0, rfl, (h.lt g rfl).2, ?_, ?_, ?_, ?_, ?_, ?_⟩⟩
    · rw [Nat.zero_add, h.cellAt (j * 6) (by omega)]
      exact (asksV_at Q j hj).1
    · rw [Nat.zero_add, h.cellAt (j * 6 + 1) (by omega)]
      exact (asksV_at Q j hj).2.1
    · rw [Nat.zero_add, h.cellAt (j * 6 + 2) (by omega)]
      exact (asksV_at Q j hj).2.2.1
    · rw [Nat.zero_add, h.cellAt (j * 6 + 3) (by omega)]
      exact (asksV_at Q j hj).2.2.2.1
    · rw [Nat.zero_add, h.cellAt (j * 6 + 4) (by omega)]
      exact (asksV_at Q j hj).2.2.2.2.1
    · rw [Nat.zero_add, h.cellAt (j * 6 + 5) (by omega)]
      exact (asksV_at Q j hj).2.2.2.2.2

theorem infoAsk : (Try.prog.info? 26).map (fun i => (i.zero, i.size, i.bytes)) = some (some (.agg #[.int .i64 0, .int .i64 0, .int .i64 0, .int .i64 0, .int .i64 0, .int .i64 0]), 6, 48) := by kernel_rfl

theorem made_asks (n : Nat) (M : Array Value) (hM : M = madeCells (Value.agg #[.int .i64 0, .int .i64 0, .int .i64 0, .int .i64 0, .int .i64 0, .int .i64 0]).cells (n * 6)) : M.toList = asksV (List.replicate n AskI.zero) ∧ M.size = n * 6 := by
  have hs : M.size = n * 6 := by rw [hM, size_madeCells]
  refine ⟨?_, hs⟩
  apply List.ext_getElem?
  intro j
  by_cases hj : j < n * 6
  · have e : M.toList[j]? = some (.int .i64 0) := by
      rw [hM]
      have h2 : j % 6 = 0 ∨ j % 6 = 1 ∨ j % 6 = 2 ∨ j % 6 = 3 ∨ j % 6 = 4 ∨ j % 6 = 5 := by omega
      rcases h2 with h2 | h2 | h2 | h2 | h2 | h2 <;> simp [madeCells, Value.cells, hj, h2]
    rw [e]
    have hp := asksV_at (List.replicate n AskI.zero) (j / 6) (by simp; omega)
    have h2 : j % 6 = 0 ∨ j % 6 = 1 ∨ j % 6 = 2 ∨ j % 6 = 3 ∨ j % 6 = 4 ∨ j % 6 = 5 := by omega
    rcases h2 with h2 | h2 | h2 | h2 | h2 | h2
    · have ej : j / 6 * 6 = j := by omega
      rw [ej] at hp
      rw [hp.1]
      simp [AskI.zero]
    · have ej : j / 6 * 6 + 1 = j := by omega
      rw [ej] at hp
      rw [hp.2.1]
      simp [AskI.zero]
    · have ej : j / 6 * 6 + 2 = j := by omega
      rw [ej] at hp
      rw [hp.2.2.1]
      simp [AskI.zero]
    · have ej : j / 6 * 6 + 3 = j := by omega
      rw [ej] at hp
      rw [hp.2.2.2.1]
      simp [AskI.zero]
    · have ej : j / 6 * 6 + 4 = j := by omega
      rw [ej] at hp
      rw [hp.2.2.2.2.1]
      simp [AskI.zero]
    · have ej : j / 6 * 6 + 5 = j := by omega
      rw [ej] at hp
      rw [hp.2.2.2.2.2]
      simp [AskI.zero]
  · rw [List.getElem?_eq_none (by simp; omega), List.getElem?_eq_none (by rw [asksV_length]; simp; omega)]

theorem toAsk_any (x : AskI) (w : World) :
    Calls Try.prog 7 #[x.v] w fun e w' => e = .returned x.v ∧ Below w.heap.size w w' := by
  unfold AskI.v
  go_enter Try.func7, Try.ntmps7
  go_wp2
  go_returns
  exact ⟨rfl, (((Below.refl _ _).alloc (Nat.le_refl _) _).alloc (by simp) _).alloc (by simp; omega) _⟩

set_option maxRecDepth 100000 in
theorem eqAsk_same (x : AskI) (w : World) :
    Calls Try.prog 11 #[x.v, x.v] w fun e w' => e = .returned (.bool true) ∧ Below w.heap.size w w' := by
  unfold AskI.v
  go_enter Try.func11, Try.ntmps11
  go_wp2
  go_ret
  exact ⟨rfl, ((Below.refl _ _).alloc (Nat.le_refl _) _).alloc (by simp) _⟩

end Gr
end Go.Proofs.Ytabnghiphmongaa
