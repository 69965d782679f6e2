/-
  Texts of this claim, one behind the other: GrAsk, GrAskM, GrAskO, GrKAsk, Ak0.
-/
import Derived.Test.YtjhnippfepbjmaaGreatDoorJ2
import Derived.Deep.RegionHeld3
import Derived.Lib.SmallJoins
import Derived.Deep.Slices

/-
  Rows of Ask (6 numbers each) in memory, and the contracts of what the laws do with them. Written by program (tools/introws.py).
-/
namespace Go.Proofs.YtjhnippfepbjmaaGreatDoor
namespace Gr
open Go.ChangeShapes Go.WideShapes Go.ChangeAt Go.RowKit

structure AskI where
  Op : Int
  A : Int
  B : Int
  W1 : Int
  W2 : Int
  W3 : Int
deriving DecidableEq

def AskI.v (x : AskI) : Value := .agg #[.int .i64 x.Op, .int .i64 x.A, .int .i64 x.B, .int .i64 x.W1, .int .i64 x.W2, .int .i64 x.W3]
def AskI.zero : AskI := ⟨0, 0, 0, 0, 0, 0⟩

/-- A row that can be read, below block B. -/
def asksAt (w : World) (a : Option Addr) (len B : Nat) (Q : List AskI) : Prop :=
  Q.length = len ∧ ∀ j (h : j < Q.length), ∃ b off, a = some ⟨b, off, none⟩ ∧ b < B ∧ w.cell? ⟨b, off + j * 6, none⟩ = some (.int .i64 Q[j].Op) ∧ w.cell? ⟨b, off + j * 6 + 1, none⟩ = some (.int .i64 Q[j].A) ∧ w.cell? ⟨b, off + j * 6 + 2, none⟩ = some (.int .i64 Q[j].B) ∧ w.cell? ⟨b, off + j * 6 + 3, none⟩ = some (.int .i64 Q[j].W1) ∧ w.cell? ⟨b, off + j * 6 + 4, none⟩ = some (.int .i64 Q[j].W2) ∧ w.cell? ⟨b, off + j * 6 + 5, none⟩ = some (.int .i64 Q[j].W3)

theorem asksAt.below {w w' : World} {a : Option Addr} {len B C : Nat} {Q : List AskI} (h : asksAt w a len B Q) (hb : Below C w w') (hC : B ≤ C) : asksAt w' a len B Q := by
  refine ⟨h.1, fun j hj => ?_⟩
  obtain ⟨b, off, e, hbB, c0, c1, c2, c3, c4, c5⟩ := h.2 j hj
  exact ⟨b, off, e, hbB, (by rw [hb.cell (p := ⟨b, off + j * 6, none⟩) (by simp; omega)]; exact c0), (by rw [hb.cell (p := ⟨b, off + j * 6 + 1, none⟩) (by simp; omega)]; exact c1), (by rw [hb.cell (p := ⟨b, off + j * 6 + 2, none⟩) (by simp; omega)]; exact c2), (by rw [hb.cell (p := ⟨b, off + j * 6 + 3, none⟩) (by simp; omega)]; exact c3), (by rw [hb.cell (p := ⟨b, off + j * 6 + 4, none⟩) (by simp; omega)]; exact c4), (by rw [hb.cell (p := ⟨b, off + j * 6 + 5, none⟩) (by simp; omega)]; exact c5)⟩

theorem asksAt.mono {w : World} {a : Option Addr} {len B C : Nat} {Q : List AskI} (h : asksAt w a len B Q) (hC : B ≤ C) : asksAt w a len C Q := by
  refine ⟨h.1, fun j hj => ?_⟩
  obtain ⟨b, off, e, hbB, hc⟩ := h.2 j hj
  exact ⟨b, off, e, by omega, hc⟩

def asksV (Q : List AskI) : List Value := Q.flatMap fun q => [.int .i64 q.Op, .int .i64 q.A, .int .i64 q.B, .int .i64 q.W1, .int .i64 q.W2, .int .i64 q.W3]

theorem asksV_length (Q : List AskI) : (asksV Q).length = Q.length * 6 := by
  induction Q with
  | nil => rfl
  | cons q Q ih => simp [asksV] at ih ⊢; omega

theorem asksV_at (Q : List AskI) (k : Nat) (h : k < Q.length) : (asksV Q)[k * 6]? = some (.int .i64 Q[k].Op) ∧ (asksV Q)[k * 6 + 1]? = some (.int .i64 Q[k].A) ∧ (asksV Q)[k * 6 + 2]? = some (.int .i64 Q[k].B) ∧ (asksV Q)[k * 6 + 3]? = some (.int .i64 Q[k].W1) ∧ (asksV Q)[k * 6 + 4]? = some (.int .i64 Q[k].W2) ∧ (asksV Q)[k * 6 + 5]? = some (.int .i64 Q[k].W3) := by
  induction Q generalizing k with
  | nil => simp at h
  | cons q Q ih =>
    cases k with
    | zero => simp [asksV]
    | succ k =>
      have := ih k (by simpa using h)
      have e : (k + 1) * 6 = k * 6 + 6 := by omega
      simpa [asksV, e] using this

theorem asksV_set (Q : List AskI) (k : Nat) (h : k < Q.length) (x : AskI) : ((((((asksV Q).set (k * 6) (.int .i64 x.Op)).set (k * 6 + 1) (.int .i64 x.A)).set (k * 6 + 2) (.int .i64 x.B)).set (k * 6 + 3) (.int .i64 x.W1)).set (k * 6 + 4) (.int .i64 x.W2)).set (k * 6 + 5) (.int .i64 x.W3) = asksV (Q.set k x) := by
  induction Q generalizing k with
  | nil => simp at h
  | cons q Q ih =>
    cases k with
    | zero => simp [asksV]
    | succ k =>
      have := ih k (by simpa using h)
      have e : (k + 1) * 6 = k * 6 + 6 := by omega
      simpa [asksV, e] using this

theorem asksV_snoc (Q : List AskI) (x : AskI) : asksV (Q ++ [x]) = asksV Q ++ [.int .i64 x.Op, .int .i64 x.A, .int .i64 x.B, .int .i64 x.W1, .int .i64 x.W2, .int .i64 x.W3] := by
  unfold asksV; rw [List.flatMap_append]; rfl

theorem asksAt.of_own {w : World} {B : Nat} {v : Value} {n : Nat} {Q : List AskI} (h : w.ownsRow B 75 6 v n (asksV Q)) : ∃ a c, v = .slice a n c ∧ asksAt w a n w.heap.size Q := by
  have hl : Q.length = n := by have := h.1; rw [asksV_length] at this; omega
  rcases h.2 with ⟨rfl, h0⟩ | ⟨g, cap, cur, rfl, hg, hh, _⟩
  · subst h0
    exact ⟨none, 0, rfl, hl, fun j hj => by omega⟩
  · refine ⟨_, _, rfl, hl, fun j hj => ⟨g, 0, rfl, (h.lt g rfl).2, ?_, ?_, ?_, ?_, ?_, ?_⟩⟩
    · rw [Nat.zero_add, h.cellAt (j * 6) (by omega)]
      exact (asksV_at Q j hj).1
    · rw [Nat.zero_add, h.cellAt (j * 6 + 1) (by omega)]
      exact (asksV_at Q j hj).2.1
    · rw [Nat.zero_add, h.cellAt (j * 6 + 2) (by omega)]
      exact (asksV_at Q j hj).2.2.1
    · rw [Nat.zero_add, h.cellAt (j * 6 + 3) (by omega)]
      exact (asksV_at Q j hj).2.2.2.1
    · rw [Nat.zero_add, h.cellAt (j * 6 + 4) (by omega)]
      exact (asksV_at Q j hj).2.2.2.2.1
    · rw [Nat.zero_add, h.cellAt (j * 6 + 5) (by omega)]
      exact (asksV_at Q j hj).2.2.2.2.2

theorem infoAsk : (Tryz.prog.info? 75).map (fun i => (i.zero, i.size, i.bytes)) = some (some (.agg #[.int .i64 0, .int .i64 0, .int .i64 0, .int .i64 0, .int .i64 0, .int .i64 0]), 6, 48) := by kernel_rfl

theorem made_asks (n : Nat) (M : Array Value) (hM : M = madeCells (Value.agg #[.int .i64 0, .int .i64 0, .int .i64 0, .int .i64 0, .int .i64 0, .int .i64 0]).cells (n * 6)) : M.toList = asksV (List.replicate n AskI.zero) ∧ M.size = n * 6 := by
  have hs : M.size = n * 6 := by rw [hM, size_madeCells]
  refine ⟨?_, hs⟩
  apply List.ext_getElem?
  intro j
  by_cases hj : j < n * 6
  · have e : M.toList[j]? = some (.int .i64 0) := by
      rw [hM]
      have h2 : j % 6 = 0 ∨ j % 6 = 1 ∨ j % 6 = 2 ∨ j % 6 = 3 ∨ j % 6 = 4 ∨ j % 6 = 5 := by omega
      rcases h2 with h2 | h2 | h2 | h2 | h2 | h2 <;> simp [madeCells, Value.cells, hj, h2]
    rw [e]
    have hp := asksV_at (List.replicate n AskI.zero) (j / 6) (by simp; omega)
    have h2 : j % 6 = 0 ∨ j % 6 = 1 ∨ j % 6 = 2 ∨ j % 6 = 3 ∨ j % 6 = 4 ∨ j % 6 = 5 := by omega
    rcases h2 with h2 | h2 | h2 | h2 | h2 | h2
    · have ej : j / 6 * 6 = j := by omega
      rw [ej] at hp
      rw [hp.1]
      simp [AskI.zero]
    · have ej : j / 6 * 6 + 1 = j := by omega
      rw [ej] at hp
      rw [hp.2.1]
      simp [AskI.zero]
    · have ej : j / 6 * 6 + 2 = j := by omega
      rw [ej] at hp
      rw [hp.2.2.1]
      simp [AskI.zero]
    · have ej : j / 6 * 6 + 3 = j := by omega
      rw [ej] at hp
      rw [hp.2.2.2.1]
      simp [AskI.zero]
    · have ej : j / 6 * 6 + 4 = j := by omega
      rw [ej] at hp
      rw [hp.2.2.2.2.1]
      simp [AskI.zero]
    · have ej : j / 6 * 6 + 5 = j := by omega
      rw [ej] at hp
      rw [hp.2.2.2.2.2]
      simp [AskI.zero]
  · rw [List.getElem?_eq_none (by simp; omega), List.getElem?_eq_none (by rw [asksV_length]; simp; omega)]

end Gr
end Go.Proofs.YtjhnippfepbjmaaGreatDoor

/-
  Rows of Ask: what is marked is held. Written by program (tools/introws.py).
-/
namespace Go.Proofs.YtjhnippfepbjmaaGreatDoor
namespace Gr
open Go.ChangeShapes Go.WideShapes Go.ChangeAt Go.RowKit

/-- The marks of n rows from k on. -/
def marksAsk (k n : Nat) : List AskI := (List.range n).map fun i => ⟨((k + i * 6 : Nat) : Int), ((k + i * 6 + 1 : Nat) : Int), ((k + i * 6 + 2 : Nat) : Int), ((k + i * 6 + 3 : Nat) : Int), ((k + i * 6 + 4 : Nat) : Int), ((k + i * 6 + 5 : Nat) : Int)⟩

theorem marksAsk_length (k n : Nat) : (marksAsk k n).length = n := by simp [marksAsk]
theorem marksAsk_at (k n i : Nat) (h : i < (marksAsk k n).length) : (marksAsk k n)[i] = ⟨((k + i * 6 : Nat) : Int), ((k + i * 6 + 1 : Nat) : Int), ((k + i * 6 + 2 : Nat) : Int), ((k + i * 6 + 3 : Nat) : Int), ((k + i * 6 + 4 : Nat) : Int), ((k + i * 6 + 5 : Nat) : Int)⟩ := by simp [marksAsk]

end Gr
end Go.Proofs.YtjhnippfepbjmaaGreatDoor

/-
  Rows of Ask: a row that came in, read. Written by program (tools/introws.py).
-/
namespace Go.Proofs.YtjhnippfepbjmaaGreatDoor
namespace Gr
open Go.ChangeShapes Go.WideShapes Go.ChangeAt Go.RowKit

end Gr
end Go.Proofs.YtjhnippfepbjmaaGreatDoor

/-
  The kind of Ask, in the form that a law's walk asks for. Written by program (tools/kinds.py).
-/
namespace Go.Proofs.YtjhnippfepbjmaaGreatDoor
namespace Gr
open Go.ChangeShapes Go.WideShapes Go.ChangeAt Go.RowKit

def AkAt (_w : World) (v : Value) (_B : Nat) (x : AskI) : Prop := v = x.v
def AkOwn (_w : World) (_B : Nat) (v : Value) (x : AskI) : Prop := v = x.v

theorem AkAt.shape {w : World} {v : Value} {B : Nat} {x : AskI} (h : AkAt w v B x) : v = x.v := h
theorem AkAt.below {w w' : World} {v : Value} {B C : Nat} {x : AskI} (h : AkAt w v B x) (_hb : Below C w w') (_hC : B ≤ C) : AkAt w' v B x := h
theorem AkAt.mono {w : World} {v : Value} {B C : Nat} {x : AskI} (h : AkAt w v B x) (_hC : B ≤ C) : AkAt w v C x := h
theorem AkOwn.at {w : World} {B : Nat} {v : Value} {x : AskI} (h : AkOwn w B v x) : AkAt w v w.heap.size x := h
theorem AkOwn.below {w w' : World} {B : Nat} {v : Value} {x : AskI} (h : AkOwn w B v x) (_hb : Below w.heap.size w w') : AkOwn w' B v x := h

end Gr
end Go.Proofs.YtjhnippfepbjmaaGreatDoor

/-
  Asks in bytes, as mathematics: what AskText and ReadAsk tell.
-/
namespace Go.Proofs.YtjhnippfepbjmaaGreatDoor
namespace Gr
open Go.RowKit

/-- How many numbers of an ask are told. -/
def askN (op : Int) : Nat := if op = 1 ∨ op = 3 ∨ op = 5 then 1 else if op = 2 then 5 else 0

theorem askN_le (op : Int) : askN op ≤ 5 := by unfold askN; (repeat' split) <;> omega

def askL (x : AskI) : List Int := [x.A, x.B, x.W1, x.W2, x.W3]

/-- The numbers behind the k-th, written behind s. -/
def askGo (n : Nat) : Nat → ByteArray → List Int → Option ByteArray
  | _, s, [] => some s
  | k, s, y :: r => if (decide (0 ≤ y) && decide (y ≤ 1000000000)) && (decide (k < n) || decide (y = 0)) then askGo n (k + 1) (if k < n then s ++ vB y else s) r else none

def opB (op : Int) : ByteArray := ⟨#[UInt8.ofNat op.toNat]⟩

/-- What AskText tells. -/
def askR (x : AskI) : Option ByteArray := if 1 ≤ x.Op ∧ x.Op ≤ 6 then askGo (askN x.Op) 0 (opB x.Op) (askL x) else none

def askT (x : AskI) : ByteArray := (askR x).getD ⟨#[]⟩
def askOk (x : AskI) : Bool := (askR x).isSome

theorem askGo_step (n k : Nat) (s : ByteArray) (L : List Int) (h : k < L.length) : askGo n k s (L.drop k) = if (decide (0 ≤ L[k]) && decide (L[k] ≤ 1000000000)) && (decide (k < n) || decide (L[k] = 0)) then askGo n (k + 1) (if k < n then s ++ vB L[k] else s) (L.drop (k + 1)) else none := by
  rw [List.drop_eq_getElem_cons h]
  rfl

/-- Numbers, as many as an ask has: those that were read, and noughts. -/
def padL (L : List Int) : List Int := L ++ List.replicate (5 - L.length) 0

def askOf (op : Int) (L : List Int) : AskI := ⟨op, (padL L).getD 0 0, (padL L).getD 1 0, (padL L).getD 2 0, (padL L).getD 3 0, (padL L).getD 4 0⟩

/-- n numbers, whether they are there or not. -/
def rdN (t : ByteArray) : Nat → CS → List Int × CS
  | 0, c => ([], c)
  | k + 1, c => let a := rd t c; let r := rdN t k a.2; (a.1 :: r.1, r.2)

def opOf (t : ByteArray) : Int := (byteAt t 0 : Int)

/-- What is read, right or not. -/
def raX (t : ByteArray) : AskI := askOf (opOf t) (rdN t (askN (opOf t)) ⟨1, false⟩).1

/-- What ReadAsk tells. -/
def raOk (t : ByteArray) : Bool := decide (0 < t.size) && (!(rdN t (askN (opOf t)) ⟨1, false⟩).2.b && (askOk (raX t) && decide (askT (raX t) = t)))
def raV (t : ByteArray) : AskI := if raOk t = true then raX t else AskI.zero

end Gr
end Go.Proofs.YtjhnippfepbjmaaGreatDoor
