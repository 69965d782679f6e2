/-
 GrEdge, GrEdgeM, GrEdgeO, GrCouple, GrCoupleM, GrCoupleO, GrKCoupleS, GrSums, GrSumsM, GrSumsO, GrKSums, GrBetter, GrAsk, GrAskM, GrAskO, GrKAskS.
-/
import Derived.Test.YtihnaddfpmjpaaaGreatDoorJ2
import Derived.Deep.RegionHeld3
import Derived.Lib.SmallJoins
import Derived.Deep.Slices
namespace Go.Proofs.YtihnaddfpmjpaaaGreatDoor
namespace Gr
open Go.ChangeShapes Go.WideShapes Go.ChangeAt Go.RowKit
structure EdgeI where
  A : Int
  B : Int
  W1 : Int
  W2 : Int
  W3 : Int
deriving DecidableEq
def EdgeI.v (x : EdgeI) : Value := .agg #[.int .i64 x.A, .int .i64 x.B, .int .i64 x.W1, .int .i64 x.W2, .int .i64 x.W3]
def EdgeI.zero : EdgeI := ⟨0, 0, 0, 0, 0⟩
def edgesAt (w : World) (a : Option Addr) (len B : Nat) (Q : List EdgeI) : Prop :=
  Q.length = len ∧ ∀ j (h : j < Q.length), ∃ b off, a = some ⟨b, off, none⟩ ∧ b < B ∧ w.cell? ⟨b, off + j * 5, none⟩ = some (.int .i64 Q[j].A) ∧ w.cell? ⟨b, off + j * 5 + 1, none⟩ = some (.int .i64 Q[j].B) ∧ w.cell? ⟨b, off + j * 5 + 2, none⟩ = some (.int .i64 Q[j].W1) ∧ w.cell? ⟨b, off + j * 5 + 3, none⟩ = some (.int .i64 Q[j].W2) ∧ w.cell? ⟨b, off + j * 5 + 4, none⟩ = some (.int .i64 Q[j].W3)
theorem edgesAt.below {w w' : World} {a : Option Addr} {len B C : Nat} {Q : List EdgeI} (h : edgesAt w a len B Q) (hb : Below C w w') (hC : B ≤ C) : edgesAt w' a len B Q := by
  refine ⟨h.1, fun j hj => ?_⟩
  obtain ⟨b, off, e, hbB, c0, c1, c2, c3, c4⟩ := h.2 j hj
  exact ⟨b, off, e, hbB, (by rw [hb.cell (p := ⟨b, off + j * 5, none⟩) (by simp; omega)]; exact c0), (by rw [hb.cell (p := ⟨b, off + j * 5 + 1, none⟩) (by simp; omega)]; exact c1), (by rw [hb.cell (p := ⟨b, off + j * 5 + 2, none⟩) (by simp; omega)]; exact c2), (by rw [hb.cell (p := ⟨b, off + j * 5 + 3, none⟩) (by simp; omega)]; exact c3), (by rw [hb.cell (p := ⟨b, off + j * 5 + 4, none⟩) (by simp; omega)]; exact c4)⟩
theorem edgesAt.mono {w : World} {a : Option Addr} {len B C : Nat} {Q : List EdgeI} (h : edgesAt w a len B Q) (hC : B ≤ C) : edgesAt w a len C Q := by
  refine ⟨h.1, fun j hj => ?_⟩
  obtain ⟨b, off, e, hbB, hc⟩ := h.2 j hj
  exact ⟨b, off, e, by omega, hc⟩
def edgesV (Q : List EdgeI) : List Value := Q.flatMap fun q => [.int .i64 q.A, .int .i64 q.B, .int .i64 q.W1, .int .i64 q.W2, .int .i64 q.W3]
theorem edgesV_length (Q : List EdgeI) : (edgesV Q).length = Q.length * 5 := by
  induction Q with
  | nil => rfl
  | cons q Q ih => simp [edgesV] at ih ⊢; omega
theorem edgesV_at (Q : List EdgeI) (k : Nat) (h : k < Q.length) : (edgesV Q)[k * 5]? = some (.int .i64 Q[k].A) ∧ (edgesV Q)[k * 5 + 1]? = some (.int .i64 Q[k].B) ∧ (edgesV Q)[k * 5 + 2]? = some (.int .i64 Q[k].W1) ∧ (edgesV Q)[k * 5 + 3]? = some (.int .i64 Q[k].W2) ∧ (edgesV Q)[k * 5 + 4]? = some (.int .i64 Q[k].W3) := by
  induction Q generalizing k with
  | nil => simp at h
  | cons q Q ih =>
    cases k with
    | zero => simp [edgesV]
    | succ k =>
      have := ih k (by simpa using h)
      have e : (k + 1) * 5 = k * 5 + 5 := by omega
      simpa [edgesV, e] using this
theorem edgesV_snoc (Q : List EdgeI) (x : EdgeI) : edgesV (Q ++ [x]) = edgesV Q ++ [.int .i64 x.A, .int .i64 x.B, .int .i64 x.W1, .int .i64 x.W2, .int .i64 x.W3] := by
  unfold edgesV; rw [List.flatMap_append]; rfl
theorem edgesAt.of_own {w : World} {B : Nat} {v : Value} {n : Nat} {Q : List EdgeI} (h : w.ownsRow B 106 5 v n (edgesV Q)) : ∃ a c, v = .slice a n c ∧ edgesAt w a n w.heap.size Q := by
  have hl : Q.length = n := by have := h.1; rw [edgesV_length] at this; omega
  rcases h.2 with ⟨rfl, h0⟩ | ⟨g, cap, cur, rfl, hg, hh, _⟩
  · subst h0
    exact ⟨none, 0, rfl, hl, fun j hj => by omega⟩
  · refine ⟨_, _, rfl, hl, fun j hj => ⟨g, 0, rfl, (h.lt g rfl).2, ?_, ?_, ?_, ?_, ?_⟩⟩
    · rw [Nat.zero_add, h.cellAt (j * 5) (by omega)]
      exact (edgesV_at Q j hj).1
    · rw [Nat.zero_add, h.cellAt (j * 5 + 1) (by omega)]
      exact (edgesV_at Q j hj).2.1
    · rw [Nat.zero_add, h.cellAt (j * 5 + 2) (by omega)]
      exact (edgesV_at Q j hj).2.2.1
    · rw [Nat.zero_add, h.cellAt (j * 5 + 3) (by omega)]
      exact (edgesV_at Q j hj).2.2.2.1
    · rw [Nat.zero_add, h.cellAt (j * 5 + 4) (by omega)]
      exact (edgesV_at Q j hj).2.2.2.2
theorem infoEdge : (Tryz.prog.info? 106).map (fun i => (i.zero, i.size, i.bytes)) = some (some (.agg #[.int .i64 0, .int .i64 0, .int .i64 0, .int .i64 0, .int .i64 0]), 5, 40) := by kernel_rfl
structure CoupleI where
  A : Int
  B : Int
deriving DecidableEq
def CoupleI.v (x : CoupleI) : Value := .agg #[.int .i64 x.A, .int .i64 x.B]
def CoupleI.zero : CoupleI := ⟨0, 0⟩
def couplesAt (w : World) (a : Option Addr) (len B : Nat) (Q : List CoupleI) : Prop :=
  Q.length = len ∧ ∀ j (h : j < Q.length), ∃ b off, a = some ⟨b, off, none⟩ ∧ b < B ∧ w.cell? ⟨b, off + j * 2, none⟩ = some (.int .i64 Q[j].A) ∧ w.cell? ⟨b, off + j * 2 + 1, none⟩ = some (.int .i64 Q[j].B)
theorem couplesAt.below {w w' : World} {a : Option Addr} {len B C : Nat} {Q : List CoupleI} (h : couplesAt w a len B Q) (hb : Below C w w') (hC : B ≤ C) : couplesAt w' a len B Q := by
  refine ⟨h.1, fun j hj => ?_⟩
  obtain ⟨b, off, e, hbB, c0, c1⟩ := h.2 j hj
  exact ⟨b, off, e, hbB, (by rw [hb.cell (p := ⟨b, off + j * 2, none⟩) (by simp; omega)]; exact c0), (by rw [hb.cell (p := ⟨b, off + j * 2 + 1, none⟩) (by simp; omega)]; exact c1)⟩
theorem couplesAt.mono {w : World} {a : Option Addr} {len B C : Nat} {Q : List CoupleI} (h : couplesAt w a len B Q) (hC : B ≤ C) : couplesAt w a len C Q := by
  refine ⟨h.1, fun j hj => ?_⟩
  obtain ⟨b, off, e, hbB, hc⟩ := h.2 j hj
  exact ⟨b, off, e, by omega, hc⟩
def couplesV (Q : List CoupleI) : List Value := Q.flatMap fun q => [.int .i64 q.A, .int .i64 q.B]
theorem couplesV_length (Q : List CoupleI) : (couplesV Q).length = Q.length * 2 := by
  induction Q with
  | nil => rfl
  | cons q Q ih => simp [couplesV] at ih ⊢; omega
theorem couplesV_at (Q : List CoupleI) (k : Nat) (h : k < Q.length) : (couplesV Q)[k * 2]? = some (.int .i64 Q[k].A) ∧ (couplesV Q)[k * 2 + 1]? = some (.int .i64 Q[k].B) := by
  induction Q generalizing k with
  | nil => simp at h
  | cons q Q ih =>
    cases k with
    | zero => simp [couplesV]
    | succ k =>
      have := ih k (by simpa using h)
      have e : (k + 1) * 2 = k * 2 + 2 := by omega
      simpa [couplesV, e] using this
theorem couplesV_snoc (Q : List CoupleI) (x : CoupleI) : couplesV (Q ++ [x]) = couplesV Q ++ [.int .i64 x.A, .int .i64 x.B] := by
  unfold couplesV; rw [List.flatMap_append]; rfl
theorem couplesAt.of_own {w : World} {B : Nat} {v : Value} {n : Nat} {Q : List CoupleI} (h : w.ownsRow B 162 2 v n (couplesV Q)) : ∃ a c, v = .slice a n c ∧ couplesAt w a n w.heap.size Q := by
  have hl : Q.length = n := by have := h.1; rw [couplesV_length] at this; omega
  rcases h.2 with ⟨rfl, h0⟩ | ⟨g, cap, cur, rfl, hg, hh, _⟩
  · subst h0
    exact ⟨none, 0, rfl, hl, fun j hj => by omega⟩
  · refine ⟨_, _, rfl, hl, fun j hj => ⟨g, 0, rfl, (h.lt g rfl).2, ?_, ?_⟩⟩
    · rw [Nat.zero_add, h.cellAt (j * 2) (by omega)]
      exact (couplesV_at Q j hj).1
    · rw [Nat.zero_add, h.cellAt (j * 2 + 1) (by omega)]
      exact (couplesV_at Q j hj).2
theorem infoCouple : (Tryz.prog.info? 162).map (fun i => (i.zero, i.size, i.bytes)) = some (some (.agg #[.int .i64 0, .int .i64 0]), 2, 16) := by kernel_rfl
def CoAt (w : World) (v : Value) (B : Nat) (K : List CoupleI) : Prop := ∃ a c, v = .slice a K.length c ∧ couplesAt w a K.length B K
def CoOwn (w : World) (B : Nat) (v : Value) (K : List CoupleI) : Prop := w.ownsRow B 162 2 v K.length (couplesV K)
def CoBlk (v : Value) (g : Nat) : Prop := v.ownBlock = some g
theorem CoAt.shape {w : World} {v : Value} {B : Nat} {K : List CoupleI} (h : CoAt w v B K) : ∃ a c, v = .slice a K.length c := by
  obtain ⟨a, c, rfl, _⟩ := h
  exact ⟨a, c, rfl⟩
theorem CoAt.below {w w' : World} {v : Value} {B C : Nat} {K : List CoupleI} (h : CoAt w v B K) (hb : Below C w w') (hC : B ≤ C) : CoAt w' v B K := by
  obtain ⟨a, c, rfl, hQ⟩ := h
  exact ⟨a, c, rfl, hQ.below hb hC⟩
theorem CoAt.mono {w : World} {v : Value} {B C : Nat} {K : List CoupleI} (h : CoAt w v B K) (hC : B ≤ C) : CoAt w v C K := by
  obtain ⟨a, c, rfl, hQ⟩ := h
  exact ⟨a, c, rfl, hQ.mono hC⟩
theorem CoOwn.at {w : World} {B : Nat} {v : Value} {K : List CoupleI} (h : CoOwn w B v K) : CoAt w v w.heap.size K := by
  obtain ⟨a, c, rfl, hQ⟩ := couplesAt.of_own h
  exact ⟨a, c, rfl, hQ⟩
theorem CoOwn.below {w w' : World} {B : Nat} {v : Value} {K : List CoupleI} (h : CoOwn w B v K) (hb : Below w.heap.size w w') : CoOwn w' B v K := own_below h hb
theorem CoOwn.lower {w : World} {B C : Nat} {v : Value} {K : List CoupleI} (h : CoOwn w B v K) (hC : C ≤ B) : CoOwn w C v K := own_lower hC h
theorem CoOwn.blk {w : World} {B : Nat} {v : Value} {K : List CoupleI} (h : CoOwn w B v K) : ∀ g, CoBlk v g → B ≤ g ∧ g < w.heap.size := fun g hg => World.ownsRow.lt h g hg
theorem CoOwn.kept {S : Nat → Prop} {w w' : World} {B : Nat} {v : Value} {K : List CoupleI} (h : CoOwn w B v K) (hk : Kept S w w') (hS : ∀ g, CoBlk v g → ¬ S g) : CoOwn w' B v K := hk.own h hS
structure SumsI where
  W1 : Int
  W2 : Int
  W3 : Int
deriving DecidableEq
def SumsI.v (x : SumsI) : Value := .agg #[.int .i64 x.W1, .int .i64 x.W2, .int .i64 x.W3]
def SumsI.zero : SumsI := ⟨0, 0, 0⟩
def sumsAt (w : World) (a : Option Addr) (len B : Nat) (Q : List SumsI) : Prop :=
  Q.length = len ∧ ∀ j (h : j < Q.length), ∃ b off, a = some ⟨b, off, none⟩ ∧ b < B ∧ w.cell? ⟨b, off + j * 3, none⟩ = some (.int .i64 Q[j].W1) ∧ w.cell? ⟨b, off + j * 3 + 1, none⟩ = some (.int .i64 Q[j].W2) ∧ w.cell? ⟨b, off + j * 3 + 2, none⟩ = some (.int .i64 Q[j].W3)
theorem sumsAt.below {w w' : World} {a : Option Addr} {len B C : Nat} {Q : List SumsI} (h : sumsAt w a len B Q) (hb : Below C w w') (hC : B ≤ C) : sumsAt w' a len B Q := by
  refine ⟨h.1, fun j hj => ?_⟩
  obtain ⟨b, off, e, hbB, c0, c1, c2⟩ := h.2 j hj
  exact ⟨b, off, e, hbB, (by rw [hb.cell (p := ⟨b, off + j * 3, none⟩) (by simp; omega)]; exact c0), (by rw [hb.cell (p := ⟨b, off + j * 3 + 1, none⟩) (by simp; omega)]; exact c1), (by rw [hb.cell (p := ⟨b, off + j * 3 + 2, none⟩) (by simp; omega)]; exact c2)⟩
theorem sumsAt.mono {w : World} {a : Option Addr} {len B C : Nat} {Q : List SumsI} (h : sumsAt w a len B Q) (hC : B ≤ C) : sumsAt w a len C Q := by
  refine ⟨h.1, fun j hj => ?_⟩
  obtain ⟨b, off, e, hbB, hc⟩ := h.2 j hj
  exact ⟨b, off, e, by omega, hc⟩
def SuAt (_w : World) (v : Value) (_B : Nat) (x : SumsI) : Prop := v = x.v
def SuOwn (_w : World) (_B : Nat) (v : Value) (x : SumsI) : Prop := v = x.v
theorem SuAt.shape {w : World} {v : Value} {B : Nat} {x : SumsI} (h : SuAt w v B x) : v = x.v := h
theorem SuAt.below {w w' : World} {v : Value} {B C : Nat} {x : SumsI} (h : SuAt w v B x) (_hb : Below C w w') (_hC : B ≤ C) : SuAt w' v B x := h
theorem SuAt.mono {w : World} {v : Value} {B C : Nat} {x : SumsI} (h : SuAt w v B x) (_hC : B ≤ C) : SuAt w v C x := h
theorem SuOwn.at {w : World} {B : Nat} {v : Value} {x : SumsI} (h : SuOwn w B v x) : SuAt w v w.heap.size x := h
theorem SuOwn.below {w w' : World} {B : Nat} {v : Value} {x : SumsI} (h : SuOwn w B v x) (_hb : Below w.heap.size w w') : SuOwn w' B v x := h
end Gr
end Go.Proofs.YtihnaddfpmjpaaaGreatDoor
namespace Go.Proofs.YtihnaddfpmjpaaaGreatDoor
namespace Gr
open Go.RowKit
def better (a b : SumsI) : Bool := if a.W1 ≠ b.W1 then decide (b.W1 < a.W1) else if a.W2 ≠ b.W2 then decide (b.W2 < a.W2) else decide (b.W3 < a.W3)
end Gr
end Go.Proofs.YtihnaddfpmjpaaaGreatDoor
namespace Go.Proofs.YtihnaddfpmjpaaaGreatDoor
namespace Gr
open Go.ChangeShapes Go.WideShapes Go.ChangeAt Go.RowKit
structure AskI where
  Op : Int
  A : Int
  B : Int
  W1 : Int
  W2 : Int
  W3 : Int
deriving DecidableEq
def AskI.v (x : AskI) : Value := .agg #[.int .i64 x.Op, .int .i64 x.A, .int .i64 x.B, .int .i64 x.W1, .int .i64 x.W2, .int .i64 x.W3]
def AskI.zero : AskI := ⟨0, 0, 0, 0, 0, 0⟩
def asksAt (w : World) (a : Option Addr) (len B : Nat) (Q : List AskI) : Prop :=
  Q.length = len ∧ ∀ j (h : j < Q.length), ∃ b off, a = some ⟨b, off, none⟩ ∧ b < B ∧ w.cell? ⟨b, off + j * 6, none⟩ = some (.int .i64 Q[j].Op) ∧ w.cell? ⟨b, off + j * 6 + 1, none⟩ = some (.int .i64 Q[j].A) ∧ w.cell? ⟨b, off + j * 6 + 2, none⟩ = some (.int .i64 Q[j].B) ∧ w.cell? ⟨b, off + j * 6 + 3, none⟩ = some (.int .i64 Q[j].W1) ∧ w.cell? ⟨b, off + j * 6 + 4, none⟩ = some (.int .i64 Q[j].W2) ∧ w.cell? ⟨b, off + j * 6 + 5, none⟩ = some (.int .i64 Q[j].W3)
theorem asksAt.below {w w' : World} {a : Option Addr} {len B C : Nat} {Q : List AskI} (h : asksAt w a len B Q) (hb : Below C w w') (hC : B ≤ C) : asksAt w' a len B Q := by
  refine ⟨h.1, fun j hj => ?_⟩
  obtain ⟨b, off, e, hbB, c0, c1, c2, c3, c4, c5⟩ := h.2 j hj
  exact ⟨b, off, e, hbB, (by rw [hb.cell (p := ⟨b, off + j * 6, none⟩) (by simp; omega)]; exact c0), (by rw [hb.cell (p := ⟨b, off + j * 6 + 1, none⟩) (by simp; omega)]; exact c1), (by rw [hb.cell (p := ⟨b, off + j * 6 + 2, none⟩) (by simp; omega)]; exact c2), (by rw [hb.cell (p := ⟨b, off + j * 6 + 3, none⟩) (by simp; omega)]; exact c3), (by rw [hb.cell (p := ⟨b, off + j * 6 + 4, none⟩) (by simp; omega)]; exact c4), (by rw [hb.cell (p := ⟨b, off + j * 6 + 5, none⟩) (by simp; omega)]; exact c5)⟩
theorem asksAt.mono {w : World} {a : Option Addr} {len B C : Nat} {Q : List AskI} (h : asksAt w a len B Q) (hC : B ≤ C) : asksAt w a len C Q := by
  refine ⟨h.1, fun j hj => ?_⟩
  obtain ⟨b, off, e, hbB, hc⟩ := h.2 j hj
  exact ⟨b, off, e, by omega, hc⟩
def asksV (Q : List AskI) : List Value := Q.flatMap fun q => [.int .i64 q.Op, .int .i64 q.A, .int .i64 q.B, .int .i64 q.W1, .int .i64 q.W2, .int .i64 q.W3]
theorem asksV_length (Q : List AskI) : (asksV Q).length = Q.length * 6 := by
  induction Q with
  | nil => rfl
  | cons q Q ih => simp [asksV] at ih ⊢; omega
theorem asksV_at (Q : List AskI) (k : Nat) (h : k < Q.length) : (asksV Q)[k * 6]? = some (.int .i64 Q[k].Op) ∧ (asksV Q)[k * 6 + 1]? = some (.int .i64 Q[k].A) ∧ (asksV Q)[k * 6 + 2]? = some (.int .i64 Q[k].B) ∧ (asksV Q)[k * 6 + 3]? = some (.int .i64 Q[k].W1) ∧ (asksV Q)[k * 6 + 4]? = some (.int .i64 Q[k].W2) ∧ (asksV Q)[k * 6 + 5]? = some (.int .i64 Q[k].W3) := by
  induction Q generalizing k with
  | nil => simp at h
  | cons q Q ih =>
    cases k with
    | zero => simp [asksV]
    | succ k =>
      have := ih k (by simpa using h)
      have e : (k + 1) * 6 = k * 6 + 6 := by omega
      simpa [asksV, e] using this
theorem asksV_set (Q : List AskI) (k : Nat) (h : k < Q.length) (x : AskI) : ((((((asksV Q).set (k * 6) (.int .i64 x.Op)).set (k * 6 + 1) (.int .i64 x.A)).set (k * 6 + 2) (.int .i64 x.B)).set (k * 6 + 3) (.int .i64 x.W1)).set (k * 6 + 4) (.int .i64 x.W2)).set (k * 6 + 5) (.int .i64 x.W3) = asksV (Q.set k x) := by
  induction Q generalizing k with
  | nil => simp at h
  | cons q Q ih =>
    cases k with
    | zero => simp [asksV]
    | succ k =>
      have := ih k (by simpa using h)
      have e : (k + 1) * 6 = k * 6 + 6 := by omega
      simpa [asksV, e] using this
theorem asksV_snoc (Q : List AskI) (x : AskI) : asksV (Q ++ [x]) = asksV Q ++ [.int .i64 x.Op, .int .i64 x.A, .int .i64 x.B, .int .i64 x.W1, .int .i64 x.W2, .int .i64 x.W3] := by
  unfold asksV; rw [List.flatMap_append]; rfl
theorem asksAt.of_own {w : World} {B : Nat} {v : Value} {n : Nat} {Q : List AskI} (h : w.ownsRow B 77 6 v n (asksV Q)) : ∃ a c, v = .slice a n c ∧ asksAt w a n w.heap.size Q := by
  have hl : Q.length = n := by have := h.1; rw [asksV_length] at this; omega
  rcases h.2 with ⟨rfl, h0⟩ | ⟨g, cap, cur, rfl, hg, hh, _⟩
  · subst h0
    exact ⟨none, 0, rfl, hl, fun j hj => by omega⟩
  · refine ⟨_, _, rfl, hl, fun j hj => ⟨g, 0, rfl, (h.lt g rfl).2, ?_, ?_, ?_, ?_, ?_, ?_⟩⟩
    · rw [Nat.zero_add, h.cellAt (j * 6) (by omega)]
      exact (asksV_at Q j hj).1
    · rw [Nat.zero_add, h.cellAt (j * 6 + 1) (by omega)]
      exact (asksV_at Q j hj).2.1
    · rw [Nat.zero_add, h.cellAt (j * 6 + 2) (by omega)]
      exact (asksV_at Q j hj).2.2.1
    · rw [Nat.zero_add, h.cellAt (j * 6 + 3) (by omega)]
      exact (asksV_at Q j hj).2.2.2.1
    · rw [Nat.zero_add, h.cellAt (j * 6 + 4) (by omega)]
      exact (asksV_at Q j hj).2.2.2.2.1
    · rw [Nat.zero_add, h.cellAt (j * 6 + 5) (by omega)]
      exact (asksV_at Q j hj).2.2.2.2.2
theorem infoAsk : (Tryz.prog.info? 77).map (fun i => (i.zero, i.size, i.bytes)) = some (some (.agg #[.int .i64 0, .int .i64 0, .int .i64 0, .int .i64 0, .int .i64 0, .int .i64 0]), 6, 48) := by kernel_rfl
set_option maxRecDepth 100000 in
theorem eqAsk_same (x : AskI) (w : World) :
    Calls Tryz.prog 67 #[x.v, x.v] w fun e w' => e = .returned (.bool true) ∧ Below w.heap.size w w' := by
  unfold AskI.v
  go_enter Tryz.func67, Tryz.ntmps67
  go_wp2
  go_ret
  exact ⟨rfl, ((Below.refl _ _).alloc (Nat.le_refl _) _).alloc (by simp) _⟩
set_option maxRecDepth 100000 in
set_option maxHeartbeats 2000000 in
theorem eqAskS_same (a a' : Option Addr) (len c c' B B' : Nat) (Q : List AskI) (hlen : len ≤ 1048576) (w : World) (hB : B ≤ w.heap.size) (hB' : B' ≤ w.heap.size) (hs : asksAt w a len B Q) (hs' : asksAt w a' len B' Q) :
    Calls Tryz.prog 32 #[.slice a len c, .slice a' len c'] w fun e w' => e = .returned (.bool true) ∧ Below w.heap.size w w' := by
  obtain ⟨hL, hc⟩ := hs
  obtain ⟨_, hc'⟩ := hs'
  have HC := hide hc
  have HC' := hide hc'
  have HL := hide hL
  clear hc hc' hL
  go_enter Tryz.func32, Tryz.ntmps32
  go_wp2_with fail
  go_loopw [5] (fun i wr => ∃ k : Nat, i = .int .i64 k ∧ k ≤ len ∧ Below w.heap.size w wr) (fun i _ => len - (intOf i).toNat)
  case atStart => exact ⟨0, rfl, Nat.zero_le _, Below.refl _ _⟩
  case round =>
    obtain ⟨k, rfl, hk, hb⟩ := hrel
    by_cases hlt : k < len
    · have hkL : k < Q.length := by have := unhide HL; omega
      obtain ⟨b, off, rfl, hbB, c0, c1, c2, c3, c4, c5⟩ := unhide HC k hkL
      obtain ⟨b', off', rfl, hbB', d0, d1, d2, d3, d4, d5⟩ := unhide HC' k hkL
      rw [← hb.cell (p := ⟨b, off + k * 6, none⟩) (by simp; omega)] at c0
      rw [← hb.cell (p := ⟨b', off' + k * 6, none⟩) (by simp; omega)] at d0
      rw [← hb.cell (p := ⟨b, off + k * 6 + 1, none⟩) (by simp; omega)] at c1
      rw [← hb.cell (p := ⟨b', off' + k * 6 + 1, none⟩) (by simp; omega)] at d1
      rw [← hb.cell (p := ⟨b, off + k * 6 + 2, none⟩) (by simp; omega)] at c2
      rw [← hb.cell (p := ⟨b', off' + k * 6 + 2, none⟩) (by simp; omega)] at d2
      rw [← hb.cell (p := ⟨b, off + k * 6 + 3, none⟩) (by simp; omega)] at c3
      rw [← hb.cell (p := ⟨b', off' + k * 6 + 3, none⟩) (by simp; omega)] at d3
      rw [← hb.cell (p := ⟨b, off + k * 6 + 4, none⟩) (by simp; omega)] at c4
      rw [← hb.cell (p := ⟨b', off' + k * 6 + 4, none⟩) (by simp; omega)] at d4
      rw [← hb.cell (p := ⟨b, off + k * 6 + 5, none⟩) (by simp; omega)] at c5
      rw [← hb.cell (p := ⟨b', off' + k * 6 + 5, none⟩) (by simp; omega)] at d5
      have hx0 : (0 : Int) ≤ (k : Int) := by omega
      have hx1 : (k : Int) < (len : Int) := by omega
      generalize Q[k] = q at c0 d0 c1 d1 c2 d2 c3 d3 c4 d4 c5 d5
      have HP := hide (fun w => eqAsk_same q w)
      obtain ⟨x0, x1, x2, x3, x4, x5⟩ := q
      simp only [AskI.v] at c0 d0 c1 d1 c2 d2 c3 d3 c4 d4 c5 d5 HP
      have hl := hb.size
      have hkl : b < wr.heap.size := by omega
      have hkl' : b' < wr.heap.size := by omega
      go_wp2_with fail
      go_region_held3 (fun u => u.cell? ⟨b, off + k * 6, none⟩ = some (.int .i64 x0) ∧ u.cell? ⟨b, off + k * 6 + 1, none⟩ = some (.int .i64 x1) ∧ u.cell? ⟨b, off + k * 6 + 2, none⟩ = some (.int .i64 x2) ∧ u.cell? ⟨b, off + k * 6 + 3, none⟩ = some (.int .i64 x3) ∧ u.cell? ⟨b, off + k * 6 + 4, none⟩ = some (.int .i64 x4) ∧ u.cell? ⟨b, off + k * 6 + 5, none⟩ = some (.int .i64 x5) ∧ u.cell? ⟨b', off' + k * 6, none⟩ = some (.int .i64 x0) ∧ u.cell? ⟨b', off' + k * 6 + 1, none⟩ = some (.int .i64 x1) ∧ u.cell? ⟨b', off' + k * 6 + 2, none⟩ = some (.int .i64 x2) ∧ u.cell? ⟨b', off' + k * 6 + 3, none⟩ = some (.int .i64 x3) ∧ u.cell? ⟨b', off' + k * 6 + 4, none⟩ = some (.int .i64 x4) ∧ u.cell? ⟨b', off' + k * 6 + 5, none⟩ = some (.int .i64 x5))
        (first | go_keep | exact ⟨(hb2.cell (p := ⟨b, off + k * 6, none⟩) hkl).trans c0, (hb2.cell (p := ⟨b, off + k * 6 + 1, none⟩) hkl).trans c1, (hb2.cell (p := ⟨b, off + k * 6 + 2, none⟩) hkl).trans c2, (hb2.cell (p := ⟨b, off + k * 6 + 3, none⟩) hkl).trans c3, (hb2.cell (p := ⟨b, off + k * 6 + 4, none⟩) hkl).trans c4, (hb2.cell (p := ⟨b, off + k * 6 + 5, none⟩) hkl).trans c5, (hb2.cell (p := ⟨b', off' + k * 6, none⟩) hkl').trans d0, (hb2.cell (p := ⟨b', off' + k * 6 + 1, none⟩) hkl').trans d1, (hb2.cell (p := ⟨b', off' + k * 6 + 2, none⟩) hkl').trans d2, (hb2.cell (p := ⟨b', off' + k * 6 + 3, none⟩) hkl').trans d3, (hb2.cell (p := ⟨b', off' + k * 6 + 4, none⟩) hkl').trans d4, (hb2.cell (p := ⟨b', off' + k * 6 + 5, none⟩) hkl').trans d5⟩)
        ((go_at_call 67; refine (unhide HP _).mono ?_; rintro e w2 ⟨rfl, hb2⟩))
      have hbe := hb.drew.trans (hb2.mono hb.size)
      clear hb2
      go_wp2
      go_roundw
      case rel => exact ⟨k + 1, by go_num, by omega, hbe⟩
      case measure => simp [intOf]; omega
    · go_wp2
      go_ret
      exact ⟨rfl, hb⟩
def marksAsk (k n : Nat) : List AskI := (List.range n).map fun i => ⟨((k + i * 6 : Nat) : Int), ((k + i * 6 + 1 : Nat) : Int), ((k + i * 6 + 2 : Nat) : Int), ((k + i * 6 + 3 : Nat) : Int), ((k + i * 6 + 4 : Nat) : Int), ((k + i * 6 + 5 : Nat) : Int)⟩
theorem marksAsk_length (k n : Nat) : (marksAsk k n).length = n := by simp [marksAsk]
theorem marksAsk_at (k n i : Nat) (h : i < (marksAsk k n).length) : (marksAsk k n)[i] = ⟨((k + i * 6 : Nat) : Int), ((k + i * 6 + 1 : Nat) : Int), ((k + i * 6 + 2 : Nat) : Int), ((k + i * 6 + 3 : Nat) : Int), ((k + i * 6 + 4 : Nat) : Int), ((k + i * 6 + 5 : Nat) : Int)⟩ := by simp [marksAsk]
set_option maxRecDepth 100000 in
set_option maxHeartbeats 2000000 in
theorem markAskS_any (v : Value) (B n k : Nat) (Q : List AskI) (h1 : k + n * 6 ≤ 100000000) (w : World) (ho : w.ownsRow B 77 6 v n (asksV Q)) :
    Calls Tryz.prog 33 #[v, .int .i64 (k : Int)] w fun e w' => e = .returned (.int .i64 ((k + n * 6 : Nat) : Int)) ∧ w'.ownsRow B 77 6 v n (asksV (marksAsk k n)) ∧ Kept (fun g => v.ownBlock = some g) w w' := by
  have hl : Q.length = n := by have := ho.1; rw [asksV_length] at this; omega
  obtain ⟨A, cap, rfl⟩ : ∃ A cap, v = .slice A n cap := by
    obtain ⟨a, c, e, _⟩ := asksAt.of_own ho
    exact ⟨a, c, e⟩
  have HO := hide ho
  have HL := hide hl
  clear ho hl
  go_enter Tryz.func33, Tryz.ntmps33
  go_wp2_with fail
  go_loopw [1, 5] (fun a1 a5 wr => ∃ j y : Nat, a5 = .int .i64 j ∧ j ≤ n ∧ y = k + j * 6 ∧ a1 = .int .i64 (y : Int) ∧ wr.ownsRow B 77 6 (.slice A n cap) n (asksV (over (marksAsk k n) Q j)) ∧ Kept (fun g => (Value.slice A n cap).ownBlock = some g) w wr) (fun _ a5 _ => n - (intOf a5).toNat)
  case atStart => exact ⟨0, k, rfl, Nat.zero_le _, rfl, rfl, by rw [over_zero]; exact unhide HO, Kept.refl _ _⟩
  case round =>
    obtain ⟨j, y, rfl, hj, hy, rfl, s0, hkp⟩ := hrel
    have HY := hide hy
    by_cases hlt : j < n
    · obtain ⟨g, cap', hA, hBg, hgl⟩ := s0.form (by omega)
      simp at hA
      obtain ⟨rfl, rfl⟩ := hA
      have hm := marksAsk_at k n j (by rw [marksAsk_length]; exact hlt)
      have hjL : j < Q.length := by have := unhide HL; omega
      have hset := over_set (marksAsk k n) Q j (by rw [marksAsk_length]; exact (unhide HL).symm) hjL
      rw [hm] at hset
      have hol : j < (over (marksAsk k n) Q j).length := by rw [over_length _ _ _ (by rw [marksAsk_length]; exact (unhide HL).symm) (by omega)]; exact hjL
      have hme : (⟨((k + j * 6 : Nat) : Int), ((k + j * 6 + 1 : Nat) : Int), ((k + j * 6 + 2 : Nat) : Int), ((k + j * 6 + 3 : Nat) : Int), ((k + j * 6 + 4 : Nat) : Int), ((k + j * 6 + 5 : Nat) : Int)⟩ : AskI) = ⟨(y : Int), (y : Int) + 1, (y : Int) + 1 + 1, (y : Int) + 1 + 1 + 1, (y : Int) + 1 + 1 + 1 + 1, (y : Int) + 1 + 1 + 1 + 1 + 1⟩ := by simp only [AskI.mk.injEq]; omega
      rw [hme] at hset
      have hps := asksV_set (over (marksAsk k n) Q j) j hol ⟨(y : Int), (y : Int) + 1, (y : Int) + 1 + 1, (y : Int) + 1 + 1 + 1, (y : Int) + 1 + 1 + 1 + 1, (y : Int) + 1 + 1 + 1 + 1 + 1⟩
      rw [hset] at hps
      have hx0 : (0 : Int) ≤ (j : Int) := by omega
      have hx1 : (j : Int) < (n : Int) := by omega
      generalize hZ : over (marksAsk k n) Q j = Z at s0 hol hps
      have hat := asksV_at Z j hol
      have e0 : (asksV Z)[j * 6]? = some (.int .i64 Z[j].Op) := by exact hat.1
      have e1 : ((asksV Z).set (j * 6) (.int .i64 ((y : Int))))[j * 6 + 1]? = some (.int .i64 Z[j].A) := by rw [List.getElem?_set_ne (by omega)]; exact hat.2.1
      have e2 : (((asksV Z).set (j * 6) (.int .i64 ((y : Int)))).set (j * 6 + 1) (.int .i64 ((y : Int) + 1)))[j * 6 + 2]? = some (.int .i64 Z[j].B) := by rw [List.getElem?_set_ne (by omega), List.getElem?_set_ne (by omega)]; exact hat.2.2.1
      have e3 : ((((asksV Z).set (j * 6) (.int .i64 ((y : Int)))).set (j * 6 + 1) (.int .i64 ((y : Int) + 1))).set (j * 6 + 2) (.int .i64 ((y : Int) + 1 + 1)))[j * 6 + 3]? = some (.int .i64 Z[j].W1) := by rw [List.getElem?_set_ne (by omega), List.getElem?_set_ne (by omega), List.getElem?_set_ne (by omega)]; exact hat.2.2.2.1
      have e4 : (((((asksV Z).set (j * 6) (.int .i64 ((y : Int)))).set (j * 6 + 1) (.int .i64 ((y : Int) + 1))).set (j * 6 + 2) (.int .i64 ((y : Int) + 1 + 1))).set (j * 6 + 3) (.int .i64 ((y : Int) + 1 + 1 + 1)))[j * 6 + 4]? = some (.int .i64 Z[j].W2) := by rw [List.getElem?_set_ne (by omega), List.getElem?_set_ne (by omega), List.getElem?_set_ne (by omega), List.getElem?_set_ne (by omega)]; exact hat.2.2.2.2.1
      have e5 : ((((((asksV Z).set (j * 6) (.int .i64 ((y : Int)))).set (j * 6 + 1) (.int .i64 ((y : Int) + 1))).set (j * 6 + 2) (.int .i64 ((y : Int) + 1 + 1))).set (j * 6 + 3) (.int .i64 ((y : Int) + 1 + 1 + 1))).set (j * 6 + 4) (.int .i64 ((y : Int) + 1 + 1 + 1 + 1)))[j * 6 + 5]? = some (.int .i64 Z[j].W3) := by rw [List.getElem?_set_ne (by omega), List.getElem?_set_ne (by omega), List.getElem?_set_ne (by omega), List.getElem?_set_ne (by omega), List.getElem?_set_ne (by omega)]; exact hat.2.2.2.2.2
      have hf0 := s0.frozenAt (j * 6)
      have hce0 := s0.cellAt (j * 6) (by omega)
      rw [e0] at hce0
      have s1 := (s0.stored (j * 6) (.int .i64 ((y : Int)))).1
      have hf1 := s1.frozenAt (j * 6 + 1)
      have hce1 := s1.cellAt (j * 6 + 1) (by omega)
      rw [e1] at hce1
      have s2 := (s1.stored (j * 6 + 1) (.int .i64 ((y : Int) + 1))).1
      have hf2 := s2.frozenAt (j * 6 + 2)
      have hce2 := s2.cellAt (j * 6 + 2) (by omega)
      rw [e2] at hce2
      have s3 := (s2.stored (j * 6 + 2) (.int .i64 ((y : Int) + 1 + 1))).1
      have hf3 := s3.frozenAt (j * 6 + 3)
      have hce3 := s3.cellAt (j * 6 + 3) (by omega)
      rw [e3] at hce3
      have s4 := (s3.stored (j * 6 + 3) (.int .i64 ((y : Int) + 1 + 1 + 1))).1
      have hf4 := s4.frozenAt (j * 6 + 4)
      have hce4 := s4.cellAt (j * 6 + 4) (by omega)
      rw [e4] at hce4
      have s5 := (s4.stored (j * 6 + 4) (.int .i64 ((y : Int) + 1 + 1 + 1 + 1))).1
      have hf5 := s5.frozenAt (j * 6 + 5)
      have hce5 := s5.cellAt (j * 6 + 5) (by omega)
      rw [e5] at hce5
      have s6 := (s5.stored (j * 6 + 5) (.int .i64 ((y : Int) + 1 + 1 + 1 + 1 + 1))).1
      rw [hps] at s6
      have HST := hide s6
      have HKP := hide ((((((hkp.trans (Kept.set _ g (j * 6) (.int .i64 ((y : Int))) rfl)).trans (Kept.set _ g (j * 6 + 1) (.int .i64 ((y : Int) + 1)) rfl)).trans (Kept.set _ g (j * 6 + 2) (.int .i64 ((y : Int) + 1 + 1)) rfl)).trans (Kept.set _ g (j * 6 + 3) (.int .i64 ((y : Int) + 1 + 1 + 1)) rfl)).trans (Kept.set _ g (j * 6 + 4) (.int .i64 ((y : Int) + 1 + 1 + 1 + 1)) rfl)).trans (Kept.set _ g (j * 6 + 5) (.int .i64 ((y : Int) + 1 + 1 + 1 + 1 + 1)) rfl))
      have hyl : (y : Int) ≤ 100000000 - 6 := by omega
      clear hm hme hset hat hps hy hZ HO hkp e0 e1 e2 e3 e4 e5 s0 s1 s2 s3 s4 s5
      generalize Z[j] = q at hce0 hce1 hce2 hce3 hce4 hce5
      go_wp2
      go_roundw
      case rel => exact ⟨j + 1, y + 6, by go_num, by omega, by have := unhide HY; omega, by go_num, unhide HST, unhide HKP⟩
      case measure => simp [intOf]; omega
    · obtain rfl : j = n := by omega
      have HW := hide s0
      clear s0 hy
      go_wp2
      go_ret
      refine ⟨by rw [← unhide HY]; rfl, ?_, hkp⟩
      have h := unhide HW
      have e := unhide HL
      have e2 := over_all (marksAsk k Q.length) Q (by rw [marksAsk_length])
      rw [e] at e2
      rw [e2] at h
      exact h
set_option maxRecDepth 100000 in
set_option maxHeartbeats 2000000 in
theorem heldAskS_any (A : Option Addr) (n cap B k : Nat) (h1 : k + n * 6 ≤ 100000000) (w : World) (hs : asksAt w A n B (marksAsk k n)) :
    Calls Tryz.prog 34 #[.slice A n cap, .int .i64 (k : Int)] w fun e w' => e = .returned (.int .i64 ((k + n * 6 : Nat) : Int)) ∧ w' = w := by
  have HC := hide hs.2
  clear hs
  go_enter Tryz.func34, Tryz.ntmps34
  go_wp2_with fail
  go_loop [1, 5] (fun a1 a5 => ∃ j y : Nat, a5 = .int .i64 j ∧ j ≤ n ∧ Hid (y = k + j * 6) ∧ y ≤ 100000000 ∧ a1 = .int .i64 (y : Int)) (fun _ a5 => n - (intOf a5).toNat)
  case atStart => exact ⟨0, k, rfl, Nat.zero_le _, rfl, by omega, rfl⟩
  case round =>
    obtain ⟨j, y, rfl, hj, HY, hyl, rfl⟩ := hrel
    by_cases hlt : j < n
    · have hjm : j < (marksAsk k n).length := by rw [marksAsk_length]; exact hlt
      obtain ⟨b, off, rfl, hbB, c0, c1, c2, c3, c4, c5⟩ := unhide HC j hjm
      have hy := unhide HY
      have hme : (⟨((k + j * 6 : Nat) : Int), ((k + j * 6 + 1 : Nat) : Int), ((k + j * 6 + 2 : Nat) : Int), ((k + j * 6 + 3 : Nat) : Int), ((k + j * 6 + 4 : Nat) : Int), ((k + j * 6 + 5 : Nat) : Int)⟩ : AskI) = ⟨(y : Int), (y : Int) + 1, (y : Int) + 1 + 1, (y : Int) + 1 + 1 + 1, (y : Int) + 1 + 1 + 1 + 1, (y : Int) + 1 + 1 + 1 + 1 + 1⟩ := by simp only [AskI.mk.injEq]; omega
      rw [marksAsk_at k n j hjm, hme] at c0 c1 c2 c3 c4 c5
      simp only at c0 c1 c2 c3 c4 c5
      have hy2 : (y : Int) ≤ 100000000 - 6 := by omega
      clear hy hme
      have hx0 : (0 : Int) ≤ (j : Int) := by omega
      have hx1 : (j : Int) < (n : Int) := by omega
      go_wp2
      go_round
      case rel => exact ⟨j + 1, y + 6, by go_num, by omega, by show _ = _; have := unhide HY; omega, by omega, by go_num⟩
      case measure => simp [intOf]; omega
    · obtain rfl : j = n := by omega
      go_wp2
      go_ret
      refine ⟨?_, rfl⟩
      have e := unhide HY
      subst e
      rfl
def AksAt (w : World) (v : Value) (B : Nat) (K : List AskI) : Prop := ∃ a c, v = .slice a K.length c ∧ asksAt w a K.length B K
def AksOwn (w : World) (B : Nat) (v : Value) (K : List AskI) : Prop := w.ownsRow B 77 6 v K.length (asksV K)
def AksBlk (v : Value) (g : Nat) : Prop := v.ownBlock = some g
theorem AksAt.shape {w : World} {v : Value} {B : Nat} {K : List AskI} (h : AksAt w v B K) : ∃ a c, v = .slice a K.length c := by
  obtain ⟨a, c, rfl, _⟩ := h
  exact ⟨a, c, rfl⟩
theorem AksAt.below {w w' : World} {v : Value} {B C : Nat} {K : List AskI} (h : AksAt w v B K) (hb : Below C w w') (hC : B ≤ C) : AksAt w' v B K := by
  obtain ⟨a, c, rfl, hQ⟩ := h
  exact ⟨a, c, rfl, hQ.below hb hC⟩
theorem AksAt.mono {w : World} {v : Value} {B C : Nat} {K : List AskI} (h : AksAt w v B K) (hC : B ≤ C) : AksAt w v C K := by
  obtain ⟨a, c, rfl, hQ⟩ := h
  exact ⟨a, c, rfl, hQ.mono hC⟩
theorem AksOwn.at {w : World} {B : Nat} {v : Value} {K : List AskI} (h : AksOwn w B v K) : AksAt w v w.heap.size K := by
  obtain ⟨a, c, rfl, hQ⟩ := asksAt.of_own h
  exact ⟨a, c, rfl, hQ⟩
theorem AksOwn.below {w w' : World} {B : Nat} {v : Value} {K : List AskI} (h : AksOwn w B v K) (hb : Below w.heap.size w w') : AksOwn w' B v K := own_below h hb
theorem AksOwn.lower {w : World} {B C : Nat} {v : Value} {K : List AskI} (h : AksOwn w B v K) (hC : C ≤ B) : AksOwn w C v K := own_lower hC h
theorem AksOwn.blk {w : World} {B : Nat} {v : Value} {K : List AskI} (h : AksOwn w B v K) : ∀ g, AksBlk v g → B ≤ g ∧ g < w.heap.size := fun g hg => World.ownsRow.lt h g hg
theorem AksOwn.kept {S : Nat → Prop} {w w' : World} {B : Nat} {v : Value} {K : List AskI} (h : AksOwn w B v K) (hk : Kept S w w') (hS : ∀ g, AksBlk v g → ¬ S g) : AksOwn w' B v K := hk.own h hS
theorem eqAskS_gen (v u : Value) (B B' : Nat) (K : List AskI) (h1 : K.length ≤ 1048576) (w : World) (hB : B ≤ w.heap.size) (hB' : B' ≤ w.heap.size) (hv : AksAt w v B K) (hu : AksAt w u B' K) :
    Calls Tryz.prog 32 #[v, u] w fun e w' => e = .returned (.bool true) ∧ Below w.heap.size w w' := by
  obtain ⟨a, c, rfl, hQ⟩ := hv
  obtain ⟨a', c', rfl, hQ'⟩ := hu
  exact eqAskS_same a a' K.length c c' B B' K h1 w hB hB' hQ hQ'
theorem markAskS_gen (v : Value) (B k : Nat) (K : List AskI) (h1 : k + K.length * 6 ≤ 100000000) (w : World) (ho : AksOwn w B v K) :
    Calls Tryz.prog 33 #[v, .int .i64 (k : Int)] w fun e w' => e = .returned (.int .i64 ((k + K.length * 6 : Nat) : Int)) ∧ AksOwn w' B v (marksAsk k K.length) ∧ Kept (AksBlk v) w w' := by
  refine (markAskS_any v B K.length k K h1 w ho).mono ?_
  rintro e w' ⟨rfl, ho', hk⟩
  refine ⟨rfl, ?_, hk⟩
  unfold AksOwn
  rw [marksAsk_length]
  exact ho'
theorem heldAskS_gen (v : Value) (B k n : Nat) (h1 : k + n * 6 ≤ 100000000) (w : World) (_hB : B ≤ w.heap.size) (hv : AksAt w v B (marksAsk k n)) :
    Calls Tryz.prog 34 #[v, .int .i64 (k : Int)] w fun e w' => e = .returned (.int .i64 ((k + n * 6 : Nat) : Int)) ∧ Below w.heap.size w w' := by
  obtain ⟨a, c, rfl, hQ⟩ := hv
  rw [marksAsk_length] at hQ ⊢
  refine (heldAskS_any a n c B k h1 w hQ).mono ?_
  rintro e w' ⟨rfl, rfl⟩
  exact ⟨rfl, Below.refl _ _⟩
end Gr
end Go.Proofs.YtihnaddfpmjpaaaGreatDoor
