/-
 GrEdge, GrEdgeM, GrEdgeO, GrCouple, GrCoupleM, GrCoupleO, GrKCoupleS, GrSums, GrSumsM, GrSumsO, GrKSums, GrBetter.
-/
import Derived.Test.YtkjclkelnheheaaJ2
import Derived.Deep.RegionHeld3
import Derived.Lib.SmallJoins
import Derived.Deep.Slices
namespace Go.Proofs.Ytkjclkelnheheaa
namespace Gr
open Go.ChangeShapes Go.WideShapes Go.ChangeAt Go.RowKit
structure EdgeI where
  A : Int
  B : Int
  W1 : Int
  W2 : Int
  W3 : Int
deriving DecidableEq
def EdgeI.v (x : EdgeI) : Value := .agg #[.int .i64 x.A, .int .i64 x.B, .int .i64 x.W1, .int .i64 x.W2, .int .i64 x.W3]
def EdgeI.zero : EdgeI := ⟨0, 0, 0, 0, 0⟩
def edgesAt (w : World) (a : Option Addr) (len B : Nat) (Q : List EdgeI) : Prop :=
  Q.length = len ∧ ∀ j (h : j < Q.length), ∃ b off, a = some ⟨b, off, none⟩ ∧ b < B ∧ w.cell? ⟨b, off + j * 5, none⟩ = some (.int .i64 Q[j].A) ∧ w.cell? ⟨b, off + j * 5 + 1, none⟩ = some (.int .i64 Q[j].B) ∧ w.cell? ⟨b, off + j * 5 + 2, none⟩ = some (.int .i64 Q[j].W1) ∧ w.cell? ⟨b, off + j * 5 + 3, none⟩ = some (.int .i64 Q[j].W2) ∧ w.cell? ⟨b, off + j * 5 + 4, none⟩ = some (.int .i64 Q[j].W3)
theorem edgesAt.below {w w' : World} {a : Option Addr} {len B C : Nat} {Q : List EdgeI} (h : edgesAt w a len B Q) (hb : Below C w w') (hC : B ≤ C) : edgesAt w' a len B Q := by
  refine ⟨h.1, fun j hj => ?_⟩
  obtain ⟨b, off, e, hbB, c0, c1, c2, c3, c4⟩ := h.2 j hj
  exact ⟨b, off, e, hbB, (by rw [hb.cell (p := ⟨b, off + j * 5, none⟩) (by simp; omega)]; exact c0), (by rw [hb.cell (p := ⟨b, off + j * 5 + 1, none⟩) (by simp; omega)]; exact c1), (by rw [hb.cell (p := ⟨b, off + j * 5 + 2, none⟩) (by simp; omega)]; exact c2), (by rw [hb.cell (p := ⟨b, off + j * 5 + 3, none⟩) (by simp; omega)]; exact c3), (by rw [hb.cell (p := ⟨b, off + j * 5 + 4, none⟩) (by simp; omega)]; exact c4)⟩
theorem edgesAt.mono {w : World} {a : Option Addr} {len B C : Nat} {Q : List EdgeI} (h : edgesAt w a len B Q) (hC : B ≤ C) : edgesAt w a len C Q := by
  refine ⟨h.1, fun j hj => ?_⟩
  obtain ⟨b, off, e, hbB, hc⟩ := h.2 j hj
  exact ⟨b, off, e, by omega, hc⟩
def edgesV (Q : List EdgeI) : List Value := Q.flatMap fun q => [.int .i64 q.A, .int .i64 q.B, .int .i64 q.W1, .int .i64 q.W2, .int .i64 q.W3]
theorem edgesV_length (Q : List EdgeI) : (edgesV Q).length = Q.length * 5 := by
  induction Q with
  | nil => rfl
  | cons q Q ih => simp [edgesV] at ih ⊢; omega
theorem edgesV_at (Q : List EdgeI) (k : Nat) (h : k < Q.length) : (edgesV Q)[k * 5]? = some (.int .i64 Q[k].A) ∧ (edgesV Q)[k * 5 + 1]? = some (.int .i64 Q[k].B) ∧ (edgesV Q)[k * 5 + 2]? = some (.int .i64 Q[k].W1) ∧ (edgesV Q)[k * 5 + 3]? = some (.int .i64 Q[k].W2) ∧ (edgesV Q)[k * 5 + 4]? = some (.int .i64 Q[k].W3) := by
  induction Q generalizing k with
  | nil => simp at h
  | cons q Q ih =>
    cases k with
    | zero => simp [edgesV]
    | succ k =>
      have := ih k (by simpa using h)
      have e : (k + 1) * 5 = k * 5 + 5 := by omega
      simpa [edgesV, e] using this
theorem edgesV_snoc (Q : List EdgeI) (x : EdgeI) : edgesV (Q ++ [x]) = edgesV Q ++ [.int .i64 x.A, .int .i64 x.B, .int .i64 x.W1, .int .i64 x.W2, .int .i64 x.W3] := by
  unfold edgesV; rw [List.flatMap_append]; rfl
theorem edgesAt.of_own {w : World} {B : Nat} {v : Value} {n : Nat} {Q : List EdgeI} (h : w.ownsRow B 68 5 v n (edgesV Q)) : ∃ a c, v = .slice a n c ∧ edgesAt w a n w.heap.size Q := by
  have hl : Q.length = n := by have := h.1; rw [edgesV_length] at this; omega
  rcases h.2 with ⟨rfl, h0⟩ | ⟨g, cap, cur, rfl, hg, hh, _⟩
  · subst h0
    exact ⟨none, 0, rfl, hl, fun j hj => by omega⟩
  · refine ⟨_, _, rfl, hl, fun j hj => ⟨g, 0, rfl, (h.lt g rfl).2, ?_, ?_, ?_, ?_, ?_⟩⟩
    · rw [Nat.zero_add, h.cellAt (j * 5) (by omega)]
      exact (edgesV_at Q j hj).1
    · rw [Nat.zero_add, h.cellAt (j * 5 + 1) (by omega)]
      exact (edgesV_at Q j hj).2.1
    · rw [Nat.zero_add, h.cellAt (j * 5 + 2) (by omega)]
      exact (edgesV_at Q j hj).2.2.1
    · rw [Nat.zero_add, h.cellAt (j * 5 + 3) (by omega)]
      exact (edgesV_at Q j hj).2.2.2.1
    · rw [Nat.zero_add, h.cellAt (j * 5 + 4) (by omega)]
      exact (edgesV_at Q j hj).2.2.2.2
theorem infoEdge : (Try.prog.info? 68).map (fun i => (i.zero, i.size, i.bytes)) = some (some (.agg #[.int .i64 0, .int .i64 0, .int .i64 0, .int .i64 0, .int .i64 0]), 5, 40) := by kernel_rfl
structure CoupleI where
  A : Int
  B : Int
deriving DecidableEq
def CoupleI.v (x : CoupleI) : Value := .agg #[.int .i64 x.A, .int .i64 x.B]
def CoupleI.zero : CoupleI := ⟨0, 0⟩
def couplesAt (w : World) (a : Option Addr) (len B : Nat) (Q : List CoupleI) : Prop :=
  Q.length = len ∧ ∀ j (h : j < Q.length), ∃ b off, a = some ⟨b, off, none⟩ ∧ b < B ∧ w.cell? ⟨b, off + j * 2, none⟩ = some (.int .i64 Q[j].A) ∧ w.cell? ⟨b, off + j * 2 + 1, none⟩ = some (.int .i64 Q[j].B)
theorem couplesAt.below {w w' : World} {a : Option Addr} {len B C : Nat} {Q : List CoupleI} (h : couplesAt w a len B Q) (hb : Below C w w') (hC : B ≤ C) : couplesAt w' a len B Q := by
  refine ⟨h.1, fun j hj => ?_⟩
  obtain ⟨b, off, e, hbB, c0, c1⟩ := h.2 j hj
  exact ⟨b, off, e, hbB, (by rw [hb.cell (p := ⟨b, off + j * 2, none⟩) (by simp; omega)]; exact c0), (by rw [hb.cell (p := ⟨b, off + j * 2 + 1, none⟩) (by simp; omega)]; exact c1)⟩
theorem couplesAt.mono {w : World} {a : Option Addr} {len B C : Nat} {Q : List CoupleI} (h : couplesAt w a len B Q) (hC : B ≤ C) : couplesAt w a len C Q := by
  refine ⟨h.1, fun j hj => ?_⟩
  obtain ⟨b, off, e, hbB, hc⟩ := h.2 j hj
  exact ⟨b, off, e, by omega, hc⟩
def couplesV (Q : List CoupleI) : List Value := Q.flatMap fun q => [.int .i64 q.A, .int .i64 q.B]
theorem couplesV_length (Q : List CoupleI) : (couplesV Q).length = Q.length * 2 := by
  induction Q with
  | nil => rfl
  | cons q Q ih => simp [couplesV] at ih ⊢; omega
theorem couplesV_at (Q : List CoupleI) (k : Nat) (h : k < Q.length) : (couplesV Q)[k * 2]? = some (.int .i64 Q[k].A) ∧ (couplesV Q)[k * 2 + 1]? = some (.int .i64 Q[k].B) := by
  induction Q generalizing k with
  | nil => simp at h
  | cons q Q ih =>
    cases k with
    | zero => simp [couplesV]
    | succ k =>
      have := ih k (by simpa using h)
      have e : (k + 1) * 2 = k * 2 + 2 := by omega
      simpa [couplesV, e] using this
theorem couplesV_snoc (Q : List CoupleI) (x : CoupleI) : couplesV (Q ++ [x]) = couplesV Q ++ [.int .i64 x.A, .int .i64 x.B] := by
  unfold couplesV; rw [List.flatMap_append]; rfl
theorem couplesAt.of_own {w : World} {B : Nat} {v : Value} {n : Nat} {Q : List CoupleI} (h : w.ownsRow B 85 2 v n (couplesV Q)) : ∃ a c, v = .slice a n c ∧ couplesAt w a n w.heap.size Q := by
  have hl : Q.length = n := by have := h.1; rw [couplesV_length] at this; omega
  rcases h.2 with ⟨rfl, h0⟩ | ⟨g, cap, cur, rfl, hg, hh, _⟩
  · subst h0
    exact ⟨none, 0, rfl, hl, fun j hj => by omega⟩
  · refine ⟨_, _, rfl, hl, fun j hj => ⟨g, 0, rfl, (h.lt g rfl).2, ?_, ?_⟩⟩
    · rw [Nat.zero_add, h.cellAt (j * 2) (by omega)]
      exact (couplesV_at Q j hj).1
    · rw [Nat.zero_add, h.cellAt (j * 2 + 1) (by omega)]
      exact (couplesV_at Q j hj).2
theorem infoCouple : (Try.prog.info? 85).map (fun i => (i.zero, i.size, i.bytes)) = some (some (.agg #[.int .i64 0, .int .i64 0]), 2, 16) := by kernel_rfl
def CoAt (w : World) (v : Value) (B : Nat) (K : List CoupleI) : Prop := ∃ a c, v = .slice a K.length c ∧ couplesAt w a K.length B K
def CoOwn (w : World) (B : Nat) (v : Value) (K : List CoupleI) : Prop := w.ownsRow B 85 2 v K.length (couplesV K)
def CoBlk (v : Value) (g : Nat) : Prop := v.ownBlock = some g
theorem CoAt.shape {w : World} {v : Value} {B : Nat} {K : List CoupleI} (h : CoAt w v B K) : ∃ a c, v = .slice a K.length c := by
  obtain ⟨a, c, rfl, _⟩ := h
  exact ⟨a, c, rfl⟩
theorem CoAt.below {w w' : World} {v : Value} {B C : Nat} {K : List CoupleI} (h : CoAt w v B K) (hb : Below C w w') (hC : B ≤ C) : CoAt w' v B K := by
  obtain ⟨a, c, rfl, hQ⟩ := h
  exact ⟨a, c, rfl, hQ.below hb hC⟩
theorem CoAt.mono {w : World} {v : Value} {B C : Nat} {K : List CoupleI} (h : CoAt w v B K) (hC : B ≤ C) : CoAt w v C K := by
  obtain ⟨a, c, rfl, hQ⟩ := h
  exact ⟨a, c, rfl, hQ.mono hC⟩
theorem CoOwn.at {w : World} {B : Nat} {v : Value} {K : List CoupleI} (h : CoOwn w B v K) : CoAt w v w.heap.size K := by
  obtain ⟨a, c, rfl, hQ⟩ := couplesAt.of_own h
  exact ⟨a, c, rfl, hQ⟩
theorem CoOwn.below {w w' : World} {B : Nat} {v : Value} {K : List CoupleI} (h : CoOwn w B v K) (hb : Below w.heap.size w w') : CoOwn w' B v K := own_below h hb
theorem CoOwn.lower {w : World} {B C : Nat} {v : Value} {K : List CoupleI} (h : CoOwn w B v K) (hC : C ≤ B) : CoOwn w C v K := own_lower hC h
theorem CoOwn.blk {w : World} {B : Nat} {v : Value} {K : List CoupleI} (h : CoOwn w B v K) : ∀ g, CoBlk v g → B ≤ g ∧ g < w.heap.size := fun g hg => World.ownsRow.lt h g hg
theorem CoOwn.kept {S : Nat → Prop} {w w' : World} {B : Nat} {v : Value} {K : List CoupleI} (h : CoOwn w B v K) (hk : Kept S w w') (hS : ∀ g, CoBlk v g → ¬ S g) : CoOwn w' B v K := hk.own h hS
structure SumsI where
  W1 : Int
  W2 : Int
  W3 : Int
deriving DecidableEq
def SumsI.v (x : SumsI) : Value := .agg #[.int .i64 x.W1, .int .i64 x.W2, .int .i64 x.W3]
def SumsI.zero : SumsI := ⟨0, 0, 0⟩
def sumsAt (w : World) (a : Option Addr) (len B : Nat) (Q : List SumsI) : Prop :=
  Q.length = len ∧ ∀ j (h : j < Q.length), ∃ b off, a = some ⟨b, off, none⟩ ∧ b < B ∧ w.cell? ⟨b, off + j * 3, none⟩ = some (.int .i64 Q[j].W1) ∧ w.cell? ⟨b, off + j * 3 + 1, none⟩ = some (.int .i64 Q[j].W2) ∧ w.cell? ⟨b, off + j * 3 + 2, none⟩ = some (.int .i64 Q[j].W3)
theorem sumsAt.below {w w' : World} {a : Option Addr} {len B C : Nat} {Q : List SumsI} (h : sumsAt w a len B Q) (hb : Below C w w') (hC : B ≤ C) : sumsAt w' a len B Q := by
  refine ⟨h.1, fun j hj => ?_⟩
  obtain ⟨b, off, e, hbB, c0, c1, c2⟩ := h.2 j hj
  exact ⟨b, off, e, hbB, (by rw [hb.cell (p := ⟨b, off + j * 3, none⟩) (by simp; omega)]; exact c0), (by rw [hb.cell (p := ⟨b, off + j * 3 + 1, none⟩) (by simp; omega)]; exact c1), (by rw [hb.cell (p := ⟨b, off + j * 3 + 2, none⟩) (by simp; omega)]; exact c2)⟩
theorem sumsAt.mono {w : World} {a : Option Addr} {len B C : Nat} {Q : List SumsI} (h : sumsAt w a len B Q) (hC : B ≤ C) : sumsAt w a len C Q := by
  refine ⟨h.1, fun j hj => ?_⟩
  obtain ⟨b, off, e, hbB, hc⟩ := h.2 j hj
  exact ⟨b, off, e, by omega, hc⟩
def sumsV (Q : List SumsI) : List Value := Q.flatMap fun q => [.int .i64 q.W1, .int .i64 q.W2, .int .i64 q.W3]
theorem sumsV_length (Q : List SumsI) : (sumsV Q).length = Q.length * 3 := by
  induction Q with
  | nil => rfl
  | cons q Q ih => simp [sumsV] at ih ⊢; omega
theorem sumsV_at (Q : List SumsI) (k : Nat) (h : k < Q.length) : (sumsV Q)[k * 3]? = some (.int .i64 Q[k].W1) ∧ (sumsV Q)[k * 3 + 1]? = some (.int .i64 Q[k].W2) ∧ (sumsV Q)[k * 3 + 2]? = some (.int .i64 Q[k].W3) := by
  induction Q generalizing k with
  | nil => simp at h
  | cons q Q ih =>
    cases k with
    | zero => simp [sumsV]
    | succ k =>
      have := ih k (by simpa using h)
      have e : (k + 1) * 3 = k * 3 + 3 := by omega
      simpa [sumsV, e] using this
theorem sumsAt.of_own {w : World} {B : Nat} {v : Value} {n : Nat} {Q : List SumsI} (h : w.ownsRow B 36 3 v n (sumsV Q)) : ∃ a c, v = .slice a n c ∧ sumsAt w a n w.heap.size Q := by
  have hl : Q.length = n := by have := h.1; rw [sumsV_length] at this; omega
  rcases h.2 with ⟨rfl, h0⟩ | ⟨g, cap, cur, rfl, hg, hh, _⟩
  · subst h0
    exact ⟨none, 0, rfl, hl, fun j hj => by omega⟩
  · refine ⟨_, _, rfl, hl, fun j hj => ⟨g, 0, rfl, (h.lt g rfl).2, ?_, ?_, ?_⟩⟩
    · rw [Nat.zero_add, h.cellAt (j * 3) (by omega)]
      exact (sumsV_at Q j hj).1
    · rw [Nat.zero_add, h.cellAt (j * 3 + 1) (by omega)]
      exact (sumsV_at Q j hj).2.1
    · rw [Nat.zero_add, h.cellAt (j * 3 + 2) (by omega)]
      exact (sumsV_at Q j hj).2.2
def SuAt (_w : World) (v : Value) (_B : Nat) (x : SumsI) : Prop := v = x.v
def SuOwn (_w : World) (_B : Nat) (v : Value) (x : SumsI) : Prop := v = x.v
theorem SuAt.shape {w : World} {v : Value} {B : Nat} {x : SumsI} (h : SuAt w v B x) : v = x.v := h
theorem SuAt.below {w w' : World} {v : Value} {B C : Nat} {x : SumsI} (h : SuAt w v B x) (_hb : Below C w w') (_hC : B ≤ C) : SuAt w' v B x := h
theorem SuAt.mono {w : World} {v : Value} {B C : Nat} {x : SumsI} (h : SuAt w v B x) (_hC : B ≤ C) : SuAt w v C x := h
theorem SuOwn.at {w : World} {B : Nat} {v : Value} {x : SumsI} (h : SuOwn w B v x) : SuAt w v w.heap.size x := h
theorem SuOwn.below {w w' : World} {B : Nat} {v : Value} {x : SumsI} (h : SuOwn w B v x) (_hb : Below w.heap.size w w') : SuOwn w' B v x := h
end Gr
end Go.Proofs.Ytkjclkelnheheaa
namespace Go.Proofs.Ytkjclkelnheheaa
namespace Gr
open Go.RowKit
def better (a b : SumsI) : Bool := if a.W1 ≠ b.W1 then decide (b.W1 < a.W1) else if a.W2 ≠ b.W2 then decide (b.W2 < a.W2) else decide (b.W3 < a.W3)
end Gr
end Go.Proofs.Ytkjclkelnheheaa
