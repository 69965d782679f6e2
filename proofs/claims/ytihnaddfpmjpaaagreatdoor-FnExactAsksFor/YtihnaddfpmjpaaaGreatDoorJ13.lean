/-
 GrKinds, GrStrS.
-/
import Derived.Test.YtihnaddfpmjpaaaGreatDoorJ8
import Derived.Test.YtihnaddfpmjpaaaGreatDoorJ11
import Derived.Test.YtihnaddfpmjpaaaGreatDoorJ2
namespace Go.Proofs.YtihnaddfpmjpaaaGreatDoor
namespace Gr
open Go.ChangeShapes Go.WideShapes Go.ChangeAt Go.RowKit
theorem GrAt.shape {w : World} {v : Value} {B : Nat} {s : Int} {Q : List EdgeI} (h : GrAt w v B s Q) : ∃ a c, v = .agg #[.int .i64 s, .slice a Q.length c] := by
  obtain ⟨a, n, c, rfl, hE⟩ := h
  exact ⟨a, c, by rw [hE.1]⟩
def EdAt (_w : World) (v : Value) (_B : Nat) (x : EdgeI) : Prop := v = x.v
def EdOwn (_w : World) (_B : Nat) (v : Value) (x : EdgeI) : Prop := v = x.v
theorem EdAt.shape {w : World} {v : Value} {B : Nat} {x : EdgeI} (h : EdAt w v B x) : v = .agg #[.int .i64 x.A, .int .i64 x.B, .int .i64 x.W1, .int .i64 x.W2, .int .i64 x.W3] := h
theorem EdAt.below {w w' : World} {v : Value} {B C : Nat} {x : EdgeI} (h : EdAt w v B x) (_hb : Below C w w') (_hC : B ≤ C) : EdAt w' v B x := h
theorem EdAt.mono {w : World} {v : Value} {B C : Nat} {x : EdgeI} (h : EdAt w v B x) (_hC : B ≤ C) : EdAt w v C x := h
theorem EdOwn.at {w : World} {B : Nat} {v : Value} {x : EdgeI} (h : EdOwn w B v x) : EdAt w v w.heap.size x := h
theorem EdOwn.below {w w' : World} {B : Nat} {v : Value} {x : EdgeI} (h : EdOwn w B v x) (_hb : Below w.heap.size w w') : EdOwn w' B v x := h
end Gr
end Go.Proofs.YtihnaddfpmjpaaaGreatDoor
namespace Go.Proofs.YtihnaddfpmjpaaaGreatDoor
namespace Gr
open Go.RowKit
def textsV (L : List ByteArray) : List Value := L.map Value.string
def textsAt (w : World) (a : Option Addr) (len B : Nat) (L : List ByteArray) : Prop :=
  L.length = len ∧ ∀ j (h : j < L.length), ∃ b off, a = some ⟨b, off, none⟩ ∧ b < B ∧ w.cell? ⟨b, off + j, none⟩ = some (.string L[j])
def StAt (w : World) (v : Value) (B : Nat) (L : List ByteArray) : Prop := ∃ a c, v = .slice a L.length c ∧ textsAt w a L.length B L
def StOwn (w : World) (B : Nat) (v : Value) (L : List ByteArray) : Prop := w.ownsRow B 9 1 v L.length (textsV L)
def StBlk (v : Value) (g : Nat) : Prop := v.ownBlock = some g
theorem textsAt.below {w w' : World} {a : Option Addr} {len B C : Nat} {L : List ByteArray} (h : textsAt w a len B L) (hb : Below C w w') (hC : B ≤ C) : textsAt w' a len B L := by
  refine ⟨h.1, fun j hj => ?_⟩
  obtain ⟨b, off, e, hbB, c0⟩ := h.2 j hj
  exact ⟨b, off, e, hbB, by rw [hb.cell (p := ⟨b, off + j, none⟩) (by simp; omega)]; exact c0⟩
theorem StAt.shape {w : World} {v : Value} {B : Nat} {L : List ByteArray} (h : StAt w v B L) : ∃ a c, v = .slice a L.length c := by
  obtain ⟨a, c, rfl, _⟩ := h
  exact ⟨a, c, rfl⟩
theorem StAt.below {w w' : World} {v : Value} {B C : Nat} {L : List ByteArray} (h : StAt w v B L) (hb : Below C w w') (hC : B ≤ C) : StAt w' v B L := by
  obtain ⟨a, c, rfl, hQ⟩ := h
  exact ⟨a, c, rfl, hQ.below hb hC⟩
theorem StAt.mono {w : World} {v : Value} {B C : Nat} {L : List ByteArray} (h : StAt w v B L) (hC : B ≤ C) : StAt w v C L := by
  obtain ⟨a, c, rfl, h1, h2⟩ := h
  refine ⟨a, c, rfl, h1, fun j hj => ?_⟩
  obtain ⟨b, off, e, hb, hc⟩ := h2 j hj
  exact ⟨b, off, e, by omega, hc⟩
theorem StOwn.at {w : World} {B : Nat} {v : Value} {L : List ByteArray} (h : StOwn w B v L) : StAt w v w.heap.size L := by
  rcases h.2 with ⟨rfl, h0⟩ | ⟨g, cap, cur, rfl, hg, hh, _⟩
  · have hl : L = [] := by cases L with | nil => rfl | cons x r => simp at h0
    subst hl
    exact ⟨none, 0, rfl, rfl, fun j hj => by simp at hj⟩
  · refine ⟨some ⟨g, 0, none⟩, cap, rfl, rfl, fun j hj => ?_⟩
    have hlt : g < w.heap.size := by
      rcases Nat.lt_or_ge g w.heap.size with h1 | h1
      · exact h1
      · rw [Array.getElem?_eq_none h1] at hh; cases hh
    refine ⟨g, 0, rfl, hlt, ?_⟩
    have := World.ownsRow.cellAt h j (by omega)
    rw [Nat.zero_add]
    rw [this]
    simp [textsV, hj]
theorem StOwn.below {w w' : World} {B : Nat} {v : Value} {L : List ByteArray} (h : StOwn w B v L) (hb : Below w.heap.size w w') : StOwn w' B v L := own_below h hb
theorem StOwn.lower {w : World} {B C : Nat} {v : Value} {L : List ByteArray} (h : StOwn w B v L) (hC : C ≤ B) : StOwn w C v L := own_lower hC h
theorem StOwn.blk {w : World} {B : Nat} {v : Value} {L : List ByteArray} (h : StOwn w B v L) : ∀ g, StBlk v g → B ≤ g ∧ g < w.heap.size := fun g hg => World.ownsRow.lt h g hg
theorem StOwn.kept {S : Nat → Prop} {w w' : World} {B : Nat} {v : Value} {L : List ByteArray} (h : StOwn w B v L) (hk : Kept S w w') (hS : ∀ g, StBlk v g → ¬ S g) : StOwn w' B v L := hk.own h hS
def mtx (k : Nat) : ByteArray := if k = 0 then ⟨#[109, 48]⟩ else markT k
theorem mark_text (k : Nat) (h1 : k ≤ 1000000000) (w : World) : Calls Tryz.prog 43 #[.int .i64 (k : Int)] w fun e w' => e = .returned (.string (mtx k)) ∧ Below w.heap.size w w' := by
  rcases Nat.eq_zero_or_pos k with h | h
  · subst h
    go_enter Tryz.func43, Tryz.ntmps43
    go_wp2
    go_ret
    exact ⟨rfl, Below.refl _ _⟩
  · have : mtx k = markT k := if_neg (by omega)
    rw [this]
    exact markText_any k h h1 w
end Gr
end Go.Proofs.YtihnaddfpmjpaaaGreatDoor
