/-
  The contracts of laws.markDevice and heldDevice: what is marked is held; nothing but the device's own rows is written.
-/
import Derived.Test.YtnflilaldamddaaHeld
namespace Go.Proofs.Ytnflilaldamddaa
open Go.RowKit

/-- The blocks of a device's rows. -/
def DevBlk (v : Value) (g : Nat) : Prop := ∃ v0 v1, v = .agg #[v0, v1] ∧ (v0.ownBlock = some g ∨ v1.ownBlock = some g)

theorem DevOwn.blk {w : World} {B : Nat} {v : Value} {L : List ByteArray} {Q : List (Int × ByteArray)} (h : DevOwn w B v L Q) : ∀ g, DevBlk v g → B ≤ g ∧ g < w.heap.size := by
  obtain ⟨v0, v1, rfl, h0, h1, _⟩ := h
  rintro g ⟨u0, u1, e, hg⟩
  simp at e
  obtain ⟨rfl, rfl⟩ := e
  rcases hg with hg | hg
  · exact h0.lt g hg
  · exact h1.lt g hg

theorem DevOwn.kept {S : Nat → Prop} {w w' : World} {B : Nat} {v : Value} {L : List ByteArray} {Q : List (Int × ByteArray)} (h : DevOwn w B v L Q) (hk : Kept S w w') (hS : ∀ g, DevBlk v g → ¬ S g) : DevOwn w' B v L Q := by
  obtain ⟨v0, v1, rfl, h0, h1, h2⟩ := h
  exact ⟨v0, v1, rfl, hk.own h0 (fun g hg => hS g ⟨v0, v1, rfl, .inl hg⟩), hk.own h1 (fun g hg => hS g ⟨v0, v1, rfl, .inr hg⟩), h2⟩

/-- A device's variable in memory: its two fields in block g. -/
def Box (w : World) (g : Nat) (a b : Value) : Prop := w.heap[g]? = some (.cells #[a, b] 36 (0, 0))

theorem Box.lt {w : World} {g : Nat} {a b : Value} (h : Box w g a b) : g < w.heap.size := by
  rcases Nat.lt_or_ge g w.heap.size with h1 | h1
  · exact h1
  · unfold Box at h; rw [Array.getElem?_eq_none h1] at h; cases h

theorem Box.below {w w' : World} {g : Nat} {a b : Value} (h : Box w g a b) (hb : Below w.heap.size w w') : Box w' g a b := by
  unfold Box; rw [hb.block g h.lt]; exact h

theorem Box.kept {S : Nat → Prop} {w w' : World} {g : Nat} {a b : Value} (h : Box w g a b) (hk : Kept S w w') (hS : ¬ S g) : Box w' g a b := by
  unfold Box; rw [hk.2.2.2.2 g h.lt hS]; exact h

theorem Box.new (w : World) (a b : Value) : Box (w.alloc (Obj.cells #[a, b] 36)) w.heap.size a b := heap_alloc_new w _

theorem Box.cells {w : World} {g : Nat} {a b : Value} (h : Box w g a b) : w.cell? ⟨g, 0, none⟩ = some a ∧ w.cell? ⟨g, 1, none⟩ = some b :=
  ⟨(cells_of_two h).1, (cells_of_two h).2.1⟩

theorem below_new (w : World) (o : Obj) : Below w.heap.size w (w.alloc o) := (Below.refl _ _).alloc (Nat.le_refl _) _

end Go.Proofs.Ytnflilaldamddaa
