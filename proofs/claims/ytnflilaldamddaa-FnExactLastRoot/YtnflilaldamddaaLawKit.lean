/-
  A device's variable among the laws, in memory.
-/
import Derived.Test.YtnflilaldamddaaMarkDev
namespace Go.Proofs.Ytnflilaldamddaa
open Go.RowKit

/-- A variable of type laws.Device: its two fields in block g. -/
def LBox (w : World) (g : Nat) (a b : Value) : Prop := w.heap[g]? = some (.cells #[a, b] 46 (0, 0))

theorem LBox.lt {w : World} {g : Nat} {a b : Value} (h : LBox w g a b) : g < w.heap.size := by
  rcases Nat.lt_or_ge g w.heap.size with h1 | h1
  · exact h1
  · unfold LBox at h; rw [Array.getElem?_eq_none h1] at h; cases h

theorem LBox.below {w w' : World} {g : Nat} {a b : Value} (h : LBox w g a b) (hb : Below w.heap.size w w') : LBox w' g a b := by
  unfold LBox; rw [hb.block g h.lt]; exact h

theorem LBox.kept {S : Nat → Prop} {w w' : World} {g : Nat} {a b : Value} (h : LBox w g a b) (hk : Kept S w w') (hS : ¬ S g) : LBox w' g a b := by
  unfold LBox; rw [hk.2.2.2.2 g h.lt hS]; exact h

theorem LBox.new (w : World) (a b : Value) : LBox (w.alloc (Obj.cells #[a, b] 46)) w.heap.size a b := heap_alloc_new w _

theorem LBox.cells {w : World} {g : Nat} {a b : Value} (h : LBox w g a b) : w.cell? ⟨g, 0, none⟩ = some a ∧ w.cell? ⟨g, 1, none⟩ = some b :=
  ⟨(cells_of_two h).1, (cells_of_two h).2.1⟩
end Go.Proofs.Ytnflilaldamddaa
