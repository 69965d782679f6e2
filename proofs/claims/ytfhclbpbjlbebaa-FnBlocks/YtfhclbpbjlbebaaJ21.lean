/-
  Texts of this claim, one behind the other: GrSumsOf, GrSumsOf2.
-/
import Derived.Test.YtfhclbpbjlbebaaJ13
import Derived.Test.YtfhclbpbjlbebaaJ16
import Derived.Deep.RegionHeld3
import Derived.Deep.DeepCutAuto
import Derived.Deep.DeepFit

/-
  The contracts of spec.l09Sums and spec.SumsOf.
-/
namespace Go.Proofs.Ytfhclbpbjlbebaa
namespace Gr
open Go.RowKit

/-- A variable of sums in memory. -/
def SBox (w : World) (g : Nat) (s : SumsI) : Prop := w.heap[g]? = some (.cells #[.int .i64 s.W1, .int .i64 s.W2, .int .i64 s.W3] 66 (0, 0))

theorem SBox.lt {w : World} {g : Nat} {s : SumsI} (h : SBox w g s) : g < w.heap.size := by
  rcases Nat.lt_or_ge g w.heap.size with h1 | h1
  · exact h1
  · unfold SBox at h; rw [Array.getElem?_eq_none h1] at h; cases h

theorem SBox.below {w w' : World} {g : Nat} {s : SumsI} (h : SBox w g s) (hb : Below w.heap.size w w') : SBox w' g s := by
  unfold SBox; rw [hb.block g h.lt]; exact h

theorem SBox.at {w w' : World} {g C : Nat} {s : SumsI} (h : SBox w g s) (hb : Below C w w') (hC : g < C) : SBox w' g s := by
  unfold SBox; rw [hb.block g hC]; exact h

theorem SBox.kept {S : Nat → Prop} {w w' : World} {g : Nat} {s : SumsI} (h : SBox w g s) (hk : Kept S w w') (hS : ¬ S g) : SBox w' g s := by
  unfold SBox; rw [hk.2.2.2.2 g h.lt hS]; exact h

theorem SBox.new (w : World) (s : SumsI) : SBox (w.alloc (Obj.cells #[.int .i64 s.W1, .int .i64 s.W2, .int .i64 s.W3] 66)) w.heap.size s := heap_alloc_new w _

theorem SBox.cells {w : World} {g : Nat} {s : SumsI} (h : SBox w g s) : w.cell? ⟨g, 0, none⟩ = some (.int .i64 s.W1) ∧ w.cell? ⟨g, 1, none⟩ = some (.int .i64 s.W2) ∧ w.cell? ⟨g, 2, none⟩ = some (.int .i64 s.W3) := by
  unfold SBox at h
  refine ⟨?_, ?_, ?_⟩
  · rw [cell_of_row w g 0 _ _ (0, 0) h]; rfl
  · rw [cell_of_row w g 1 _ _ (0, 0) h]; rfl
  · rw [cell_of_row w g 2 _ _ (0, 0) h]; rfl

theorem SBox.froz {w : World} {g : Nat} {s : SumsI} (h : SBox w g s) (j : Nat) : w.frozen? ⟨g, j, none⟩ = false := by
  unfold World.frozen?
  simp only []
  unfold SBox at h
  rw [h]
  simp

theorem SBox.three {w : World} {g : Nat} {s : SumsI} (h : SBox w g s) (x y z : Int) : SBox (((w.setCell ⟨g, 0, none⟩ (.int .i64 x)).setCell ⟨g, 1, none⟩ (.int .i64 y)).setCell ⟨g, 2, none⟩ (.int .i64 z)) g ⟨x, y, z⟩ := by
  unfold SBox at *
  have h1 := heap_setCell_same w g 0 _ _ (.int .i64 x) h
  have h2 := heap_setCell_same _ g 1 _ _ (.int .i64 y) h1
  exact heap_setCell_same _ g 2 _ _ (.int .i64 z) h2

theorem kept3 (w : World) (g : Nat) (x y z : Value) : Kept (fun i => i = g) w (((w.setCell ⟨g, 0, none⟩ x).setCell ⟨g, 1, none⟩ y).setCell ⟨g, 2, none⟩ z) :=
  ((Kept.set (S := fun i => i = g) _ _ _ _ rfl).trans (Kept.set (S := fun i => i = g) _ _ _ _ rfl)).trans (Kept.set (S := fun i => i = g) _ _ _ _ rfl)

theorem results_sums1 {fn : Func} {p : Tmp} (h : fn.results = #[.cell p 66]) (tmps : Array Value) (w : World) (g : Nat) (s : SumsI) (hp : tmps.getD p undef = .pointer (some ⟨g, 0, none⟩)) (hg : SBox w g s) :
    (results fn tmps).run Try.prog w = .ok s.v w := by
  obtain ⟨c0, c1, c2⟩ := hg.cells
  have hp' : tmps[p]?.getD undef = .pointer (some ⟨g, 0, none⟩) := by simpa using hp
  simp [results, h, hp', go_sem, c0, c1, c2, SumsI.v]

theorem results_sums2 {fn : Func} {p u : Tmp} (h : fn.results = #[.cell p 66, .tmp u]) (tmps : Array Value) (w : World) (g : Nat) (s : SumsI) (hp : tmps.getD p undef = .pointer (some ⟨g, 0, none⟩)) (hg : SBox w g s) :
    (results fn tmps).run Try.prog w = .ok (.tuple #[s.v, tmps.getD u undef]) w := by
  obtain ⟨c0, c1, c2⟩ := hg.cells
  have hp' : tmps[p]?.getD undef = .pointer (some ⟨g, 0, none⟩) := by simpa using hp
  simp [results, h, hp', go_sem, c0, c1, c2, SumsI.v]

end Gr
end Go.Proofs.Ytfhclbpbjlbebaa

/-
  The contract of spec.SumsOf, and of spec.MatchOk in a law's form.
-/
namespace Go.Proofs.Ytfhclbpbjlbebaa
namespace Gr
open Go.RowKit

/-- What SumsOf tells. -/
def sumsR (s : Int) (Q : List EdgeI) (M : List CoupleI) : SumsI := if matchOk s Q M = true then sums Q M else ⟨0, 0, 0⟩

end Gr
end Go.Proofs.Ytfhclbpbjlbebaa
