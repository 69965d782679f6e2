/-
 GrGraph.
-/
import Derived.Test.YtkjclkelnheheaaJ3
import Derived.ShutString
namespace Go.Proofs.Ytkjclkelnheheaa
namespace Gr
open Go.ChangeShapes Go.WideShapes Go.ChangeAt Go.RowKit
def GrAt (w : World) (v : Value) (B : Nat) (s : Int) (Q : List EdgeI) : Prop := ∃ a n c, v = .agg #[.int .i64 s, .slice a n c] ∧ edgesAt w a n B Q
theorem GrAt.below {w w' : World} {v : Value} {B C : Nat} {s : Int} {Q : List EdgeI} (h : GrAt w v B s Q) (hb : Below C w w') (hC : B ≤ C) : GrAt w' v B s Q := by
  obtain ⟨a, n, c, rfl, hQ⟩ := h
  exact ⟨a, n, c, rfl, hQ.below hb hC⟩
theorem GrAt.mono {w : World} {v : Value} {B C : Nat} {s : Int} {Q : List EdgeI} (h : GrAt w v B s Q) (hC : B ≤ C) : GrAt w v C s Q := by
  obtain ⟨a, n, c, rfl, hQ⟩ := h
  exact ⟨a, n, c, rfl, hQ.mono hC⟩
def GrOwn (w : World) (B : Nat) (v : Value) (s : Int) (Q : List EdgeI) : Prop := ∃ v1, v = .agg #[.int .i64 s, v1] ∧ w.ownsRow B 68 5 v1 Q.length (edgesV Q)
theorem GrOwn.at {w : World} {B : Nat} {v : Value} {s : Int} {Q : List EdgeI} (h : GrOwn w B v s Q) : GrAt w v w.heap.size s Q := by
  obtain ⟨v1, rfl, h1⟩ := h
  obtain ⟨a, c, rfl, hQ⟩ := edgesAt.of_own h1
  exact ⟨a, _, c, rfl, hQ⟩
theorem GrOwn.below {w w' : World} {B : Nat} {v : Value} {s : Int} {Q : List EdgeI} (h : GrOwn w B v s Q) (hb : Below w.heap.size w w') : GrOwn w' B v s Q := by
  obtain ⟨v1, rfl, h1⟩ := h
  exact ⟨v1, rfl, own_below h1 hb⟩
theorem GrOwn.lower {w : World} {B C : Nat} {v : Value} {s : Int} {Q : List EdgeI} (h : GrOwn w B v s Q) (hC : C ≤ B) : GrOwn w C v s Q := by
  obtain ⟨v1, rfl, h1⟩ := h
  exact ⟨v1, rfl, own_lower hC h1⟩
def GrBlk (v : Value) (g : Nat) : Prop := ∃ x v1, v = .agg #[x, v1] ∧ v1.ownBlock = some g
theorem GrOwn.blk {w : World} {B : Nat} {v : Value} {s : Int} {Q : List EdgeI} (h : GrOwn w B v s Q) : ∀ g, GrBlk v g → B ≤ g ∧ g < w.heap.size := by
  obtain ⟨v1, rfl, h1⟩ := h
  rintro g ⟨x, u1, e, hg⟩
  simp at e
  obtain ⟨rfl, rfl⟩ := e
  exact h1.lt g hg
theorem GrOwn.kept {S : Nat → Prop} {w w' : World} {B : Nat} {v : Value} {s : Int} {Q : List EdgeI} (h : GrOwn w B v s Q) (hk : Kept S w w') (hS : ∀ g, GrBlk v g → ¬ S g) : GrOwn w' B v s Q := by
  obtain ⟨v1, rfl, h1⟩ := h
  exact ⟨v1, rfl, hk.own h1 (fun g hg => hS g ⟨_, v1, rfl, hg⟩)⟩
def GBox (w : World) (g : Nat) (s : Int) (b : Value) : Prop := w.heap[g]? = some (.cells #[.int .i64 s, b] 26 (0, 0))
theorem GBox.lt {w : World} {g : Nat} {s : Int} {b : Value} (h : GBox w g s b) : g < w.heap.size := by
  rcases Nat.lt_or_ge g w.heap.size with h1 | h1
  · exact h1
  · unfold GBox at h; rw [Array.getElem?_eq_none h1] at h; cases h
theorem GBox.below {w w' : World} {g : Nat} {s : Int} {b : Value} (h : GBox w g s b) (hb : Below w.heap.size w w') : GBox w' g s b := by
  unfold GBox; rw [hb.block g h.lt]; exact h
theorem GBox.kept {S : Nat → Prop} {w w' : World} {g : Nat} {s : Int} {b : Value} (h : GBox w g s b) (hk : Kept S w w') (hS : ¬ S g) : GBox w' g s b := by
  unfold GBox; rw [hk.2.2.2.2 g h.lt hS]; exact h
theorem GBox.new (w : World) (s : Int) (b : Value) : GBox (w.alloc (Obj.cells #[.int .i64 s, b] 26)) w.heap.size s b := heap_alloc_new w _
theorem GBox.cells {w : World} {g : Nat} {s : Int} {b : Value} (h : GBox w g s b) : w.cell? ⟨g, 0, none⟩ = some (.int .i64 s) ∧ w.cell? ⟨g, 1, none⟩ = some b :=
  ⟨(cells_of_two h).1, (cells_of_two h).2.1⟩
theorem GBox.froz {w : World} {g : Nat} {s : Int} {b : Value} (h : GBox w g s b) (j : Nat) : w.frozen? ⟨g, j, none⟩ = false := (cells_of_two h).2.2 j
theorem GBox.two {w : World} {g : Nat} {s : Int} {b : Value} (h : GBox w g s b) (x : Int) (y : Value) : GBox ((w.setCell ⟨g, 0, none⟩ (.int .i64 x)).setCell ⟨g, 1, none⟩ y) g x y := two_one (two_zero h _) _
theorem GBox.one {w : World} {g : Nat} {s : Int} {b : Value} (h : GBox w g s b) (y : Value) : GBox (w.setCell ⟨g, 1, none⟩ y) g s y := two_one h _
theorem results_graph {fn : Func} {p u : Tmp} (h : fn.results = #[.cell p 26, .tmp u]) (tmps : Array Value) (w : World) (g : Nat) (s : Int) (b : Value) (hp : tmps.getD p undef = .pointer (some ⟨g, 0, none⟩)) (hg : GBox w g s b) :
    (results fn tmps).run Try.prog w = .ok (.tuple #[.agg #[.int .i64 s, b], tmps.getD u undef]) w := by
  obtain ⟨c0, c1⟩ := hg.cells
  have hp' : tmps[p]?.getD undef = .pointer (some ⟨g, 0, none⟩) := by simpa using hp
  simp [results, h, hp', go_sem, c0, c1]
theorem results_graph1 {fn : Func} {p : Tmp} (h : fn.results = #[.cell p 26]) (tmps : Array Value) (w : World) (g : Nat) (s : Int) (b : Value) (hp : tmps.getD p undef = .pointer (some ⟨g, 0, none⟩)) (hg : GBox w g s b) :
    (results fn tmps).run Try.prog w = .ok (.agg #[.int .i64 s, b]) w := by
  obtain ⟨c0, c1⟩ := hg.cells
  have hp' : tmps[p]?.getD undef = .pointer (some ⟨g, 0, none⟩) := by simpa using hp
  simp [results, h, hp', go_sem, c0, c1]
end Gr
end Go.Proofs.Ytkjclkelnheheaa
