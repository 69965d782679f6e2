/-
 GrGraph.
-/
import Derived.Test.YtihnaddfpmjpaaaGreatDoorJ3
import Derived.ShutString
namespace Go.Proofs.YtihnaddfpmjpaaaGreatDoor
namespace Gr
open Go.ChangeShapes Go.WideShapes Go.ChangeAt Go.RowKit
def GrAt (w : World) (v : Value) (B : Nat) (s : Int) (Q : List EdgeI) : Prop := ∃ a n c, v = .agg #[.int .i64 s, .slice a n c] ∧ edgesAt w a n B Q
theorem GrAt.below {w w' : World} {v : Value} {B C : Nat} {s : Int} {Q : List EdgeI} (h : GrAt w v B s Q) (hb : Below C w w') (hC : B ≤ C) : GrAt w' v B s Q := by
  obtain ⟨a, n, c, rfl, hQ⟩ := h
  exact ⟨a, n, c, rfl, hQ.below hb hC⟩
theorem GrAt.mono {w : World} {v : Value} {B C : Nat} {s : Int} {Q : List EdgeI} (h : GrAt w v B s Q) (hC : B ≤ C) : GrAt w v C s Q := by
  obtain ⟨a, n, c, rfl, hQ⟩ := h
  exact ⟨a, n, c, rfl, hQ.mono hC⟩
def GrOwn (w : World) (B : Nat) (v : Value) (s : Int) (Q : List EdgeI) : Prop := ∃ v1, v = .agg #[.int .i64 s, v1] ∧ w.ownsRow B 106 5 v1 Q.length (edgesV Q)
theorem GrOwn.at {w : World} {B : Nat} {v : Value} {s : Int} {Q : List EdgeI} (h : GrOwn w B v s Q) : GrAt w v w.heap.size s Q := by
  obtain ⟨v1, rfl, h1⟩ := h
  obtain ⟨a, c, rfl, hQ⟩ := edgesAt.of_own h1
  exact ⟨a, _, c, rfl, hQ⟩
theorem GrOwn.below {w w' : World} {B : Nat} {v : Value} {s : Int} {Q : List EdgeI} (h : GrOwn w B v s Q) (hb : Below w.heap.size w w') : GrOwn w' B v s Q := by
  obtain ⟨v1, rfl, h1⟩ := h
  exact ⟨v1, rfl, own_below h1 hb⟩
theorem GrOwn.lower {w : World} {B C : Nat} {v : Value} {s : Int} {Q : List EdgeI} (h : GrOwn w B v s Q) (hC : C ≤ B) : GrOwn w C v s Q := by
  obtain ⟨v1, rfl, h1⟩ := h
  exact ⟨v1, rfl, own_lower hC h1⟩
def GrBlk (v : Value) (g : Nat) : Prop := ∃ x v1, v = .agg #[x, v1] ∧ v1.ownBlock = some g
theorem GrOwn.blk {w : World} {B : Nat} {v : Value} {s : Int} {Q : List EdgeI} (h : GrOwn w B v s Q) : ∀ g, GrBlk v g → B ≤ g ∧ g < w.heap.size := by
  obtain ⟨v1, rfl, h1⟩ := h
  rintro g ⟨x, u1, e, hg⟩
  simp at e
  obtain ⟨rfl, rfl⟩ := e
  exact h1.lt g hg
theorem GrOwn.kept {S : Nat → Prop} {w w' : World} {B : Nat} {v : Value} {s : Int} {Q : List EdgeI} (h : GrOwn w B v s Q) (hk : Kept S w w') (hS : ∀ g, GrBlk v g → ¬ S g) : GrOwn w' B v s Q := by
  obtain ⟨v1, rfl, h1⟩ := h
  exact ⟨v1, rfl, hk.own h1 (fun g hg => hS g ⟨_, v1, rfl, hg⟩)⟩
def GBox (w : World) (g : Nat) (s : Int) (b : Value) : Prop := w.heap[g]? = some (.cells #[.int .i64 s, b] 35 (0, 0))
theorem GBox.lt {w : World} {g : Nat} {s : Int} {b : Value} (h : GBox w g s b) : g < w.heap.size := by
  rcases Nat.lt_or_ge g w.heap.size with h1 | h1
  · exact h1
  · unfold GBox at h; rw [Array.getElem?_eq_none h1] at h; cases h
theorem GBox.below {w w' : World} {g : Nat} {s : Int} {b : Value} (h : GBox w g s b) (hb : Below w.heap.size w w') : GBox w' g s b := by
  unfold GBox; rw [hb.block g h.lt]; exact h
theorem GBox.kept {S : Nat → Prop} {w w' : World} {g : Nat} {s : Int} {b : Value} (h : GBox w g s b) (hk : Kept S w w') (hS : ¬ S g) : GBox w' g s b := by
  unfold GBox; rw [hk.2.2.2.2 g h.lt hS]; exact h
theorem GBox.new (w : World) (s : Int) (b : Value) : GBox (w.alloc (Obj.cells #[.int .i64 s, b] 35)) w.heap.size s b := heap_alloc_new w _
theorem GBox.cells {w : World} {g : Nat} {s : Int} {b : Value} (h : GBox w g s b) : w.cell? ⟨g, 0, none⟩ = some (.int .i64 s) ∧ w.cell? ⟨g, 1, none⟩ = some b :=
  ⟨(cells_of_two h).1, (cells_of_two h).2.1⟩
theorem GBox.froz {w : World} {g : Nat} {s : Int} {b : Value} (h : GBox w g s b) (j : Nat) : w.frozen? ⟨g, j, none⟩ = false := (cells_of_two h).2.2 j
theorem GBox.two {w : World} {g : Nat} {s : Int} {b : Value} (h : GBox w g s b) (x : Int) (y : Value) : GBox ((w.setCell ⟨g, 0, none⟩ (.int .i64 x)).setCell ⟨g, 1, none⟩ y) g x y := two_one (two_zero h _) _
theorem GBox.one {w : World} {g : Nat} {s : Int} {b : Value} (h : GBox w g s b) (y : Value) : GBox (w.setCell ⟨g, 1, none⟩ y) g s y := two_one h _
theorem results_graph1 {fn : Func} {p : Tmp} (h : fn.results = #[.cell p 35]) (tmps : Array Value) (w : World) (g : Nat) (s : Int) (b : Value) (hp : tmps.getD p undef = .pointer (some ⟨g, 0, none⟩)) (hg : GBox w g s b) :
    (results fn tmps).run Tryz.prog w = .ok (.agg #[.int .i64 s, b]) w := by
  obtain ⟨c0, c1⟩ := hg.cells
  have hp' : tmps[p]?.getD undef = .pointer (some ⟨g, 0, none⟩) := by simpa using hp
  simp [results, h, hp', go_sem, c0, c1]
set_option maxRecDepth 100000 in
set_option maxHeartbeats 1000000 in
theorem eqGraph_same (v u : Value) (B B' : Nat) (s : Int) (Q : List EdgeI) (h1 : Q.length ≤ 1048576) (w : World) (hB : B ≤ w.heap.size) (hB' : B' ≤ w.heap.size) (hv : GrAt w v B s Q) (hu : GrAt w u B' s Q) :
    Calls Tryz.prog 22 #[v, u] w fun e w' => e = .returned (.bool true) ∧ Below w.heap.size w w' := by
  obtain ⟨a, n, c, rfl, hE⟩ := hv
  obtain ⟨a', n', c', rfl, hE'⟩ := hu
  obtain rfl : n = Q.length := hE.1.symm
  obtain rfl : n' = Q.length := hE'.1.symm
  have EQ := hide (fun w1 (hb : Below w.heap.size w w1) => eqEdgeS_same a a' Q.length c c' B B' Q h1 w1 (by have := hb.size; omega) (by have := hb.size; omega) (hE.below hb hB) (hE'.below hb hB'))
  clear hE hE' h1
  generalize Q.length = n at EQ
  go_enter Tryz.func22, Tryz.ntmps22
  go_wp2_with fail
  obtain ⟨V2, hV2⟩ : ∃ W, W = (w.alloc (Obj.cells #[Value.int .i64 s, Value.slice a n c] 35)).alloc (Obj.cells #[Value.int .i64 s, Value.slice a' n c'] 35) := ⟨_, rfl⟩
  rw [← hV2]
  have b2 : Below w.heap.size w V2 := by rw [hV2]; exact ((Below.refl _ _).alloc (Nat.le_refl _) _).alloc (by simp) _
  clear hV2
  refine (unhide EQ V2 b2).mono ?_
  rintro e w3 ⟨rfl, hb3⟩
  have hw3 := b2.trans (hb3.mono b2.size)
  clear hb3 b2
  go_wp2
  go_ret
  exact ⟨rfl, hw3⟩
set_option maxRecDepth 100000 in
set_option maxHeartbeats 1000000 in
theorem markGraph_any (v : Value) (B k : Nat) (s : Int) (Q : List EdgeI) (h1 : k + Q.length * 5 ≤ 100000000) (w : World) (ho : GrOwn w B v s Q) :
    Calls Tryz.prog 23 #[v, .int .i64 (k : Int)] w fun e w' => e = .returned (.int .i64 ((k + Q.length * 5 : Nat) : Int)) ∧ GrOwn w' B v s (marksEdge k Q.length) ∧ Kept (GrBlk v) w w' := by
  obtain ⟨v1, rfl, h⟩ := ho
  obtain ⟨A, C, rfl, _⟩ := edgesAt.of_own h
  have MK := hide (fun w1 (h : w1.ownsRow B 106 5 (.slice A Q.length C) Q.length (edgesV Q)) => markEdgeS_any _ B Q.length k Q h1 w1 h)
  have HO := hide h
  clear h
  have hlt := (unhide HO).lt
  generalize hn : Q.length = n at MK HO h1 hlt ⊢
  go_enter Tryz.func23, Tryz.ntmps23
  go_wp2_with fail
  obtain ⟨V2, hV2⟩ : ∃ W, W = w.alloc (Obj.cells #[Value.int .i64 s, Value.slice A n C] 35) := ⟨_, rfl⟩
  rw [← hV2]
  have b2 : Below w.heap.size w V2 := by rw [hV2]; exact below_new _ _
  clear hV2
  refine (unhide MK V2 (own_below (unhide HO) b2)).mono ?_
  rintro e w3 ⟨rfl, ho3, hk3⟩
  have HO3 := hide ho3
  have HK3 := hide ((Kept.of_below b2).trans hk3)
  clear ho3 hk3 b2
  go_wp2
  go_ret
  refine ⟨rfl, ⟨_, rfl, ?_⟩, (unhide HK3).weak (fun g hg => ⟨_, _, rfl, hg⟩)⟩
  rw [marksEdge_length]
  exact unhide HO3
set_option maxRecDepth 100000 in
set_option maxHeartbeats 1000000 in
theorem heldGraph_any (v : Value) (B k n : Nat) (s : Int) (h1 : k + n * 5 ≤ 100000000) (w : World) (hB : B ≤ w.heap.size) (hv : GrAt w v B s (marksEdge k n)) :
    Calls Tryz.prog 24 #[v, .int .i64 (k : Int)] w fun e w' => e = .returned (.int .i64 ((k + n * 5 : Nat) : Int)) ∧ Below w.heap.size w w' := by
  obtain ⟨a, m, c, rfl, hE⟩ := hv
  obtain rfl : m = n := by have := hE.1; rw [marksEdge_length] at this; exact this.symm
  have HE := hide (fun w1 (hb : Below w.heap.size w w1) => heldEdgeS_any a m c B k h1 w1 (hE.below hb hB))
  clear hE
  go_enter Tryz.func24, Tryz.ntmps24
  go_wp2_with fail
  obtain ⟨V2, hV2⟩ : ∃ W, W = w.alloc (Obj.cells #[Value.int .i64 s, Value.slice a m c] 35) := ⟨_, rfl⟩
  rw [← hV2]
  have b2 : Below w.heap.size w V2 := by rw [hV2]; exact below_new _ _
  clear hV2
  refine (unhide HE V2 b2).mono ?_
  rintro e w3 ⟨rfl, rfl⟩
  go_wp2
  go_ret
  exact ⟨rfl, b2⟩
end Gr
end Go.Proofs.YtihnaddfpmjpaaaGreatDoor
