/-
  Texts of this claim, one behind the other: GrGraph.
-/
import Derived.Test.YtfhclbpbjlbebaaJ3
import Derived.ShutString

/-
  Graphs in memory, and what the laws do with them.
-/
namespace Go.Proofs.Ytfhclbpbjlbebaa
namespace Gr
open Go.ChangeShapes Go.WideShapes Go.ChangeAt Go.RowKit

/-- A graph that can be read, its row below block B. -/
def GrAt (w : World) (v : Value) (B : Nat) (s : Int) (Q : List EdgeI) : Prop := ∃ a n c, v = .agg #[.int .i64 s, .slice a n c] ∧ edgesAt w a n B Q

theorem GrAt.below {w w' : World} {v : Value} {B C : Nat} {s : Int} {Q : List EdgeI} (h : GrAt w v B s Q) (hb : Below C w w') (hC : B ≤ C) : GrAt w' v B s Q := by
  obtain ⟨a, n, c, rfl, hQ⟩ := h
  exact ⟨a, n, c, rfl, hQ.below hb hC⟩

theorem GrAt.mono {w : World} {v : Value} {B C : Nat} {s : Int} {Q : List EdgeI} (h : GrAt w v B s Q) (hC : B ≤ C) : GrAt w v C s Q := by
  obtain ⟨a, n, c, rfl, hQ⟩ := h
  exact ⟨a, n, c, rfl, hQ.mono hC⟩

/-- A graph that this call has made. -/
def GrOwn (w : World) (B : Nat) (v : Value) (s : Int) (Q : List EdgeI) : Prop := ∃ v1, v = .agg #[.int .i64 s, v1] ∧ w.ownsRow B 64 5 v1 Q.length (edgesV Q)

theorem GrOwn.at {w : World} {B : Nat} {v : Value} {s : Int} {Q : List EdgeI} (h : GrOwn w B v s Q) : GrAt w v w.heap.size s Q := by
  obtain ⟨v1, rfl, h1⟩ := h
  obtain ⟨a, c, rfl, hQ⟩ := edgesAt.of_own h1
  exact ⟨a, _, c, rfl, hQ⟩

theorem GrOwn.below {w w' : World} {B : Nat} {v : Value} {s : Int} {Q : List EdgeI} (h : GrOwn w B v s Q) (hb : Below w.heap.size w w') : GrOwn w' B v s Q := by
  obtain ⟨v1, rfl, h1⟩ := h
  exact ⟨v1, rfl, own_below h1 hb⟩

theorem GrOwn.lower {w : World} {B C : Nat} {v : Value} {s : Int} {Q : List EdgeI} (h : GrOwn w B v s Q) (hC : C ≤ B) : GrOwn w C v s Q := by
  obtain ⟨v1, rfl, h1⟩ := h
  exact ⟨v1, rfl, own_lower hC h1⟩

/-- The block of a graph's row. -/
def GrBlk (v : Value) (g : Nat) : Prop := ∃ x v1, v = .agg #[x, v1] ∧ v1.ownBlock = some g

theorem GrOwn.blk {w : World} {B : Nat} {v : Value} {s : Int} {Q : List EdgeI} (h : GrOwn w B v s Q) : ∀ g, GrBlk v g → B ≤ g ∧ g < w.heap.size := by
  obtain ⟨v1, rfl, h1⟩ := h
  rintro g ⟨x, u1, e, hg⟩
  simp at e
  obtain ⟨rfl, rfl⟩ := e
  exact h1.lt g hg

theorem GrOwn.kept {S : Nat → Prop} {w w' : World} {B : Nat} {v : Value} {s : Int} {Q : List EdgeI} (h : GrOwn w B v s Q) (hk : Kept S w w') (hS : ∀ g, GrBlk v g → ¬ S g) : GrOwn w' B v s Q := by
  obtain ⟨v1, rfl, h1⟩ := h
  exact ⟨v1, rfl, hk.own h1 (fun g hg => hS g ⟨_, v1, rfl, hg⟩)⟩

/-- A graph's variable in memory. -/
def GBox (w : World) (g : Nat) (s : Int) (b : Value) : Prop := w.heap[g]? = some (.cells #[.int .i64 s, b] 26 (0, 0))

theorem GBox.lt {w : World} {g : Nat} {s : Int} {b : Value} (h : GBox w g s b) : g < w.heap.size := by
  rcases Nat.lt_or_ge g w.heap.size with h1 | h1
  · exact h1
  · unfold GBox at h; rw [Array.getElem?_eq_none h1] at h; cases h

theorem GBox.below {w w' : World} {g : Nat} {s : Int} {b : Value} (h : GBox w g s b) (hb : Below w.heap.size w w') : GBox w' g s b := by
  unfold GBox; rw [hb.block g h.lt]; exact h

theorem GBox.kept {S : Nat → Prop} {w w' : World} {g : Nat} {s : Int} {b : Value} (h : GBox w g s b) (hk : Kept S w w') (hS : ¬ S g) : GBox w' g s b := by
  unfold GBox; rw [hk.2.2.2.2 g h.lt hS]; exact h

theorem GBox.new (w : World) (s : Int) (b : Value) : GBox (w.alloc (Obj.cells #[.int .i64 s, b] 26)) w.heap.size s b := heap_alloc_new w _

theorem GBox.cells {w : World} {g : Nat} {s : Int} {b : Value} (h : GBox w g s b) : w.cell? ⟨g, 0, none⟩ = some (.int .i64 s) ∧ w.cell? ⟨g, 1, none⟩ = some b :=
  ⟨(cells_of_two h).1, (cells_of_two h).2.1⟩

theorem GBox.froz {w : World} {g : Nat} {s : Int} {b : Value} (h : GBox w g s b) (j : Nat) : w.frozen? ⟨g, j, none⟩ = false := (cells_of_two h).2.2 j

theorem GBox.two {w : World} {g : Nat} {s : Int} {b : Value} (h : GBox w g s b) (x : Int) (y : Value) : GBox ((w.setCell ⟨g, 0, none⟩ (.int .i64 x)).setCell ⟨g, 1, none⟩ y) g x y := two_one (two_zero h _) _

theorem GBox.one {w : World} {g : Nat} {s : Int} {b : Value} (h : GBox w g s b) (y : Value) : GBox (w.setCell ⟨g, 1, none⟩ y) g s y := two_one h _

theorem results_graph {fn : Func} {p u : Tmp} (h : fn.results = #[.cell p 26, .tmp u]) (tmps : Array Value) (w : World) (g : Nat) (s : Int) (b : Value) (hp : tmps.getD p undef = .pointer (some ⟨g, 0, none⟩)) (hg : GBox w g s b) :
    (results fn tmps).run Try.prog w = .ok (.tuple #[.agg #[.int .i64 s, b], tmps.getD u undef]) w := by
  obtain ⟨c0, c1⟩ := hg.cells
  have hp' : tmps[p]?.getD undef = .pointer (some ⟨g, 0, none⟩) := by simpa using hp
  simp [results, h, hp', go_sem, c0, c1]

theorem results_graph1 {fn : Func} {p : Tmp} (h : fn.results = #[.cell p 26]) (tmps : Array Value) (w : World) (g : Nat) (s : Int) (b : Value) (hp : tmps.getD p undef = .pointer (some ⟨g, 0, none⟩)) (hg : GBox w g s b) :
    (results fn tmps).run Try.prog w = .ok (.agg #[.int .i64 s, b]) w := by
  obtain ⟨c0, c1⟩ := hg.cells
  have hp' : tmps[p]?.getD undef = .pointer (some ⟨g, 0, none⟩) := by simpa using hp
  simp [results, h, hp', go_sem, c0, c1]

set_option maxRecDepth 100000 in
theorem szGraph_any (v : Value) (B : Nat) (s : Int) (Q : List EdgeI) (left : Int) (h0 : 0 ≤ left) (h1 : left ≤ 1048576) (hQ : Q.length ≤ 9223372036854775807) (w : World) (hv : GrAt w v B s Q) :
    Calls Try.prog 14 #[v, .int .i64 left] w fun e w' => e = .returned (.int .i64 (if left - (Q.length : Int) < 0 then -1 else left - (Q.length : Int))) ∧ Below w.heap.size w w' := by
  obtain ⟨a, n, c, rfl, hE⟩ := hv
  obtain rfl : n = Q.length := hE.1.symm
  have HS := hide (fun w => szEdgeS_any a Q.length c left h0 h1 hQ w)
  clear hE
  generalize (Q.length : Nat) = n at HS
  by_cases h : left - (n : Int) < 0
  · rw [if_pos h] at HS ⊢
    go_enter Try.func14, Try.ntmps14
    go_wp2_with fail
    refine (unhide HS _).mono ?_
    rintro e w1 ⟨rfl, rfl⟩
    go_wp2
    go_ret
    exact ⟨rfl, below_new _ _⟩
  · rw [if_neg h] at HS ⊢
    go_enter Try.func14, Try.ntmps14
    go_wp2_with fail
    refine (unhide HS _).mono ?_
    rintro e w1 ⟨rfl, rfl⟩
    go_wp2
    go_ret
    exact ⟨rfl, below_new _ _⟩

set_option maxRecDepth 100000 in
set_option maxHeartbeats 1000000 in
theorem toGraph_any (v : Value) (B : Nat) (s : Int) (Q : List EdgeI) (h1 : Q.length ≤ 1048576) (w : World) (hB : B ≤ w.heap.size) (hv : GrAt w v B s Q) :
    Calls Try.prog 15 #[v] w fun e w' => (∃ d, e = .returned d ∧ GrOwn w' w.heap.size d s Q) ∧ Below w.heap.size w w' := by
  obtain ⟨a, n, c, rfl, hE⟩ := hv
  obtain rfl : n = Q.length := hE.1.symm
  have H1 := hide (fun w1 (hb : Below w.heap.size w w1) => toEdgeS_any a Q.length c B Q h1 w1 (by have := hb.size; omega) (hE.below hb hB))
  clear hE h1
  generalize hn : Q.length = n at H1
  go_enter Try.func15, Try.ntmps15
  go_wp2_with fail
  obtain ⟨V1, hV1⟩ : ∃ W, W = w.alloc (Obj.cells #[Value.int .i64 s, Value.slice a n c] 41) := ⟨_, rfl⟩
  obtain ⟨V2, hV2⟩ : ∃ W, W = V1.alloc (Obj.cells #[Value.int .i64 0, Value.slice none 0 0] 26) := ⟨_, rfl⟩
  obtain ⟨V3, hV3⟩ : ∃ W, W = V2.alloc (Obj.cells #[Value.int .i64 s, Value.slice none 0 0] 26) := ⟨_, rfl⟩
  rw [← hV1, ← hV2, ← hV3]
  have z1 : V1.heap.size = w.heap.size + 1 := by rw [hV1]; simp
  have z2 : V2.heap.size = w.heap.size + 1 + 1 := by rw [hV2]; simp [z1]
  have b1 : Below w.heap.size w V1 := by rw [hV1]; exact below_new _ _
  have b2 : Below w.heap.size w V2 := by rw [hV2]; exact b1.alloc b1.size _
  have b3 : Below w.heap.size w V3 := by rw [hV3]; exact b2.alloc b2.size _
  have x2 : GBox V2 (w.heap.size + 1) 0 (.slice none 0 0) := by rw [hV2, ← z1]; exact GBox.new _ _ _
  have x3 : GBox V3 (w.heap.size + 1) 0 (.slice none 0 0) := by rw [hV3]; exact x2.below (below_new _ _)
  have y3 : GBox V3 (w.heap.size + 1 + 1) s (.slice none 0 0) := by rw [hV3, ← z2]; exact GBox.new _ _ _
  clear hV1 hV2 hV3 b1 b2 x2 z1 z2
  refine (unhide H1 V3 b3).mono ?_
  rintro e w4 ⟨⟨v1, rfl, ho⟩, hb4⟩
  obtain ⟨A, C, rfl, _⟩ := edgesAt.of_own ho
  have x4 := x3.below hb4
  have y4 := y3.below hb4
  have b4 : Below w.heap.size w w4 := b3.trans (hb4.mono b3.size)
  have hs3 := y3.lt
  have hs4 := hb4.size
  have y5 := y4.one (Value.slice A n C)
  have hk5 : Kept (fun k => k = w.heap.size + 1 + 1) w4 (w4.setCell ⟨w.heap.size + 1 + 1, 1, none⟩ (Value.slice A n C)) := Kept.set (S := fun k => k = w.heap.size + 1 + 1) _ _ _ _ rfl
  have x5 := x4.kept hk5 (by omega)
  have o5 := hk5.own ho (fun g hg e => by have := ho.lt g hg; omega)
  have b5 : Below w.heap.size w (w4.setCell ⟨w.heap.size + 1 + 1, 1, none⟩ (Value.slice A n C)) := b4.setCell (p := ⟨w.heap.size + 1 + 1, 1, none⟩) (by simp; omega) _
  obtain ⟨p0, p1⟩ := y4.cells
  have pf := y4.froz
  obtain ⟨q0, q1⟩ := y5.cells
  obtain ⟨t0, t1⟩ := x5.cells
  have tf := x5.froz
  have HX5 := hide x5
  have HO5 := hide o5
  have HB5 := hide b5
  have hb3 := b3.size
  clear ho x3 y3 x4 y4 y5 x5 o5 b4 b5 hb4 hk5 b3
  go_wp2
  (try simp only [Exit.inBlock, Exit.then])
  have hk6 : Kept (fun k => k = w.heap.size + 1) (w4.setCell ⟨w.heap.size + 1 + 1, 1, none⟩ (Value.slice A n C)) (((w4.setCell ⟨w.heap.size + 1 + 1, 1, none⟩ (Value.slice A n C)).setCell ⟨w.heap.size + 1, 0, none⟩ (.int .i64 s)).setCell ⟨w.heap.size + 1, 1, none⟩ (Value.slice A n C)) :=
    (Kept.set (S := fun k => k = w.heap.size + 1) _ _ _ _ rfl).trans (Kept.set (S := fun k => k = w.heap.size + 1) _ _ _ _ rfl)
  refine bodyPost_ret (results_graph1 Try.results15 _ _ (w.heap.size + 1) _ _ rfl ((unhide HX5).two s (Value.slice A n C))) rfl ?_
  refine ⟨⟨_, rfl, _, rfl, ?_⟩, (unhide HB5).trans (hk6.below (unhide HB5).size (fun i hi => by omega))⟩
  rw [hn]
  exact own_lower hb3 (hk6.own (unhide HO5) (fun g hg e => by have := (unhide HO5).lt g hg; omega))

set_option maxRecDepth 100000 in
set_option maxHeartbeats 1000000 in
theorem eqGraph_same (v u : Value) (B B' : Nat) (s : Int) (Q : List EdgeI) (h1 : Q.length ≤ 1048576) (w : World) (hB : B ≤ w.heap.size) (hB' : B' ≤ w.heap.size) (hv : GrAt w v B s Q) (hu : GrAt w u B' s Q) :
    Calls Try.prog 16 #[v, u] w fun e w' => e = .returned (.bool true) ∧ Below w.heap.size w w' := by
  obtain ⟨a, n, c, rfl, hE⟩ := hv
  obtain ⟨a', n', c', rfl, hE'⟩ := hu
  obtain rfl : n = Q.length := hE.1.symm
  obtain rfl : n' = Q.length := hE'.1.symm
  have EQ := hide (fun w1 (hb : Below w.heap.size w w1) => eqEdgeS_same a a' Q.length c c' B B' Q h1 w1 (by have := hb.size; omega) (by have := hb.size; omega) (hE.below hb hB) (hE'.below hb hB'))
  clear hE hE' h1
  generalize Q.length = n at EQ
  go_enter Try.func16, Try.ntmps16
  go_wp2_with fail
  obtain ⟨V2, hV2⟩ : ∃ W, W = (w.alloc (Obj.cells #[Value.int .i64 s, Value.slice a n c] 26)).alloc (Obj.cells #[Value.int .i64 s, Value.slice a' n c'] 26) := ⟨_, rfl⟩
  rw [← hV2]
  have b2 : Below w.heap.size w V2 := by rw [hV2]; exact ((Below.refl _ _).alloc (Nat.le_refl _) _).alloc (by simp) _
  clear hV2
  refine (unhide EQ V2 b2).mono ?_
  rintro e w3 ⟨rfl, hb3⟩
  have hw3 := b2.trans (hb3.mono b2.size)
  clear hb3 b2
  go_wp2
  go_ret
  exact ⟨rfl, hw3⟩

set_option maxRecDepth 100000 in
set_option maxHeartbeats 1000000 in
theorem markGraph_any (v : Value) (B k : Nat) (s : Int) (Q : List EdgeI) (h1 : k + Q.length * 5 ≤ 100000000) (w : World) (ho : GrOwn w B v s Q) :
    Calls Try.prog 19 #[v, .int .i64 (k : Int)] w fun e w' => e = .returned (.int .i64 ((k + Q.length * 5 : Nat) : Int)) ∧ GrOwn w' B v s (marksEdge k Q.length) ∧ Kept (GrBlk v) w w' := by
  obtain ⟨v1, rfl, h⟩ := ho
  obtain ⟨A, C, rfl, _⟩ := edgesAt.of_own h
  have MK := hide (fun w1 (h : w1.ownsRow B 64 5 (.slice A Q.length C) Q.length (edgesV Q)) => markEdgeS_any _ B Q.length k Q h1 w1 h)
  have HO := hide h
  clear h
  have hlt := (unhide HO).lt
  generalize hn : Q.length = n at MK HO h1 hlt ⊢
  go_enter Try.func19, Try.ntmps19
  go_wp2_with fail
  obtain ⟨V2, hV2⟩ : ∃ W, W = w.alloc (Obj.cells #[Value.int .i64 s, Value.slice A n C] 26) := ⟨_, rfl⟩
  rw [← hV2]
  have b2 : Below w.heap.size w V2 := by rw [hV2]; exact below_new _ _
  clear hV2
  refine (unhide MK V2 (own_below (unhide HO) b2)).mono ?_
  rintro e w3 ⟨rfl, ho3, hk3⟩
  have HO3 := hide ho3
  have HK3 := hide ((Kept.of_below b2).trans hk3)
  clear ho3 hk3 b2
  go_wp2
  go_ret
  refine ⟨rfl, ⟨_, rfl, ?_⟩, (unhide HK3).weak (fun g hg => ⟨_, _, rfl, hg⟩)⟩
  rw [marksEdge_length]
  exact unhide HO3

theorem cells_graph : Try.prog.cellsOf 41 = 2 := by kernel_rfl

set_option maxRecDepth 100000 in
/-- A graph that came in. -/
theorem graph_open {H : Type} {enc : TypeId × Value → H} {W : World} {r : Reach} {b0 : Nat} {spare : Nat → Bool} {held : Bool} {v : Value} {d : DataW H} {p : List MemPlace}
    (hv : Value.okWide Try.prog W r b0 41 v) (h : DataW.Trod enc Try.prog W 0 spare held 41 v d p) : ∃ s Q, GrAt W v W.heap.size s Q ∧ Q.length ≤ 9223372036854775807 ∧ (Lit.int .i64 s).wf = true := by
  obtain ⟨v0, v1, y0, y1, n, rfl, _, _, h0, h1⟩ := Joins.open_agg2 Try.underlying41 (by kernel_rfl) cells_graph hv h
  obtain ⟨z, e2, _, hz⟩ := DataW.trod_int Try.underlying3 h0
  simp at e2
  subst e2
  obtain ⟨a', k', c', Q, rfl, hQ, hQ1⟩ := edges_open h1
  exact ⟨z, Q, ⟨a', k', c', rfl, hQ⟩, hQ1, hz⟩

end Gr
end Go.Proofs.Ytfhclbpbjlbebaa
