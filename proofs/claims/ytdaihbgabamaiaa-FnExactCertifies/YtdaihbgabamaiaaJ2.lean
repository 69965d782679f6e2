/-
  Texts of this claim, one behind the other: GrEdgeO, GrGraph, GrKinds, GrGroup2, GrBlkS, GrGroup3, GrGroup4.
-/
import Derived.Test.YtdaihbgabamaiaaJ1
import Derived.ShutString
import Derived.Laws.EntriesVeiled

/-
  Rows of Edge: a row that came in, read. Written by program (tools/introws.py).
-/
namespace Go.Proofs.Ytdaihbgabamaiaa
namespace Gr
open Go.ChangeShapes Go.WideShapes Go.ChangeAt Go.RowKit

theorem cells_Edge : Try.prog.cellsOf 88 = 5 := by kernel_rfl

set_option maxRecDepth 100000 in
theorem edges_cells {H : Type} {enc : TypeId × Value → H} {W : World} {base : Nat} {spare : Nat → Bool} {held : Bool} {n : Nat} {cs : List Value} {x : DataW H × List MemPlace} (hl : cs.length = 5)
    (h : DataW.trod enc Try.prog W base spare held n 88 cs = some x) : ∃ y : EdgeI, cs = [.int .i64 y.A, .int .i64 y.B, .int .i64 y.W1, .int .i64 y.W2, .int .i64 y.W3] := by
  obtain ⟨xs, k, hk, hxy, _, hxl, hf⟩ := DataW.trod_struct Try.underlying88 h
  match cs, hl with
  | [v0, v1, v2, v3, v4], _ =>
    have hl3 : xs.length = 5 := by simpa using hxl
    match xs, hl3 with
    | [y0, y1, y2, y3, y4], _ =>
      have g0 := hf 0 _ rfl
      have g1 := hf 1 _ rfl
      have g2 := hf 2 _ rfl
      have g3 := hf 3 _ rfl
      have g4 := hf 4 _ rfl
      simp [cells_int] at g0 g1 g2 g3 g4
      obtain ⟨z0, e0, _, _⟩ := DataW.trod_int Try.underlying3 g0
      obtain ⟨z1, e1, _, _⟩ := DataW.trod_int Try.underlying3 g1
      obtain ⟨z2, e2, _, _⟩ := DataW.trod_int Try.underlying3 g2
      obtain ⟨z3, e3, _, _⟩ := DataW.trod_int Try.underlying3 g3
      obtain ⟨z4, e4, _, _⟩ := DataW.trod_int Try.underlying3 g4
      simp at e0 e1 e2 e3 e4
      subst e0 e1 e2 e3 e4
      exact ⟨⟨z0, z1, z2, z3, z4⟩, rfl⟩

theorem edges_open {H : Type} {enc : TypeId × Value → H} {W : World} {spare : Nat → Bool} {held : Bool} {fuel : Nat} {v : Value} {x : DataW H × List MemPlace}
    (h : DataW.trod enc Try.prog W 0 spare held fuel 22 [v] = some x) :
    ∃ a n c Q, v = .slice a n c ∧ edgesAt W a n W.heap.size Q ∧ Q.length ≤ 9223372036854775807 := by
  rcases Deep.open_slice Try.underlying22 h with ⟨hcs, _⟩ | ⟨a, len, cap, m, n, D, Pl, hcs, hb, hl, hm, hmm, _, hx⟩
  · simp at hcs
    exact ⟨none, 0, 0, [], hcs, ⟨rfl, fun j hj => by simp at hj⟩, by simp⟩
  · simp at hcs
    have hlm : len ≤ m := by rw [hmm]; split <;> omega
    have hv : ∀ i, i < m → ∃ y : EdgeI, W.cell? (a.add (i * 5)) = some (.int .i64 y.A) ∧ W.cell? (a.add (i * 5 + 1)) = some (.int .i64 y.B) ∧ W.cell? (a.add (i * 5 + 2)) = some (.int .i64 y.W1) ∧ W.cell? (a.add (i * 5 + 3)) = some (.int .i64 y.W2) ∧ W.cell? (a.add (i * 5 + 4)) = some (.int .i64 y.W3) := by
      intro i hi
      obtain ⟨cs', h1, h2⟩ := hx i hi
      rw [cells_Edge] at h1
      obtain ⟨_, hlen, hcell⟩ := World.cells?_some h1
      obtain ⟨y, rfl⟩ := edges_cells hlen h2
      have e0 := hcell 0 (by omega)
      have e1 := hcell 1 (by omega)
      have e2 := hcell 2 (by omega)
      have e3 := hcell 3 (by omega)
      have e4 := hcell 4 (by omega)
      rw [Deep.add_add] at e0 e1 e2 e3 e4
      exact ⟨y, by simpa using e0, by simpa using e1, by simpa using e2, by simpa using e3, by simpa using e4⟩
    let X : Nat → EdgeI := fun i => if hi : i < m then (hv i hi).choose else EdgeI.zero
    have hX : ∀ i, i < m → W.cell? (a.add (i * 5)) = some (.int .i64 (X i).A) ∧ W.cell? (a.add (i * 5 + 1)) = some (.int .i64 (X i).B) ∧ W.cell? (a.add (i * 5 + 2)) = some (.int .i64 (X i).W1) ∧ W.cell? (a.add (i * 5 + 3)) = some (.int .i64 (X i).W2) ∧ W.cell? (a.add (i * 5 + 4)) = some (.int .i64 (X i).W3) := by
      intro i hi
      have hsp2 := (hv i hi).choose_spec
      simp only [X, hi, dif_pos]
      exact hsp2
    refine ⟨some a, len, cap, (List.range len).map X, hcs, ⟨by simp, fun j hj => ?_⟩, by unfold maxLen at hm; simp; omega⟩
    have hj1 : j < len := by simpa using hj
    obtain ⟨b, off, spot⟩ := a
    have hspot : spot = none := by simpa [Addr.add] using World.cell?_spot (hX 0 (by omega)).1
    subst hspot
    obtain ⟨h0, h1, h2, h3, h4⟩ := hX j (by omega)
    rw [Addr.add_lit] at h0 h1 h2 h3 h4
    refine ⟨b, off, rfl, by simpa using World.block_lt_of_cell? W _ h0, ?_, ?_, ?_, ?_, ?_⟩
    · rw [h0]; simp
    · rw [← Nat.add_assoc] at h1
      rw [h1]; simp
    · rw [← Nat.add_assoc] at h2
      rw [h2]; simp
    · rw [← Nat.add_assoc] at h3
      rw [h3]; simp
    · rw [← Nat.add_assoc] at h4
      rw [h4]; simp

set_option maxRecDepth 100000 in
/-- One that came in. -/
theorem edges_one {H : Type} {enc : TypeId × Value → H} {W : World} {r : Reach} {b0 : Nat} {spare : Nat → Bool} {held : Bool} {v : Value} {d : DataW H} {p : List MemPlace}
    (hv : Value.okWide Try.prog W r b0 88 v) (h : DataW.Trod enc Try.prog W 0 spare held 88 v d p) : ∃ x : EdgeI, v = x.v := by
  obtain ⟨cs, rfl, hsz⟩ := okWide_struct Try.underlying88 hv
  obtain ⟨fuel, hf⟩ := h
  have hl : (Value.agg cs).cells.toList.length = 5 := by simpa [Value.cells, cells_Edge] using hsz
  obtain ⟨y, e⟩ := edges_cells hl hf
  refine ⟨y, ?_⟩
  have e2 : cs.toList = [.int .i64 y.A, .int .i64 y.B, .int .i64 y.W1, .int .i64 y.W2, .int .i64 y.W3] := by simpa [Value.cells] using e
  unfold EdgeI.v
  congr 1
  exact Array.toList_inj.1 e2

end Gr
end Go.Proofs.Ytdaihbgabamaiaa

/-
  Graphs in memory, and what the laws do with them.
-/
namespace Go.Proofs.Ytdaihbgabamaiaa
namespace Gr
open Go.ChangeShapes Go.WideShapes Go.ChangeAt Go.RowKit

/-- A graph that can be read, its row below block B. -/
def GrAt (w : World) (v : Value) (B : Nat) (s : Int) (Q : List EdgeI) : Prop := ∃ a n c, v = .agg #[.int .i64 s, .slice a n c] ∧ edgesAt w a n B Q

theorem GrAt.below {w w' : World} {v : Value} {B C : Nat} {s : Int} {Q : List EdgeI} (h : GrAt w v B s Q) (hb : Below C w w') (hC : B ≤ C) : GrAt w' v B s Q := by
  obtain ⟨a, n, c, rfl, hQ⟩ := h
  exact ⟨a, n, c, rfl, hQ.below hb hC⟩

theorem GrAt.mono {w : World} {v : Value} {B C : Nat} {s : Int} {Q : List EdgeI} (h : GrAt w v B s Q) (hC : B ≤ C) : GrAt w v C s Q := by
  obtain ⟨a, n, c, rfl, hQ⟩ := h
  exact ⟨a, n, c, rfl, hQ.mono hC⟩

/-- A graph that this call has made. -/
def GrOwn (w : World) (B : Nat) (v : Value) (s : Int) (Q : List EdgeI) : Prop := ∃ v1, v = .agg #[.int .i64 s, v1] ∧ w.ownsRow B 61 5 v1 Q.length (edgesV Q)

theorem GrOwn.at {w : World} {B : Nat} {v : Value} {s : Int} {Q : List EdgeI} (h : GrOwn w B v s Q) : GrAt w v w.heap.size s Q := by
  obtain ⟨v1, rfl, h1⟩ := h
  obtain ⟨a, c, rfl, hQ⟩ := edgesAt.of_own h1
  exact ⟨a, _, c, rfl, hQ⟩

theorem GrOwn.below {w w' : World} {B : Nat} {v : Value} {s : Int} {Q : List EdgeI} (h : GrOwn w B v s Q) (hb : Below w.heap.size w w') : GrOwn w' B v s Q := by
  obtain ⟨v1, rfl, h1⟩ := h
  exact ⟨v1, rfl, own_below h1 hb⟩

theorem GrOwn.lower {w : World} {B C : Nat} {v : Value} {s : Int} {Q : List EdgeI} (h : GrOwn w B v s Q) (hC : C ≤ B) : GrOwn w C v s Q := by
  obtain ⟨v1, rfl, h1⟩ := h
  exact ⟨v1, rfl, own_lower hC h1⟩

/-- The block of a graph's row. -/
def GrBlk (v : Value) (g : Nat) : Prop := ∃ x v1, v = .agg #[x, v1] ∧ v1.ownBlock = some g

theorem GrOwn.blk {w : World} {B : Nat} {v : Value} {s : Int} {Q : List EdgeI} (h : GrOwn w B v s Q) : ∀ g, GrBlk v g → B ≤ g ∧ g < w.heap.size := by
  obtain ⟨v1, rfl, h1⟩ := h
  rintro g ⟨x, u1, e, hg⟩
  simp at e
  obtain ⟨rfl, rfl⟩ := e
  exact h1.lt g hg

theorem GrOwn.kept {S : Nat → Prop} {w w' : World} {B : Nat} {v : Value} {s : Int} {Q : List EdgeI} (h : GrOwn w B v s Q) (hk : Kept S w w') (hS : ∀ g, GrBlk v g → ¬ S g) : GrOwn w' B v s Q := by
  obtain ⟨v1, rfl, h1⟩ := h
  exact ⟨v1, rfl, hk.own h1 (fun g hg => hS g ⟨_, v1, rfl, hg⟩)⟩

/-- A graph's variable in memory. -/
def GBox (w : World) (g : Nat) (s : Int) (b : Value) : Prop := w.heap[g]? = some (.cells #[.int .i64 s, b] 34 (0, 0))

theorem GBox.lt {w : World} {g : Nat} {s : Int} {b : Value} (h : GBox w g s b) : g < w.heap.size := by
  rcases Nat.lt_or_ge g w.heap.size with h1 | h1
  · exact h1
  · unfold GBox at h; rw [Array.getElem?_eq_none h1] at h; cases h

theorem GBox.below {w w' : World} {g : Nat} {s : Int} {b : Value} (h : GBox w g s b) (hb : Below w.heap.size w w') : GBox w' g s b := by
  unfold GBox; rw [hb.block g h.lt]; exact h

theorem GBox.kept {S : Nat → Prop} {w w' : World} {g : Nat} {s : Int} {b : Value} (h : GBox w g s b) (hk : Kept S w w') (hS : ¬ S g) : GBox w' g s b := by
  unfold GBox; rw [hk.2.2.2.2 g h.lt hS]; exact h

theorem GBox.new (w : World) (s : Int) (b : Value) : GBox (w.alloc (Obj.cells #[.int .i64 s, b] 34)) w.heap.size s b := heap_alloc_new w _

theorem GBox.cells {w : World} {g : Nat} {s : Int} {b : Value} (h : GBox w g s b) : w.cell? ⟨g, 0, none⟩ = some (.int .i64 s) ∧ w.cell? ⟨g, 1, none⟩ = some b :=
  ⟨(cells_of_two h).1, (cells_of_two h).2.1⟩

theorem GBox.froz {w : World} {g : Nat} {s : Int} {b : Value} (h : GBox w g s b) (j : Nat) : w.frozen? ⟨g, j, none⟩ = false := (cells_of_two h).2.2 j

theorem GBox.two {w : World} {g : Nat} {s : Int} {b : Value} (h : GBox w g s b) (x : Int) (y : Value) : GBox ((w.setCell ⟨g, 0, none⟩ (.int .i64 x)).setCell ⟨g, 1, none⟩ y) g x y := two_one (two_zero h _) _

theorem GBox.one {w : World} {g : Nat} {s : Int} {b : Value} (h : GBox w g s b) (y : Value) : GBox (w.setCell ⟨g, 1, none⟩ y) g s y := two_one h _

theorem results_graph {fn : Func} {p u : Tmp} (h : fn.results = #[.cell p 34, .tmp u]) (tmps : Array Value) (w : World) (g : Nat) (s : Int) (b : Value) (hp : tmps.getD p undef = .pointer (some ⟨g, 0, none⟩)) (hg : GBox w g s b) :
    (results fn tmps).run Try.prog w = .ok (.tuple #[.agg #[.int .i64 s, b], tmps.getD u undef]) w := by
  obtain ⟨c0, c1⟩ := hg.cells
  have hp' : tmps[p]?.getD undef = .pointer (some ⟨g, 0, none⟩) := by simpa using hp
  simp [results, h, hp', go_sem, c0, c1]

theorem results_graph1 {fn : Func} {p : Tmp} (h : fn.results = #[.cell p 34]) (tmps : Array Value) (w : World) (g : Nat) (s : Int) (b : Value) (hp : tmps.getD p undef = .pointer (some ⟨g, 0, none⟩)) (hg : GBox w g s b) :
    (results fn tmps).run Try.prog w = .ok (.agg #[.int .i64 s, b]) w := by
  obtain ⟨c0, c1⟩ := hg.cells
  have hp' : tmps[p]?.getD undef = .pointer (some ⟨g, 0, none⟩) := by simpa using hp
  simp [results, h, hp', go_sem, c0, c1]

set_option maxRecDepth 100000 in
theorem szGraph_any (v : Value) (B : Nat) (s : Int) (Q : List EdgeI) (left : Int) (h0 : 0 ≤ left) (h1 : left ≤ 1048576) (hQ : Q.length ≤ 9223372036854775807) (w : World) (hv : GrAt w v B s Q) :
    Calls Try.prog 6 #[v, .int .i64 left] w fun e w' => e = .returned (.int .i64 (if left - (Q.length : Int) < 0 then -1 else left - (Q.length : Int))) ∧ Below w.heap.size w w' := by
  obtain ⟨a, n, c, rfl, hE⟩ := hv
  obtain rfl : n = Q.length := hE.1.symm
  have HS := hide (fun w => szEdgeS_any a Q.length c left h0 h1 hQ w)
  clear hE
  generalize (Q.length : Nat) = n at HS
  by_cases h : left - (n : Int) < 0
  · rw [if_pos h] at HS ⊢
    go_enter Try.func6, Try.ntmps6
    go_wp2_with fail
    refine (unhide HS _).mono ?_
    rintro e w1 ⟨rfl, rfl⟩
    go_wp2
    go_ret
    exact ⟨rfl, below_new _ _⟩
  · rw [if_neg h] at HS ⊢
    go_enter Try.func6, Try.ntmps6
    go_wp2_with fail
    refine (unhide HS _).mono ?_
    rintro e w1 ⟨rfl, rfl⟩
    go_wp2
    go_ret
    exact ⟨rfl, below_new _ _⟩

set_option maxRecDepth 100000 in
set_option maxHeartbeats 1000000 in
theorem toGraph_any (v : Value) (B : Nat) (s : Int) (Q : List EdgeI) (h1 : Q.length ≤ 1048576) (w : World) (hB : B ≤ w.heap.size) (hv : GrAt w v B s Q) :
    Calls Try.prog 9 #[v] w fun e w' => (∃ d, e = .returned d ∧ GrOwn w' w.heap.size d s Q) ∧ Below w.heap.size w w' := by
  obtain ⟨a, n, c, rfl, hE⟩ := hv
  obtain rfl : n = Q.length := hE.1.symm
  have H1 := hide (fun w1 (hb : Below w.heap.size w w1) => toEdgeS_any a Q.length c B Q h1 w1 (by have := hb.size; omega) (hE.below hb hB))
  clear hE h1
  generalize hn : Q.length = n at H1
  go_enter Try.func9, Try.ntmps9
  go_wp2_with fail
  obtain ⟨V1, hV1⟩ : ∃ W, W = w.alloc (Obj.cells #[Value.int .i64 s, Value.slice a n c] 24) := ⟨_, rfl⟩
  obtain ⟨V2, hV2⟩ : ∃ W, W = V1.alloc (Obj.cells #[Value.int .i64 0, Value.slice none 0 0] 34) := ⟨_, rfl⟩
  obtain ⟨V3, hV3⟩ : ∃ W, W = V2.alloc (Obj.cells #[Value.int .i64 s, Value.slice none 0 0] 34) := ⟨_, rfl⟩
  rw [← hV1, ← hV2, ← hV3]
  have z1 : V1.heap.size = w.heap.size + 1 := by rw [hV1]; simp
  have z2 : V2.heap.size = w.heap.size + 1 + 1 := by rw [hV2]; simp [z1]
  have b1 : Below w.heap.size w V1 := by rw [hV1]; exact below_new _ _
  have b2 : Below w.heap.size w V2 := by rw [hV2]; exact b1.alloc b1.size _
  have b3 : Below w.heap.size w V3 := by rw [hV3]; exact b2.alloc b2.size _
  have x2 : GBox V2 (w.heap.size + 1) 0 (.slice none 0 0) := by rw [hV2, ← z1]; exact GBox.new _ _ _
  have x3 : GBox V3 (w.heap.size + 1) 0 (.slice none 0 0) := by rw [hV3]; exact x2.below (below_new _ _)
  have y3 : GBox V3 (w.heap.size + 1 + 1) s (.slice none 0 0) := by rw [hV3, ← z2]; exact GBox.new _ _ _
  clear hV1 hV2 hV3 b1 b2 x2 z1 z2
  refine (unhide H1 V3 b3).mono ?_
  rintro e w4 ⟨⟨v1, rfl, ho⟩, hb4⟩
  obtain ⟨A, C, rfl, _⟩ := edgesAt.of_own ho
  have x4 := x3.below hb4
  have y4 := y3.below hb4
  have b4 : Below w.heap.size w w4 := b3.trans (hb4.mono b3.size)
  have hs3 := y3.lt
  have hs4 := hb4.size
  have y5 := y4.one (Value.slice A n C)
  have hk5 : Kept (fun k => k = w.heap.size + 1 + 1) w4 (w4.setCell ⟨w.heap.size + 1 + 1, 1, none⟩ (Value.slice A n C)) := Kept.set (S := fun k => k = w.heap.size + 1 + 1) _ _ _ _ rfl
  have x5 := x4.kept hk5 (by omega)
  have o5 := hk5.own ho (fun g hg e => by have := ho.lt g hg; omega)
  have b5 : Below w.heap.size w (w4.setCell ⟨w.heap.size + 1 + 1, 1, none⟩ (Value.slice A n C)) := b4.setCell (p := ⟨w.heap.size + 1 + 1, 1, none⟩) (by simp; omega) _
  obtain ⟨p0, p1⟩ := y4.cells
  have pf := y4.froz
  obtain ⟨q0, q1⟩ := y5.cells
  obtain ⟨t0, t1⟩ := x5.cells
  have tf := x5.froz
  have HX5 := hide x5
  have HO5 := hide o5
  have HB5 := hide b5
  have hb3 := b3.size
  clear ho x3 y3 x4 y4 y5 x5 o5 b4 b5 hb4 hk5 b3
  go_wp2
  (try simp only [Exit.inBlock, Exit.then])
  have hk6 : Kept (fun k => k = w.heap.size + 1) (w4.setCell ⟨w.heap.size + 1 + 1, 1, none⟩ (Value.slice A n C)) (((w4.setCell ⟨w.heap.size + 1 + 1, 1, none⟩ (Value.slice A n C)).setCell ⟨w.heap.size + 1, 0, none⟩ (.int .i64 s)).setCell ⟨w.heap.size + 1, 1, none⟩ (Value.slice A n C)) :=
    (Kept.set (S := fun k => k = w.heap.size + 1) _ _ _ _ rfl).trans (Kept.set (S := fun k => k = w.heap.size + 1) _ _ _ _ rfl)
  refine bodyPost_ret (results_graph1 Try.results9 _ _ (w.heap.size + 1) _ _ rfl ((unhide HX5).two s (Value.slice A n C))) rfl ?_
  refine ⟨⟨_, rfl, _, rfl, ?_⟩, (unhide HB5).trans (hk6.below (unhide HB5).size (fun i hi => by omega))⟩
  rw [hn]
  exact own_lower hb3 (hk6.own (unhide HO5) (fun g hg e => by have := (unhide HO5).lt g hg; omega))

set_option maxRecDepth 100000 in
set_option maxHeartbeats 1000000 in
theorem eqGraph_same (v u : Value) (B B' : Nat) (s : Int) (Q : List EdgeI) (h1 : Q.length ≤ 1048576) (w : World) (hB : B ≤ w.heap.size) (hB' : B' ≤ w.heap.size) (hv : GrAt w v B s Q) (hu : GrAt w u B' s Q) :
    Calls Try.prog 12 #[v, u] w fun e w' => e = .returned (.bool true) ∧ Below w.heap.size w w' := by
  obtain ⟨a, n, c, rfl, hE⟩ := hv
  obtain ⟨a', n', c', rfl, hE'⟩ := hu
  obtain rfl : n = Q.length := hE.1.symm
  obtain rfl : n' = Q.length := hE'.1.symm
  have EQ := hide (fun w1 (hb : Below w.heap.size w w1) => eqEdgeS_same a a' Q.length c c' B B' Q h1 w1 (by have := hb.size; omega) (by have := hb.size; omega) (hE.below hb hB) (hE'.below hb hB'))
  clear hE hE' h1
  generalize Q.length = n at EQ
  go_enter Try.func12, Try.ntmps12
  go_wp2_with fail
  obtain ⟨V2, hV2⟩ : ∃ W, W = (w.alloc (Obj.cells #[Value.int .i64 s, Value.slice a n c] 34)).alloc (Obj.cells #[Value.int .i64 s, Value.slice a' n c'] 34) := ⟨_, rfl⟩
  rw [← hV2]
  have b2 : Below w.heap.size w V2 := by rw [hV2]; exact ((Below.refl _ _).alloc (Nat.le_refl _) _).alloc (by simp) _
  clear hV2
  refine (unhide EQ V2 b2).mono ?_
  rintro e w3 ⟨rfl, hb3⟩
  have hw3 := b2.trans (hb3.mono b2.size)
  clear hb3 b2
  go_wp2
  go_ret
  exact ⟨rfl, hw3⟩

theorem cells_graph : Try.prog.cellsOf 24 = 2 := by kernel_rfl

set_option maxRecDepth 100000 in
/-- A graph that came in. -/
theorem graph_open {H : Type} {enc : TypeId × Value → H} {W : World} {r : Reach} {b0 : Nat} {spare : Nat → Bool} {held : Bool} {v : Value} {d : DataW H} {p : List MemPlace}
    (hv : Value.okWide Try.prog W r b0 24 v) (h : DataW.Trod enc Try.prog W 0 spare held 24 v d p) : ∃ s Q, GrAt W v W.heap.size s Q ∧ Q.length ≤ 9223372036854775807 ∧ (Lit.int .i64 s).wf = true := by
  obtain ⟨v0, v1, y0, y1, n, rfl, _, _, h0, h1⟩ := Joins.open_agg2 Try.underlying24 (by kernel_rfl) cells_graph hv h
  obtain ⟨z, e2, _, hz⟩ := DataW.trod_int Try.underlying3 h0
  simp at e2
  subst e2
  obtain ⟨a', k', c', Q, rfl, hQ, hQ1⟩ := edges_open h1
  exact ⟨z, Q, ⟨a', k', c', rfl, hQ⟩, hQ1, hz⟩

end Gr
end Go.Proofs.Ytdaihbgabamaiaa

/-
  The kinds of values that the laws hand about, in one form each (..At: it can be read; ..Own: a call has made it; ..Blk: its blocks), so that a law's walk is written by program (tools/exactlaw.py). A struct's variable in memory: CBox.
-/
namespace Go.Proofs.Ytdaihbgabamaiaa
namespace Gr
open Go.ChangeShapes Go.WideShapes Go.ChangeAt Go.RowKit

/-- A struct's variable in memory. -/
def CBox (w : World) (g : Nat) (cs : Array Value) (t : TypeId) : Prop := w.heap[g]? = some (.cells cs t (0, 0))

theorem CBox.lt {w : World} {g : Nat} {cs : Array Value} {t : TypeId} (h : CBox w g cs t) : g < w.heap.size := by
  rcases Nat.lt_or_ge g w.heap.size with h1 | h1
  · exact h1
  · unfold CBox at h; rw [Array.getElem?_eq_none h1] at h; cases h

theorem CBox.below {w w' : World} {g : Nat} {cs : Array Value} {t : TypeId} (h : CBox w g cs t) (hb : Below w.heap.size w w') : CBox w' g cs t := by
  unfold CBox; rw [hb.block g h.lt]; exact h

theorem CBox.kept {S : Nat → Prop} {w w' : World} {g : Nat} {cs : Array Value} {t : TypeId} (h : CBox w g cs t) (hk : Kept S w w') (hS : ¬ S g) : CBox w' g cs t := by
  unfold CBox; rw [hk.2.2.2.2 g h.lt hS]; exact h

theorem CBox.new (w : World) (cs : Array Value) (t : TypeId) : CBox (w.alloc (Obj.cells cs t)) w.heap.size cs t := heap_alloc_new w _

theorem CBox.cell {w : World} {g : Nat} {cs : Array Value} {t : TypeId} (h : CBox w g cs t) (i : Nat) : w.cell? ⟨g, i, none⟩ = cs[i]? := cell_of_row w g i cs t (0, 0) h

/-! ### Graphs -/

theorem GrAt.shape {w : World} {v : Value} {B : Nat} {s : Int} {Q : List EdgeI} (h : GrAt w v B s Q) : ∃ a c, v = .agg #[.int .i64 s, .slice a Q.length c] := by
  obtain ⟨a, n, c, rfl, hE⟩ := h
  exact ⟨a, c, by rw [hE.1]⟩

theorem szGraph_gen (v : Value) (B : Nat) (s : Int) (Q : List EdgeI) (left : Int) (h0 : 0 ≤ left) (h1 : left ≤ 1048576) (hQ : Q.length ≤ 9223372036854775807) (w : World) (hv : GrAt w v B s Q) :
    Calls Try.prog 6 #[v, .int .i64 left] w fun e w' => (∃ x : Int, e = .returned (.int .i64 x) ∧ x ≤ left ∧ (0 ≤ x → (Q.length : Int) + x ≤ left)) ∧ Below w.heap.size w w' := by
  refine (szGraph_any v B s Q left h0 h1 hQ w hv).mono ?_
  rintro e w' ⟨rfl, hb⟩
  refine ⟨⟨_, rfl, ?_, ?_⟩, hb⟩
  · split <;> omega
  · split <;> omega

/-! ### Lists of numbers -/

def InAt (w : World) (v : Value) (B : Nat) (K : List Int) : Prop := ∃ a c, v = .slice a K.length c ∧ IntsAt w a K.length B K
def InOwn (w : World) (B : Nat) (v : Value) (K : List Int) : Prop := w.ownsRow B 3 1 v K.length (intsV K)
def InBlk (v : Value) (g : Nat) : Prop := v.ownBlock = some g

theorem InAt.shape {w : World} {v : Value} {B : Nat} {K : List Int} (h : InAt w v B K) : ∃ a c, v = .slice a K.length c := by
  obtain ⟨a, c, rfl, _⟩ := h
  exact ⟨a, c, rfl⟩

theorem InAt.below {w w' : World} {v : Value} {B C : Nat} {K : List Int} (h : InAt w v B K) (hb : Below C w w') (hC : B ≤ C) : InAt w' v B K := by
  obtain ⟨a, c, rfl, hQ⟩ := h
  exact ⟨a, c, rfl, hQ.below hb hC⟩

theorem InAt.mono {w : World} {v : Value} {B C : Nat} {K : List Int} (h : InAt w v B K) (hC : B ≤ C) : InAt w v C K := by
  obtain ⟨a, c, rfl, h1, h2⟩ := h
  refine ⟨a, c, rfl, h1, fun j hj => ?_⟩
  obtain ⟨b, off, e, hb, hc⟩ := h2 j hj
  exact ⟨b, off, e, by omega, hc⟩

theorem InOwn.at {w : World} {B : Nat} {v : Value} {K : List Int} (h : InOwn w B v K) : InAt w v w.heap.size K := by
  obtain ⟨a, c, rfl, hQ⟩ := intsAt_of_own h
  exact ⟨a, c, rfl, hQ⟩

theorem InOwn.below {w w' : World} {B : Nat} {v : Value} {K : List Int} (h : InOwn w B v K) (hb : Below w.heap.size w w') : InOwn w' B v K := own_below h hb

theorem InOwn.lower {w : World} {B C : Nat} {v : Value} {K : List Int} (h : InOwn w B v K) (hC : C ≤ B) : InOwn w C v K := own_lower hC h

theorem InOwn.blk {w : World} {B : Nat} {v : Value} {K : List Int} (h : InOwn w B v K) : ∀ g, InBlk v g → B ≤ g ∧ g < w.heap.size := fun g hg => World.ownsRow.lt h g hg

theorem InOwn.kept {S : Nat → Prop} {w w' : World} {B : Nat} {v : Value} {K : List Int} (h : InOwn w B v K) (hk : Kept S w w') (hS : ∀ g, InBlk v g → ¬ S g) : InOwn w' B v K := hk.own h hS

theorem toInts_gen (v : Value) (B : Nat) (K : List Int) (h1 : K.length ≤ 1048576) (w : World) (hB : B ≤ w.heap.size) (hv : InAt w v B K) :
    Calls Try.prog 29 #[v] w fun e w' => (∃ d, e = .returned d ∧ InOwn w' w.heap.size d K) ∧ Below w.heap.size w w' := by
  obtain ⟨a, c, rfl, hQ⟩ := hv
  exact toInts_any a K.length c B K h1 w hB hQ

theorem eqInts_gen (v u : Value) (B B' : Nat) (K : List Int) (h1 : K.length ≤ 1048576) (w : World) (hB : B ≤ w.heap.size) (hB' : B' ≤ w.heap.size) (hv : InAt w v B K) (hu : InAt w u B' K) :
    Calls Try.prog 38 #[v, u] w fun e w' => e = .returned (.bool true) ∧ Below w.heap.size w w' := by
  obtain ⟨a, c, rfl, hQ⟩ := hv
  obtain ⟨a', c', rfl, hQ'⟩ := hu
  exact eqInts_same a a' K.length c c' B B' K h1 w hB hB' hQ hQ'

/-! ### An edge -/

def EdAt (_w : World) (v : Value) (_B : Nat) (x : EdgeI) : Prop := v = x.v
def EdOwn (_w : World) (_B : Nat) (v : Value) (x : EdgeI) : Prop := v = x.v

theorem EdAt.shape {w : World} {v : Value} {B : Nat} {x : EdgeI} (h : EdAt w v B x) : v = .agg #[.int .i64 x.A, .int .i64 x.B, .int .i64 x.W1, .int .i64 x.W2, .int .i64 x.W3] := h
theorem EdAt.below {w w' : World} {v : Value} {B C : Nat} {x : EdgeI} (h : EdAt w v B x) (_hb : Below C w w') (_hC : B ≤ C) : EdAt w' v B x := h
theorem EdAt.mono {w : World} {v : Value} {B C : Nat} {x : EdgeI} (h : EdAt w v B x) (_hC : B ≤ C) : EdAt w v C x := h
theorem EdOwn.at {w : World} {B : Nat} {v : Value} {x : EdgeI} (h : EdOwn w B v x) : EdAt w v w.heap.size x := h
theorem EdOwn.below {w w' : World} {B : Nat} {v : Value} {x : EdgeI} (h : EdOwn w B v x) (_hb : Below w.heap.size w w') : EdOwn w' B v x := h

theorem toEdge_gen (v : Value) (B : Nat) (x : EdgeI) (w : World) (_hB : B ≤ w.heap.size) (hv : EdAt w v B x) :
    Calls Try.prog 52 #[v] w fun e w' => (∃ d, e = .returned d ∧ EdOwn w' w.heap.size d x) ∧ Below w.heap.size w w' := by
  unfold EdAt at hv
  subst hv
  refine (toEdge_any x w).mono ?_
  rintro e w' ⟨rfl, hb⟩
  exact ⟨⟨_, rfl, rfl⟩, hb⟩

theorem eqEdge_gen (v u : Value) (B B' : Nat) (x : EdgeI) (w : World) (_hB : B ≤ w.heap.size) (_hB' : B' ≤ w.heap.size) (hv : EdAt w v B x) (hu : EdAt w u B' x) :
    Calls Try.prog 60 #[v, u] w fun e w' => e = .returned (.bool true) ∧ Below w.heap.size w w' := by
  unfold EdAt at hv hu
  subst hv hu
  exact eqEdge_same x w

/-! ### What came in -/

set_option maxRecDepth 100000 in
theorem ints_in {H : Type} {enc : TypeId × Value → H} {W : World} {r : Reach} {b0 : Nat} {v : Value} {d : DataW H} {p : List MemPlace}
    (hv : Value.okWide Try.prog W r b0 25 v) (h : DataW.Trod enc Try.prog W 0 (fun _ => true) true 25 v d p) : ∃ K, InAt W v W.heap.size K ∧ K.length ≤ 9223372036854775807 := by
  obtain ⟨a, n, c, rfl⟩ := okWide_slice Try.underlying25 hv
  obtain ⟨fuel, hf⟩ := h
  obtain ⟨a', n', c', K, hcs, hK, _, hn⟩ := ints_open (fun _ => rfl) hf
  simp [Value.cells] at hcs
  obtain ⟨rfl, rfl, rfl⟩ := hcs
  obtain rfl : n = K.length := hK.1.symm
  exact ⟨K, ⟨a, c, rfl, hK⟩, hn⟩

set_option maxRecDepth 100000 in
theorem graph_in {H : Type} {enc : TypeId × Value → H} {W : World} {r : Reach} {b0 : Nat} {v : Value} {d : DataW H} {p : List MemPlace}
    (hv : Value.okWide Try.prog W r b0 24 v) (h : DataW.Trod enc Try.prog W 0 (fun _ => true) true 24 v d p) : ∃ s Q, GrAt W v W.heap.size s Q ∧ Q.length ≤ 9223372036854775807 := by
  obtain ⟨s, Q, h1, h2, _⟩ := graph_open hv h
  exact ⟨s, Q, h1, h2⟩

set_option maxRecDepth 100000 in
theorem edge_in {H : Type} {enc : TypeId × Value → H} {W : World} {r : Reach} {b0 : Nat} {v : Value} {d : DataW H} {p : List MemPlace}
    (hv : Value.okWide Try.prog W r b0 88 v) (h : DataW.Trod enc Try.prog W 0 (fun _ => true) true 88 v d p) : ∃ x, EdAt W v W.heap.size x := edges_one hv h

end Gr
end Go.Proofs.Ytdaihbgabamaiaa

/-
  Groups and proofs: their sizes, copies of them, and that equal ones are told to be equal.
-/
namespace Go.Proofs.Ytdaihbgabamaiaa
namespace Gr
open Go.RowKit

theorem wrap_sub {left : Int} {n : Nat} (h0 : 0 ≤ left) (h1 : left ≤ 1048576) (hn : n ≤ 9223372036854775807) : IntKind.i64.wrap (left - (n : Int)) = left - (n : Int) := by
  have e : IntKind.i64.wrap (left - (n : Int)) = if (9223372036854775808 : Int) ≤ (left - (n : Int)) % 18446744073709551616 then (left - (n : Int)) % 18446744073709551616 - 18446744073709551616 else (left - (n : Int)) % 18446744073709551616 := by
    simp [IntKind.wrap, IntKind.signed, IntKind.bits]
  rw [e]
  split <;> omega

set_option maxRecDepth 100000 in
theorem szInts_any (a : Option Addr) (n c : Nat) (left : Int) (h0 : 0 ≤ left) (h1 : left ≤ 1048576) (hn : n ≤ 9223372036854775807) (w : World) :
    Calls Try.prog 22 #[.slice a n c, .int .i64 left] w fun e w' => e = .returned (.int .i64 (if left - (n : Int) < 0 then -1 else left - (n : Int))) ∧ w' = w := by
  obtain ⟨x, hx⟩ : ∃ x, x = left - (n : Int) := ⟨_, rfl⟩
  have hw : IntKind.i64.wrap (left - (n : Int)) = x := by rw [hx]; exact wrap_sub h0 h1 hn
  rw [← hx]
  clear hx
  by_cases t : x < 0
  · rw [if_pos t]
    go_enter Try.func22, Try.ntmps22
    go_wp2
    go_ret
    exact ⟨rfl, rfl⟩
  · rw [if_neg t]
    go_enter Try.func22, Try.ntmps22
    go_wp2
    go_ret
    exact ⟨rfl, rfl⟩

set_option maxRecDepth 100000 in
theorem szGroup_any (a : Option Addr) (n c : Nat) (z left : Int) (h0 : 0 ≤ left) (h1 : left ≤ 1048576) (hn : n ≤ 9223372036854775807) (w : World) :
    Calls Try.prog 48 #[.agg #[.slice a n c, .int .i64 z], .int .i64 left] w fun e w' => e = .returned (.int .i64 (if left - (n : Int) < 0 then -1 else left - (n : Int))) ∧ Below w.heap.size w w' := by
  have SZ := hide (fun w => szInts_any a n c left h0 h1 hn w)
  obtain ⟨x, hx⟩ : ∃ x, x = left - (n : Int) := ⟨_, rfl⟩
  rw [← hx] at SZ ⊢
  clear hx
  by_cases t : x < 0
  · rw [if_pos t] at SZ ⊢
    go_enter Try.func48, Try.ntmps48
    go_wp2_with fail
    refine (unhide SZ _).mono ?_
    rintro e w1 ⟨rfl, rfl⟩
    go_wp2
    go_ret
    exact ⟨rfl, below_new _ _⟩
  · rw [if_neg t] at SZ ⊢
    go_enter Try.func48, Try.ntmps48
    go_wp2_with fail
    refine (unhide SZ _).mono ?_
    rintro e w1 ⟨rfl, rfl⟩
    go_wp2
    go_ret
    exact ⟨rfl, below_new _ _⟩

theorem gbulk_drop (G : List GrpI) (j : Nat) (h : j < G.length) : gbulk (G.drop j) = G[j].M.length + gbulk (G.drop (j + 1)) := by
  rw [List.drop_eq_getElem_cons h]
  rfl

set_option maxRecDepth 100000 in
set_option maxHeartbeats 1000000 in
theorem szGroups_any (a : Option Addr) (n c B : Nat) (G : List GrpI) (left : Int) (h0 : 0 ≤ left) (h1 : left ≤ 1048576) (hn : n ≤ 9223372036854775807) (hm : ∀ q ∈ G, q.M.length ≤ 9223372036854775807) (w : World) (hG : groupsAt w a n B G) :
    Calls Try.prog 23 #[.slice a n c, .int .i64 left] w fun e w' => (∃ x : Int, e = .returned (.int .i64 x) ∧ x ≤ left ∧ (0 ≤ x → ((G.length + gbulk G : Nat) : Int) + x ≤ left)) ∧ Below w.heap.size w w' := by
  obtain ⟨hL, hc⟩ := hG
  have HC := hide hc
  have HL := hide hL
  have HM := hide hm
  have HD := hide (fun j h => gbulk_drop G j h)
  have HD0 : Hid (gbulk G = gbulk (G.drop 0)) := rfl
  have HDN : Hid (gbulk (G.drop n) = 0) := by show _ = _; rw [← hL, List.drop_length]; rfl
  clear hc hm
  obtain ⟨x, hx⟩ : ∃ x, x = left - (n : Int) := ⟨_, rfl⟩
  have hw : IntKind.i64.wrap (left - (n : Int)) = x := by rw [hx]; exact wrap_sub h0 h1 hn
  have HX := hide hx
  clear hx hL
  by_cases t : x < 0
  · have hxl : x ≤ left := by have := unhide HX; omega
    go_enter Try.func23, Try.ntmps23
    go_wp2
    go_ret
    exact ⟨⟨-1, rfl, by omega, fun h => absurd h (by omega)⟩, Below.refl _ _⟩
  · have ht : 0 ≤ x := by omega
    go_enter Try.func23, Try.ntmps23
    go_wp2_with fail
    go_loopw [1, 5] (fun l i wr => ∃ (j : Nat) (y : Int), i = .int .i64 (j : Int) ∧ l = .int .i64 y ∧ j ≤ n ∧ 0 ≤ y ∧ Hid ((n : Int) + (gbulk G : Int) + y = left + (gbulk (G.drop j) : Int)) ∧ Below w.heap.size w wr) (fun _ i _ => n - (intOf i).toNat)
    case atStart => exact ⟨0, x, rfl, rfl, Nat.zero_le _, ht, (by show _ = _; have := unhide HX; rw [← unhide HD0]; omega), Below.refl _ _⟩
    case round =>
      obtain ⟨j, y, rfl, rfl, hj, hy, HY, hb⟩ := hrel
      have hyl : y ≤ left := by
        have h := unhide HY
        have : gbulk (G.drop j) ≤ gbulk G + n := by
          have : ∀ (L : List GrpI) k, gbulk (L.drop k) ≤ gbulk L := by
            intro L
            induction L with
            | nil => intro k; simp [gbulk]
            | cons q r ih =>
              intro k
              cases k with
              | zero => exact Nat.le_refl _
              | succ k => exact Nat.le_trans (ih k) (by simp [gbulk])
          have := this G j
          omega
        omega
      by_cases hlt : j < n
      · have hjL : j < G.length := by have := unhide HL; omega
        obtain ⟨b, off, a', c', rfl, _, c0, c1, _⟩ := unhide HC j hjL
        have hbw := World.block_lt_of_cell? w _ c0
        simp only at hbw
        rw [← hb.cell (p := ⟨b, off + j * 2, none⟩) (by simp; omega)] at c0
        rw [← hb.cell (p := ⟨b, off + j * 2 + 1, none⟩) (by simp; omega)] at c1
        have SZ := hide (fun w => szGroup_any a' G[j].M.length c' G[j].Z y hy (by omega) (unhide HM _ (List.getElem_mem hjL)) w)
        have HDJ := hide (unhide HD j hjL)
        generalize G[j] = q at c0 c1 SZ HDJ
        obtain ⟨x1, hx1⟩ : ∃ x1, x1 = y - (q.M.length : Int) := ⟨_, rfl⟩
        rw [← hx1] at SZ
        have HX1 := hide hx1
        clear hx1
        by_cases t1 : x1 < 0
        · rw [if_pos t1] at SZ
          go_wp2_with fail
          refine (unhide SZ _).mono ?_
          rintro e w1 ⟨rfl, hb1⟩
          have hb2 := hb.trans (hb1.mono hb.size)
          clear c0 c1
          go_wp2_with fail
          go_ret
          exact ⟨⟨-1, rfl, by omega, fun h => absurd h (by omega)⟩, hb2⟩
        · rw [if_neg t1] at SZ
          go_wp2_with fail
          refine (unhide SZ _).mono ?_
          rintro e w1 ⟨rfl, hb1⟩
          have hb2 := hb.trans (hb1.mono hb.size)
          clear c0 c1
          go_wp2_with fail
          refine ⟨⟨j + 1, x1, by go_num, rfl, by omega, by omega, (by show _ = _; have h1 := unhide HY; have h2 := unhide HDJ; have h3 := unhide HX1; omega), hb2⟩, by simp [intOf]; omega⟩
      · have hjn : j = n := by omega
        subst hjn
        have HY2 : Hid (((G.length + gbulk G : Nat) : Int) + y ≤ left) := by show _ ≤ _; have h1 := unhide HY; have h2 := unhide HDN; have h3 := unhide HL; omega
        go_wp2_with fail
        go_ret
        exact ⟨⟨y, rfl, by omega, fun _ => unhide HY2⟩, hb⟩

/-- How great a proof is, in all (never more than the greatest number). -/
def psize (Y : List Int) (G : List GrpI) : Nat := min (Y.length + (G.length + gbulk G)) 9223372036854775807

end Gr
end Go.Proofs.Ytdaihbgabamaiaa

/-
  A block with one cell set; blocks that are kept.
-/
namespace Go.Proofs.Ytdaihbgabamaiaa
namespace Gr
open Go.RowKit

theorem Blk.set {W : World} {g : Nat} {C : Array Value} {t : TypeId} (h : Blk W g C t) (k : Nat) (x : Value) : Blk (W.setCell ⟨g, k, none⟩ x) g (C.setIfInBounds k x) t := by
  unfold Blk at *
  exact heap_setCell_same W g k _ _ x h

theorem Blk.kept {S : Nat → Prop} {w w' : World} {g : Nat} {C : Array Value} {t : TypeId} (h : Blk w g C t) (hk : Kept S w w') (hS : ¬ S g) : Blk w' g C t := by
  unfold Blk; rw [hk.2.2.2.2 g h.lt hS]; exact h

theorem Blk.set_other {W : World} {g g' : Nat} {C : Array Value} {t : TypeId} (h : Blk W g C t) (hne : g ≠ g') (k : Nat) (x : Value) : Blk (W.setCell ⟨g', k, none⟩ x) g C t :=
  h.kept (S := fun i => i = g') (Kept.set _ _ _ _ rfl) hne

end Gr
end Go.Proofs.Ytdaihbgabamaiaa

/-
  Copies of groups and proofs.
-/
namespace Go.Proofs.Ytdaihbgabamaiaa
namespace Gr
open Go.RowKit

theorem infoGroup : (Try.prog.info? 57).map (fun i => (i.zero, i.size, i.bytes)) = some (some (.agg #[.slice none 0 0, .int .i64 0]), 2, 32) := by kernel_rfl

theorem results_group {fn : Func} {p : Tmp} (h : fn.results = #[.cell p 57]) (tmps : Array Value) (w : World) (g : Nat) (x y : Value) (hp : tmps.getD p undef = .pointer (some ⟨g, 0, none⟩)) (hg : Blk w g #[x, y] 57) :
    (results fn tmps).run Try.prog w = .ok (.agg #[x, y]) w := by
  have c0 := hg.cell 0 x rfl
  have c1 := hg.cell 1 y rfl
  have hp' : tmps[p]?.getD undef = .pointer (some ⟨g, 0, none⟩) := by simpa using hp
  simp [results, h, hp', go_sem, c0, c1]

theorem results_proof {fn : Func} {p : Tmp} (h : fn.results = #[.cell p 38]) (tmps : Array Value) (w : World) (g : Nat) (x y : Value) (hp : tmps.getD p undef = .pointer (some ⟨g, 0, none⟩)) (hg : Blk w g #[x, y] 38) :
    (results fn tmps).run Try.prog w = .ok (.agg #[x, y]) w := by
  have c0 := hg.cell 0 x rfl
  have c1 := hg.cell 1 y rfl
  have hp' : tmps[p]?.getD undef = .pointer (some ⟨g, 0, none⟩) := by simpa using hp
  simp [results, h, hp', go_sem, c0, c1]

set_option maxRecDepth 100000 in
set_option maxHeartbeats 1000000 in
theorem toGroup_any (a : Option Addr) (c B : Nat) (q : GrpI) (hn : q.M.length ≤ 1048576) (w : World) (hB : B ≤ w.heap.size) (hM : IntsAt w a q.M.length B q.M) :
    Calls Try.prog 53 #[.agg #[.slice a q.M.length c, .int .i64 q.Z]] w fun e w' => (∃ v, e = .returned (.agg #[v, .int .i64 q.Z]) ∧ InOwn w' w.heap.size v q.M) ∧ Below w.heap.size w w' := by
  have TI := hide (fun w1 (hb : Below w.heap.size w w1) => toInts_gen (.slice a q.M.length c) B q.M hn w1 (by have := hb.size; omega) ⟨a, c, rfl, hM.below hb hB⟩)
  generalize q.M.length = n at TI
  generalize q.Z = z
  clear hM
  go_enter Try.func53, Try.ntmps53
  go_wp2_with fail
  obtain ⟨V, hV⟩ : ∃ W, W = ((w.alloc (Obj.cells #[Value.slice a n c, Value.int .i64 z] 84)).alloc (Obj.cells #[Value.slice none 0 0, Value.int .i64 0] 57)).alloc (Obj.cells #[Value.slice none 0 0, Value.int .i64 0] 57) := ⟨_, rfl⟩
  rw [← hV]
  have b1 : Below w.heap.size w V := by rw [hV]; exact ((below_new _ _).alloc (by simp) _).alloc (by simp; omega) _
  have m0 : Blk V w.heap.size #[Value.slice a n c, Value.int .i64 z] 84 := by rw [hV]; exact Blk.new0.alloc.alloc
  have m1 : Blk V (w.heap.size + 1) #[Value.slice none 0 0, Value.int .i64 0] 57 := by rw [hV]; exact Blk.new1.alloc
  have m2 : Blk V (w.heap.size + 1 + 1) #[Value.slice none 0 0, Value.int .i64 0] 57 := by rw [hV]; exact Blk.new2
  clear hV
  refine (unhide TI V b1).mono ?_
  rintro e w2 ⟨⟨v, rfl, hO⟩, hb2⟩
  obtain ⟨a', c', rfl, _⟩ := hO.at
  have z2 := m2.lt
  have b2 := b1.trans (hb2.mono b1.size)
  have n0 := m0.below hb2
  have n1 := m1.below hb2
  have n2 := m2.below hb2
  have HO := hide (hO.kept (S := fun k => k = w.heap.size + 1 ∨ k = w.heap.size + 1 + 1) (w' := (((w2.setCell ⟨w.heap.size + 1 + 1, 0, none⟩ (.slice a' q.M.length c')).setCell ⟨w.heap.size + 1 + 1, 1, none⟩ (.int .i64 z)).setCell ⟨w.heap.size + 1, 0, none⟩ (.slice a' q.M.length c')).setCell ⟨w.heap.size + 1, 1, none⟩ (.int .i64 z)) ((((Kept.set _ _ _ _ (Or.inr rfl)).trans (Kept.set _ _ _ _ (Or.inr rfl))).trans (Kept.set _ _ _ _ (Or.inl rfl))).trans (Kept.set _ _ _ _ (Or.inl rfl))) (fun g hg hS => by have := (hO.blk g hg).1; have := b1.size; omega))
  clear hO m0 m1 m2
  have c0 : w2.cell? ⟨w.heap.size, 0, none⟩ = some (.slice a n c) := n0.cell 0 _ rfl
  have c1 : w2.cell? ⟨w.heap.size, 1, none⟩ = some (.int .i64 z) := n0.cell 1 _ rfl
  have d0 : w2.cell? ⟨w.heap.size + 1, 0, none⟩ = some (.slice none 0 0) := n1.cell 0 _ rfl
  have d1 : w2.cell? ⟨w.heap.size + 1, 1, none⟩ = some (.int .i64 0) := n1.cell 1 _ rfl
  have e0 : w2.cell? ⟨w.heap.size + 1 + 1, 0, none⟩ = some (.slice none 0 0) := n2.cell 0 _ rfl
  have e1 : w2.cell? ⟨w.heap.size + 1 + 1, 1, none⟩ = some (.int .i64 0) := n2.cell 1 _ rfl
  have f1 := n1.froz
  have f2 := n2.froz
  have HN1 : Hid (Blk ((((w2.setCell ⟨w.heap.size + 1 + 1, 0, none⟩ (.slice a' q.M.length c')).setCell ⟨w.heap.size + 1 + 1, 1, none⟩ (.int .i64 z)).setCell ⟨w.heap.size + 1, 0, none⟩ (.slice a' q.M.length c')).setCell ⟨w.heap.size + 1, 1, none⟩ (.int .i64 z)) (w.heap.size + 1) #[.slice a' q.M.length c', .int .i64 z] 57) :=
    (((n1.set_other (by omega) _ _).set_other (by omega) _ _).set 0 _).set 1 _
  clear n0 n1 n2
  go_wp2_with fail
  (try simp only [Exit.inBlock, Exit.then])
  refine bodyPost_ret (results_group Try.results53 _ _ (w.heap.size + 1) _ _ rfl (unhide HN1)) rfl ?_
  refine ⟨⟨_, rfl, InOwn.lower (unhide HO) b1.size⟩, ?_⟩
  exact (((b2.setCell (p := ⟨w.heap.size + 1 + 1, 0, none⟩) (by simp; omega) _).setCell (p := ⟨w.heap.size + 1 + 1, 1, none⟩) (by simp; omega) _).setCell (p := ⟨w.heap.size + 1, 0, none⟩) (by simp) _).setCell (p := ⟨w.heap.size + 1, 1, none⟩) (by simp) _
end Gr
end Go.Proofs.Ytdaihbgabamaiaa

/-
  Copies of rows of groups, and of proofs.
-/
namespace Go.Proofs.Ytdaihbgabamaiaa
namespace Gr
open Go.RowKit

/-- The first k groups of a block of groups. -/
def Gs (w : World) (lo : Nat) (C : Array Value) (G : List GrpI) (k : Nat) : Prop :=
  ∀ j (h : j < G.length), j < k → ∃ v, C[j * 2]? = some v ∧ C[j * 2 + 1]? = some (.int .i64 G[j].Z) ∧ InOwn w lo v G[j].M

theorem Gs.kept {S : Nat → Prop} {w w' : World} {lo k : Nat} {C : Array Value} {G : List GrpI} (h : Gs w lo C G k) (hk : Kept S w w') (hS : ∀ g, lo ≤ g → ¬ S g) : Gs w' lo C G k := by
  intro j hj hjk
  obtain ⟨v, c0, c1, hO⟩ := h j hj hjk
  exact ⟨v, c0, c1, hO.kept hk (fun g hg => hS g (hO.blk g hg).1)⟩

theorem Gs.snoc {w : World} {lo k : Nat} {C : Array Value} {G : List GrpI} (h : Gs w lo C G k) (hk : k < G.length) (hC : C.size = G.length * 2) (v : Value) (hO : InOwn w lo v G[k].M) : Gs w lo ((C.setIfInBounds (k * 2) v).setIfInBounds (k * 2 + 1) (.int .i64 G[k].Z)) G (k + 1) := by
  intro j hj hjk
  by_cases e : j = k
  · subst e
    refine ⟨v, ?_, ?_, hO⟩
    · rw [Array.getElem?_setIfInBounds_ne (by omega), Array.getElem?_setIfInBounds_self, if_pos (by omega)]
    · rw [Array.getElem?_setIfInBounds_self, if_pos (by simp; omega)]
  · obtain ⟨v', c0, c1, hO'⟩ := h j hj (by omega)
    refine ⟨v', ?_, ?_, hO'⟩
    · rw [Array.getElem?_setIfInBounds_ne (by omega), Array.getElem?_setIfInBounds_ne (by omega)]; exact c0
    · rw [Array.getElem?_setIfInBounds_ne (by omega), Array.getElem?_setIfInBounds_ne (by omega)]; exact c1

theorem Gs.at {w : World} {lo g : Nat} {C : Array Value} {G : List GrpI} (h : Gs w lo C G G.length) (hb : Blk w g C 57) : groupsAt w (some ⟨g, 0, none⟩) G.length w.heap.size G := by
  refine ⟨rfl, fun j hj => ?_⟩
  obtain ⟨v, c0, c1, hO⟩ := h j hj hj
  obtain ⟨a', c', rfl, hI⟩ := hO.at
  refine ⟨g, 0, a', c', rfl, hb.lt, ?_, ?_, hI⟩
  · rw [Nat.zero_add]; exact hb.cell _ _ c0
  · rw [Nat.zero_add]; exact hb.cell _ _ c1

/-- A row of groups of the call's own, with the rows of its own in it. -/
def GsOwn (w : World) (lo : Nat) (v : Value) (G : List GrpI) : Prop := ∃ g C, v = .slice (some ⟨g, 0, none⟩) G.length G.length ∧ lo ≤ g ∧ Blk w g C 57 ∧ C.size = G.length * 2 ∧ Gs w lo C G G.length

theorem GsOwn.kept {S : Nat → Prop} {w w' : World} {lo : Nat} {v : Value} {G : List GrpI} (h : GsOwn w lo v G) (hk : Kept S w w') (hS : ∀ g, lo ≤ g → ¬ S g) : GsOwn w' lo v G := by
  obtain ⟨g, C, e, hg, hb, hs, h⟩ := h
  exact ⟨g, C, e, hg, hb.kept hk (hS g hg), hs, h.kept hk hS⟩

theorem Gs.lower {w : World} {lo lo' k : Nat} {C : Array Value} {G : List GrpI} (h : Gs w lo C G k) (hl : lo' ≤ lo) : Gs w lo' C G k := by
  intro j hj hjk
  obtain ⟨v, c0, c1, hO⟩ := h j hj hjk
  exact ⟨v, c0, c1, hO.lower hl⟩

theorem GsOwn.lower {w : World} {lo lo' : Nat} {v : Value} {G : List GrpI} (h : GsOwn w lo v G) (hl : lo' ≤ lo) : GsOwn w lo' v G := by
  obtain ⟨g, C, e, hg, hb, hs, h⟩ := h
  exact ⟨g, C, e, by omega, hb, hs, h.lower hl⟩

theorem GsOwn.at {w : World} {lo : Nat} {v : Value} {G : List GrpI} (h : GsOwn w lo v G) : ∃ a c, v = .slice a G.length c ∧ groupsAt w a G.length w.heap.size G := by
  obtain ⟨g, C, rfl, hg, hb, hs, h⟩ := h
  exact ⟨_, _, rfl, h.at hb⟩

set_option maxRecDepth 100000 in
set_option maxHeartbeats 1000000 in
theorem toGroups_any (a : Option Addr) (n c B : Nat) (G : List GrpI) (hn : n ≤ 1048576) (hm : ∀ q ∈ G, q.M.length ≤ 1048576) (w : World) (hB : B ≤ w.heap.size) (hG : groupsAt w a n B G) :
    Calls Try.prog 30 #[.slice a n c] w fun e w' => (∃ v, e = .returned v ∧ GsOwn w' w.heap.size v G) ∧ Below w.heap.size w w' := by
  obtain ⟨hL, hc⟩ := hG
  obtain ⟨i0, hi, hz0, hz1, hz2⟩ := info_parts infoGroup
  obtain ⟨M, hM⟩ : ∃ M, M = madeCells (Value.agg #[.slice none 0 0, .int .i64 0]).cells (n * i0.size) := ⟨_, rfl⟩
  have hMs : M.size = n * 2 := by rw [hM, size_madeCells, hz1]
  have hmk : ∀ W : World, (Instr.makeSlice 36 (.int .i64 (n : Int)) (.int .i64 (n : Int))).run Try.prog W = .ok (.slice (some ⟨W.heap.size, 0, none⟩) n n) (W.alloc (.cells M 57)) := fun W => by
    have h := run_make (P := Try.prog) W 36 57 i0 (.agg #[.slice none 0 0, .int .i64 0]) Try.underlying36 hi hz0 .i64 .i64 (n : Int) (n : Int) (by omega) (by omega) (by rw [hz2]; omega) (by omega)
    rw [Int.toNat_natCast, ← hM] at h
    simpa using h
  have TG := hide (fun j (hj : j < G.length) a' c' w1 (hb : Below w.heap.size w w1) (hI : IntsAt w a' G[j].M.length B G[j].M) => toGroup_any a' c' B G[j] (hm _ (List.getElem_mem hj)) w1 (by have := hb.size; omega) (hI.below hb hB))
  have HC := hide hc
  have HL := hide hL
  have HMs := hide hMs
  clear hM hc hL hm hMs
  go_enter Try.func30, Try.ntmps30
  go_wp2_with fail
  go_loopw [4] (fun i wr => ∃ (k : Nat) (C : Array Value), i = .int .i64 (k : Int) ∧ k ≤ n ∧ Hid (Blk wr w.heap.size C 57) ∧ Hid (C.size = n * 2) ∧ Hid (Gs wr (w.heap.size + 1) C G k) ∧ Below w.heap.size w wr) (fun i _ => n - (intOf i).toNat)
  case atStart => exact ⟨0, M, rfl, Nat.zero_le _, Blk.new0, unhide HMs, (fun j _ h => absurd h (Nat.not_lt_zero _)), below_new _ _⟩
  case round =>
    obtain ⟨k, C, rfl, hk, HB, HS, HG, hb⟩ := hrel
    have hbl := (unhide HB).lt
    by_cases hlt : k < n
    · have hkL : k < G.length := by have := unhide HL; omega
      obtain ⟨b, off, a', c', rfl, hbB, c0, c1, hI⟩ := unhide HC k hkL
      have TK := hide (unhide TG k hkL a' c' wr hb hI)
      rw [← hb.cell (p := ⟨b, off + k * 2, none⟩) (by simp; omega)] at c0
      rw [← hb.cell (p := ⟨b, off + k * 2 + 1, none⟩) (by simp; omega)] at c1
      have HSN : Hid (∀ w1 v, Gs w1 (w.heap.size + 1) C G k → InOwn w1 (w.heap.size + 1) v G[k].M → Gs w1 (w.heap.size + 1) ((C.setIfInBounds (k * 2) v).setIfInBounds (k * 2 + 1) (.int .i64 G[k].Z)) G (k + 1)) := fun w1 v h hO => h.snoc hkL (by have h1 := unhide HS; have h2 := unhide HL; omega) v hO
      generalize G[k] = q at c0 c1 TK HSN
      clear hI
      go_wp2_with fail
      refine (unhide TK).mono ?_
      rintro e w2 ⟨⟨v, rfl, hO⟩, hb2⟩
      obtain ⟨a2, c2, rfl, _⟩ := hO.at
      have hO' := hO.lower (show w.heap.size + 1 ≤ wr.heap.size by omega)
      have m2 := (unhide HB).below hb2
      have HG2 := hide (unhide HSN w2 _ ((unhide HG).kept (S := fun _ => False) (Kept.of_below hb2) (fun g _ h => h)) hO')
      have HM2 := hide m2
      have bw2 := hb.trans (hb2.mono hb.size)
      have hfz := m2.froz
      obtain ⟨u0, hu0⟩ : ∃ u, w2.cell? ⟨w.heap.size, k * 2, none⟩ = some u := ⟨C[k * 2]'(by have := unhide HS; omega), m2.cell _ _ (by simp)⟩
      obtain ⟨u1, hu1⟩ : ∃ u, w2.cell? ⟨w.heap.size, k * 2 + 1, none⟩ = some u := ⟨C[k * 2 + 1]'(by have := unhide HS; omega), m2.cell _ _ (by simp)⟩
      clear c0 c1 hO hO' m2 hb2
      go_wp2_with fail
      refine ⟨⟨k + 1, (C.setIfInBounds (k * 2) (.slice a2 q.M.length c2)).setIfInBounds (k * 2 + 1) (.int .i64 q.Z), by go_num, by omega, ((unhide HM2).set _ _).set _ _, (by show _ = _; simp; exact unhide HS), ?_, (bw2.setCell (p := ⟨w.heap.size, k * 2, none⟩) (Nat.le_refl _) _).setCell (p := ⟨w.heap.size, k * 2 + 1, none⟩) (Nat.le_refl _) _⟩, by simp [intOf]; omega⟩
      exact (unhide HG2).kept (S := fun g => g = w.heap.size) ((Kept.set (S := fun g => g = w.heap.size) _ _ _ _ rfl).trans (Kept.set (S := fun g => g = w.heap.size) _ _ _ _ rfl)) (fun g hg => by omega)
    · obtain rfl : k = n := by omega
      have HF : Hid (GsOwn wr w.heap.size (.slice (some ⟨w.heap.size, 0, none⟩) k k) G) := by
        have h1 := unhide HG
        have h2 := unhide HL
        subst h2
        exact ⟨_, C, rfl, Nat.le_refl _, unhide HB, unhide HS, h1.lower (by omega)⟩
      go_wp2_with fail
      go_ret
      exact ⟨⟨_, rfl, unhide HF⟩, hb⟩

set_option maxRecDepth 100000 in
set_option maxHeartbeats 1000000 in
theorem eqGroup_same (a a' : Option Addr) (c c' B : Nat) (q : GrpI) (hn : q.M.length ≤ 1048576) (w : World) (hB : B ≤ w.heap.size) (h : IntsAt w a q.M.length B q.M) (h' : IntsAt w a' q.M.length B q.M) :
    Calls Try.prog 61 #[.agg #[.slice a q.M.length c, .int .i64 q.Z], .agg #[.slice a' q.M.length c', .int .i64 q.Z]] w fun e w' => e = .returned (.bool true) ∧ Below w.heap.size w w' := by
  have EQ := hide (fun w1 (hb : Below w.heap.size w w1) => eqInts_same a a' q.M.length c c' B B q.M hn w1 (by have := hb.size; omega) (by have := hb.size; omega) (h.below hb hB) (h'.below hb hB))
  generalize q.M.length = n at EQ
  generalize q.Z = z
  clear h h'
  go_enter Try.func61, Try.ntmps61
  go_wp2_with fail
  have b1 : Below w.heap.size w ((w.alloc (Obj.cells #[Value.slice a n c, Value.int .i64 z] 57)).alloc (Obj.cells #[Value.slice a' n c', Value.int .i64 z] 57)) := (below_new _ _).alloc (by simp) _
  have m0 : Blk ((w.alloc (Obj.cells #[Value.slice a n c, Value.int .i64 z] 57)).alloc (Obj.cells #[Value.slice a' n c', Value.int .i64 z] 57)) w.heap.size #[Value.slice a n c, Value.int .i64 z] 57 := Blk.new0.alloc
  have m1 : Blk ((w.alloc (Obj.cells #[Value.slice a n c, Value.int .i64 z] 57)).alloc (Obj.cells #[Value.slice a' n c', Value.int .i64 z] 57)) (w.heap.size + 1) #[Value.slice a' n c', Value.int .i64 z] 57 := Blk.new1
  generalize ((w.alloc (Obj.cells #[Value.slice a n c, Value.int .i64 z] 57)).alloc (Obj.cells #[Value.slice a' n c', Value.int .i64 z] 57)) = V at b1 m0 m1 ⊢
  refine (unhide EQ V b1).mono ?_
  rintro e w2 ⟨rfl, hb2⟩
  have b2 := b1.trans (hb2.mono b1.size)
  have c0 : w2.cell? ⟨w.heap.size, 1, none⟩ = some (.int .i64 z) := (m0.below hb2).cell 1 _ rfl
  have c1 : w2.cell? ⟨w.heap.size + 1, 1, none⟩ = some (.int .i64 z) := (m1.below hb2).cell 1 _ rfl
  clear m0 m1 hb2
  go_wp2_with fail
  go_ret
  exact ⟨rfl, b2⟩
end Gr
end Go.Proofs.Ytdaihbgabamaiaa
