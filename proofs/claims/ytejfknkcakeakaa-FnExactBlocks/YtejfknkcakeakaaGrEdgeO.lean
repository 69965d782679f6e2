/-
  Rows of Edge: a row that came in, read. Written by program (tools/introws.py).
-/
import Derived.Test.YtejfknkcakeakaaGrEdge
namespace Go.Proofs.Ytejfknkcakeakaa
namespace Gr
open Go.ChangeShapes Go.WideShapes Go.ChangeAt Go.RowKit

theorem cells_Edge : Try.prog.cellsOf 98 = 5 := by kernel_rfl

set_option maxRecDepth 100000 in
theorem edges_cells {H : Type} {enc : TypeId × Value → H} {W : World} {base : Nat} {spare : Nat → Bool} {held : Bool} {n : Nat} {cs : List Value} {x : DataW H × List MemPlace} (hl : cs.length = 5)
    (h : DataW.trod enc Try.prog W base spare held n 98 cs = some x) : ∃ y : EdgeI, cs = [.int .i64 y.A, .int .i64 y.B, .int .i64 y.W1, .int .i64 y.W2, .int .i64 y.W3] := by
  obtain ⟨xs, k, hk, hxy, _, hxl, hf⟩ := DataW.trod_struct Try.underlying98 h
  match cs, hl with
  | [v0, v1, v2, v3, v4], _ =>
    have hl3 : xs.length = 5 := by simpa using hxl
    match xs, hl3 with
    | [y0, y1, y2, y3, y4], _ =>
      have g0 := hf 0 _ rfl
      have g1 := hf 1 _ rfl
      have g2 := hf 2 _ rfl
      have g3 := hf 3 _ rfl
      have g4 := hf 4 _ rfl
      simp [cells_int] at g0 g1 g2 g3 g4
      obtain ⟨z0, e0, _, _⟩ := DataW.trod_int Try.underlying3 g0
      obtain ⟨z1, e1, _, _⟩ := DataW.trod_int Try.underlying3 g1
      obtain ⟨z2, e2, _, _⟩ := DataW.trod_int Try.underlying3 g2
      obtain ⟨z3, e3, _, _⟩ := DataW.trod_int Try.underlying3 g3
      obtain ⟨z4, e4, _, _⟩ := DataW.trod_int Try.underlying3 g4
      simp at e0 e1 e2 e3 e4
      subst e0 e1 e2 e3 e4
      exact ⟨⟨z0, z1, z2, z3, z4⟩, rfl⟩

theorem edges_open {H : Type} {enc : TypeId × Value → H} {W : World} {spare : Nat → Bool} {held : Bool} {fuel : Nat} {v : Value} {x : DataW H × List MemPlace}
    (h : DataW.trod enc Try.prog W 0 spare held fuel 22 [v] = some x) :
    ∃ a n c Q, v = .slice a n c ∧ edgesAt W a n W.heap.size Q ∧ Q.length ≤ 9223372036854775807 := by
  rcases Deep.open_slice Try.underlying22 h with ⟨hcs, _⟩ | ⟨a, len, cap, m, n, D, Pl, hcs, hb, hl, hm, hmm, _, hx⟩
  · simp at hcs
    exact ⟨none, 0, 0, [], hcs, ⟨rfl, fun j hj => by simp at hj⟩, by simp⟩
  · simp at hcs
    have hlm : len ≤ m := by rw [hmm]; split <;> omega
    have hv : ∀ i, i < m → ∃ y : EdgeI, W.cell? (a.add (i * 5)) = some (.int .i64 y.A) ∧ W.cell? (a.add (i * 5 + 1)) = some (.int .i64 y.B) ∧ W.cell? (a.add (i * 5 + 2)) = some (.int .i64 y.W1) ∧ W.cell? (a.add (i * 5 + 3)) = some (.int .i64 y.W2) ∧ W.cell? (a.add (i * 5 + 4)) = some (.int .i64 y.W3) := by
      intro i hi
      obtain ⟨cs', h1, h2⟩ := hx i hi
      rw [cells_Edge] at h1
      obtain ⟨_, hlen, hcell⟩ := World.cells?_some h1
      obtain ⟨y, rfl⟩ := edges_cells hlen h2
      have e0 := hcell 0 (by omega)
      have e1 := hcell 1 (by omega)
      have e2 := hcell 2 (by omega)
      have e3 := hcell 3 (by omega)
      have e4 := hcell 4 (by omega)
      rw [Deep.add_add] at e0 e1 e2 e3 e4
      exact ⟨y, by simpa using e0, by simpa using e1, by simpa using e2, by simpa using e3, by simpa using e4⟩
    let X : Nat → EdgeI := fun i => if hi : i < m then (hv i hi).choose else EdgeI.zero
    have hX : ∀ i, i < m → W.cell? (a.add (i * 5)) = some (.int .i64 (X i).A) ∧ W.cell? (a.add (i * 5 + 1)) = some (.int .i64 (X i).B) ∧ W.cell? (a.add (i * 5 + 2)) = some (.int .i64 (X i).W1) ∧ W.cell? (a.add (i * 5 + 3)) = some (.int .i64 (X i).W2) ∧ W.cell? (a.add (i * 5 + 4)) = some (.int .i64 (X i).W3) := by
      intro i hi
      have hsp2 := (hv i hi).choose_spec
      simp only [X, hi, dif_pos]
      exact hsp2
    refine ⟨some a, len, cap, (List.range len).map X, hcs, ⟨by simp, fun j hj => ?_⟩, by unfold maxLen at hm; simp; omega⟩
    have hj1 : j < len := by simpa using hj
    obtain ⟨b, off, spot⟩ := a
    have hspot : spot = none := by simpa [Addr.add] using World.cell?_spot (hX 0 (by omega)).1
    subst hspot
    obtain ⟨h0, h1, h2, h3, h4⟩ := hX j (by omega)
    rw [Addr.add_lit] at h0 h1 h2 h3 h4
    refine ⟨b, off, rfl, by simpa using World.block_lt_of_cell? W _ h0, ?_, ?_, ?_, ?_, ?_⟩
    · rw [h0]; simp
    · rw [← Nat.add_assoc] at h1
      rw [h1]; simp
    · rw [← Nat.add_assoc] at h2
      rw [h2]; simp
    · rw [← Nat.add_assoc] at h3
      rw [h3]; simp
    · rw [← Nat.add_assoc] at h4
      rw [h4]; simp

set_option maxRecDepth 100000 in
/-- One that came in. -/
theorem edges_one {H : Type} {enc : TypeId × Value → H} {W : World} {r : Reach} {b0 : Nat} {spare : Nat → Bool} {held : Bool} {v : Value} {d : DataW H} {p : List MemPlace}
    (hv : Value.okWide Try.prog W r b0 98 v) (h : DataW.Trod enc Try.prog W 0 spare held 98 v d p) : ∃ x : EdgeI, v = x.v := by
  obtain ⟨cs, rfl, hsz⟩ := okWide_struct Try.underlying98 hv
  obtain ⟨fuel, hf⟩ := h
  have hl : (Value.agg cs).cells.toList.length = 5 := by simpa [Value.cells, cells_Edge] using hsz
  obtain ⟨y, e⟩ := edges_cells hl hf
  refine ⟨y, ?_⟩
  have e2 : cs.toList = [.int .i64 y.A, .int .i64 y.B, .int .i64 y.W1, .int .i64 y.W2, .int .i64 y.W3] := by simpa [Value.cells] using e
  unfold EdgeI.v
  congr 1
  exact Array.toList_inj.1 e2

end Gr
end Go.Proofs.Ytejfknkcakeakaa
