/-
  Rows of Couple: a row that came in, read. Written by program (tools/introws.py).
-/
import Derived.Test.YtejfknkcakeakaaGrCouple
namespace Go.Proofs.Ytejfknkcakeakaa
namespace Gr
open Go.ChangeShapes Go.WideShapes Go.ChangeAt Go.RowKit

theorem cells_Couple : Try.prog.cellsOf 90 = 2 := by kernel_rfl

set_option maxRecDepth 100000 in
theorem couples_cells {H : Type} {enc : TypeId × Value → H} {W : World} {base : Nat} {spare : Nat → Bool} {held : Bool} {n : Nat} {cs : List Value} {x : DataW H × List MemPlace} (hl : cs.length = 2)
    (h : DataW.trod enc Try.prog W base spare held n 90 cs = some x) : ∃ y : CoupleI, cs = [.int .i64 y.A, .int .i64 y.B] := by
  obtain ⟨xs, k, hk, hxy, _, hxl, hf⟩ := DataW.trod_struct Try.underlying90 h
  match cs, hl with
  | [v0, v1], _ =>
    have hl3 : xs.length = 2 := by simpa using hxl
    match xs, hl3 with
    | [y0, y1], _ =>
      have g0 := hf 0 _ rfl
      have g1 := hf 1 _ rfl
      simp [cells_int] at g0 g1
      obtain ⟨z0, e0, _, _⟩ := DataW.trod_int Try.underlying3 g0
      obtain ⟨z1, e1, _, _⟩ := DataW.trod_int Try.underlying3 g1
      simp at e0 e1
      subst e0 e1
      exact ⟨⟨z0, z1⟩, rfl⟩

theorem couples_open {H : Type} {enc : TypeId × Value → H} {W : World} {spare : Nat → Bool} {held : Bool} {fuel : Nat} {v : Value} {x : DataW H × List MemPlace}
    (h : DataW.trod enc Try.prog W 0 spare held fuel 47 [v] = some x) :
    ∃ a n c Q, v = .slice a n c ∧ couplesAt W a n W.heap.size Q ∧ Q.length ≤ 9223372036854775807 := by
  rcases Deep.open_slice Try.underlying47 h with ⟨hcs, _⟩ | ⟨a, len, cap, m, n, D, Pl, hcs, hb, hl, hm, hmm, _, hx⟩
  · simp at hcs
    exact ⟨none, 0, 0, [], hcs, ⟨rfl, fun j hj => by simp at hj⟩, by simp⟩
  · simp at hcs
    have hlm : len ≤ m := by rw [hmm]; split <;> omega
    have hv : ∀ i, i < m → ∃ y : CoupleI, W.cell? (a.add (i * 2)) = some (.int .i64 y.A) ∧ W.cell? (a.add (i * 2 + 1)) = some (.int .i64 y.B) := by
      intro i hi
      obtain ⟨cs', h1, h2⟩ := hx i hi
      rw [cells_Couple] at h1
      obtain ⟨_, hlen, hcell⟩ := World.cells?_some h1
      obtain ⟨y, rfl⟩ := couples_cells hlen h2
      have e0 := hcell 0 (by omega)
      have e1 := hcell 1 (by omega)
      rw [Deep.add_add] at e0 e1
      exact ⟨y, by simpa using e0, by simpa using e1⟩
    let X : Nat → CoupleI := fun i => if hi : i < m then (hv i hi).choose else CoupleI.zero
    have hX : ∀ i, i < m → W.cell? (a.add (i * 2)) = some (.int .i64 (X i).A) ∧ W.cell? (a.add (i * 2 + 1)) = some (.int .i64 (X i).B) := by
      intro i hi
      have hsp2 := (hv i hi).choose_spec
      simp only [X, hi, dif_pos]
      exact hsp2
    refine ⟨some a, len, cap, (List.range len).map X, hcs, ⟨by simp, fun j hj => ?_⟩, by unfold maxLen at hm; simp; omega⟩
    have hj1 : j < len := by simpa using hj
    obtain ⟨b, off, spot⟩ := a
    have hspot : spot = none := by simpa [Addr.add] using World.cell?_spot (hX 0 (by omega)).1
    subst hspot
    obtain ⟨h0, h1⟩ := hX j (by omega)
    rw [Addr.add_lit] at h0 h1
    refine ⟨b, off, rfl, by simpa using World.block_lt_of_cell? W _ h0, ?_, ?_⟩
    · rw [h0]; simp
    · rw [← Nat.add_assoc] at h1
      rw [h1]; simp

set_option maxRecDepth 100000 in
/-- One that came in. -/
theorem couples_one {H : Type} {enc : TypeId × Value → H} {W : World} {r : Reach} {b0 : Nat} {spare : Nat → Bool} {held : Bool} {v : Value} {d : DataW H} {p : List MemPlace}
    (hv : Value.okWide Try.prog W r b0 90 v) (h : DataW.Trod enc Try.prog W 0 spare held 90 v d p) : ∃ x : CoupleI, v = x.v := by
  obtain ⟨cs, rfl, hsz⟩ := okWide_struct Try.underlying90 hv
  obtain ⟨fuel, hf⟩ := h
  have hl : (Value.agg cs).cells.toList.length = 2 := by simpa [Value.cells, cells_Couple] using hsz
  obtain ⟨y, e⟩ := couples_cells hl hf
  refine ⟨y, ?_⟩
  have e2 : cs.toList = [.int .i64 y.A, .int .i64 y.B] := by simpa [Value.cells] using e
  unfold CoupleI.v
  congr 1
  exact Array.toList_inj.1 e2

end Gr
end Go.Proofs.Ytejfknkcakeakaa
