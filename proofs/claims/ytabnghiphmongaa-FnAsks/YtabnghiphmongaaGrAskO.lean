/-
  Rows of Ask: a row that came in, read. Written by program (tools/introws.py).
-/
import Derived.Test.YtabnghiphmongaaGrAsk
namespace Go.Proofs.Ytabnghiphmongaa
namespace Gr
open Go.ChangeShapes Go.WideShapes Go.ChangeAt Go.RowKit

theorem cells_Ask : Try.prog.cellsOf 23 = 6 := by kernel_rfl

set_option maxRecDepth 100000 in
theorem asks_cells {H : Type} {enc : TypeId × Value → H} {W : World} {base : Nat} {spare : Nat → Bool} {held : Bool} {n : Nat} {cs : List Value} {x : DataW H × List MemPlace} (hl : cs.length = 6)
    (h : DataW.trod enc Try.prog W base spare held n 23 cs = some x) : ∃ y : AskI, cs = [.int .i64 y.Op, .int .i64 y.A, .int .i64 y.B, .int .i64 y.W1, .int .i64 y.W2, .int .i64 y.W3] := by
  obtain ⟨xs, k, hk, hxy, _, hxl, hf⟩ := DataW.trod_struct Try.underlying23 h
  match cs, hl with
  | [v0, v1, v2, v3, v4, v5], _ =>
    have hl3 : xs.length = 6 := by simpa using hxl
    match xs, hl3 with
    | [y0, y1, y2, y3, y4, y5], _ =>
      have g0 := hf 0 _ rfl
      have g1 := hf 1 _ rfl
      have g2 := hf 2 _ rfl
      have g3 := hf 3 _ rfl
      have g4 := hf 4 _ rfl
      have g5 := hf 5 _ rfl
      simp [cells_int] at g0 g1 g2 g3 g4 g5
      obtain ⟨z0, e0, _, _⟩ := DataW.trod_int Try.underlying3 g0
      obtain ⟨z1, e1, _, _⟩ := DataW.trod_int Try.underlying3 g1
      obtain ⟨z2, e2, _, _⟩ := DataW.trod_int Try.underlying3 g2
      obtain ⟨z3, e3, _, _⟩ := DataW.trod_int Try.underlying3 g3
      obtain ⟨z4, e4, _, _⟩ := DataW.trod_int Try.underlying3 g4
      obtain ⟨z5, e5, _, _⟩ := DataW.trod_int Try.underlying3 g5
      simp at e0 e1 e2 e3 e4 e5
      subst e0 e1 e2 e3 e4 e5
      exact ⟨⟨z0, z1, z2, z3, z4, z5⟩, rfl⟩

set_option maxRecDepth 100000 in
/-- One that came in. -/
theorem asks_one {H : Type} {enc : TypeId × Value → H} {W : World} {r : Reach} {b0 : Nat} {spare : Nat → Bool} {held : Bool} {v : Value} {d : DataW H} {p : List MemPlace}
    (hv : Value.okWide Try.prog W r b0 23 v) (h : DataW.Trod enc Try.prog W 0 spare held 23 v d p) : ∃ x : AskI, v = x.v := by
  obtain ⟨cs, rfl, hsz⟩ := okWide_struct Try.underlying23 hv
  obtain ⟨fuel, hf⟩ := h
  have hl : (Value.agg cs).cells.toList.length = 6 := by simpa [Value.cells, cells_Ask] using hsz
  obtain ⟨y, e⟩ := asks_cells hl hf
  refine ⟨y, ?_⟩
  have e2 : cs.toList = [.int .i64 y.Op, .int .i64 y.A, .int .i64 y.B, .int .i64 y.W1, .int .i64 y.W2, .int .i64 y.W3] := by simpa [Value.cells] using e
  unfold AskI.v
  congr 1
  exact Array.toList_inj.1 e2

end Gr
end Go.Proofs.Ytabnghiphmongaa
