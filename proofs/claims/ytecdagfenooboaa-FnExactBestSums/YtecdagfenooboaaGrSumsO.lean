/-
  Rows of Sums: a row that came in, read. Written by program (tools/introws.py).
-/
import Derived.Test.YtecdagfenooboaaGrSums
namespace Go.Proofs.Ytecdagfenooboaa
namespace Gr
open Go.ChangeShapes Go.WideShapes Go.ChangeAt Go.RowKit

theorem cells_Sums : Try.prog.cellsOf 43 = 3 := by kernel_rfl

set_option maxRecDepth 100000 in
theorem sums_cells {H : Type} {enc : TypeId × Value → H} {W : World} {base : Nat} {spare : Nat → Bool} {held : Bool} {n : Nat} {cs : List Value} {x : DataW H × List MemPlace} (hl : cs.length = 3)
    (h : DataW.trod enc Try.prog W base spare held n 43 cs = some x) : ∃ y : SumsI, cs = [.int .i64 y.W1, .int .i64 y.W2, .int .i64 y.W3] := by
  obtain ⟨xs, k, hk, hxy, _, hxl, hf⟩ := DataW.trod_struct Try.underlying43 h
  match cs, hl with
  | [v0, v1, v2], _ =>
    have hl3 : xs.length = 3 := by simpa using hxl
    match xs, hl3 with
    | [y0, y1, y2], _ =>
      have g0 := hf 0 _ rfl
      have g1 := hf 1 _ rfl
      have g2 := hf 2 _ rfl
      simp [cells_int] at g0 g1 g2
      obtain ⟨z0, e0, _, _⟩ := DataW.trod_int Try.underlying3 g0
      obtain ⟨z1, e1, _, _⟩ := DataW.trod_int Try.underlying3 g1
      obtain ⟨z2, e2, _, _⟩ := DataW.trod_int Try.underlying3 g2
      simp at e0 e1 e2
      subst e0 e1 e2
      exact ⟨⟨z0, z1, z2⟩, rfl⟩

set_option maxRecDepth 100000 in
/-- One that came in. -/
theorem sums_one {H : Type} {enc : TypeId × Value → H} {W : World} {r : Reach} {b0 : Nat} {spare : Nat → Bool} {held : Bool} {v : Value} {d : DataW H} {p : List MemPlace}
    (hv : Value.okWide Try.prog W r b0 43 v) (h : DataW.Trod enc Try.prog W 0 spare held 43 v d p) : ∃ x : SumsI, v = x.v := by
  obtain ⟨cs, rfl, hsz⟩ := okWide_struct Try.underlying43 hv
  obtain ⟨fuel, hf⟩ := h
  have hl : (Value.agg cs).cells.toList.length = 3 := by simpa [Value.cells, cells_Sums] using hsz
  obtain ⟨y, e⟩ := sums_cells hl hf
  refine ⟨y, ?_⟩
  have e2 : cs.toList = [.int .i64 y.W1, .int .i64 y.W2, .int .i64 y.W3] := by simpa [Value.cells] using e
  unfold SumsI.v
  congr 1
  exact Array.toList_inj.1 e2

end Gr
end Go.Proofs.Ytecdagfenooboaa
