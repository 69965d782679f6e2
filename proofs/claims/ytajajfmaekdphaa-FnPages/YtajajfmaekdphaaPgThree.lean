/-
  Blocks of three cells.
-/
import Derived.Test.YtajajfmaekdphaaPgBox
namespace Go.Proofs.Ytajajfmaekdphaa
open Go.RowKit

theorem cells_of_three {w : World} {g : Nat} {x y z : Value} {t : TypeId} (h : w.heap[g]? = some (.cells #[x, y, z] t (0, 0))) :
    w.cell? ⟨g, 0, none⟩ = some x ∧ w.cell? ⟨g, 1, none⟩ = some y ∧ w.cell? ⟨g, 2, none⟩ = some z ∧ ∀ j, w.frozen? ⟨g, j, none⟩ = false := by
  refine ⟨?_, ?_, ?_, fun j => ?_⟩
  · rw [cell_of_row w g 0 _ t (0, 0) h]; rfl
  · rw [cell_of_row w g 1 _ t (0, 0) h]; rfl
  · rw [cell_of_row w g 2 _ t (0, 0) h]; rfl
  · exact frozen_of_row w g j _ t h

theorem three_zero {w : World} {g : Nat} {x y z : Value} {t : TypeId} (h : w.heap[g]? = some (.cells #[x, y, z] t (0, 0))) (u : Value) :
    (w.setCell ⟨g, 0, none⟩ u).heap[g]? = some (.cells #[u, y, z] t (0, 0)) := heap_setCell_same w g 0 _ t u h

theorem three_one {w : World} {g : Nat} {x y z : Value} {t : TypeId} (h : w.heap[g]? = some (.cells #[x, y, z] t (0, 0))) (u : Value) :
    (w.setCell ⟨g, 1, none⟩ u).heap[g]? = some (.cells #[x, u, z] t (0, 0)) := heap_setCell_same w g 1 _ t u h

theorem three_two {w : World} {g : Nat} {x y z : Value} {t : TypeId} (h : w.heap[g]? = some (.cells #[x, y, z] t (0, 0))) (u : Value) :
    (w.setCell ⟨g, 2, none⟩ u).heap[g]? = some (.cells #[x, y, u] t (0, 0)) := heap_setCell_same w g 2 _ t u h

/-- What an append to a page's items leaves. -/
theorem append_page {w W w9 : World} {B G R i g cap H C n1 : Nat} {A : Option Addr} {kk a b : Value} {L : List It} {x : It} (hG : Box W G kk (.slice A i C)) (hR : Box W R a b) (hRG : R < G) (hB : B ≤ R)
    (hown : W.ownsRow (G + 1) 33 3 (.slice A i C) i (itsV L)) (hb : Below B w W) (hgrow : W.grownBy w9 (Value.slice A i C).ownBlock)
    (hown9 : w9.ownsRow (G + 1) 33 3 (.slice (some ⟨g, 0, none⟩) n1 cap) n1 (itsV L ++ [.string x.key, .string x.val, .int .i64 x.pg])) (_hat : (Value.slice A i C).ownBlock = some g ∨ g = H) :
    Box (w9.setCell ⟨G, 1, none⟩ (.slice (some ⟨g, 0, none⟩) n1 cap)) G kk (.slice (some ⟨g, 0, none⟩) n1 cap) ∧ (w9.setCell ⟨G, 1, none⟩ (.slice (some ⟨g, 0, none⟩) n1 cap)).ownsRow (G + 1) 33 3 (.slice (some ⟨g, 0, none⟩) n1 cap) n1 (itsV (L ++ [x])) ∧
      Box (w9.setCell ⟨G, 1, none⟩ (.slice (some ⟨g, 0, none⟩) n1 cap)) R a b ∧ Below B w (w9.setCell ⟨G, 1, none⟩ (.slice (some ⟨g, 0, none⟩) n1 cap)) := by
  have hrow : ∀ k, (Value.slice A i C).ownBlock = some k → G + 1 ≤ k := fun k hk => (hown.lt k hk).1
  have hgg := (hown9.lt g rfl).1
  have hG9 := grown_box hG hgrow (fun e => by have := hrow _ e; omega)
  have hR9 := grown_box hR hgrow (fun e => by have := hrow _ e; omega)
  have hk : Kept (fun k => k = G) w9 (w9.setCell ⟨G, 1, none⟩ (.slice (some ⟨g, 0, none⟩) n1 cap)) := Kept.set _ _ _ _ rfl
  refine ⟨hG9.one _, ?_, hR9.kept hk (by omega), ?_⟩
  · rw [itsV_snoc]
    exact hk.own hown9 (fun k hk e => by simp [Value.ownBlock] at hk; omega)
  · exact (hb.grown hgrow (by have := hR.lt; omega) (fun k hk => by have := hrow k hk; omega)).setCell (p := ⟨G, 1, none⟩) (by simp; omega) _

end Go.Proofs.Ytajajfmaekdphaa
