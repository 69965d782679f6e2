/-
  A block with one cell set; blocks that are kept.
-/
import Derived.Test.YtejfknkcakeakaaGrBlk
namespace Go.Proofs.Ytejfknkcakeakaa
namespace Gr
open Go.RowKit

theorem Blk.set {W : World} {g : Nat} {C : Array Value} {t : TypeId} (h : Blk W g C t) (k : Nat) (x : Value) : Blk (W.setCell ⟨g, k, none⟩ x) g (C.setIfInBounds k x) t := by
  unfold Blk at *
  exact heap_setCell_same W g k _ _ x h

theorem Blk.kept {S : Nat → Prop} {w w' : World} {g : Nat} {C : Array Value} {t : TypeId} (h : Blk w g C t) (hk : Kept S w w') (hS : ¬ S g) : Blk w' g C t := by
  unfold Blk; rw [hk.2.2.2.2 g h.lt hS]; exact h

theorem Blk.set_other {W : World} {g g' : Nat} {C : Array Value} {t : TypeId} (h : Blk W g C t) (hne : g ≠ g') (k : Nat) (x : Value) : Blk (W.setCell ⟨g', k, none⟩ x) g C t :=
  h.kept (S := fun i => i = g') (Kept.set _ _ _ _ rfl) hne

end Gr
end Go.Proofs.Ytejfknkcakeakaa
