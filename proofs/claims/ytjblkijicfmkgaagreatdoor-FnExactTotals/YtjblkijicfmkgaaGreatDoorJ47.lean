/-
 Lg1.
-/
import Derived.Test.YtjblkijicfmkgaaGreatDoorJ40
import Derived.Test.YtjblkijicfmkgaaGreatDoorJ3
import Derived.Test.YtjblkijicfmkgaaGreatDoorJ18
import Derived.Handy
namespace Go.Proofs.YtjblkijicfmkgaaGreatDoor
namespace Rg
open Go.RowKit
set_option maxRecDepth 100000 in
theorem together_any (x y : Gr.SumsI) (hx : Gr.SB x 1000) (hy : Gr.SB y 1000) (w : World) :
    Calls Tryz.prog 72 #[x.v, y.v] w fun e w' => e = .returned (plusS x y).v ∧ Below w.heap.size w w' := by
  unfold Gr.SB at hx hy
  unfold Gr.SumsI.v plusS
  obtain ⟨x1, x2, x3⟩ := x
  obtain ⟨y1, y2, y3⟩ := y
  simp only at hx hy ⊢
  go_enter Tryz.func72, Tryz.ntmps72
  go_wp2
  go_returns
  exact ⟨rfl, (((Below.refl _ _).alloc (Nat.le_refl _) _).alloc (by simp) _).alloc (by simp; omega) _⟩
end Rg
end Go.Proofs.YtjblkijicfmkgaaGreatDoor
