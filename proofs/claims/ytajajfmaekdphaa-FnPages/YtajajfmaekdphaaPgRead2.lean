/-
  The contract of the program's oneByte, where no byte is left: the reader panics.
-/
import Derived.Test.YtajajfmaekdphaaPgRead
import Derived.Deep.RegionWith
namespace Go.Proofs.Ytajajfmaekdphaa
open Go.RowKit

theorem aside {A B : Prop} (b : B) (_ : A) : B := b

set_option maxRecDepth 100000 in
set_option maxHeartbeats 1000000 in
theorem oneByte_no (g : Nat) (w : World) (h : RdAt w g ⟨#[]⟩ 0) :
    Calls Try.prog 73 #[.pointer (some ⟨g, 0, none⟩)] w fun e w' => e = noPg ∧ Kept (fun k => k = g) w w' := by
  obtain ⟨c0, c1, cf⟩ := h.cells
  have HW := hide (fun w => want_no (some ⟨g, 0, none⟩) w)
  have hk : Kept (fun k => k = g) w w.drew := Kept.of_below (Below.refl w.heap.size w).drew
  clear h cf
  go_enter Try.func73, Try.ntmps73
  go_wp2_with fail
  go_region_with ((go_at_call 74; refine (unhide HW _).mono ?_; rintro e w3 ⟨rfl, rfl⟩; (refine aside (A := wpAny Try.prog Region.Mode.any #[] (fun _ _ _ => True) 0 #[] { tmps := #[], defers := [] } w) ⟨rfl, rfl, hk⟩ ?_)))
  all_goals trivial
end Go.Proofs.Ytajajfmaekdphaa
