/-
  Texts of this claim, one behind the other: StLock.
-/
import Derived.Test.YtjhnippfepbjmaaGreatDoorProg
import Derived.Test.YtjhnippfepbjmaaGreatDoorJ1
import Derived.Conc.MuLib
import Derived.Conc.MuLone
import Derived.KernelRfl

/-
  The numbers under which this translation holds the library's lock, and that it holds it; errors.As of no error.
-/
namespace Go.Proofs.YtjhnippfepbjmaaGreatDoor
open Go.RowKit Go.Conc.Locks

abbrev mu : MuLink := { lock := 92, unlock := 93, ilock := 106, iunlock := 107, lockSlow := 126, unlockSlow := 129, disable := 122, enable := 124, acquire := 125, relMerge := 127, cas32 := 123, add32 := 128, tMutex := 136, tIMutex := 134, tPMutex := 166, tPIMutex := 193, tPI32 := 195, tUP := 171, tNoCopy := 132, tU32 := 79 }

-- BARE: some of these functions have no body of Go
theorem muLib : MuLib Tryz.prog mu :=
  ⟨Tryz.func92, Tryz.func93, Tryz.func106, Tryz.func107, Tryz.func122, Tryz.func124, Tryz.func125, Tryz.func127, Tryz.func123, Tryz.func128, Tryz.underlying134, Tryz.runUnderlying134, Tryz.sizeOf134, Tryz.isAgg134, Tryz.zeroValue134, Tryz.underlying136, Tryz.runUnderlying136, Tryz.sizeOf136, Tryz.isAgg136, Tryz.zeroValue136, Tryz.underlying166, Tryz.runUnderlying166, Tryz.sizeOf166, Tryz.isAgg166, Tryz.zeroValue166, Tryz.underlying193, Tryz.runUnderlying193, Tryz.sizeOf193, Tryz.isAgg193, Tryz.zeroValue193, Tryz.underlying195, Tryz.runUnderlying195, Tryz.sizeOf195, Tryz.isAgg195, Tryz.zeroValue195, Tryz.underlying171, Tryz.runUnderlying171, Tryz.sizeOf171, Tryz.isAgg171, Tryz.zeroValue171, Tryz.underlying132, Tryz.runUnderlying132, Tryz.sizeOf132, Tryz.isAgg132, Tryz.zeroValue132, Tryz.underlying21, Tryz.runUnderlying21, Tryz.sizeOf21, Tryz.isAgg21, Tryz.zeroValue21, (by kernel_rfl)⟩

/-- errors.As of no error. -/
theorem as_nil (t : Value) (w : World) :
    Calls Tryz.prog 95 #[.nilIface, t] w fun e w' => e = .returned (.bool false) ∧ w' = w := by
  go_enter Tryz.func95, Tryz.ntmps95
  go_wp2
  go_ret
  exact ⟨rfl, rfl⟩

set_option maxRecDepth 100000 in
/-- The code of no error. -/
theorem faultCode_nil (w : World) :
    Calls Tryz.prog 84 #[.nilIface] w fun e w' => e = .returned (.int .i64 0) ∧ Below w.heap.size w w' := by
  go_enter Tryz.func84, Tryz.ntmps84
  go_wp2_with fail
  refine (as_nil _ _).mono ?_
  rintro e w1 ⟨rfl, rfl⟩
  go_wp2
  go_ret
  exact ⟨rfl, (Below.refl _ _).alloc (Nat.le_refl _) _⟩
end Go.Proofs.YtjhnippfepbjmaaGreatDoor
