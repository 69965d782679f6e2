/-
  The numbers under which this translation holds the library's lock, and that it holds it; errors.As of no error.
-/
import Derived.Test.YtobdmjoonjblpaaGreatDoorProg
import Derived.Test.YtobdmjoonjblpaaGreatDoorBase
import Derived.Conc.MuLib
import Derived.Conc.MuLone
import Derived.KernelRfl
namespace Go.Proofs.YtobdmjoonjblpaaGreatDoor
open Go.RowKit Go.Conc.Locks

abbrev mu : MuLink := { lock := 105, unlock := 106, ilock := 134, iunlock := 135, lockSlow := 160, unlockSlow := 163, disable := 156, enable := 158, acquire := 159, relMerge := 161, cas32 := 157, add32 := 162, tMutex := 96, tIMutex := 94, tPMutex := 203, tPIMutex := 226, tPI32 := 228, tUP := 204, tNoCopy := 91, tU32 := 92 }

-- BARE: some of these functions have no body of Go
theorem muLib : MuLib Tryz.prog mu :=
  ⟨Tryz.func105, Tryz.func106, Tryz.func134, Tryz.func135, Tryz.func156, Tryz.func158, Tryz.func159, Tryz.func161, Tryz.func157, Tryz.func162, Tryz.underlying94, Tryz.runUnderlying94, Tryz.sizeOf94, Tryz.isAgg94, Tryz.zeroValue94, Tryz.underlying96, Tryz.runUnderlying96, Tryz.sizeOf96, Tryz.isAgg96, Tryz.zeroValue96, Tryz.underlying203, Tryz.runUnderlying203, Tryz.sizeOf203, Tryz.isAgg203, Tryz.zeroValue203, Tryz.underlying226, Tryz.runUnderlying226, Tryz.sizeOf226, Tryz.isAgg226, Tryz.zeroValue226, Tryz.underlying228, Tryz.runUnderlying228, Tryz.sizeOf228, Tryz.isAgg228, Tryz.zeroValue228, Tryz.underlying204, Tryz.runUnderlying204, Tryz.sizeOf204, Tryz.isAgg204, Tryz.zeroValue204, Tryz.underlying91, Tryz.runUnderlying91, Tryz.sizeOf91, Tryz.isAgg91, Tryz.zeroValue91, Tryz.underlying21, Tryz.runUnderlying21, Tryz.sizeOf21, Tryz.isAgg21, Tryz.zeroValue21, (by kernel_rfl)⟩

/-- errors.As of no error. -/
theorem as_nil (t : Value) (w : World) :
    Calls Tryz.prog 108 #[.nilIface, t] w fun e w' => e = .returned (.bool false) ∧ w' = w := by
  go_enter Tryz.func108, Tryz.ntmps108
  go_wp2
  go_ret
  exact ⟨rfl, rfl⟩

set_option maxRecDepth 100000 in
/-- The code of no error. -/
theorem faultCode_nil (w : World) :
    Calls Tryz.prog 58 #[.nilIface] w fun e w' => e = .returned (.int .i64 0) ∧ Below w.heap.size w w' := by
  go_enter Tryz.func58, Tryz.ntmps58
  go_wp2_with fail
  refine (as_nil _ _).mono ?_
  rintro e w1 ⟨rfl, rfl⟩
  go_wp2
  go_ret
  exact ⟨rfl, (Below.refl _ _).alloc (Nat.le_refl _) _⟩
end Go.Proofs.YtobdmjoonjblpaaGreatDoor
