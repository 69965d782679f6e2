/-
  The contracts of the readers of numbers: spec.ReadVar, impl.onlyForm and impl.ReadVar, for texts of at most 2^47 bytes and every place.
-/
import Derived.Test.YteaidpeifaeckaaWVar
import Derived.Deep.QuietTactic
import Derived.BigQuiet
import Derived.Deep.RegionWith
import Derived.Deep.RegionHeld3
import Derived.WalkSmall
namespace Go.Proofs.Yteaidpeifaeckaa
namespace Pg
open Go.RowKit

theorem l01Var_int (x : Int) (h0 : 0 ≤ x) (h1 : x ≤ 1000000000) (w : World) :
    Calls Try.prog 25 #[.int .i64 x] w fun e w' => e = .returned (.string ⟨(varB 4 x.toNat).toArray⟩) ∧ Below w.heap.size w w' := by
  obtain ⟨n, rfl⟩ := Int.eq_ofNat_of_zero_le h0
  exact l01Var_any n (by omega) w

theorem implVar_int (x : Int) (h0 : 0 ≤ x) (h1 : x ≤ 1000000000) (w : World) :
    Calls Try.prog 39 #[.int .i64 x] w fun e w' => e = .returned (.tuple #[.string ⟨(varB 4 x.toNat).toArray⟩, .bool true]) ∧ Below w.heap.size w w' := by
  obtain ⟨n, rfl⟩ := Int.eq_ofNat_of_zero_le h0
  exact implVar_yes n (by omega) w

end Pg
end Go.Proofs.Yteaidpeifaeckaa
