/-
  Texts of this claim, one behind the other: Rg5.
-/
import Derived.Test.YtlakimdgebgdkaaGreatDoorJ30
import Derived.Test.YtlakimdgebgdkaaGreatDoorJ31

/-
  The register: ids: what they are, and the contracts of the specification's. (Written by program.)
-/
namespace Go.Proofs.YtlakimdgebgdkaaGreatDoor
namespace Rg
open Go.RowKit

end Rg
end Go.Proofs.YtlakimdgebgdkaaGreatDoor
