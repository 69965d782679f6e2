/-
  The contracts of the specification's sums: spec.SumMore, spec.SumOf, for every sum and text.
-/
import Derived.Test.YteaidpeifaeckaaProg
import Derived.Test.YteaidpeifaeckaaSum
import Derived.Test.YteaidpeifaeckaaBase
namespace Go.Proofs.Yteaidpeifaeckaa
open Go.RowKit

theorem xor_u32 (a b : Nat) (ha : a < 4294967296) (hb : b < 4294967296) : bits .xor .u32 (a : Int) (b : Int) = ((a ^^^ b : Nat) : Int) := u32_xor_nat a b ha hb

theorem xor_turn (a : Nat) (ha : a < 4294967296) : bits .xor .u32 (a : Int) 3558460437 = ((a ^^^ 3558460437 : Nat) : Int) := u32_xor_nat a 3558460437 ha (by omega)

end Go.Proofs.Yteaidpeifaeckaa
