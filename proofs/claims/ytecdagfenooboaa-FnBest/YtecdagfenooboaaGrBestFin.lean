/-
  FnBest, whole: its walk over the program's own contracts (GrImpl9: implSumsOf_gen, implMatch_gen, implBestSums_gen, implCount_gen, implBetter_gen) and what is drawn.
-/
import Derived.Test.YtecdagfenooboaaGrBestWalk
import Derived.Test.YtecdagfenooboaaGrDrawM
import Derived.Test.YtecdagfenooboaaGrImpl9
namespace Go.Proofs.Ytecdagfenooboaa
namespace Gr
open Go.RowKit

theorem best_big (a : Option Addr) (len cap : Nat) (hl : ¬ len ≤ 1048576) (w : World) :
    Calls Try.prog 8 #[.slice a len cap] w fun e w' => e = .returned (.bool true) ∧ Below w.heap.size w w' := fnBest_big a len cap hl w

theorem best_walk (a : Option Addr) (len cap : Nat) (hl : len ≤ 1048576) (w : World) (hd : Code a len w.heap.size w) :
    Calls Try.prog 8 #[.slice a len cap] w fun e w' => e = .returned (.bool true) ∧ Below w.heap.size w w' :=
  fnBest_of implSumsOf_gen implMatch_gen implBestSums_gen implCount_gen (fun a b w => implBetter_gen w.heap.size a.v a b.v b w (Nat.le_refl _) rfl rfl) a len cap hl w (drawMatch_any a len cap hl w hd)

end Gr
end Go.Proofs.Ytecdagfenooboaa
