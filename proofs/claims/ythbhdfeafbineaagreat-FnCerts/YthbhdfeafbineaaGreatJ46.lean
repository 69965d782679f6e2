/-
 CloneTxt.
-/
import Derived.Test.YthbhdfeafbineaaGreatJ45
import Derived.Handy
namespace Go.Proofs.YthbhdfeafbineaaGreat
open Go.RowKit
theorem clone_txt (s : ByteArray) (hs : s.size ≤ 140737488355328) (w : World) :
    Calls Tryz.prog 37 #[.string s] w fun e w' => e = .returned (.string s) ∧ Below w.heap.size w w' := by
  go_enter Tryz.func37, Tryz.ntmps37
  go_wp2_with fail
  refine (Tryz.stringslite_Clone s _ (by omega)).mono ?_
  rintro e w1 ⟨rfl, hb1⟩
  go_wp2
  go_ret
  exact ⟨rfl, hb1⟩
end Go.Proofs.YthbhdfeafbineaaGreat
