/-
  The contract of strings.Clone, for every text.
-/
import Derived.Test.YteaidpeifaeckaaClone
import Derived.Handy
namespace Go.Proofs.Yteaidpeifaeckaa
open Go.RowKit

theorem clone_txt (s : ByteArray) (hs : s.size ≤ 140737488355328) (w : World) :
    Calls Try.prog 24 #[.string s] w fun e w' => e = .returned (.string s) ∧ Below w.heap.size w w' := by
  go_enter Try.func24, Try.ntmps24
  go_wp2_with fail
  refine (Try.stringslite_Clone s _ (by omega)).mono ?_
  rintro e w1 ⟨rfl, hb1⟩
  go_wp2
  go_ret
  exact ⟨rfl, hb1⟩
end Go.Proofs.Yteaidpeifaeckaa
