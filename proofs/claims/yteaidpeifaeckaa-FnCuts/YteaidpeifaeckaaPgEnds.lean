/-
  The contracts of spec.EndsPage and impl.EndsPage.
-/
import Derived.Test.YteaidpeifaeckaaSumImpl
namespace Go.Proofs.Yteaidpeifaeckaa
namespace Pg
open Go.RowKit

theorem implEnds_any (s : ByteArray) (hs : s.size ≤ 140737488355328) (w : World) :
    Calls Try.prog 30 #[.string s] w fun e w' => e = .returned (.bool (((sumB s : Nat) : Int) % 4 == 0)) ∧ w' = w := by
  have HS := hide (fun w => implSumOf_any s hs w)
  have hl := sumB_lt s
  generalize sumB s = S at HS hl
  go_enter Try.func30, Try.ntmps30
  go_wp2_with fail
  refine (unhide HS _).mono ?_
  rintro e w1 ⟨rfl, rfl⟩
  go_wp2
  go_ret
  exact ⟨rfl, rfl⟩
end Pg
end Go.Proofs.Yteaidpeifaeckaa
