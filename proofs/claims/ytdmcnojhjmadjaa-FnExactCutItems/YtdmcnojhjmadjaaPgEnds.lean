/-
  The contracts of spec.EndsPage and impl.EndsPage.
-/
import Derived.Test.YtdmcnojhjmadjaaSumImpl
namespace Go.Proofs.Ytdmcnojhjmadjaa
namespace Pg
open Go.RowKit

theorem specEnds_any (s : ByteArray) (hs : s.size ≤ 140737488355328) (w : World) :
    Calls Try.prog 36 #[.string s] w fun e w' => e = .returned (.bool (((sumB s : Nat) : Int) % 4 == 0)) ∧ w' = w := by
  have h1 : ∀ w, Calls Try.prog 57 #[.string s] w fun e w' => e = .returned (.int .u32 ((sumB s : Nat) : Int)) ∧ w' = w := fun w => specSumOf_any s hs w
  have HS := hide h1
  clear h1
  have hl := sumB_lt s
  generalize sumB s = S at HS hl
  go_enter Try.func36, Try.ntmps36
  go_wp2_with fail
  refine (unhide HS _).mono ?_
  rintro e w1 ⟨rfl, rfl⟩
  go_wp2
  go_ret
  exact ⟨rfl, rfl⟩

theorem implEnds_any (s : ByteArray) (hs : s.size ≤ 140737488355328) (w : World) :
    Calls Try.prog 71 #[.string s] w fun e w' => e = .returned (.bool (((sumB s : Nat) : Int) % 4 == 0)) ∧ w' = w := by
  have HS := hide (fun w => implSumOf_any s hs w)
  have hl := sumB_lt s
  generalize sumB s = S at HS hl
  go_enter Try.func71, Try.ntmps71
  go_wp2_with fail
  refine (unhide HS _).mono ?_
  rintro e w1 ⟨rfl, rfl⟩
  go_wp2
  go_ret
  exact ⟨rfl, rfl⟩
end Pg
end Go.Proofs.Ytdmcnojhjmadjaa
