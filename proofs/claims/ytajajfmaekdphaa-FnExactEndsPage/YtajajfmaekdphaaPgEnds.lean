/-
  The contracts of spec.EndsPage and impl.EndsPage.
-/
import Derived.Test.YtajajfmaekdphaaSumImpl
namespace Go.Proofs.Ytajajfmaekdphaa
open Go.RowKit

theorem specEnds_any (s : ByteArray) (hs : s.size ≤ 140737488355328) (w : World) :
    Calls Try.prog 24 #[.string s] w fun e w' => e = .returned (.bool (((sumB s : Nat) : Int) % 4 == 0)) ∧ w' = w := by
  have h1 : ∀ w, Calls Try.prog 52 #[.string s] w fun e w' => e = .returned (.int .u32 ((sumB s : Nat) : Int)) ∧ w' = w := fun w => specSumOf_any s hs w
  have HS := hide h1
  clear h1
  have hl := sumB_lt s
  generalize sumB s = S at HS hl
  go_enter Try.func24, Try.ntmps24
  go_wp2_with fail
  refine (unhide HS _).mono ?_
  rintro e w1 ⟨rfl, rfl⟩
  go_wp2
  go_ret
  exact ⟨rfl, rfl⟩

theorem implEnds_any (s : ByteArray) (hs : s.size ≤ 140737488355328) (w : World) :
    Calls Try.prog 25 #[.string s] w fun e w' => e = .returned (.bool (((sumB s : Nat) : Int) % 4 == 0)) ∧ w' = w := by
  have HS := hide (fun w => implSumOf_any s hs w)
  have hl := sumB_lt s
  generalize sumB s = S at HS hl
  go_enter Try.func25, Try.ntmps25
  go_wp2_with fail
  refine (unhide HS _).mono ?_
  rintro e w1 ⟨rfl, rfl⟩
  go_wp2
  go_ret
  exact ⟨rfl, rfl⟩
end Go.Proofs.Ytajajfmaekdphaa
