/-
  The contract of laws.within.
-/
import Derived.Test.YtkidkfopnghghaaIntsAt
namespace Go.Proofs.Ytkidkfopnghghaa
namespace Lk
open Go.RowKit

set_option maxRecDepth 100000 in
set_option maxHeartbeats 1000000 in
theorem within_any (a : Option Addr) (n c B : Nat) (K : List Int) (x : Int) (hn : n ≤ 1048576) (w : World) (hK : IntsAt w a n B K) :
    Calls Try.prog 15 #[.slice a n c, .int .i64 x] w fun e w' => e = .returned (.bool (inK K x)) ∧ w' = w := by
  obtain ⟨hL, hc⟩ := hK
  have HC := hide hc
  have HN := hide hL
  clear hc hL
  go_enter Try.func15, Try.ntmps15
  go_wp2_with fail
  go_loop [5] (fun i => ∃ k : Nat, i = .int .i64 k ∧ k ≤ n ∧ Hid (inK (K.take k) x = false)) (fun i => n - (intOf i).toNat)
  case atStart => exact ⟨0, rfl, Nat.zero_le _, rfl⟩
  case round =>
    obtain ⟨k, rfl, hk, hall⟩ := hrel
    by_cases hlt : k < n
    · have hkL : k < K.length := by have := unhide HN; omega
      obtain ⟨b, off, rfl, hbB, hcell⟩ := unhide HC k hkL
      have hx0 : (0 : Int) ≤ (k : Int) := by omega
      have hx1 : (k : Int) < (n : Int) := by omega
      have HS := hide (inK_take_succ K x k hkL (unhide hall))
      have HM := hide (List.getElem_mem hkL)
      generalize K[k] = y at hcell HS HM
      cases hq : (y == x)
      · go_wp2
        go_round
        case rel => exact ⟨k + 1, by go_num, by omega, unhide HS hq⟩
        case measure => simp [intOf]; omega
      · have HE : Hid (inK K x = true) := by
          show _ = _
          have e : y = x := by simpa using hq
          exact inK_of_mem (e ▸ unhide HM)
        go_wp2
        go_ret
        exact ⟨by rw [unhide HE]; rfl, rfl⟩
    · have HE : Hid (inK K x = false) := by
        have h := unhide hall
        rw [List.take_of_length_le (by have := unhide HN; omega)] at h
        exact h
      go_wp2
      go_ret
      exact ⟨by rw [unhide HE]; rfl, rfl⟩
end Lk
end Go.Proofs.Ytkidkfopnghghaa
