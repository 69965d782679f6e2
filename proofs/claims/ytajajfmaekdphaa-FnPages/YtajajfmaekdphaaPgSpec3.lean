/-
  The contract of spec.PageText, for every page.
-/
import Derived.Test.YtajajfmaekdphaaPgSpec2
namespace Go.Proofs.Ytajajfmaekdphaa
open Go.RowKit

theorem specPage_any (v : Value) (B : Nat) (k : Int) (Q : List It) (h2 : Q.length ≤ 1048576) (hsm : ∀ x ∈ Q, x.key.size ≤ 1048576 ∧ x.val.size ≤ 1048576) (w : World) (hB : B ≤ w.heap.size) (hv : PageAt w v B k Q) :
    Calls Try.prog 11 #[v] w fun e w' => e = .returned (pageA k Q) ∧ Below w.heap.size w w' := by
  by_cases hk : k = 1 ∨ k = 2
  · by_cases hl : 0 < Q.length ∧ Q.length ≤ 54
    · by_cases hz : sizeTo k Q Q.length ≤ 54
      · rcases hk with rfl | rfl
        · exact specPage_go_one v B Q hl hsm hz w hB hv
        · exact specPage_go_two v B Q hl hsm hz w hB hv
      · rw [pageA_no (fun h => hz h.2.2.2)]
        exact specPage_sum v B k Q hk hl hsm (by omega) w hB hv
    · rw [pageA_no (fun h => by have h1 := h.2.1; have h3 := sizeTo_ge h.1 Q Q.length (Nat.le_refl _); have h4 := h.2.2.2; omega)]
      exact specPage_len v B k Q hk h2 (by omega) w hv
  · rw [pageA_no (fun h => hk h.1)]
    exact specPage_kind v B k Q (fun e => hk (.inl e)) (fun e => hk (.inr e)) w hv
end Go.Proofs.Ytajajfmaekdphaa
