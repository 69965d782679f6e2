/-
  The contract of spec.SumsOf, and of spec.MatchOk in a law's form.
-/
import Derived.Test.YtejfknkcakeakaaGrSumsOf
namespace Go.Proofs.Ytejfknkcakeakaa
namespace Gr
open Go.RowKit

/-- What SumsOf tells. -/
def sumsR (s : Int) (Q : List EdgeI) (M : List CoupleI) : SumsI := if matchOk s Q M = true then sums Q M else ⟨0, 0, 0⟩

theorem specMatch_gen (B : Nat) (v : Value) (s : Int) (Q : List EdgeI) (u : Value) (M : List CoupleI) (h1 : Q.length ≤ 1048576) (h2 : M.length ≤ 1048576) (w : World) (hB : B ≤ w.heap.size) (hv : GrAt w v B s Q) (hu : CoAt w u B M) :
    Calls Try.prog 62 #[v, u] w fun e w' => e = .returned (.bool (matchOk s Q M)) ∧ Below w.heap.size w w' := by
  obtain ⟨a, c, rfl, hM⟩ := hu
  exact specMatch_any v B s Q a M.length c M h1 h2 w hB hv hM

end Gr
end Go.Proofs.Ytejfknkcakeakaa
