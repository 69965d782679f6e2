/-
  The contracts of spec.BestSums and spec.CountMatches.
-/
import Derived.Test.YtejfknkcakeakaaGrBestC
namespace Go.Proofs.Ytejfknkcakeakaa
namespace Gr
open Go.RowKit

/-- What BestSums tells. -/
def bestR (s : Int) (Q : List EdgeI) : SumsI := if graphOk s Q = true then (best Q s s.toNat []).1 else ⟨0, 0, 0⟩
/-- What CountMatches tells. -/
def countR (s : Int) (Q : List EdgeI) : Int := if graphOk s Q = true then (best Q s s.toNat []).2 else -1

theorem best_from {v : Value} {B : Nat} {s : Int} {Q : List EdgeI} (hg : graphOk s Q = true) (h1 : Q.length ≤ 1048576) (w : World) (hB : B ≤ w.heap.size) (hv : GrAt w v B s Q) :
    Calls Try.prog 56 #[v, .int .i64 0, .slice (some ⟨w.heap.size, 0, none⟩) 0 0] (w.alloc (Obj.cells #[] 3)) fun e w' => e = .returned (.tuple #[(best Q s s.toNat []).1.v, .int .i64 (best Q s s.toNat []).2]) ∧ Below w.heap.size w w' := by
  obtain ⟨h0, h9, _, _⟩ := graph_sound hg
  have hb := below_new w (Obj.cells #[] 3)
  refine (specBest_any v B s Q hg h1 s.toNat [] ⟨w.heap.size, 0, none⟩ 0 0 0 (w.alloc (Obj.cells #[] 3)) (by omega) (by omega) (by simp; omega) (by have := hb.size; omega) (Nat.zero_le _) (hv.below hb hB) ⟨rfl, fun j h => by simp at h⟩).mono ?_
  rintro e w' ⟨rfl, hb'⟩
  exact ⟨rfl, hb.trans (hb'.mono hb.size)⟩

end Gr
end Go.Proofs.Ytejfknkcakeakaa
