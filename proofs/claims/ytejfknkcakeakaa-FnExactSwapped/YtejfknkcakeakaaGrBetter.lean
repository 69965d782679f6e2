/-
  The contract of spec.Better.
-/
import Derived.Test.YtejfknkcakeakaaGrKSums
namespace Go.Proofs.Ytejfknkcakeakaa
namespace Gr
open Go.RowKit

def better (a b : SumsI) : Bool := if a.W1 ≠ b.W1 then decide (b.W1 < a.W1) else if a.W2 ≠ b.W2 then decide (b.W2 < a.W2) else decide (b.W3 < a.W3)

set_option maxRecDepth 100000 in
theorem specBetter_any (a b : SumsI) (w : World) :
    Calls Try.prog 78 #[a.v, b.v] w fun e w' => e = .returned (.bool (better a b)) ∧ Below w.heap.size w w' := by
  unfold better SumsI.v
  obtain ⟨a1, a2, a3⟩ := a
  obtain ⟨b1, b2, b3⟩ := b
  simp only
  have hbel : Below w.heap.size w ((w.alloc (Obj.cells #[Value.int .i64 a1, Value.int .i64 a2, Value.int .i64 a3] 78)).alloc (Obj.cells #[Value.int .i64 b1, Value.int .i64 b2, Value.int .i64 b3] 78)) := ((Below.refl _ _).alloc (Nat.le_refl _) _).alloc (by simp) _
  have HB := hide hbel
  clear hbel
  by_cases h1 : a1 = b1
  · subst h1
    by_cases h2 : a2 = b2
    · subst h2
      rw [if_neg (by simp), if_neg (by simp)]
      have e1 : (a1 != a1) = false := by simp
      have e2 : (a2 != a2) = false := by simp
      go_enter Try.func78, Try.ntmps78
      go_wp2
      go_ret
      exact ⟨rfl, unhide HB⟩
    · rw [if_neg (by simp), if_pos h2]
      have e1 : (a1 != a1) = false := by simp
      have e2 : (a2 != b2) = true := by simpa using h2
      go_enter Try.func78, Try.ntmps78
      go_wp2
      go_ret
      exact ⟨rfl, unhide HB⟩
  · rw [if_pos h1]
    have e1 : (a1 != b1) = true := by simpa using h1
    go_enter Try.func78, Try.ntmps78
    go_wp2
    go_ret
    exact ⟨rfl, unhide HB⟩

theorem specBetter_gen (B : Nat) (v : Value) (x : SumsI) (u : Value) (y : SumsI) (w : World) (_hB : B ≤ w.heap.size) (hv : SuAt w v B x) (hu : SuAt w u B y) :
    Calls Try.prog 78 #[v, u] w fun e w' => e = .returned (.bool (better x y)) ∧ Below w.heap.size w w' := by
  unfold SuAt at hv hu
  subst hv hu
  exact specBetter_any x y w

end Gr
end Go.Proofs.Ytejfknkcakeakaa
