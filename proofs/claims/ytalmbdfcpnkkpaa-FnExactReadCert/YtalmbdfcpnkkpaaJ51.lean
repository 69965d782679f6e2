/-
  Texts of this claim, one behind the other: GrHead.
-/
import Derived.Test.YtalmbdfcpnkkpaaJ5

/-
  A region that draws its order, from where some of its operations are done: the others only read, and their callees make new memory alone.
-/
namespace Go.Proofs.Ytalmbdfcpnkkpaa
namespace Gr
open Go.RowKit

theorem wpAny_grown {P : Program} {md : Region.Mode} {ops : Array Oper} {Q : Exit → Act → World → Prop} {a : Act} {w : World} {listed : Array Bool} {fuel : Nat} (N k : Nat) (l : List Oper) (hl : l = ops.toList.drop k) (hf : fuel = l.length) (hs : Region.noSelect ops = true) (hB : Region.lexFrom md ops l.length k listed = true)
    (h : wpQuiet P ops (fun w' => ∃ d : Grown N w, w' = d.w) (fun a' => ∀ w', (∃ d : Grown N w, w' = d.w) → Q .normal a' w') l a) : wpAny P md ops Q fuel listed a w := by
  subst hf
  refine wpAny_of_quiet (C := fun w' => ∃ d : Grown N w, w' = d.w) (Q := fun a' => ∀ w', (∃ d : Grown N w, w' = d.w) → Q .normal a' w') (fun _ w' hw h => h w' hw) _ _ _ _ ⟨⟨w, Below.refl _ _⟩, rfl⟩ ?_
  refine wpAnyQ_lex hs l k listed a (fun j => ?_) hB h
  subst hl
  rw [List.getElem?_drop, Array.getElem?_toList]

/-- Rows of two kinds lie in two blocks. -/
theorem own_apart {W : World} {b b' e e' z z' n n' : Nat} {v v' : Value} {xs xs' : List Value} (h : W.ownsRow b e z v n xs) (h' : W.ownsRow b' e' z' v' n' xs') (hne : e ≠ e') : ∀ g, v.ownBlock = some g → v'.ownBlock ≠ some g := by
  intro g hg hg'
  rcases h.2 with ⟨rfl, _⟩ | ⟨k, cap, cur, rfl, _, hk, _⟩
  · simp [Value.ownBlock] at hg
  · rcases h'.2 with ⟨rfl, _⟩ | ⟨k', cap', cur', rfl, _, hk', _⟩
    · simp [Value.ownBlock] at hg'
    · have e1 : k = g := Option.some.inj hg
      have e2 : k' = g := Option.some.inj hg'
      subst e1
      subst e2
      rw [hk] at hk'
      simp at hk'
      exact hne hk'.2

end Gr
end Go.Proofs.Ytalmbdfcpnkkpaa
