/-
  A region that draws its order, whose own operations only read and whose callees read and make new memory alone: walked once, in the order of the text. The class of worlds is: what the world at the region's beginning has become with nothing turned below N.
-/
import Derived.Test.YtejfknkcakeakaaGrBase
import Derived.BigQuiet
namespace Go.Proofs.Ytejfknkcakeakaa
namespace Gr
open Go.RowKit

/-- A world that another one has become, nothing turned below N. -/
structure Grown (N : Nat) (W : World) where
  w : World
  below : Below N W w

instance (N : Nat) (W : World) : Nonempty (Grown N W) := ⟨⟨W, Below.refl _ _⟩⟩

theorem wp_region_grown {P : Program} {id : Nat} {Q : Exit → Act → World → Prop} {a : Act} {w : World} {l : List Oper} (N : Nat) (hm : P.follows .mixedOrders = true) (hB : Region.lexB .any l.toArray = true)
    (h : wpQuiet P l.toArray (fun w' => ∃ d : Grown N w, w' = d.w) (fun a' => ∀ w', (∃ d : Grown N w, w' = d.w) → Q .normal a' w') l a) : (Code.region id l.toArray true).wp P Q a w := by
  refine wp_region_quiet (C := fun w' => ∃ d : Grown N w, w' = d.w) hm hB ⟨⟨w.drew, (Below.refl N w).drew⟩, rfl⟩ ?_
  rw [List.toList_toArray]
  exact h

/-- A callee's contract, met in a grown world. -/
theorem Calls.grown {P : Program} {f : FuncId} {args : Array Value} {N : Nat} {W : World} {d : Grown N W} {v : Value} (hN : N ≤ W.heap.size)
    (h : Calls P f args d.w fun e w' => e = .returned v ∧ Below d.w.heap.size d.w w') : Calls P f args d.w fun e w'' => e = .returned v ∧ ∃ d' : Grown N W, w'' = d'.w :=
  h.mono fun _ w' ⟨he, hb⟩ => ⟨he, ⟨⟨w', d.below.trans (hb.mono (Nat.le_trans hN d.below.size))⟩, rfl⟩⟩

/-- .. of a callee that leaves the world alone. -/
theorem Calls.grown_same {P : Program} {f : FuncId} {args : Array Value} {N : Nat} {W : World} {d : Grown N W} {v : Value}
    (h : Calls P f args d.w fun e w' => e = .returned v ∧ w' = d.w) : Calls P f args d.w fun e w'' => e = .returned v ∧ ∃ d' : Grown N W, w'' = d'.w :=
  h.mono fun _ _ ⟨he, hw⟩ => ⟨he, d, hw⟩

theorem Grown.cell {N : Nat} {W : World} (d : Grown N W) {b o : Nat} {v : Value} (hb : b < N) (h : W.cell? ⟨b, o, none⟩ = some v) : d.w.cell? ⟨b, o, none⟩ = some v :=
  (d.below.cell (p := ⟨b, o, none⟩) hb).trans h

end Gr
end Go.Proofs.Ytejfknkcakeakaa
