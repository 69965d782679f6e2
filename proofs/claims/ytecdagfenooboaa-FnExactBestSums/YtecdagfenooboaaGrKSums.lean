/-
  The kind of Sums, in the form that a law's walk asks for. Written by program (tools/kinds.py).
-/
import Derived.Test.YtecdagfenooboaaGrSumsM
import Derived.Test.YtecdagfenooboaaGrSumsO
namespace Go.Proofs.Ytecdagfenooboaa
namespace Gr
open Go.ChangeShapes Go.WideShapes Go.ChangeAt Go.RowKit

def SuAt (_w : World) (v : Value) (_B : Nat) (x : SumsI) : Prop := v = x.v
def SuOwn (_w : World) (_B : Nat) (v : Value) (x : SumsI) : Prop := v = x.v

theorem SuAt.shape {w : World} {v : Value} {B : Nat} {x : SumsI} (h : SuAt w v B x) : v = x.v := h
theorem SuAt.below {w w' : World} {v : Value} {B C : Nat} {x : SumsI} (h : SuAt w v B x) (_hb : Below C w w') (_hC : B ≤ C) : SuAt w' v B x := h
theorem SuAt.mono {w : World} {v : Value} {B C : Nat} {x : SumsI} (h : SuAt w v B x) (_hC : B ≤ C) : SuAt w v C x := h
theorem SuOwn.at {w : World} {B : Nat} {v : Value} {x : SumsI} (h : SuOwn w B v x) : SuAt w v w.heap.size x := h
theorem SuOwn.below {w w' : World} {B : Nat} {v : Value} {x : SumsI} (h : SuOwn w B v x) (_hb : Below w.heap.size w w') : SuOwn w' B v x := h

theorem toSums_gen (v : Value) (B : Nat) (x : SumsI) (w : World) (_hB : B ≤ w.heap.size) (hv : SuAt w v B x) :
    Calls Try.prog 21 #[v] w fun e w' => (∃ d, e = .returned d ∧ SuOwn w' w.heap.size d x) ∧ Below w.heap.size w w' := by
  unfold SuAt at hv
  subst hv
  refine (toSums_any x w).mono ?_
  rintro e w' ⟨rfl, hb⟩
  exact ⟨⟨_, rfl, rfl⟩, hb⟩

theorem eqSums_gen (v u : Value) (B B' : Nat) (x : SumsI) (w : World) (_hB : B ≤ w.heap.size) (_hB' : B' ≤ w.heap.size) (hv : SuAt w v B x) (hu : SuAt w u B' x) :
    Calls Try.prog 19 #[v, u] w fun e w' => e = .returned (.bool true) ∧ Below w.heap.size w w' := by
  unfold SuAt at hv hu
  subst hv hu
  exact eqSums_same x w

theorem Sums_in {H : Type} {enc : TypeId × Value → H} {W : World} {r : Reach} {b0 : Nat} {v : Value} {d : DataW H} {p : List MemPlace}
    (hv : Value.okWide Try.prog W r b0 43 v) (h : DataW.Trod enc Try.prog W 0 (fun _ => true) true 43 v d p) : ∃ x, SuAt W v W.heap.size x := sums_one hv h

end Gr
end Go.Proofs.Ytecdagfenooboaa
