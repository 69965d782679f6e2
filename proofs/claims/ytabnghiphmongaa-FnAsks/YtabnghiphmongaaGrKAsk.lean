/-
  The kind of Ask, in the form that a law's walk asks for. Written by program (tools/kinds.py).
-/
import Derived.Test.YtabnghiphmongaaGrAskM
import Derived.Test.YtabnghiphmongaaGrAskO
namespace Go.Proofs.Ytabnghiphmongaa
namespace Gr
open Go.ChangeShapes Go.WideShapes Go.ChangeAt Go.RowKit

def AkAt (_w : World) (v : Value) (_B : Nat) (x : AskI) : Prop := v = x.v
def AkOwn (_w : World) (_B : Nat) (v : Value) (x : AskI) : Prop := v = x.v

theorem AkAt.shape {w : World} {v : Value} {B : Nat} {x : AskI} (h : AkAt w v B x) : v = x.v := h
theorem AkAt.below {w w' : World} {v : Value} {B C : Nat} {x : AskI} (h : AkAt w v B x) (_hb : Below C w w') (_hC : B ≤ C) : AkAt w' v B x := h
theorem AkAt.mono {w : World} {v : Value} {B C : Nat} {x : AskI} (h : AkAt w v B x) (_hC : B ≤ C) : AkAt w v C x := h
theorem AkOwn.at {w : World} {B : Nat} {v : Value} {x : AskI} (h : AkOwn w B v x) : AkAt w v w.heap.size x := h
theorem AkOwn.below {w w' : World} {B : Nat} {v : Value} {x : AskI} (h : AkOwn w B v x) (_hb : Below w.heap.size w w') : AkOwn w' B v x := h

theorem toAsk_gen (v : Value) (B : Nat) (x : AskI) (w : World) (_hB : B ≤ w.heap.size) (hv : AkAt w v B x) :
    Calls Try.prog 7 #[v] w fun e w' => (∃ d, e = .returned d ∧ AkOwn w' w.heap.size d x) ∧ Below w.heap.size w w' := by
  unfold AkAt at hv
  subst hv
  refine (toAsk_any x w).mono ?_
  rintro e w' ⟨rfl, hb⟩
  exact ⟨⟨_, rfl, rfl⟩, hb⟩

theorem eqAsk_gen (v u : Value) (B B' : Nat) (x : AskI) (w : World) (_hB : B ≤ w.heap.size) (_hB' : B' ≤ w.heap.size) (hv : AkAt w v B x) (hu : AkAt w u B' x) :
    Calls Try.prog 11 #[v, u] w fun e w' => e = .returned (.bool true) ∧ Below w.heap.size w w' := by
  unfold AkAt at hv hu
  subst hv hu
  exact eqAsk_same x w

set_option maxRecDepth 100000 in
theorem Ask_in {H : Type} {enc : TypeId × Value → H} {W : World} {r : Reach} {b0 : Nat} {v : Value} {d : DataW H} {p : List MemPlace}
    (hv : Value.okWide Try.prog W r b0 23 v) (h : DataW.Trod enc Try.prog W 0 (fun _ => true) true 23 v d p) : ∃ x, AkAt W v W.heap.size x := asks_one hv h

end Gr
end Go.Proofs.Ytabnghiphmongaa
