/-
 GrKinds.
-/
import Derived.Test.YtkjclkelnheheaaJ8
import Derived.Test.YtkjclkelnheheaaJ5
namespace Go.Proofs.Ytkjclkelnheheaa
namespace Gr
open Go.ChangeShapes Go.WideShapes Go.ChangeAt Go.RowKit
theorem GrAt.shape {w : World} {v : Value} {B : Nat} {s : Int} {Q : List EdgeI} (h : GrAt w v B s Q) : ∃ a c, v = .agg #[.int .i64 s, .slice a Q.length c] := by
  obtain ⟨a, n, c, rfl, hE⟩ := h
  exact ⟨a, c, by rw [hE.1]⟩
def EdAt (_w : World) (v : Value) (_B : Nat) (x : EdgeI) : Prop := v = x.v
def EdOwn (_w : World) (_B : Nat) (v : Value) (x : EdgeI) : Prop := v = x.v
theorem EdAt.shape {w : World} {v : Value} {B : Nat} {x : EdgeI} (h : EdAt w v B x) : v = .agg #[.int .i64 x.A, .int .i64 x.B, .int .i64 x.W1, .int .i64 x.W2, .int .i64 x.W3] := h
theorem EdAt.below {w w' : World} {v : Value} {B C : Nat} {x : EdgeI} (h : EdAt w v B x) (_hb : Below C w w') (_hC : B ≤ C) : EdAt w' v B x := h
theorem EdAt.mono {w : World} {v : Value} {B C : Nat} {x : EdgeI} (h : EdAt w v B x) (_hC : B ≤ C) : EdAt w v C x := h
theorem EdOwn.at {w : World} {B : Nat} {v : Value} {x : EdgeI} (h : EdOwn w B v x) : EdAt w v w.heap.size x := h
theorem EdOwn.below {w w' : World} {B : Nat} {v : Value} {x : EdgeI} (h : EdOwn w B v x) (_hb : Below w.heap.size w w') : EdOwn w' B v x := h
end Gr
end Go.Proofs.Ytkjclkelnheheaa
