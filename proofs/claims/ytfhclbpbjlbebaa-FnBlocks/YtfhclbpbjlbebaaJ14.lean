/-
  Texts of this claim, one behind the other: GrKinds.
-/
import Derived.Test.YtfhclbpbjlbebaaJ11
import Derived.Test.YtfhclbpbjlbebaaJ6

/-
  The kinds of values that the laws hand about, in one form each (..At: it can be read; ..Own: a call has made it; ..Blk: its blocks), so that a law's walk is written by program (tools/exactlaw.py). A struct's variable in memory: CBox.
-/
namespace Go.Proofs.Ytfhclbpbjlbebaa
namespace Gr
open Go.ChangeShapes Go.WideShapes Go.ChangeAt Go.RowKit

/-! ### Graphs -/

theorem GrAt.shape {w : World} {v : Value} {B : Nat} {s : Int} {Q : List EdgeI} (h : GrAt w v B s Q) : ∃ a c, v = .agg #[.int .i64 s, .slice a Q.length c] := by
  obtain ⟨a, n, c, rfl, hE⟩ := h
  exact ⟨a, c, by rw [hE.1]⟩

theorem szGraph_gen (v : Value) (B : Nat) (s : Int) (Q : List EdgeI) (left : Int) (h0 : 0 ≤ left) (h1 : left ≤ 1048576) (hQ : Q.length ≤ 9223372036854775807) (w : World) (hv : GrAt w v B s Q) :
    Calls Try.prog 14 #[v, .int .i64 left] w fun e w' => (∃ x : Int, e = .returned (.int .i64 x) ∧ x ≤ left ∧ (0 ≤ x → (Q.length : Int) + x ≤ left)) ∧ Below w.heap.size w w' := by
  refine (szGraph_any v B s Q left h0 h1 hQ w hv).mono ?_
  rintro e w' ⟨rfl, hb⟩
  refine ⟨⟨_, rfl, ?_, ?_⟩, hb⟩
  · split <;> omega
  · split <;> omega

/-! ### An edge -/

def EdAt (_w : World) (v : Value) (_B : Nat) (x : EdgeI) : Prop := v = x.v
def EdOwn (_w : World) (_B : Nat) (v : Value) (x : EdgeI) : Prop := v = x.v

theorem EdAt.shape {w : World} {v : Value} {B : Nat} {x : EdgeI} (h : EdAt w v B x) : v = .agg #[.int .i64 x.A, .int .i64 x.B, .int .i64 x.W1, .int .i64 x.W2, .int .i64 x.W3] := h
theorem EdAt.below {w w' : World} {v : Value} {B C : Nat} {x : EdgeI} (h : EdAt w v B x) (_hb : Below C w w') (_hC : B ≤ C) : EdAt w' v B x := h
theorem EdAt.mono {w : World} {v : Value} {B C : Nat} {x : EdgeI} (h : EdAt w v B x) (_hC : B ≤ C) : EdAt w v C x := h
theorem EdOwn.at {w : World} {B : Nat} {v : Value} {x : EdgeI} (h : EdOwn w B v x) : EdAt w v w.heap.size x := h
theorem EdOwn.below {w w' : World} {B : Nat} {v : Value} {x : EdgeI} (h : EdOwn w B v x) (_hb : Below w.heap.size w w') : EdOwn w' B v x := h

theorem toEdge_gen (v : Value) (B : Nat) (x : EdgeI) (w : World) (_hB : B ≤ w.heap.size) (hv : EdAt w v B x) :
    Calls Try.prog 66 #[v] w fun e w' => (∃ d, e = .returned d ∧ EdOwn w' w.heap.size d x) ∧ Below w.heap.size w w' := by
  unfold EdAt at hv
  subst hv
  refine (toEdge_any x w).mono ?_
  rintro e w' ⟨rfl, hb⟩
  exact ⟨⟨_, rfl, rfl⟩, hb⟩

theorem eqEdge_gen (v u : Value) (B B' : Nat) (x : EdgeI) (w : World) (_hB : B ≤ w.heap.size) (_hB' : B' ≤ w.heap.size) (hv : EdAt w v B x) (hu : EdAt w u B' x) :
    Calls Try.prog 67 #[v, u] w fun e w' => e = .returned (.bool true) ∧ Below w.heap.size w w' := by
  unfold EdAt at hv hu
  subst hv hu
  exact eqEdge_same x w

/-! ### What came in -/

set_option maxRecDepth 100000 in
theorem graph_in {H : Type} {enc : TypeId × Value → H} {W : World} {r : Reach} {b0 : Nat} {v : Value} {d : DataW H} {p : List MemPlace}
    (hv : Value.okWide Try.prog W r b0 41 v) (h : DataW.Trod enc Try.prog W 0 (fun _ => true) true 41 v d p) : ∃ s Q, GrAt W v W.heap.size s Q ∧ Q.length ≤ 9223372036854775807 := by
  obtain ⟨s, Q, h1, h2, _⟩ := graph_open hv h
  exact ⟨s, Q, h1, h2⟩

set_option maxRecDepth 100000 in
theorem edge_in {H : Type} {enc : TypeId × Value → H} {W : World} {r : Reach} {b0 : Nat} {v : Value} {d : DataW H} {p : List MemPlace}
    (hv : Value.okWide Try.prog W r b0 119 v) (h : DataW.Trod enc Try.prog W 0 (fun _ => true) true 119 v d p) : ∃ x, EdAt W v W.heap.size x := edges_one hv h

end Gr
end Go.Proofs.Ytfhclbpbjlbebaa
