/-
  Asks that are drawn: the contract of spec.l13Ask: some ask.
-/
import Derived.Test.YtabnghiphmongaaAkRead
import Derived.Test.YtabnghiphmongaaGrCPick
import Derived.Test.YtabnghiphmongaaRgI
import Derived.Deep.DeepCutAuto
import Derived.Deep.CutBlock
namespace Go.Proofs.Ytabnghiphmongaa
namespace Gr
open Go.RowKit

def akV (x : AskI) : Array Value := #[.int .i64 x.Op, .int .i64 x.A, .int .i64 x.B, .int .i64 x.W1, .int .i64 x.W2, .int .i64 x.W3]
def akZ : Array Value := #[.int .i64 0, .int .i64 0, .int .i64 0, .int .i64 0, .int .i64 0, .int .i64 0]

/-- Numbers as they are drawn. -/
def nr (y : Int) : Prop := -1 ≤ y ∧ y ≤ 1000
def okA (x : AskI) : Prop := nr x.Op ∧ nr x.A ∧ nr x.B ∧ nr x.W1 ∧ nr x.W2 ∧ nr x.W3

/-- While an ask is drawn: the result's cell (not written yet), the ask itself, the cursor; nothing else is written. -/
def AQ (a : Option Addr) (len cap g B : Nat) (w : World) (X : Nat) (W : World) : Prop := w.heap.size < X ∧ (∃ x : AskI, okA x ∧ Blk W (X) (akV x) 26) ∧ Blk W w.heap.size akZ 26 ∧ CC a len cap g B W ∧ Kept (fun k => k = g) w W

theorem AQ.drawn {a : Option Addr} {len cap g B X : Nat} {w W W' : World} (h : AQ a len cap g B w X W) (hg : g < w.heap.size) (hc : CC a len cap g B W') (hk : Kept (fun k => k = g) W W') : AQ a len cap g B w X W' := by
  obtain ⟨hX, ⟨x, ho, h1⟩, h2, h3, h4⟩ := h
  exact ⟨hX, ⟨x, ho, h1.kept hk (by omega)⟩, h2.kept hk (by omega), hc, h4.trans hk⟩

theorem AQ.alloc {a : Option Addr} {len cap g B X : Nat} {w W : World} (h : AQ a len cap g B w X W) (hB : B ≤ g) (o : Obj) : AQ a len cap g B w X (W.alloc o) := by
  obtain ⟨hX, ⟨x, ho, h1⟩, h2, h3, h4⟩ := h
  exact ⟨hX, ⟨x, ho, h1.alloc⟩, h2.alloc, h3.alloc hB o, h4.trans (Kept.of_below (below_new _ _))⟩

theorem AQ.below {a : Option Addr} {len cap g B X : Nat} {w W W' : World} (h : AQ a len cap g B w X W) (hB : B ≤ g) (hb : Below W.heap.size W W') : AQ a len cap g B w X W' := by
  obtain ⟨hX, ⟨x, ho, h1⟩, h2, h3, h4⟩ := h
  exact ⟨hX, ⟨x, ho, h1.below hb⟩, h2.below hb, h3.below hb hB, h4.trans (Kept.of_below hb)⟩

theorem akV_set (x : AskI) (ho : okA x) (j : Nat) (hj : j < 6) (y : Int) (hy : nr y) : ∃ z : AskI, okA z ∧ (akV x).setIfInBounds j (.int .i64 y) = akV z := by
  obtain ⟨a, b, c, d, e, f⟩ := x
  obtain ⟨o1, o2, o3, o4, o5, o6⟩ := ho
  match j, hj with
  | 0, _ => exact ⟨⟨y, b, c, d, e, f⟩, ⟨hy, o2, o3, o4, o5, o6⟩, rfl⟩
  | 1, _ => exact ⟨⟨a, y, c, d, e, f⟩, ⟨o1, hy, o3, o4, o5, o6⟩, rfl⟩
  | 2, _ => exact ⟨⟨a, b, y, d, e, f⟩, ⟨o1, o2, hy, o4, o5, o6⟩, rfl⟩
  | 3, _ => exact ⟨⟨a, b, c, y, e, f⟩, ⟨o1, o2, o3, hy, o5, o6⟩, rfl⟩
  | 4, _ => exact ⟨⟨a, b, c, d, y, f⟩, ⟨o1, o2, o3, o4, hy, o6⟩, rfl⟩
  | 5, _ => exact ⟨⟨a, b, c, d, e, y⟩, ⟨o1, o2, o3, o4, o5, hy⟩, rfl⟩

theorem akV_at (x : AskI) (ho : okA x) (j : Nat) (hj : j < 6) : ∃ y : Int, nr y ∧ (akV x)[j]? = some (.int .i64 y) := by
  obtain ⟨a, b, c, d, e, f⟩ := x
  obtain ⟨o1, o2, o3, o4, o5, o6⟩ := ho
  match j, hj with
  | 0, _ => exact ⟨a, o1, rfl⟩
  | 1, _ => exact ⟨b, o2, rfl⟩
  | 2, _ => exact ⟨c, o3, rfl⟩
  | 3, _ => exact ⟨d, o4, rfl⟩
  | 4, _ => exact ⟨e, o5, rfl⟩
  | 5, _ => exact ⟨f, o6, rfl⟩

theorem AQ.set {a : Option Addr} {len cap g B X : Nat} {w W : World} (h : AQ a len cap g B w X W) (hB : B ≤ g) (hg : g < w.heap.size) (j : Nat) (hj : j < 6) (y : Int) (hy : nr y) : AQ a len cap g B w X (W.setCell ⟨X, j, none⟩ (.int .i64 y)) := by
  obtain ⟨hX, ⟨x, ho, h1⟩, h2, h3, h4⟩ := h
  obtain ⟨z, hzo, hz⟩ := akV_set x ho j hj y hy
  refine ⟨hX, ⟨z, hzo, ?_⟩, h2.set_other (by omega) _ _, h3.set hB (by omega) _, ?_⟩
  · have h := h1.set j (.int .i64 y)
    rw [hz] at h
    exact h
  · obtain ⟨k1, k2, k3, k4, k5⟩ := h4
    have hs := Kept.set (S := fun i => i = X) W (X) j (.int .i64 y) rfl
    exact ⟨hs.1.trans k1, hs.2.1.trans k2, hs.2.2.1.trans k3, Nat.le_trans k4 hs.2.2.2.1, fun i hi hS => (hs.2.2.2.2 i (by omega) (by omega)).trans (k5 i hi hS)⟩

theorem AQ.cell {a : Option Addr} {len cap g B X : Nat} {w W : World} (h : AQ a len cap g B w X W) (j : Nat) (hj : j < 6) : (∃ y : Int, nr y ∧ W.cell? ⟨X, j, none⟩ = some (.int .i64 y)) ∧ W.frozen? ⟨X, j, none⟩ = false := by
  obtain ⟨hX, ⟨x, ho, h1⟩, _⟩ := h
  obtain ⟨y, hyn, hy⟩ := akV_at x ho j hj
  exact ⟨⟨y, hyn, h1.cell j _ hy⟩, h1.froz j⟩

theorem AQ.cc {a : Option Addr} {len cap g B X : Nat} {w W : World} (h : AQ a len cap g B w X W) : CC a len cap g B W := h.2.2.2.1

theorem AQ.size {a : Option Addr} {len cap g B X : Nat} {w W : World} (h : AQ a len cap g B w X W) : X < W.heap.size := by
  obtain ⟨hX, ⟨x, ho, h1⟩, _⟩ := h
  exact h1.lt

/-- A row of numbers behind the ask. -/
def RowQ (X : Nat) (W : World) (v : Value) (n : Nat) : Prop := ∃ (ad : Option Addr) (c : Nat), v = .slice ad n c ∧ ∀ j, j < n → ∃ b C, ad = some ⟨b, 0, none⟩ ∧ X < b ∧ Blk W b C 3 ∧ ∃ y : Int, nr y ∧ C[j]? = some (.int .i64 y)

theorem RowQ.kept {W W' : World} {v : Value} {X n g : Nat} (h : RowQ X W v n) (hk : Kept (fun k => k = g) W W') (hg : g < X) : RowQ X W' v n := by
  obtain ⟨ad, c, hv, h⟩ := h
  refine ⟨ad, c, hv, fun j hj => ?_⟩
  obtain ⟨b, C, e, hb, hB, hy⟩ := h j hj
  exact ⟨b, C, e, hb, hB.kept hk (by omega), hy⟩

theorem RowQ.set {W : World} {v : Value} {X n : Nat} (h : RowQ X W v n) (j : Nat) (u : Value) : RowQ X (W.setCell ⟨X, j, none⟩ u) v n := by
  obtain ⟨ad, c, hv, h⟩ := h
  refine ⟨ad, c, hv, fun j hj => ?_⟩
  obtain ⟨b, C, e, hb, hB, hy⟩ := h j hj
  exact ⟨b, C, e, hb, hB.set_other (by omega) _ _, hy⟩

theorem RowQ.alloc {W : World} {v : Value} {X n : Nat} (h : RowQ X W v n) (o : Obj) : RowQ X (W.alloc o) v n := by
  obtain ⟨ad, c, hv, h⟩ := h
  refine ⟨ad, c, hv, fun j hj => ?_⟩
  obtain ⟨b, C, e, hb, hB, hy⟩ := h j hj
  exact ⟨b, C, e, hb, hB.alloc, hy⟩

theorem RowQ.of_own {W : World} {v : Value} {L : List Int} {X B : Nat} (h : W.ownsRow B 3 1 v L.length (intsV L)) (hB : X < B) (hL : ∀ y ∈ L, nr y) : RowQ X W v L.length := by
  rcases h.2 with ⟨rfl, h0⟩ | ⟨g, cap, cur, rfl, hg, hh, hx⟩
  · exact ⟨none, 0, by rw [h0], fun j hj => by omega⟩
  · refine ⟨_, cap, rfl, fun j hj => ⟨g, cur, rfl, by omega, hh, L[j], hL _ (List.getElem_mem hj), ?_⟩⟩
    have h1 := h.cellAt j (by omega)
    rw [cell_of_row W g j cur 3 (0, 0) hh] at h1
    rw [h1]
    unfold intsV
    simp [hj]

theorem results_ask1 {fn : Func} {p : Tmp} (h : fn.results = #[.cell p 26]) (tmps : Array Value) (w : World) (g : Nat) (C : Array Value) (hp : tmps.getD p undef = .pointer (some ⟨g, 0, none⟩)) (hg : Blk w g C 26) (hC : C.size = 6) :
    (results fn tmps).run Try.prog w = .ok (.agg C) w := by
  have hp' : tmps[p]?.getD undef = .pointer (some ⟨g, 0, none⟩) := by simpa using hp
  simp [results, h, hp', asAddr, load_ask hg hC]

end Gr
end Go.Proofs.Ytabnghiphmongaa
