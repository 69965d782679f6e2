/-
  A cursor, and what is drawn by it: a number below another, whether something comes once, one of three.
-/
import Derived.Test.YtkidkfopnghghaaDraw
import Derived.Test.YtkidkfopnghghaaGrInts
namespace Go.Proofs.Ytkidkfopnghghaa
namespace Gr
open Go.RowKit

/-- A cursor, and the bytes that it reads. -/
def CC (a : Option Addr) (len cap g B : Nat) (w : World) : Prop := Cur a len cap g w ∧ Code a len B w

theorem grownK {w w' : World} {g : Nat} (h : w.grownBy w' (some g)) : Kept (fun k => k = g) w w' := (Kept.of_grown h).weak (fun i hi => by have := Option.some.inj hi; omega)

theorem CC.lt {a : Option Addr} {len cap g B : Nat} {w : World} (h : CC a len cap g B w) : g < w.heap.size := by
  obtain ⟨⟨i, x, _, h1⟩, _⟩ := h
  rcases Nat.lt_or_ge g w.heap.size with h2 | h2
  · exact h2
  · rw [Array.getElem?_eq_none h2] at h1; cases h1

theorem CC.kept {S : Nat → Prop} {a : Option Addr} {len cap g B : Nat} {w w' : World} (h : CC a len cap g B w) (hk : Kept S w w') (hB : B ≤ g) (hS : ∀ k, S k → g < k) : CC a len cap g B w' := by
  have hg := h.lt
  obtain ⟨⟨i, x, hi, h1⟩, h2⟩ := h
  refine ⟨⟨i, x, hi, by rw [hk.2.2.2.2 g hg (fun e => by have := hS _ e; omega)]; exact h1⟩, fun j hj => ?_⟩
  obtain ⟨b, off, z, e, hb, hc, hz⟩ := h2 j hj
  exact ⟨b, off, z, e, hb, by rw [(hk.below (B := g) (by omega) (fun i hi => by have := hS i hi; omega)).cell (p := ⟨b, off + j, none⟩) (by simp; omega)]; exact hc, hz⟩

theorem CC.below {a : Option Addr} {len cap g B : Nat} {w w' : World} (h : CC a len cap g B w) (hb : Below w.heap.size w w') (hB : B ≤ g) : CC a len cap g B w' :=
  h.kept (S := fun k => w.heap.size ≤ k) ⟨hb.os, hb.tape, hb.output, hb.size, fun i hi _ => hb.block i hi⟩ hB (fun k hk => by have := h.lt; omega)

theorem below_cc (a : Option Addr) (len cap g B : Nat) (n : Int) (hl : len ≤ 1048576) (hB : B ≤ g) (h0 : 0 < n) (w : World) (h : CC a len cap g B w) :
    Calls Try.prog 37 #[.pointer (some ⟨g, 0, none⟩), .int .i64 n] w fun e w' => (∃ x : Int, e = .returned (.int .i64 x) ∧ 0 ≤ x ∧ x < n) ∧ CC a len cap g B w' ∧ Kept (fun k => k = g) w w' := by
  refine (below_any a len cap g B n hl hB h0 w h.1 h.2).mono ?_
  rintro e w' ⟨x, rfl, hx0, hx1, hc, hg⟩
  exact ⟨⟨x, rfl, hx0, hx1⟩, ⟨hc, h.2.grown hB hg⟩, grownK hg⟩

theorem once_cc (a : Option Addr) (len cap g B : Nat) (n : Int) (hl : len ≤ 1048576) (hB : B ≤ g) (h0 : 0 < n) (w : World) (h : CC a len cap g B w) :
    Calls Try.prog 53 #[.pointer (some ⟨g, 0, none⟩), .int .i64 n] w fun e w' => (∃ b : Bool, e = .returned (.bool b)) ∧ CC a len cap g B w' ∧ Kept (fun k => k = g) w w' := by
  refine (once_any a len cap g B n hl hB h0 w h.1 h.2).mono ?_
  rintro e w' ⟨⟨b, rfl⟩, hc, hg⟩
  exact ⟨⟨b, rfl⟩, ⟨hc, h.2.grown hB hg⟩, grownK hg⟩

set_option maxRecDepth 100000 in
theorem pick_cc (P : Int → Prop) (a : Option Addr) (len cap g B b : Nat) (x0 x1 x2 : Int) (hl : len ≤ 1048576) (hB : B ≤ g) (hb : b ≠ g) (w : World) (h : CC a len cap g B w) (hx : w.heap[b]? = some (.cells #[.int .i64 x0, .int .i64 x1, .int .i64 x2] 3 (0, 0))) (h0 : P x0) (h1 : P x1) (h2 : P x2) :
    Calls Try.prog 52 #[.pointer (some ⟨g, 0, none⟩), .slice (some ⟨b, 0, none⟩) 3 3] w fun e w' => (∃ x, e = .returned (.int .i64 x) ∧ P x) ∧ CC a len cap g B w' ∧ Kept (fun k => k = g) w w' := by
  have H := hide (below_cc a len cap g B 3 hl hB (by omega) w h)
  have HX := hide hx
  have hbl : b < w.heap.size := by
    rcases Nat.lt_or_ge b w.heap.size with h | h
    · exact h
    · rw [Array.getElem?_eq_none h] at hx; cases hx
  clear h hx
  go_enter Try.func52, Try.ntmps52
  go_wp2_with fail
  refine (unhide H).mono ?_
  rintro e w1 ⟨⟨x, rfl, hx0, hx1⟩, hc1, hg1⟩
  obtain ⟨c0, c1, c2, _⟩ := cell_of_three (show w1.heap[b]? = some (.cells #[.int .i64 x0, .int .i64 x1, .int .i64 x2] 3 (0, 0)) by rw [hg1.2.2.2.2 b hbl hb]; exact unhide HX)
  have HC := hide hc1
  have HG := hide hg1
  clear hc1 hg1
  have hcase : x = 0 ∨ x = 1 ∨ x = 2 := by omega
  rcases hcase with rfl | rfl | rfl
  · go_wp2
    go_ret
    exact ⟨⟨x0, rfl, h0⟩, unhide HC, unhide HG⟩
  · go_wp2
    go_ret
    exact ⟨⟨x1, rfl, h1⟩, unhide HC, unhide HG⟩
  · go_wp2
    go_ret
    exact ⟨⟨x2, rfl, h2⟩, unhide HC, unhide HG⟩

end Gr
end Go.Proofs.Ytkidkfopnghghaa
