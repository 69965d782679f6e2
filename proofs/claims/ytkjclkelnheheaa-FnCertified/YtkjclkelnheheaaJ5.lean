/-
 GrInts, GrKInts, GrCC.
-/
import Derived.Test.YtkjclkelnheheaaJ2
import Derived.Test.YtkjclkelnheheaaJ4
import Derived.Deep.RegionHeld3
import Derived.Lib.SmallJoins
import Derived.SliceStrings
import Derived.ShutString
import Derived.Test.YtkjclkelnheheaaJ1
namespace Go.Proofs.Ytkjclkelnheheaa
namespace Gr
open Go.ChangeShapes Go.WideShapes Go.ChangeAt Go.RowKit
theorem info3 : (Try.prog.info? 3).map (fun i => (i.zero, i.size, i.bytes)) = some (some (.int .i64 0), 1, 8) := by kernel_rfl
def intsV (K : List Int) : List Value := K.map (Value.int .i64)
theorem intsV_set (K : List Int) (i : Nat) (x : Int) : (intsV K).set i (.int .i64 x) = intsV (K.set i x) := by simp [intsV, List.map_set]
theorem intsAt_of_own {w : World} {B : Nat} {v : Value} {n : Nat} {K : List Int} (h : w.ownsRow B 3 1 v n (intsV K)) : ∃ a c, v = .slice a n c ∧ IntsAt w a n w.heap.size K := by
  have hl : K.length = n := by have := h.1; simp [intsV] at this; omega
  rcases h.2 with ⟨rfl, h0⟩ | ⟨g, cap, cur, rfl, hg, hh, _⟩
  · subst h0
    exact ⟨none, 0, rfl, hl, fun j hj => by omega⟩
  · refine ⟨_, _, rfl, hl, fun j hj => ⟨g, 0, rfl, (h.lt g rfl).2, ?_⟩⟩
    rw [Nat.zero_add, h.cellAt j (by omega)]
    simp [intsV, hj]
def InAt (w : World) (v : Value) (B : Nat) (K : List Int) : Prop := ∃ a c, v = .slice a K.length c ∧ IntsAt w a K.length B K
def InOwn (w : World) (B : Nat) (v : Value) (K : List Int) : Prop := w.ownsRow B 3 1 v K.length (intsV K)
def InBlk (v : Value) (g : Nat) : Prop := v.ownBlock = some g
theorem InAt.shape {w : World} {v : Value} {B : Nat} {K : List Int} (h : InAt w v B K) : ∃ a c, v = .slice a K.length c := by
  obtain ⟨a, c, rfl, _⟩ := h
  exact ⟨a, c, rfl⟩
theorem InAt.below {w w' : World} {v : Value} {B C : Nat} {K : List Int} (h : InAt w v B K) (hb : Below C w w') (hC : B ≤ C) : InAt w' v B K := by
  obtain ⟨a, c, rfl, hQ⟩ := h
  exact ⟨a, c, rfl, hQ.below hb hC⟩
theorem InAt.mono {w : World} {v : Value} {B C : Nat} {K : List Int} (h : InAt w v B K) (hC : B ≤ C) : InAt w v C K := by
  obtain ⟨a, c, rfl, h1, h2⟩ := h
  refine ⟨a, c, rfl, h1, fun j hj => ?_⟩
  obtain ⟨b, off, e, hb, hc⟩ := h2 j hj
  exact ⟨b, off, e, by omega, hc⟩
theorem InOwn.at {w : World} {B : Nat} {v : Value} {K : List Int} (h : InOwn w B v K) : InAt w v w.heap.size K := by
  obtain ⟨a, c, rfl, hQ⟩ := intsAt_of_own h
  exact ⟨a, c, rfl, hQ⟩
theorem InOwn.below {w w' : World} {B : Nat} {v : Value} {K : List Int} (h : InOwn w B v K) (hb : Below w.heap.size w w') : InOwn w' B v K := own_below h hb
theorem InOwn.lower {w : World} {B C : Nat} {v : Value} {K : List Int} (h : InOwn w B v K) (hC : C ≤ B) : InOwn w C v K := own_lower hC h
theorem InOwn.blk {w : World} {B : Nat} {v : Value} {K : List Int} (h : InOwn w B v K) : ∀ g, InBlk v g → B ≤ g ∧ g < w.heap.size := fun g hg => World.ownsRow.lt h g hg
theorem InOwn.kept {S : Nat → Prop} {w w' : World} {B : Nat} {v : Value} {K : List Int} (h : InOwn w B v K) (hk : Kept S w w') (hS : ∀ g, InBlk v g → ¬ S g) : InOwn w' B v K := hk.own h hS
end Gr
end Go.Proofs.Ytkjclkelnheheaa
namespace Go.Proofs.Ytkjclkelnheheaa
namespace Gr
open Go.RowKit
def CC (a : Option Addr) (len cap g B : Nat) (w : World) : Prop := Cur a len cap g w ∧ Code a len B w
theorem grownK {w w' : World} {g : Nat} (h : w.grownBy w' (some g)) : Kept (fun k => k = g) w w' := (Kept.of_grown h).weak (fun i hi => by have := Option.some.inj hi; omega)
theorem CC.lt {a : Option Addr} {len cap g B : Nat} {w : World} (h : CC a len cap g B w) : g < w.heap.size := by
  obtain ⟨⟨i, x, _, h1⟩, _⟩ := h
  rcases Nat.lt_or_ge g w.heap.size with h2 | h2
  · exact h2
  · rw [Array.getElem?_eq_none h2] at h1; cases h1
theorem CC.kept {S : Nat → Prop} {a : Option Addr} {len cap g B : Nat} {w w' : World} (h : CC a len cap g B w) (hk : Kept S w w') (hB : B ≤ g) (hS : ∀ k, S k → g < k) : CC a len cap g B w' := by
  have hg := h.lt
  obtain ⟨⟨i, x, hi, h1⟩, h2⟩ := h
  refine ⟨⟨i, x, hi, by rw [hk.2.2.2.2 g hg (fun e => by have := hS _ e; omega)]; exact h1⟩, fun j hj => ?_⟩
  obtain ⟨b, off, z, e, hb, hc, hz⟩ := h2 j hj
  exact ⟨b, off, z, e, hb, by rw [(hk.below (B := g) (by omega) (fun i hi => by have := hS i hi; omega)).cell (p := ⟨b, off + j, none⟩) (by simp; omega)]; exact hc, hz⟩
theorem CC.below {a : Option Addr} {len cap g B : Nat} {w w' : World} (h : CC a len cap g B w) (hb : Below w.heap.size w w') (hB : B ≤ g) : CC a len cap g B w' :=
  h.kept (S := fun k => w.heap.size ≤ k) ⟨hb.os, hb.tape, hb.output, hb.size, fun i hi _ => hb.block i hi⟩ hB (fun k hk => by have := h.lt; omega)
theorem below_cc (a : Option Addr) (len cap g B : Nat) (n : Int) (hl : len ≤ 1048576) (hB : B ≤ g) (h0 : 0 < n) (w : World) (h : CC a len cap g B w) :
    Calls Try.prog 21 #[.pointer (some ⟨g, 0, none⟩), .int .i64 n] w fun e w' => (∃ x : Int, e = .returned (.int .i64 x) ∧ 0 ≤ x ∧ x < n) ∧ CC a len cap g B w' ∧ Kept (fun k => k = g) w w' := by
  refine (below_any a len cap g B n hl hB h0 w h.1 h.2).mono ?_
  rintro e w' ⟨x, rfl, hx0, hx1, hc, hg⟩
  exact ⟨⟨x, rfl, hx0, hx1⟩, ⟨hc, h.2.grown hB hg⟩, grownK hg⟩
theorem once_cc (a : Option Addr) (len cap g B : Nat) (n : Int) (hl : len ≤ 1048576) (hB : B ≤ g) (h0 : 0 < n) (w : World) (h : CC a len cap g B w) :
    Calls Try.prog 20 #[.pointer (some ⟨g, 0, none⟩), .int .i64 n] w fun e w' => (∃ b : Bool, e = .returned (.bool b)) ∧ CC a len cap g B w' ∧ Kept (fun k => k = g) w w' := by
  refine (once_any a len cap g B n hl hB h0 w h.1 h.2).mono ?_
  rintro e w' ⟨⟨b, rfl⟩, hc, hg⟩
  exact ⟨⟨b, rfl⟩, ⟨hc, h.2.grown hB hg⟩, grownK hg⟩
set_option maxRecDepth 100000 in
theorem pick_cc (P : Int → Prop) (a : Option Addr) (len cap g B b : Nat) (x0 x1 x2 : Int) (hl : len ≤ 1048576) (hB : B ≤ g) (hb : b ≠ g) (w : World) (h : CC a len cap g B w) (hx : w.heap[b]? = some (.cells #[.int .i64 x0, .int .i64 x1, .int .i64 x2] 3 (0, 0))) (h0 : P x0) (h1 : P x1) (h2 : P x2) :
    Calls Try.prog 47 #[.pointer (some ⟨g, 0, none⟩), .slice (some ⟨b, 0, none⟩) 3 3] w fun e w' => (∃ x, e = .returned (.int .i64 x) ∧ P x) ∧ CC a len cap g B w' ∧ Kept (fun k => k = g) w w' := by
  have H := hide (below_cc a len cap g B 3 hl hB (by omega) w h)
  have HX := hide hx
  have hbl : b < w.heap.size := by
    rcases Nat.lt_or_ge b w.heap.size with h | h
    · exact h
    · rw [Array.getElem?_eq_none h] at hx; cases hx
  clear h hx
  go_enter Try.func47, Try.ntmps47
  go_wp2_with fail
  refine (unhide H).mono ?_
  rintro e w1 ⟨⟨x, rfl, hx0, hx1⟩, hc1, hg1⟩
  obtain ⟨c0, c1, c2, _⟩ := cell_of_three (show w1.heap[b]? = some (.cells #[.int .i64 x0, .int .i64 x1, .int .i64 x2] 3 (0, 0)) by rw [hg1.2.2.2.2 b hbl hb]; exact unhide HX)
  have HC := hide hc1
  have HG := hide hg1
  clear hc1 hg1
  have hcase : x = 0 ∨ x = 1 ∨ x = 2 := by omega
  rcases hcase with rfl | rfl | rfl
  · go_wp2
    go_ret
    exact ⟨⟨x0, rfl, h0⟩, unhide HC, unhide HG⟩
  · go_wp2
    go_ret
    exact ⟨⟨x1, rfl, h1⟩, unhide HC, unhide HG⟩
  · go_wp2
    go_ret
    exact ⟨⟨x2, rfl, h2⟩, unhide HC, unhide HG⟩
end Gr
end Go.Proofs.Ytkjclkelnheheaa
