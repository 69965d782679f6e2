/-
  The contract of spec.l01Text, by which texts are drawn: some text of so many bytes; nothing old but the cursor is written.
-/
import Derived.Test.YtnflilaldamddaaDraw
namespace Go.Proofs.Ytnflilaldamddaa
open Go.RowKit

theorem info5 : (Try.prog.info? 5).map (fun i => (i.zero, i.size, i.bytes)) = some (some (.int .u8 0), 1, 1) := by kernel_rfl

theorem Code.below {a : Option Addr} {len B C : Nat} {w w' : World} (h : Code a len B w) (hb : Below C w w') (hC : B ≤ C) : Code a len B w' := by
  intro j hj
  obtain ⟨b, off, z, e, hbB, hc, h0, h1⟩ := h j hj
  exact ⟨b, off, z, e, hbB, by rw [hb.cell (p := ⟨b, off + j, none⟩) (by simp; omega)]; exact hc, h0, h1⟩

theorem Code.row {a : Option Addr} {len B : Nat} {w w' : World} {row : Option Nat} (h : Code a len B w) (hr : ∀ k, row = some k → B ≤ k) (hg : w.grownBy w' row) : Code a len B w' := by
  intro j hj
  obtain ⟨b, off, z, e, hb, hc, h0, h1⟩ := h j hj
  exact ⟨b, off, z, e, hb, hg.cell hc (fun e => by have := hr b e.symm; omega), h0, h1⟩

theorem Cur.lt {a : Option Addr} {len cap g : Nat} {w : World} (h : Cur a len cap g w) : g < w.heap.size := by
  obtain ⟨i, x, _, hg⟩ := h
  rcases Nat.lt_or_ge g w.heap.size with h | h
  · exact h
  · rw [Array.getElem?_eq_none h] at hg; cases hg

theorem Cur.row {a : Option Addr} {len cap g : Nat} {w w' : World} {row : Option Nat} (h : Cur a len cap g w) (hr : row ≠ some g) (hg : w.grownBy w' row) : Cur a len cap g w' := by
  have hlt := h.lt
  obtain ⟨i, x, hi, hh⟩ := h
  exact ⟨i, x, hi, by rw [hg.block g hlt (fun e => hr e.symm)]; exact hh⟩

theorem Cur.alloc {a : Option Addr} {len cap g : Nat} {w : World} (h : Cur a len cap g w) (o : Obj) : Cur a len cap g (w.alloc o) :=
  h.row (row := none) (by simp) (World.grownBy_alloc w o none)

theorem Code.alloc {a : Option Addr} {len B : Nat} {w : World} (h : Code a len B w) (o : Obj) : Code a len B (w.alloc o) :=
  h.row (row := none) (by simp) (World.grownBy_alloc w o none)

end Go.Proofs.Ytnflilaldamddaa
