/-
 GrBlk, GrBlkS, GrGroup.
-/
import Derived.Test.YtkjclkelnheheaaJ2
import Derived.Test.YtkjclkelnheheaaJ5
import Derived.Test.YtkjclkelnheheaaJ6
import Derived.Deep.AppendLies
import Derived.Deep.RegionLaw
namespace Go.Proofs.Ytkjclkelnheheaa
namespace Gr
open Go.RowKit
def Blk (W : World) (g : Nat) (C : Array Value) (t : TypeId) : Prop := W.heap[g]? = some (.cells C t (0, 0))
theorem Blk.lt {W : World} {g : Nat} {C : Array Value} {t : TypeId} (h : Blk W g C t) : g < W.heap.size := by
  unfold Blk at h
  rcases Nat.lt_or_ge g W.heap.size with h1 | h1
  · exact h1
  · rw [Array.getElem?_eq_none h1] at h; cases h
theorem Blk.new {W : World} {g : Nat} {C : Array Value} {t : TypeId} (h : g = W.heap.size) : Blk (W.alloc (.cells C t)) g C t := by
  subst h
  exact heap_alloc_new W _
theorem Blk.new0 {W : World} {C : Array Value} {t : TypeId} : Blk (W.alloc (.cells C t)) W.heap.size C t := heap_alloc_new W _
theorem Blk.new1 {W : World} {o : Obj} {C : Array Value} {t : TypeId} : Blk ((W.alloc o).alloc (.cells C t)) (W.heap.size + 1) C t := Blk.new (by show _ = (W.heap.push o).size; simp)
theorem Blk.new2 {W : World} {o o' : Obj} {C : Array Value} {t : TypeId} : Blk (((W.alloc o).alloc o').alloc (.cells C t)) (W.heap.size + 1 + 1) C t := Blk.new (by show _ = ((W.heap.push o).push o').size; simp)
theorem Blk.alloc {W : World} {g : Nat} {C : Array Value} {t : TypeId} {o : Obj} (h : Blk W g C t) : Blk (W.alloc o) g C t :=
  ((below_new W o).block g h.lt).trans h
theorem Blk.drew {W : World} {g : Nat} {C : Array Value} {t : TypeId} (h : Blk W g C t) : Blk W.drew g C t := h
theorem Blk.below {W W' : World} {g : Nat} {C : Array Value} {t : TypeId} (h : Blk W g C t) (hb : Below W.heap.size W W') : Blk W' g C t := (hb.block g h.lt).trans h
theorem Blk.grown {W W' : World} {g : Nat} {C : Array Value} {t : TypeId} {row : Option Nat} (h : Blk W g C t) (hg : W.grownBy W' row) (hne : some g ≠ row) : Blk W' g C t := (hg.block g h.lt hne).trans h
theorem Blk.cell {W : World} {g : Nat} {C : Array Value} {t : TypeId} (h : Blk W g C t) (k : Nat) (v : Value) (hv : C[k]? = some v) : W.cell? ⟨g, k, none⟩ = some v := by
  rw [cell_of_row W g k C t (0, 0) h]
  exact hv
theorem Blk.froz {W : World} {g : Nat} {C : Array Value} {t : TypeId} (h : Blk W g C t) (k : Nat) : W.frozen? ⟨g, k, none⟩ = false := by
  unfold World.frozen?
  simp only []
  unfold Blk at h
  rw [h]
  simp
theorem Blk.apart {W : World} {g : Nat} {C : Array Value} {t e : TypeId} {base size n : Nat} {v : Value} {xs : List Value} (h : Blk W g C t) (ho : W.ownsRow base e size v n xs) (hne : t ≠ e) : some g ≠ v.ownBlock := by
  rcases ho.2 with ⟨rfl, _⟩ | ⟨g', cap, cur, rfl, _, hg, _⟩
  · simp [Value.ownBlock]
  · intro e'
    have e2 : g = g' := by simpa [Value.ownBlock] using e'
    subst e2
    unfold Blk at h
    rw [h] at hg
    simp at hg
    exact hne hg.2
def Fresh (wr W : World) : Prop := Below wr.heap.size wr W
theorem Fresh.refl (w : World) : Fresh w w := Below.refl _ _
theorem Fresh.drew {w W : World} (h : Fresh w W) : Fresh w W.drew := Below.drew h
theorem Fresh.alloc {w W : World} {o : Obj} (h : Fresh w W) : Fresh w (W.alloc o) := Below.alloc h h.size o
theorem Fresh.below {w W W' : World} (h : Fresh w W) (hb : Below W.heap.size W W') : Fresh w W' := Below.trans h (hb.mono h.size)
theorem Fresh.grown {w W W' : World} {row : Option Nat} (h : Fresh w W) (hg : W.grownBy W' row) (hr : ∀ k, row = some k → w.heap.size ≤ k) : Fresh w W' :=
  Below.grown h hg h.size hr
theorem Fresh.size {w W : World} (h : Fresh w W) : w.heap.size ≤ W.heap.size := Below.size h
theorem Fresh.set {w W : World} {g k : Nat} {x : Value} (h : Fresh w W) (hg : w.heap.size ≤ g) : Fresh w (W.setCell ⟨g, k, none⟩ x) := Below.setCell (p := ⟨g, k, none⟩) h hg x
theorem Blk.set {W : World} {g : Nat} {C : Array Value} {t : TypeId} (h : Blk W g C t) (k : Nat) (x : Value) : Blk (W.setCell ⟨g, k, none⟩ x) g (C.setIfInBounds k x) t := by
  unfold Blk at *
  exact heap_setCell_same W g k _ _ x h
theorem Blk.kept {S : Nat → Prop} {w w' : World} {g : Nat} {C : Array Value} {t : TypeId} (h : Blk w g C t) (hk : Kept S w w') (hS : ¬ S g) : Blk w' g C t := by
  unfold Blk; rw [hk.2.2.2.2 g h.lt hS]; exact h
theorem Blk.set_other {W : World} {g g' : Nat} {C : Array Value} {t : TypeId} (h : Blk W g C t) (hne : g ≠ g') (k : Nat) (x : Value) : Blk (W.setCell ⟨g', k, none⟩ x) g C t :=
  h.kept (S := fun i => i = g') (Kept.set _ _ _ _ rfl) hne
end Gr
end Go.Proofs.Ytkjclkelnheheaa
namespace Go.Proofs.Ytkjclkelnheheaa
namespace Gr
open Go.ChangeShapes Go.WideShapes Go.ChangeAt Go.RowKit
structure GrpI where
  M : List Int
  Z : Int
def groupsAt (w : World) (a : Option Addr) (len B : Nat) (G : List GrpI) : Prop :=
  G.length = len ∧ ∀ j (h : j < G.length), ∃ b off a' c', a = some ⟨b, off, none⟩ ∧ b < B ∧ w.cell? ⟨b, off + j * 2, none⟩ = some (.slice a' G[j].M.length c') ∧ w.cell? ⟨b, off + j * 2 + 1, none⟩ = some (.int .i64 G[j].Z) ∧ IntsAt w a' G[j].M.length B G[j].M
theorem groupsAt.below {w w' : World} {a : Option Addr} {len B C : Nat} {G : List GrpI} (h : groupsAt w a len B G) (hb : Below C w w') (hC : B ≤ C) : groupsAt w' a len B G := by
  refine ⟨h.1, fun j hj => ?_⟩
  obtain ⟨b, off, a', c', e, hbB, c0, c1, hI⟩ := h.2 j hj
  exact ⟨b, off, a', c', e, hbB, (by rw [hb.cell (p := ⟨b, off + j * 2, none⟩) (by simp; omega)]; exact c0), (by rw [hb.cell (p := ⟨b, off + j * 2 + 1, none⟩) (by simp; omega)]; exact c1), hI.below hb hC⟩
theorem groupsAt.mono {w : World} {a : Option Addr} {len B C : Nat} {G : List GrpI} (h : groupsAt w a len B G) (hC : B ≤ C) : groupsAt w a len C G := by
  refine ⟨h.1, fun j hj => ?_⟩
  obtain ⟨b, off, a', c', e, hbB, c0, c1, hI⟩ := h.2 j hj
  refine ⟨b, off, a', c', e, by omega, c0, c1, ⟨hI.1, fun k hk => ?_⟩⟩
  obtain ⟨b2, off2, e2, hb2, hc2⟩ := hI.2 k hk
  exact ⟨b2, off2, e2, by omega, hc2⟩
def PrIn (Y : List Int) (G : List GrpI) : Prop := Y.length ≤ 9223372036854775807 ∧ G.length ≤ 9223372036854775807 ∧ ∀ q ∈ G, q.M.length ≤ 9223372036854775807
def PrAt (w : World) (v : Value) (B : Nat) (Y : List Int) (G : List GrpI) : Prop := ∃ a n c a' n' c', v = .agg #[.slice a n c, .slice a' n' c'] ∧ IntsAt w a n B Y ∧ groupsAt w a' n' B G ∧ PrIn Y G
theorem PrAt.below {w w' : World} {v : Value} {B C : Nat} {Y : List Int} {G : List GrpI} (h : PrAt w v B Y G) (hb : Below C w w') (hC : B ≤ C) : PrAt w' v B Y G := by
  obtain ⟨a, n, c, a', n', c', rfl, hY, hG, hI⟩ := h
  exact ⟨a, n, c, a', n', c', rfl, hY.below hb hC, hG.below hb hC, hI⟩
theorem PrAt.mono {w : World} {v : Value} {B C : Nat} {Y : List Int} {G : List GrpI} (h : PrAt w v B Y G) (hC : B ≤ C) : PrAt w v C Y G := by
  obtain ⟨a, n, c, a', n', c', rfl, hY, hG, hI⟩ := h
  refine ⟨a, n, c, a', n', c', rfl, ⟨hY.1, fun k hk => ?_⟩, hG.mono hC, hI⟩
  obtain ⟨b2, off2, e2, hb2, hc2⟩ := hY.2 k hk
  exact ⟨b2, off2, e2, by omega, hc2⟩
def gbulk : List GrpI → Nat
  | [] => 0
  | x :: r => x.M.length + gbulk r
end Gr
end Go.Proofs.Ytkjclkelnheheaa
