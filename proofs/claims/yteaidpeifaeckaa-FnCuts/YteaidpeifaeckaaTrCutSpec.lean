/-
  The contract of spec.CutItems: its groups are those of the rule.
-/
import Derived.Test.YteaidpeifaeckaaTrGrp
import Derived.Test.YteaidpeifaeckaaTrCut
import Derived.Test.YteaidpeifaeckaaPgEnds
import Derived.Deep.DeepCutAuto
namespace Go.Proofs.Yteaidpeifaeckaa
namespace Tr
open Go.RowKit
open Go.Proofs.Yteaidpeifaeckaa.Pg

theorem own_shape {w : World} {B e s n : Nat} {v : Value} {xs : List Value} (h : w.ownsRow B e s v n xs) : ∃ A c, v = .slice A n c := by
  rcases h.2 with ⟨rfl, h0⟩ | ⟨g, cap, cur, rfl, _⟩
  · exact ⟨none, 0, by rw [h0]⟩
  · exact ⟨_, _, rfl⟩

/-- An append to a row that lies behind all groups leaves the groups as they are. -/
theorem Grps.now {W w1 : World} {B b m : Nat} {v nv : Value} {vs ys : List Value} {G : List (List It)} {o : Obj} (h : Grps W B b v vs G) (hn : W.ownsRow b 30 3 nv m ys) (hg : (W.alloc o).grownBy w1 nv.ownBlock) : Grps w1 B b v vs G := by
  have h2 := h.below (below_new W o)
  refine h2.kept (Kept.of_grown hg) (fun g hg' e => own_ne h.2.1 hn hg' e) (fun j h1 g hg' e => ?_)
  have h3 := (h.2.2 j h1 (by rw [← h.1]; exact h1)).2 g hg'
  have h4 := (hn.lt g e).1
  omega

/-- A row that lies behind all groups becomes one. -/
theorem Grps.push {W w1 : World} {B b m n : Nat} {v v' nv : Value} {vs : List Value} {G : List (List It)} {nw : List It} {o : Obj} (h : Grps W B b v vs G) (hgo : n = G.length) (hn : W.ownsRow b 30 3 nv m (itsV nw)) (hm : m = nw.length) (hB : B ≤ b) (hb : b ≤ W.heap.size)
    (hg : (W.alloc o).grownBy w1 v.ownBlock) (hown : w1.ownsRow B 24 1 v' (n + 1) (vs ++ [nv])) : Grps w1 B w1.heap.size v' (vs ++ [nv]) (G ++ [nw]) := by
  subst hm hgo
  have hs := hg.size
  simp at hs
  exact (h.below (below_new W o)).snoc (own_lower hB (hn.alloc o)) (fun g e => by have := (hn.lt g e).2; omega) (by omega) hown (Kept.of_grown hg)

/-- Where the cutting stands behind i items. -/
def CutInv (w : World) (k : Int) (Q : List It) (wr : World) (out now : Value) (i sz : Nat) : Prop :=
  ∃ (vs : List Value) (G : List (List It)) (nw : List It) (b go m : Nat), go = G.length ∧ m = nw.length ∧ wr.ownsRow w.heap.size 24 1 out go vs ∧ Grps wr w.heap.size b out vs G ∧ wr.ownsRow b 30 3 now m (itsV nw) ∧ w.heap.size ≤ b ∧ b ≤ wr.heap.size ∧ go + m ≤ i ∧ m ≤ i ∧
    G ++ cutFrom k nw sz (Q.drop i) = cutG k Q ∧ Below w.heap.size w wr

theorem three_one (a b : ByteArray) (p : Int) : ∀ u, u ∈ [Value.string a, Value.string b, Value.int .i64 p] → u.oneCell' = true := by
  intro u hu; simp at hu; rcases hu with rfl | rfl | rfl <;> rfl
theorem slice_one (a : Option Addr) (m c : Nat) : ∀ u, u ∈ [Value.slice a m c] → u.oneCell' = true := by
  intro u hu; simp at hu; subst hu; rfl
theorem news_three (W : World) (a b : ByteArray) (p : Int) (t : TypeId) : ∀ j u, [Value.string a, Value.string b, Value.int .i64 p][j]? = some u → (W.alloc (Obj.cells #[.string a, .string b, .int .i64 p] t)).cell? ((⟨W.heap.size, 0, none⟩ : Addr).add j) = some u :=
  World.news_of_block (heap_alloc_new W (Obj.cells #[.string a, .string b, .int .i64 p] t))

end Tr
end Go.Proofs.Yteaidpeifaeckaa
