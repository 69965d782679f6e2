/-
  The contracts of laws.markText, markItemS and heldItemS, markPage and heldPage: what is marked is held; nothing but that row is written.
-/
import Derived.Test.YteaidpeifaeckaaPgKept
import Derived.Test.YteaidpeifaeckaaPgByte
import Derived.Deep.RegionHeld3
namespace Go.Proofs.Yteaidpeifaeckaa
namespace Pg
open Go.RowKit

/-- One figure. -/
def fig1 (k : Nat) : ByteArray := ⟨#[UInt8.ofNat (48 + k % 10)]⟩

def mkT : Nat → Nat → ByteArray → ByteArray
  | 0, _, out => out
  | f + 1, k, out => if k = 0 then out else mkT f (k / 10) (fig1 k ++ out)

/-- The text of a number from 1 on. -/
def markT (k : Nat) : ByteArray := ⟨#[109]⟩ ++ mkT 20 k ⟨#[]⟩

theorem mkT_step (f k : Nat) (out : ByteArray) (h : k ≠ 0) : mkT (f + 1) k out = mkT f (k / 10) (fig1 k ++ out) := if_neg h
theorem mkT_end (f : Nat) (out : ByteArray) : mkT f 0 out = out := by cases f <;> simp [mkT]

theorem fig_row (k : Nat) (w : World) :
    (convert 22 9 (.slice (some ⟨w.heap.size, 0, none⟩) 1 1)).run Try.prog (w.alloc (.cells #[.int .u8 (48 + (k : Int) % 10)] 5)) = .ok (.string (fig1 k)) (w.alloc (.cells #[.int .u8 (48 + (k : Int) % 10)] 5)) := by
  refine run_convert_bytes_back _ 22 9 5 ⟨w.heap.size, 0, none⟩ 1 [UInt8.ofNat (48 + k % 10)] Try.underlying22 Try.underlying5 Try.underlying9 fun j hj => ?_
  have hj0 : j = 0 := by simp at hj; omega
  subst hj0
  rw [Addr.add_lit, Nat.zero_add, cell_of_row _ w.heap.size 0 _ 5 (0, 0) (heap_alloc_new w _)]
  have h : ((UInt8.ofNat (48 + k % 10)).toNat : Int) = 48 + (k : Int) % 10 := by rw [toNat_ofNat_small _ (by omega)]; omega
  rw [← h]
  rfl

/-- The first j of a list, and of another one the rest. -/
def over {α : Type} (M L : List α) (j : Nat) : List α := M.take j ++ L.drop j

theorem over_zero {α : Type} (M L : List α) : over M L 0 = L := by simp [over]

theorem over_all {α : Type} (M L : List α) (h : M.length = L.length) : over M L L.length = M := by simp [over, ← h]

theorem over_length {α : Type} (M L : List α) (j : Nat) (h : M.length = L.length) (hj : j ≤ L.length) : (over M L j).length = L.length := by simp [over]; omega

theorem over_set {α : Type} (M L : List α) (j : Nat) (h : M.length = L.length) (hj : j < L.length) : (over M L j).set j (M[j]'(by omega)) = over M L (j + 1) := by
  unfold over
  have e : (M.take j).length = j := by simp; omega
  rw [List.set_append_right _ _ (by omega), e, Nat.sub_self]
  have e2 : L.drop j = L[j] :: L.drop (j + 1) := (List.getElem_cons_drop hj).symm
  rw [e2, List.set_cons_zero, List.take_succ_eq_append_getElem (by omega), List.append_assoc]
  rfl

/-- The marks of n items from k on. -/
def marksI (k n : Nat) : List It := (List.range n).map fun i => ⟨markT (k + i * 3), markT (k + i * 3 + 1), ((k + i * 3 + 2 : Nat) : Int)⟩

theorem marksI_length (k n : Nat) : (marksI k n).length = n := by simp [marksI]
theorem marksI_at (k n i : Nat) (h : i < (marksI k n).length) : (marksI k n)[i] = ⟨markT (k + i * 3), markT (k + i * 3 + 1), ((k + i * 3 + 2 : Nat) : Int)⟩ := by simp [marksI]

/-- The block of a page's row. -/
def PgBlk (v : Value) (g : Nat) : Prop := ∃ a v1, v = .agg #[a, v1] ∧ v1.ownBlock = some g

theorem PageOwn.blk {w : World} {B : Nat} {v : Value} {k : Int} {Q : List It} (h : PageOwn w B v k Q) : ∀ g, PgBlk v g → B ≤ g ∧ g < w.heap.size := by
  obtain ⟨v1, rfl, h1⟩ := h
  rintro g ⟨u0, u1, e, hg⟩
  simp at e
  obtain ⟨rfl, rfl⟩ := e
  exact h1.lt g hg

theorem PageOwn.kept {S : Nat → Prop} {w w' : World} {B : Nat} {v : Value} {k : Int} {Q : List It} (h : PageOwn w B v k Q) (hk : Kept S w w') (hS : ∀ g, PgBlk v g → ¬ S g) : PageOwn w' B v k Q := by
  obtain ⟨v1, rfl, h1⟩ := h
  exact ⟨v1, rfl, hk.own h1 (fun g hg => hS g ⟨_, v1, rfl, hg⟩)⟩

end Pg
end Go.Proofs.Yteaidpeifaeckaa
