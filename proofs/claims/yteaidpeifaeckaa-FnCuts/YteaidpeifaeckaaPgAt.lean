/-
  Rows of items in memory, and pages; the contracts of laws.szItem, szItemS and szPage.
-/
import Derived.Test.YteaidpeifaeckaaProg
import Derived.Test.YteaidpeifaeckaaPgSize
namespace Go.Proofs.Yteaidpeifaeckaa
namespace Pg
open Go.RowKit

/-- A row of items that can be read, below block B. -/
def ItemsAt (w : World) (a : Option Addr) (len B : Nat) (Q : List It) : Prop :=
  Q.length = len ∧ ∀ j (h : j < Q.length), ∃ b off, a = some ⟨b, off, none⟩ ∧ b < B ∧ w.cell? ⟨b, off + j * 3, none⟩ = some (.string Q[j].key) ∧ w.cell? ⟨b, off + j * 3 + 1, none⟩ = some (.string Q[j].val) ∧ w.cell? ⟨b, off + j * 3 + 2, none⟩ = some (.int .i64 Q[j].pg)

theorem ItemsAt.below {w w' : World} {a : Option Addr} {len B C : Nat} {Q : List It} (h : ItemsAt w a len B Q) (hb : Below C w w') (hC : B ≤ C) : ItemsAt w' a len B Q := by
  refine ⟨h.1, fun j hj => ?_⟩
  obtain ⟨b, off, e, hbB, hc, hc1, hc2⟩ := h.2 j hj
  exact ⟨b, off, e, hbB, by rw [hb.cell (p := ⟨b, off + j * 3, none⟩) (by simp; omega)]; exact hc, by rw [hb.cell (p := ⟨b, off + j * 3 + 1, none⟩) (by simp; omega)]; exact hc1, by rw [hb.cell (p := ⟨b, off + j * 3 + 2, none⟩) (by simp; omega)]; exact hc2⟩

theorem ItemsAt.mono {w : World} {a : Option Addr} {len B C : Nat} {Q : List It} (h : ItemsAt w a len B Q) (hC : B ≤ C) : ItemsAt w a len C Q := by
  refine ⟨h.1, fun j hj => ?_⟩
  obtain ⟨b, off, e, hbB, hc⟩ := h.2 j hj
  exact ⟨b, off, e, by omega, hc⟩

/-- A page in memory: its kind and its items, below block B. -/
def PageAt (w : World) (v : Value) (B : Nat) (k : Int) (Q : List It) : Prop :=
  ∃ a n c, v = .agg #[.int .i64 k, .slice a n c] ∧ ItemsAt w a n B Q

theorem PageAt.below {w w' : World} {v : Value} {B C : Nat} {k : Int} {Q : List It} (h : PageAt w v B k Q) (hb : Below C w w') (hC : B ≤ C) : PageAt w' v B k Q := by
  obtain ⟨a, n, c, rfl, hQ⟩ := h
  exact ⟨a, n, c, rfl, hQ.below hb hC⟩

theorem PageAt.mono {w : World} {v : Value} {B C : Nat} {k : Int} {Q : List It} (h : PageAt w v B k Q) (hC : B ≤ C) : PageAt w v C k Q := by
  obtain ⟨a, n, c, rfl, hQ⟩ := h
  exact ⟨a, n, c, rfl, hQ.mono hC⟩

/-- The bytes of all keys and values. -/
def totI (Q : List It) : Nat := (Q.map fun q => q.key.size + q.val.size).sum

theorem totI_snoc (Q : List It) (k : Nat) (h : k < Q.length) : totI (Q.take (k + 1)) = totI (Q.take k) + (Q[k].key.size + Q[k].val.size) := by
  unfold totI
  rw [List.take_succ_eq_append_getElem h, List.map_append, List.sum_append]
  simp

theorem totI_mem {Q : List It} {x : It} (h : x ∈ Q) : x.key.size + x.val.size ≤ totI Q := by
  induction Q with
  | nil => simp at h
  | cons y Q ih =>
    have e : totI (y :: Q) = y.key.size + y.val.size + totI Q := by simp [totI]
    rw [e]
    rcases List.mem_cons.1 h with rfl | h
    · omega
    · have := ih h; omega

def szLeft (x : It) (left : Int) : Int := if left - (x.key.size : Int) < 0 then -1 else if left - (x.key.size : Int) - (x.val.size : Int) < 0 then -1 else left - (x.key.size : Int) - (x.val.size : Int)

/-- What is counted of an item stays within a word. -/
def ItSane (x : It) : Prop := x.key.size ≤ 9223372036854775807 ∧ x.val.size ≤ 9223372036854775807

end Pg
end Go.Proofs.Yteaidpeifaeckaa
