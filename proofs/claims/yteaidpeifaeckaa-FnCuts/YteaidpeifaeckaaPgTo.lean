/-
  The contracts of laws.toItem, toItemS and toPage: what is made is new, and holds what came in.
-/
import Derived.Test.YteaidpeifaeckaaPgAt
import Derived.Handy
namespace Go.Proofs.Yteaidpeifaeckaa
namespace Pg
open Go.RowKit

/-- The first k of a list, and something else up to its length. -/
def part {α : Type} (L : List α) (z : α) (k : Nat) : List α := L.take k ++ List.replicate (L.length - k) z

theorem part_zero {α : Type} (L : List α) (z : α) : part L z 0 = List.replicate L.length z := by simp [part]
theorem part_all {α : Type} (L : List α) (z : α) : part L z L.length = L := by simp [part]
theorem part_length {α : Type} (L : List α) (z : α) (k : Nat) (h : k ≤ L.length) : (part L z k).length = L.length := by simp [part]; omega

theorem part_set {α : Type} (L : List α) (z : α) (k : Nat) (h : k < L.length) : (part L z k).set k L[k] = part L z (k + 1) := by
  unfold part
  rw [List.set_append_right _ _ (by simp; omega)]
  have e : L.length - k = (L.length - (k + 1)) + 1 := by omega
  rw [e, List.replicate_succ, List.take_succ_eq_append_getElem h]
  have e2 : k - (L.take k).length = 0 := by simp; omega
  rw [e2, List.set_cons_zero, List.append_assoc]
  rfl

theorem infoItem : (Try.prog.info? 30).map (fun i => (i.zero, i.size, i.bytes)) = some (some (.agg #[.string ⟨#[]⟩, .string ⟨#[]⟩, .int .i64 0]), 3, 40) := by kernel_rfl

theorem own_below {B : Nat} {e : TypeId} {k : Nat} {v : Value} {n : Nat} {xs : List Value} {w w' : World} (h : w.ownsRow B e k v n xs) (hb : Below w.heap.size w w') : w'.ownsRow B e k v n xs :=
  h.kept (row := none) ⟨hb.os, hb.tape, hb.output, hb.size, fun j hj _ => hb.block j hj⟩ (by cases hv : v.ownBlock <;> simp)

def itsV (Q : List It) : List Value := Q.flatMap fun q => [.string q.key, .string q.val, .int .i64 q.pg]

theorem itsV_length (Q : List It) : (itsV Q).length = Q.length * 3 := by
  induction Q with
  | nil => rfl
  | cons q Q ih => simp [itsV] at ih ⊢; omega

theorem itsV_at (Q : List It) (k : Nat) (h : k < Q.length) : (itsV Q)[k * 3]? = some (.string Q[k].key) ∧ (itsV Q)[k * 3 + 1]? = some (.string Q[k].val) ∧ (itsV Q)[k * 3 + 2]? = some (.int .i64 Q[k].pg) := by
  induction Q generalizing k with
  | nil => simp at h
  | cons q Q ih =>
    cases k with
    | zero => simp [itsV]
    | succ k =>
      have := ih k (by simpa using h)
      have e : (k + 1) * 3 = k * 3 + 3 := by omega
      simpa [itsV, e] using this

theorem itsV_set (Q : List It) (k : Nat) (h : k < Q.length) (x : It) : (((itsV Q).set (k * 3) (.string x.key)).set (k * 3 + 1) (.string x.val)).set (k * 3 + 2) (.int .i64 x.pg) = itsV (Q.set k x) := by
  induction Q generalizing k with
  | nil => simp at h
  | cons q Q ih =>
    cases k with
    | zero => simp [itsV]
    | succ k =>
      have := ih k (by simpa using h)
      have e : (k + 1) * 3 = k * 3 + 3 := by omega
      simpa [itsV, e] using this

theorem itsV_snoc (Q : List It) (x : It) : itsV (Q ++ [x]) = itsV Q ++ [.string x.key, .string x.val, .int .i64 x.pg] := by
  unfold itsV; rw [List.flatMap_append]; rfl

def it0 : It := ⟨⟨#[]⟩, ⟨#[]⟩, 0⟩

theorem made_items (n : Nat) (M : Array Value) (hM : M = madeCells (Value.agg #[.string ⟨#[]⟩, .string ⟨#[]⟩, .int .i64 0]).cells (n * 3)) : M.toList = itsV (List.replicate n it0) ∧ M.size = n * 3 := by
  have hs : M.size = n * 3 := by rw [hM, size_madeCells]
  refine ⟨?_, hs⟩
  apply List.ext_getElem?
  intro j
  by_cases hj : j < n * 3
  · have e : M.toList[j]? = some (if j % 3 = 2 then .int .i64 0 else .string ⟨#[]⟩) := by
      rw [hM]
      have h2 : j % 3 = 0 ∨ j % 3 = 1 ∨ j % 3 = 2 := by omega
      rcases h2 with h2 | h2 | h2 <;> simp [madeCells, Value.cells, hj, h2]
    rw [e]
    have hp := itsV_at (List.replicate n it0) (j / 3) (by simp; omega)
    have h2 : j % 3 = 0 ∨ j % 3 = 1 ∨ j % 3 = 2 := by omega
    rcases h2 with h2 | h2 | h2
    · have ej : j / 3 * 3 = j := by omega
      rw [ej] at hp
      rw [if_neg (by omega), hp.1]
      simp [it0]
    · have ej : j / 3 * 3 + 1 = j := by omega
      rw [ej] at hp
      rw [if_neg (by omega), hp.2.1]
      simp [it0]
    · have ej : j / 3 * 3 + 2 = j := by omega
      rw [ej] at hp
      rw [if_pos h2, hp.2.2]
      simp [it0]
  · rw [List.getElem?_eq_none (by simp; omega), List.getElem?_eq_none (by rw [itsV_length]; simp; omega)]

theorem ItemsAt.of_own {w : World} {B : Nat} {v : Value} {n : Nat} {Q : List It} (h : w.ownsRow B 30 3 v n (itsV Q)) : ∃ a c, v = .slice a n c ∧ ItemsAt w a n w.heap.size Q := by
  have hl : Q.length = n := by have := h.1; rw [itsV_length] at this; omega
  rcases h.2 with ⟨rfl, h0⟩ | ⟨g, cap, cur, rfl, hg, hh, _⟩
  · subst h0
    exact ⟨none, 0, rfl, hl, fun j hj => by omega⟩
  · refine ⟨_, _, rfl, hl, fun j hj => ⟨g, 0, rfl, (h.lt g rfl).2, ?_, ?_, ?_⟩⟩
    · rw [Nat.zero_add, h.cellAt (j * 3) (by omega)]
      exact (itsV_at Q j hj).1
    · rw [Nat.zero_add, h.cellAt (j * 3 + 1) (by omega)]
      exact (itsV_at Q j hj).2.1
    · rw [Nat.zero_add, h.cellAt (j * 3 + 2) (by omega)]
      exact (itsV_at Q j hj).2.2

theorem own_lower {w : World} {B C e size n : Nat} {v : Value} {xs : List Value} (hB : C ≤ B) (h : w.ownsRow B e size v n xs) : w.ownsRow C e size v n xs := by
  obtain ⟨h1, h2⟩ := h
  refine ⟨h1, ?_⟩
  rcases h2 with h2 | ⟨g, cap, cur, a1, a2, a3⟩
  · exact .inl h2
  · exact .inr ⟨g, cap, cur, a1, Nat.le_trans hB a2, a3⟩

/-- A page that this call has made: its row its own. -/
def PageOwn (w : World) (B : Nat) (v : Value) (k : Int) (Q : List It) : Prop :=
  ∃ v1, v = .agg #[.int .i64 k, v1] ∧ w.ownsRow B 30 3 v1 Q.length (itsV Q)

theorem PageOwn.at {w : World} {B : Nat} {v : Value} {k : Int} {Q : List It} (h : PageOwn w B v k Q) : PageAt w v w.heap.size k Q := by
  obtain ⟨v1, rfl, h1⟩ := h
  obtain ⟨a', c', rfl, hQ⟩ := ItemsAt.of_own h1
  exact ⟨a', _, c', rfl, hQ⟩

theorem PageOwn.below {w w' : World} {B : Nat} {v : Value} {k : Int} {Q : List It} (h : PageOwn w B v k Q) (hb : Below w.heap.size w w') : PageOwn w' B v k Q := by
  obtain ⟨v1, rfl, h1⟩ := h
  exact ⟨v1, rfl, own_below h1 hb⟩

theorem cells_of_two {w : World} {g : Nat} {x y : Value} {t : TypeId} (h : w.heap[g]? = some (.cells #[x, y] t (0, 0))) :
    w.cell? ⟨g, 0, none⟩ = some x ∧ w.cell? ⟨g, 1, none⟩ = some y ∧ ∀ j, w.frozen? ⟨g, j, none⟩ = false := by
  refine ⟨?_, ?_, fun j => ?_⟩
  · rw [cell_of_row w g 0 _ t (0, 0) h]; rfl
  · rw [cell_of_row w g 1 _ t (0, 0) h]; rfl
  · exact frozen_of_row w g j _ t h

theorem two_zero {w : World} {g : Nat} {x y : Value} {t : TypeId} (h : w.heap[g]? = some (.cells #[x, y] t (0, 0))) (u : Value) :
    (w.setCell ⟨g, 0, none⟩ u).heap[g]? = some (.cells #[u, y] t (0, 0)) := heap_setCell_same w g 0 _ t u h

theorem two_one {w : World} {g : Nat} {x y : Value} {t : TypeId} (h : w.heap[g]? = some (.cells #[x, y] t (0, 0))) (u : Value) :
    (w.setCell ⟨g, 1, none⟩ u).heap[g]? = some (.cells #[x, u] t (0, 0)) := heap_setCell_same w g 1 _ t u h

/-- Two cells in a new block. -/
theorem below_new (w : World) (o : Obj) : Below w.heap.size w (w.alloc o) := (Below.refl _ _).alloc (Nat.le_refl _) _

end Pg
end Go.Proofs.Yteaidpeifaeckaa
