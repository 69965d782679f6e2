/-
  Rows of pairs (a key and a value) in memory, and the contracts of what the laws do with them: sizes, copies, equality.
-/
import Derived.Test.YteaidpeifaeckaaProg
import Derived.Test.YteaidpeifaeckaaBase
import Derived.Handy
import Derived.Deep.RegionHeld3
namespace Go.Proofs.Yteaidpeifaeckaa
namespace Tr
open Go.RowKit

/-- A row of puts (a place and a text) that can be read, below block B. -/
def PairsAt (w : World) (a : Option Addr) (len B : Nat) (Q : List (ByteArray × ByteArray)) : Prop :=
  Q.length = len ∧ ∀ j (h : j < Q.length), ∃ b off, a = some ⟨b, off, none⟩ ∧ b < B ∧ w.cell? ⟨b, off + j * 2, none⟩ = some (.string Q[j].1) ∧ w.cell? ⟨b, off + j * 2 + 1, none⟩ = some (.string Q[j].2)

theorem PairsAt.below {w w' : World} {a : Option Addr} {len B C : Nat} {Q : List (ByteArray × ByteArray)} (h : PairsAt w a len B Q) (hb : Below C w w') (hC : B ≤ C) : PairsAt w' a len B Q := by
  refine ⟨h.1, fun j hj => ?_⟩
  obtain ⟨b, off, e, hbB, hc, hc1⟩ := h.2 j hj
  exact ⟨b, off, e, hbB, by rw [hb.cell (p := ⟨b, off + j * 2, none⟩) (by simp; omega)]; exact hc, by rw [hb.cell (p := ⟨b, off + j * 2 + 1, none⟩) (by simp; omega)]; exact hc1⟩

theorem PairsAt.mono {w : World} {a : Option Addr} {len B C : Nat} {Q : List (ByteArray × ByteArray)} (h : PairsAt w a len B Q) (hC : B ≤ C) : PairsAt w a len C Q := by
  refine ⟨h.1, fun j hj => ?_⟩
  obtain ⟨b, off, e, hbB, hc, hc1⟩ := h.2 j hj
  exact ⟨b, off, e, by omega, hc, hc1⟩

def totP (Q : List (ByteArray × ByteArray)) : Nat := (Q.map fun q => q.1.size + q.2.size).sum

theorem totP_snoc (Q : List (ByteArray × ByteArray)) (k : Nat) (h : k < Q.length) : totP (Q.take (k + 1)) = totP (Q.take k) + (Q[k].1.size + Q[k].2.size) := by
  unfold totP
  rw [List.take_succ_eq_append_getElem h, List.map_append, List.sum_append]
  simp

/-- The first k of a list, and something else up to its length. -/
def part {α : Type} (L : List α) (z : α) (k : Nat) : List α := L.take k ++ List.replicate (L.length - k) z

theorem part_zero {α : Type} (L : List α) (z : α) : part L z 0 = List.replicate L.length z := by simp [part]

theorem part_all {α : Type} (L : List α) (z : α) : part L z L.length = L := by simp [part]

theorem part_length {α : Type} (L : List α) (z : α) (k : Nat) (h : k ≤ L.length) : (part L z k).length = L.length := by simp [part]; omega

theorem part_set {α : Type} (L : List α) (z : α) (k : Nat) (h : k < L.length) : (part L z k).set k L[k] = part L z (k + 1) := by
  unfold part
  rw [List.set_append_right _ _ (by simp; omega)]
  have e : L.length - k = (L.length - (k + 1)) + 1 := by omega
  rw [e, List.replicate_succ, List.take_succ_eq_append_getElem h]
  have e2 : k - (L.take k).length = 0 := by simp; omega
  rw [e2, List.set_cons_zero, List.append_assoc]
  rfl

theorem infoPair : (Try.prog.info? 38).map (fun i => (i.zero, i.size, i.bytes)) = some (some (.agg #[.string ⟨#[]⟩, .string ⟨#[]⟩]), 2, 32) := by kernel_rfl

theorem own_below {B : Nat} {e : TypeId} {k : Nat} {v : Value} {n : Nat} {xs : List Value} {w w' : World} (h : w.ownsRow B e k v n xs) (hb : Below w.heap.size w w') : w'.ownsRow B e k v n xs :=
  h.kept (row := none) ⟨hb.os, hb.tape, hb.output, hb.size, fun j hj _ => hb.block j hj⟩ (by cases hv : v.ownBlock <;> simp)

def pairsV (Q : List (ByteArray × ByteArray)) : List Value := Q.flatMap fun q => [.string q.1, .string q.2]

theorem pairsV_length (Q : List (ByteArray × ByteArray)) : (pairsV Q).length = Q.length * 2 := by
  induction Q with
  | nil => rfl
  | cons q Q ih => simp [pairsV] at ih ⊢; omega

theorem pairsV_at (Q : List (ByteArray × ByteArray)) (k : Nat) (h : k < Q.length) : (pairsV Q)[k * 2]? = some (.string Q[k].1) ∧ (pairsV Q)[k * 2 + 1]? = some (.string Q[k].2) := by
  induction Q generalizing k with
  | nil => simp at h
  | cons q Q ih =>
    cases k with
    | zero => simp [pairsV]
    | succ k =>
      have := ih k (by simpa using h)
      have e : (k + 1) * 2 = k * 2 + 2 := by omega
      simpa [pairsV, e] using this

theorem pairsV_set (Q : List (ByteArray × ByteArray)) (k : Nat) (h : k < Q.length) (x s : ByteArray) : ((pairsV Q).set (k * 2) (.string x)).set (k * 2 + 1) (.string s) = pairsV (Q.set k (x, s)) := by
  induction Q generalizing k with
  | nil => simp at h
  | cons q Q ih =>
    cases k with
    | zero => simp [pairsV]
    | succ k =>
      have := ih k (by simpa using h)
      have e : (k + 1) * 2 = k * 2 + 2 := by omega
      simpa [pairsV, e] using this

theorem made_pairs (n : Nat) (M : Array Value) (hM : M = madeCells (Value.agg #[.string ⟨#[]⟩, .string ⟨#[]⟩]).cells (n * 2)) : M.toList = pairsV (List.replicate n (⟨#[]⟩, ⟨#[]⟩)) ∧ M.size = n * 2 := by
  have hs : M.size = n * 2 := by rw [hM, size_madeCells]
  refine ⟨?_, hs⟩
  apply List.ext_getElem?
  intro j
  by_cases hj : j < n * 2
  · have e : M.toList[j]? = some (if j % 2 = 0 then .string ⟨#[]⟩ else .string ⟨#[]⟩) := by
      rw [hM]
      have h2 : j % 2 = 0 ∨ j % 2 = 1 := by omega
      rcases h2 with h2 | h2 <;> simp [madeCells, Value.cells, hj, h2]
    rw [e]
    have hp := pairsV_at (List.replicate n ((⟨#[]⟩ : ByteArray), (⟨#[]⟩ : ByteArray))) (j / 2) (by simp; omega)
    by_cases h2 : j % 2 = 0
    · have ej : j / 2 * 2 = j := by omega
      rw [ej] at hp
      rw [if_pos h2, hp.1]
      simp
    · have ej : j / 2 * 2 + 1 = j := by omega
      rw [ej] at hp
      rw [if_neg h2, hp.2]
      simp
  · rw [List.getElem?_eq_none (by simp; omega), List.getElem?_eq_none (by rw [pairsV_length]; simp; omega)]

theorem PairsAt.of_own {w : World} {B : Nat} {v : Value} {n : Nat} {Q : List (ByteArray × ByteArray)} (h : w.ownsRow B 38 2 v n (pairsV Q)) : ∃ a c, v = .slice a n c ∧ PairsAt w a n w.heap.size Q := by
  have hl : Q.length = n := by have := h.1; rw [pairsV_length] at this; omega
  rcases h.2 with ⟨rfl, h0⟩ | ⟨g, cap, cur, rfl, hg, hh, _⟩
  · subst h0
    exact ⟨none, 0, rfl, hl, fun j hj => by omega⟩
  · refine ⟨_, _, rfl, hl, fun j hj => ⟨g, 0, rfl, (h.lt g rfl).2, ?_, ?_⟩⟩
    · rw [Nat.zero_add, h.cellAt (j * 2) (by omega)]
      exact (pairsV_at Q j hj).1
    · rw [Nat.zero_add, h.cellAt (j * 2 + 1) (by omega)]
      exact (pairsV_at Q j hj).2

end Tr
end Go.Proofs.Yteaidpeifaeckaa
