/-
  Texts of this claim, one behind the other: IntsAt, DevTo2.
-/
import Derived.Test.YtjhnippfepbjmaaGreatDoorProg
import Derived.Test.YtjhnippfepbjmaaGreatDoorJ1
import Derived.Handy

/-
  Rows of numbers in memory; the contract of spec.l03In.
-/
namespace Go.Proofs.YtjhnippfepbjmaaGreatDoor
open Go.RowKit

/-- A row of numbers that can be read, below block B. -/
def IntsAt (w : World) (a : Option Addr) (len B : Nat) (K : List Int) : Prop :=
  K.length = len ∧ ∀ j (h : j < K.length), ∃ b off, a = some ⟨b, off, none⟩ ∧ b < B ∧ w.cell? ⟨b, off + j, none⟩ = some (.int .i64 K[j])

theorem IntsAt.below {w w' : World} {a : Option Addr} {len B C : Nat} {K : List Int} (h : IntsAt w a len B K) (hb : Below C w w') (hC : B ≤ C) : IntsAt w' a len B K := by
  refine ⟨h.1, fun j hj => ?_⟩
  obtain ⟨b, off, e, hbB, hc⟩ := h.2 j hj
  exact ⟨b, off, e, hbB, by rw [hb.cell (p := ⟨b, off + j, none⟩) (by simp; omega)]; exact hc⟩

/-- Whether a number is on a list. -/
def inK (K : List Int) (x : Int) : Bool := K.contains x

theorem inK_take_succ (K : List Int) (x : Int) (k : Nat) (h : k < K.length) (hno : inK (K.take k) x = false) (hk : (K[k] == x) = false) : inK (K.take (k + 1)) x = false := by
  unfold inK at *
  rw [List.take_succ_eq_append_getElem h, List.contains_eq_any_beq, List.any_append]
  rw [List.contains_eq_any_beq] at hno
  have hk' : (x == K[k]) = false := by rw [BEq.comm]; exact hk
  simp only [hno, List.any_cons, List.any_nil, hk', Bool.or_false]

theorem inK_of_mem {K : List Int} {x : Int} (h : x ∈ K) : inK K x = true := by unfold inK; rw [List.contains_iff_mem]; exact h

end Go.Proofs.YtjhnippfepbjmaaGreatDoor

/-
  The contracts of laws.toPut, toPutS and toDevice.
-/
namespace Go.Proofs.YtjhnippfepbjmaaGreatDoor
open Go.RowKit

theorem infoPut : (Tryz.prog.info? 121).map (fun i => (i.zero, i.size, i.bytes)) = some (some (.agg #[.int .i64 0, .string ⟨#[]⟩]), 2, 24) := by kernel_rfl

theorem own_below {B : Nat} {e : TypeId} {k : Nat} {v : Value} {n : Nat} {xs : List Value} {w w' : World} (h : w.ownsRow B e k v n xs) (hb : Below w.heap.size w w') : w'.ownsRow B e k v n xs :=
  h.kept (row := none) ⟨hb.os, hb.tape, hb.output, hb.size, fun j hj _ => hb.block j hj⟩ (by cases hv : v.ownBlock <;> simp)

def putsV (Q : List (Int × ByteArray)) : List Value := Q.flatMap fun q => [.int .i64 q.1, .string q.2]

theorem putsV_length (Q : List (Int × ByteArray)) : (putsV Q).length = Q.length * 2 := by
  induction Q with
  | nil => rfl
  | cons q Q ih => simp [putsV] at ih ⊢; omega

theorem putsV_at (Q : List (Int × ByteArray)) (k : Nat) (h : k < Q.length) : (putsV Q)[k * 2]? = some (.int .i64 Q[k].1) ∧ (putsV Q)[k * 2 + 1]? = some (.string Q[k].2) := by
  induction Q generalizing k with
  | nil => simp at h
  | cons q Q ih =>
    cases k with
    | zero => simp [putsV]
    | succ k =>
      have := ih k (by simpa using h)
      have e : (k + 1) * 2 = k * 2 + 2 := by omega
      simpa [putsV, e] using this

theorem putsV_set (Q : List (Int × ByteArray)) (k : Nat) (h : k < Q.length) (x : Int) (s : ByteArray) : ((putsV Q).set (k * 2) (.int .i64 x)).set (k * 2 + 1) (.string s) = putsV (Q.set k (x, s)) := by
  induction Q generalizing k with
  | nil => simp at h
  | cons q Q ih =>
    cases k with
    | zero => simp [putsV]
    | succ k =>
      have := ih k (by simpa using h)
      have e : (k + 1) * 2 = k * 2 + 2 := by omega
      simpa [putsV, e] using this

theorem made_puts (n : Nat) (M : Array Value) (hM : M = madeCells (Value.agg #[.int .i64 0, .string ⟨#[]⟩]).cells (n * 2)) : M.toList = putsV (List.replicate n (0, ⟨#[]⟩)) ∧ M.size = n * 2 := by
  have hs : M.size = n * 2 := by rw [hM, size_madeCells]
  refine ⟨?_, hs⟩
  apply List.ext_getElem?
  intro j
  by_cases hj : j < n * 2
  · have e : M.toList[j]? = some (if j % 2 = 0 then .int .i64 0 else .string ⟨#[]⟩) := by
      rw [hM]
      have h2 : j % 2 = 0 ∨ j % 2 = 1 := by omega
      rcases h2 with h2 | h2 <;> simp [madeCells, Value.cells, hj, h2]
    rw [e]
    have hp := putsV_at (List.replicate n ((0 : Int), (⟨#[]⟩ : ByteArray))) (j / 2) (by simp; omega)
    by_cases h2 : j % 2 = 0
    · have ej : j / 2 * 2 = j := by omega
      rw [ej] at hp
      rw [if_pos h2, hp.1]
      simp
    · have ej : j / 2 * 2 + 1 = j := by omega
      rw [ej] at hp
      rw [if_neg h2, hp.2]
      simp
  · rw [List.getElem?_eq_none (by simp; omega), List.getElem?_eq_none (by rw [putsV_length]; simp; omega)]

theorem StrsAt.of_own {w : World} {B : Nat} {v : Value} {n : Nat} {L : List ByteArray} (h : w.ownsRow B 9 1 v n (strsV L)) : ∃ a c, v = .slice a n c ∧ StrsAt w a n w.heap.size L := by
  have hl : L.length = n := by have := h.1; simp [strsV] at this; omega
  rcases h.2 with ⟨rfl, h0⟩ | ⟨g, cap, cur, rfl, hg, hh, _⟩
  · subst h0
    exact ⟨none, 0, rfl, hl, fun j hj => by omega⟩
  · refine ⟨_, _, rfl, hl, fun j hj => ⟨g, 0, rfl, (h.lt g rfl).2, ?_⟩⟩
    rw [Nat.zero_add, h.cellAt j (by omega)]
    simp [strsV, hj]

theorem PutsAt.of_own {w : World} {B : Nat} {v : Value} {n : Nat} {Q : List (Int × ByteArray)} (h : w.ownsRow B 121 2 v n (putsV Q)) : ∃ a c, v = .slice a n c ∧ PutsAt w a n w.heap.size Q := by
  have hl : Q.length = n := by have := h.1; rw [putsV_length] at this; omega
  rcases h.2 with ⟨rfl, h0⟩ | ⟨g, cap, cur, rfl, hg, hh, _⟩
  · subst h0
    exact ⟨none, 0, rfl, hl, fun j hj => by omega⟩
  · refine ⟨_, _, rfl, hl, fun j hj => ⟨g, 0, rfl, (h.lt g rfl).2, ?_, ?_⟩⟩
    · rw [Nat.zero_add, h.cellAt (j * 2) (by omega)]
      exact (putsV_at Q j hj).1
    · rw [Nat.zero_add, h.cellAt (j * 2 + 1) (by omega)]
      exact (putsV_at Q j hj).2

theorem own_lower {w : World} {B C e size n : Nat} {v : Value} {xs : List Value} (hB : C ≤ B) (h : w.ownsRow B e size v n xs) : w.ownsRow C e size v n xs := by
  obtain ⟨h1, h2⟩ := h
  refine ⟨h1, ?_⟩
  rcases h2 with h2 | ⟨g, cap, cur, a1, a2, a3⟩
  · exact .inl h2
  · exact .inr ⟨g, cap, cur, a1, Nat.le_trans hB a2, a3⟩

/-- A device that this call has made: both rows its own. -/
def DevOwn (w : World) (B : Nat) (v : Value) (L : List ByteArray) (Q : List (Int × ByteArray)) : Prop :=
  ∃ v0 v1, v = .agg #[v0, v1] ∧ w.ownsRow B 9 1 v0 L.length (strsV L) ∧ w.ownsRow B 121 2 v1 Q.length (putsV Q) ∧ (v0.ownBlock ≠ v1.ownBlock ∨ v0.ownBlock = none)

theorem DevOwn.at {w : World} {B : Nat} {v : Value} {L : List ByteArray} {Q : List (Int × ByteArray)} (h : DevOwn w B v L Q) : DevAt w v w.heap.size L Q := by
  obtain ⟨v0, v1, rfl, h0, h1, _⟩ := h
  obtain ⟨a, c, rfl, hL⟩ := StrsAt.of_own h0
  obtain ⟨a', c', rfl, hQ⟩ := PutsAt.of_own h1
  exact ⟨a, _, c, a', _, c', rfl, hL, hQ⟩

theorem DevOwn.below {w w' : World} {B : Nat} {v : Value} {L : List ByteArray} {Q : List (Int × ByteArray)} (h : DevOwn w B v L Q) (hb : Below w.heap.size w w') : DevOwn w' B v L Q := by
  obtain ⟨v0, v1, rfl, h0, h1, h2⟩ := h
  exact ⟨v0, v1, rfl, own_below h0 hb, own_below h1 hb, h2⟩

theorem DevAt.below {w w' : World} {v : Value} {B C : Nat} {L : List ByteArray} {Q : List (Int × ByteArray)} (h : DevAt w v B L Q) (hb : Below C w w') (hC : B ≤ C) : DevAt w' v B L Q := by
  obtain ⟨a, n, c, a', n', c', rfl, hL, hQ⟩ := h
  exact ⟨a, n, c, a', n', c', rfl, hL.below hb hC, hQ.below hb hC⟩

theorem DevAt.mono {w : World} {v : Value} {B C : Nat} {L : List ByteArray} {Q : List (Int × ByteArray)} (h : DevAt w v B L Q) (hC : B ≤ C) : DevAt w v C L Q := by
  obtain ⟨a, n, c, a', n', c', rfl, hL, hQ⟩ := h
  exact ⟨a, n, c, a', n', c', rfl, hL.mono hC, hQ.mono hC⟩

theorem cells_of_two {w : World} {g : Nat} {x y : Value} {t : TypeId} (h : w.heap[g]? = some (.cells #[x, y] t (0, 0))) :
    w.cell? ⟨g, 0, none⟩ = some x ∧ w.cell? ⟨g, 1, none⟩ = some y ∧ ∀ j, w.frozen? ⟨g, j, none⟩ = false := by
  refine ⟨?_, ?_, fun j => ?_⟩
  · rw [cell_of_row w g 0 _ t (0, 0) h]; rfl
  · rw [cell_of_row w g 1 _ t (0, 0) h]; rfl
  · exact frozen_of_row w g j _ t h

theorem two_zero {w : World} {g : Nat} {x y : Value} {t : TypeId} (h : w.heap[g]? = some (.cells #[x, y] t (0, 0))) (u : Value) :
    (w.setCell ⟨g, 0, none⟩ u).heap[g]? = some (.cells #[u, y] t (0, 0)) := heap_setCell_same w g 0 _ t u h

theorem two_one {w : World} {g : Nat} {x y : Value} {t : TypeId} (h : w.heap[g]? = some (.cells #[x, y] t (0, 0))) (u : Value) :
    (w.setCell ⟨g, 1, none⟩ u).heap[g]? = some (.cells #[x, u] t (0, 0)) := heap_setCell_same w g 1 _ t u h

end Go.Proofs.YtjhnippfepbjmaaGreatDoor
