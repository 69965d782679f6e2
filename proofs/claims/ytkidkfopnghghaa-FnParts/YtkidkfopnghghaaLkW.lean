/-
  Rows of rows of numbers that a call has made; the contracts of what the laws do with them: equality, marks.
-/
import Derived.Test.YtkidkfopnghghaaGrKInts
namespace Go.Proofs.Ytkidkfopnghghaa
namespace Lk
open Go.RowKit
open Gr (Kept own_below own_lower InOwn InAt intsV intsAt_of_own marksN marksN_length)

theorem infoRow : (Try.prog.info? 28).map (fun i => (i.zero, i.size, i.bytes)) = some (some (.slice none 0 0), 1, 24) := by kernel_rfl

/-- A row of rows of items, all of it made by a call: no block below B; the rows lie below C. -/
def Grps (w : World) (B C : Nat) (v : Value) (vs : List Value) (G : List (List Int)) : Prop :=
  vs.length = G.length ∧ w.ownsRow B 28 1 v G.length vs ∧ ∀ j (h1 : j < vs.length) (h2 : j < G.length), w.ownsRow B 3 1 vs[j] G[j].length (intsV G[j]) ∧ ∀ g, vs[j].ownBlock = some g → g < C

/-- No two of the rows lie in one block. -/
def Dist (vs : List Value) : Prop := ∀ i j (hi : i < vs.length) (hj : j < vs.length) g, vs[i].ownBlock = some g → vs[j].ownBlock = some g → i = j

theorem own_ne {w : World} {B B' n m g : Nat} {v u : Value} {xs ys : List Value} (h : w.ownsRow B 28 1 v n xs) (h' : w.ownsRow B' 3 1 u m ys) (hg : v.ownBlock = some g) (hg' : u.ownBlock = some g) : False := by
  rcases h.2 with ⟨rfl, _⟩ | ⟨g1, cap, cur, rfl, _, hh, _⟩
  · cases hg
  · rcases h'.2 with ⟨rfl, _⟩ | ⟨g2, cap2, cur2, rfl, _, hh2, _⟩
    · cases hg'
    · have e1 : g1 = g := Option.some.inj hg
      have e2 : g2 = g := Option.some.inj hg'
      subst e1 e2
      rw [hh] at hh2
      simp at hh2

theorem row_shape {w : World} {B e n : Nat} {v : Value} {xs : List Value} (h : w.ownsRow B e 1 v n xs) : ∃ A c, v = .slice A n c := by
  rcases h.2 with ⟨rfl, h0⟩ | ⟨g, cap, cur, rfl, _⟩
  · exact ⟨none, 0, by rw [h0]⟩
  · exact ⟨_, _, rfl⟩

theorem Grps.below {w w' : World} {B C : Nat} {v : Value} {vs : List Value} {G : List (List Int)} (h : Grps w B C v vs G) (hb : Below w.heap.size w w') : Grps w' B C v vs G :=
  ⟨h.1, own_below h.2.1 hb, fun j h1 h2 => ⟨own_below (h.2.2 j h1 h2).1 hb, (h.2.2 j h1 h2).2⟩⟩

theorem Grps.mono {w : World} {B C C' : Nat} {v : Value} {vs : List Value} {G : List (List Int)} (h : Grps w B C v vs G) (hC : C ≤ C') : Grps w B C' v vs G :=
  ⟨h.1, h.2.1, fun j h1 h2 => ⟨(h.2.2 j h1 h2).1, fun g hg => Nat.lt_of_lt_of_le ((h.2.2 j h1 h2).2 g hg) hC⟩⟩

theorem Grps.lower {w : World} {B B' C : Nat} {v : Value} {vs : List Value} {G : List (List Int)} (h : Grps w B C v vs G) (hB : B' ≤ B) : Grps w B' C v vs G :=
  ⟨h.1, own_lower hB h.2.1, fun j h1 h2 => ⟨own_lower hB (h.2.2 j h1 h2).1, (h.2.2 j h1 h2).2⟩⟩

theorem Grps.kept {S : Nat → Prop} {w w' : World} {B C : Nat} {v : Value} {vs : List Value} {G : List (List Int)} (h : Grps w B C v vs G) (hk : Kept S w w') (hS : ∀ g, v.ownBlock = some g → ¬ S g)
    (hT : ∀ j (h1 : j < vs.length) g, vs[j].ownBlock = some g → ¬ S g) : Grps w' B C v vs G :=
  ⟨h.1, hk.own h.2.1 hS, fun j h1 h2 => ⟨hk.own (h.2.2 j h1 h2).1 (hT j h1), (h.2.2 j h1 h2).2⟩⟩

/-- Every block of it lies at B or behind, and was there. -/
theorem Grps.blk {w : World} {B C : Nat} {v : Value} {vs : List Value} {G : List (List Int)} (h : Grps w B C v vs G) : (∀ g, v.ownBlock = some g → B ≤ g ∧ g < w.heap.size) ∧ ∀ j (h1 : j < vs.length) g, vs[j].ownBlock = some g → B ≤ g ∧ g < w.heap.size :=
  ⟨h.2.1.lt, fun j h1 => (h.2.2 j h1 (by rw [← h.1]; exact h1)).1.lt⟩

/-- What is turned outside of it leaves it as it is. -/
theorem Grps.keptB {S : Nat → Prop} {w w' : World} {B C : Nat} {v : Value} {vs : List Value} {G : List (List Int)} (h : Grps w B C v vs G) (hk : Kept S w w') (hS : ∀ g, B ≤ g → g < w.heap.size → ¬ S g) : Grps w' B C v vs G :=
  h.kept hk (fun g hg => hS g (h.blk.1 g hg).1 (h.blk.1 g hg).2) (fun j h1 g hg => hS g (h.blk.2 j h1 g hg).1 (h.blk.2 j h1 g hg).2)

theorem Grps.snoc {w w1 : World} {B C C' : Nat} {v v' u : Value} {vs : List Value} {G : List (List Int)} {q : List Int} (h : Grps w B C v vs G) (hu : w.ownsRow B 3 1 u q.length (intsV q)) (huC : ∀ g, u.ownBlock = some g → g < C') (hC : C ≤ C')
    (hown : w1.ownsRow B 28 1 v' (G.length + 1) (vs ++ [u])) (hk : Kept (fun g => v.ownBlock = some g) w w1) : Grps w1 B C' v' (vs ++ [u]) (G ++ [q]) := by
  refine ⟨by simp [h.1], by simpa using hown, fun j h1 h2 => ?_⟩
  have hl := h.1
  by_cases hj : j < vs.length
  · have hj2 : j < G.length := by omega
    have e1 : (vs ++ [u])[j] = vs[j] := List.getElem_append_left hj
    have e2 : (G ++ [q])[j] = G[j] := List.getElem_append_left hj2
    rw [e1, e2]
    obtain ⟨ho, hc⟩ := h.2.2 j hj hj2
    exact ⟨hk.own ho (fun g hg hg' => own_ne h.2.1 ho hg' hg), fun g hg => Nat.lt_of_lt_of_le (hc g hg) hC⟩
  · have hj3 : j = vs.length := by simp at h1; omega
    subst hj3
    have e1 : (vs ++ [u])[vs.length] = u := by simp
    have e2 : (G ++ [q])[vs.length] = q := by rw [List.getElem_append_right (by omega)]; simp [hl]
    rw [e1, e2]
    exact ⟨hk.own hu (fun g hg hg' => own_ne h.2.1 hu hg' hg), huC⟩

theorem Dist.nil : Dist [] := fun i _ hi => by simp at hi

theorem Dist.snoc {vs : List Value} {u : Value} {C : Nat} (h : Dist vs) (hC : ∀ j (h1 : j < vs.length) g, vs[j].ownBlock = some g → g < C) (hu : ∀ g, u.ownBlock = some g → C ≤ g) : Dist (vs ++ [u]) := by
  intro i j hi hj g hgi hgj
  by_cases hi' : i < vs.length
  · rw [List.getElem_append_left hi'] at hgi
    by_cases hj' : j < vs.length
    · rw [List.getElem_append_left hj'] at hgj
      exact h i j hi' hj' g hgi hgj
    · have e : j = vs.length := by simp at hj; omega
      subst e
      have e1 : (vs ++ [u])[vs.length] = u := by simp
      rw [e1] at hgj
      have := hC i hi' g hgi
      have := hu g hgj
      omega
  · have e : i = vs.length := by simp at hi; omega
    subst e
    have e1 : (vs ++ [u])[vs.length] = u := by simp
    rw [e1] at hgi
    by_cases hj' : j < vs.length
    · rw [List.getElem_append_left hj'] at hgj
      have := hC j hj' g hgj
      have := hu g hgi
      omega
    · simp at hj; omega

/-- How many marks the groups ahead of the j-th take. -/
def offG (G : List (List Int)) (j : Nat) : Nat := ((G.take j).map List.length).sum

theorem offG_zero (G : List (List Int)) : offG G 0 = 0 := by simp [offG]
theorem offG_succ (G : List (List Int)) (j : Nat) (h : j < G.length) : offG G (j + 1) = offG G j + G[j].length := by
  unfold offG
  rw [List.take_succ_eq_append_getElem h, List.map_append, List.sum_append]
  simp

theorem offG_all (G : List (List Int)) : offG G G.length = G.flatten.length := by
  unfold offG
  rw [List.take_length, List.length_flatten]

theorem offG_le (G : List (List Int)) (j : Nat) : offG G j ≤ G.flatten.length := by
  have e : G.flatten = (G.take j).flatten ++ (G.drop j).flatten := by rw [← List.flatten_append, List.take_append_drop]
  unfold offG
  rw [e, List.length_append, List.length_flatten]
  omega

/-- The groups with the first j marked. -/
def mixG (k : Nat) (G : List (List Int)) (j : Nat) : List (List Int) := G.mapIdx fun i g => if i < j then marksN (k + offG G i) g.length else g

theorem mixG_length (k : Nat) (G : List (List Int)) (j : Nat) : (mixG k G j).length = G.length := by simp [mixG]
theorem mixG_at (k : Nat) (G : List (List Int)) (j i : Nat) (h : i < (mixG k G j).length) (h2 : i < G.length) : (mixG k G j)[i] = if i < j then marksN (k + offG G i) G[i].length else G[i] := by simp [mixG]
theorem mixG_zero (k : Nat) (G : List (List Int)) : mixG k G 0 = G := by
  apply List.ext_getElem
  · simp [mixG]
  · intro i h1 h2; rw [mixG_at k G 0 i h1 h2, if_neg (by omega)]
theorem mixG_len_at (k : Nat) (G : List (List Int)) (j i : Nat) (h : i < (mixG k G j).length) (h2 : i < G.length) : (mixG k G j)[i].length = G[i].length := by
  rw [mixG_at k G j i h h2]; split
  · exact marksN_length _ _
  · rfl

theorem Grps.marked {w w1 : World} {B C k j : Nat} {v : Value} {vs : List Value} {G : List (List Int)} (h : Grps w B C v vs (mixG k G j)) (hd : Dist vs) (hj : j < G.length) (hjv : j < vs.length)
    (ho : w1.ownsRow B 3 1 vs[j] G[j].length (intsV (marksN (k + offG G j) G[j].length))) (hk : Kept (fun g => vs[j].ownBlock = some g) w w1) : Grps w1 B C v vs (mixG k G (j + 1)) := by
  have hl := h.1
  rw [mixG_length] at hl
  have hjo := (h.2.2 j hjv (by rw [mixG_length]; exact hj)).1
  refine ⟨by rw [mixG_length]; exact hl, ?_, fun i h1 h2 => ?_⟩
  · have h0 := h.2.1
    rw [mixG_length] at h0 ⊢
    exact hk.own h0 (fun g hg hg' => own_ne h0 hjo hg hg')
  · have hi : i < G.length := by rw [mixG_length] at h2; exact h2
    obtain ⟨o, c⟩ := h.2.2 i h1 (by rw [mixG_length]; exact hi)
    rw [mixG_at k G j i _ hi] at o
    rw [mixG_at k G (j + 1) i h2 hi]
    refine ⟨?_, c⟩
    by_cases e : i = j
    · subst e
      rw [if_pos (by omega), marksN_length]
      exact ho
    · have o2 := hk.own o (fun g hg hg' => e (hd i j h1 hjv g hg hg'))
      by_cases e2 : i < j
      · rw [if_pos (by omega)]
        rw [if_pos e2] at o2
        exact o2
      · rw [if_neg (by omega)]
        rw [if_neg e2] at o2
        exact o2

end Lk
end Go.Proofs.Ytkidkfopnghghaa
