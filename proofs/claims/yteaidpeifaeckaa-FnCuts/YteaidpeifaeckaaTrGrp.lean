/-
  Rows of rows of items that a call has made, and the contracts of what the laws do with them: equality, marks.
-/
import Derived.Test.YteaidpeifaeckaaPgMark
import Derived.Test.YteaidpeifaeckaaPgEq
namespace Go.Proofs.Yteaidpeifaeckaa
namespace Tr
open Go.RowKit
open Go.Proofs.Yteaidpeifaeckaa.Pg

theorem infoRow : (Try.prog.info? 24).map (fun i => (i.zero, i.size, i.bytes)) = some (some (.slice none 0 0), 1, 24) := by kernel_rfl

/-- A row of rows of items, all of it made by a call: no block below B; the rows lie below C. -/
def Grps (w : World) (B C : Nat) (v : Value) (vs : List Value) (G : List (List It)) : Prop :=
  vs.length = G.length ∧ w.ownsRow B 24 1 v G.length vs ∧ ∀ j (h1 : j < vs.length) (h2 : j < G.length), w.ownsRow B 30 3 vs[j] G[j].length (itsV G[j]) ∧ ∀ g, vs[j].ownBlock = some g → g < C

/-- No two of the rows lie in one block. -/
def Dist (vs : List Value) : Prop := ∀ i j (hi : i < vs.length) (hj : j < vs.length) g, vs[i].ownBlock = some g → vs[j].ownBlock = some g → i = j

theorem own_ne {w : World} {B B' n m g : Nat} {v u : Value} {xs ys : List Value} (h : w.ownsRow B 24 1 v n xs) (h' : w.ownsRow B' 30 3 u m ys) (hg : v.ownBlock = some g) (hg' : u.ownBlock = some g) : False := by
  rcases h.2 with ⟨rfl, _⟩ | ⟨g1, cap, cur, rfl, _, hh, _⟩
  · cases hg
  · rcases h'.2 with ⟨rfl, _⟩ | ⟨g2, cap2, cur2, rfl, _, hh2, _⟩
    · cases hg'
    · have e1 : g1 = g := Option.some.inj hg
      have e2 : g2 = g := Option.some.inj hg'
      subst e1 e2
      rw [hh] at hh2
      simp at hh2

theorem row_shape {w : World} {B e n : Nat} {v : Value} {xs : List Value} (h : w.ownsRow B e 1 v n xs) : ∃ A c, v = .slice A n c := by
  rcases h.2 with ⟨rfl, h0⟩ | ⟨g, cap, cur, rfl, _⟩
  · exact ⟨none, 0, by rw [h0]⟩
  · exact ⟨_, _, rfl⟩

theorem Grps.below {w w' : World} {B C : Nat} {v : Value} {vs : List Value} {G : List (List It)} (h : Grps w B C v vs G) (hb : Below w.heap.size w w') : Grps w' B C v vs G :=
  ⟨h.1, own_below h.2.1 hb, fun j h1 h2 => ⟨own_below (h.2.2 j h1 h2).1 hb, (h.2.2 j h1 h2).2⟩⟩

theorem Grps.mono {w : World} {B C C' : Nat} {v : Value} {vs : List Value} {G : List (List It)} (h : Grps w B C v vs G) (hC : C ≤ C') : Grps w B C' v vs G :=
  ⟨h.1, h.2.1, fun j h1 h2 => ⟨(h.2.2 j h1 h2).1, fun g hg => Nat.lt_of_lt_of_le ((h.2.2 j h1 h2).2 g hg) hC⟩⟩

theorem Grps.lower {w : World} {B B' C : Nat} {v : Value} {vs : List Value} {G : List (List It)} (h : Grps w B C v vs G) (hB : B' ≤ B) : Grps w B' C v vs G :=
  ⟨h.1, own_lower hB h.2.1, fun j h1 h2 => ⟨own_lower hB (h.2.2 j h1 h2).1, (h.2.2 j h1 h2).2⟩⟩

theorem Grps.kept {S : Nat → Prop} {w w' : World} {B C : Nat} {v : Value} {vs : List Value} {G : List (List It)} (h : Grps w B C v vs G) (hk : Kept S w w') (hS : ∀ g, v.ownBlock = some g → ¬ S g)
    (hT : ∀ j (h1 : j < vs.length) g, vs[j].ownBlock = some g → ¬ S g) : Grps w' B C v vs G :=
  ⟨h.1, hk.own h.2.1 hS, fun j h1 h2 => ⟨hk.own (h.2.2 j h1 h2).1 (hT j h1), (h.2.2 j h1 h2).2⟩⟩

/-- Every block of it lies at B or behind, and was there. -/
theorem Grps.blk {w : World} {B C : Nat} {v : Value} {vs : List Value} {G : List (List It)} (h : Grps w B C v vs G) : (∀ g, v.ownBlock = some g → B ≤ g ∧ g < w.heap.size) ∧ ∀ j (h1 : j < vs.length) g, vs[j].ownBlock = some g → B ≤ g ∧ g < w.heap.size :=
  ⟨h.2.1.lt, fun j h1 => (h.2.2 j h1 (by rw [← h.1]; exact h1)).1.lt⟩

/-- What is turned outside of it leaves it as it is. -/
theorem Grps.keptB {S : Nat → Prop} {w w' : World} {B C : Nat} {v : Value} {vs : List Value} {G : List (List It)} (h : Grps w B C v vs G) (hk : Kept S w w') (hS : ∀ g, B ≤ g → g < w.heap.size → ¬ S g) : Grps w' B C v vs G :=
  h.kept hk (fun g hg => hS g (h.blk.1 g hg).1 (h.blk.1 g hg).2) (fun j h1 g hg => hS g (h.blk.2 j h1 g hg).1 (h.blk.2 j h1 g hg).2)

theorem Grps.snoc {w w1 : World} {B C C' : Nat} {v v' u : Value} {vs : List Value} {G : List (List It)} {q : List It} (h : Grps w B C v vs G) (hu : w.ownsRow B 30 3 u q.length (itsV q)) (huC : ∀ g, u.ownBlock = some g → g < C') (hC : C ≤ C')
    (hown : w1.ownsRow B 24 1 v' (G.length + 1) (vs ++ [u])) (hk : Kept (fun g => v.ownBlock = some g) w w1) : Grps w1 B C' v' (vs ++ [u]) (G ++ [q]) := by
  refine ⟨by simp [h.1], by simpa using hown, fun j h1 h2 => ?_⟩
  have hl := h.1
  by_cases hj : j < vs.length
  · have hj2 : j < G.length := by omega
    have e1 : (vs ++ [u])[j] = vs[j] := List.getElem_append_left hj
    have e2 : (G ++ [q])[j] = G[j] := List.getElem_append_left hj2
    rw [e1, e2]
    obtain ⟨ho, hc⟩ := h.2.2 j hj hj2
    exact ⟨hk.own ho (fun g hg hg' => own_ne h.2.1 ho hg' hg), fun g hg => Nat.lt_of_lt_of_le (hc g hg) hC⟩
  · have hj3 : j = vs.length := by simp at h1; omega
    subst hj3
    have e1 : (vs ++ [u])[vs.length] = u := by simp
    have e2 : (G ++ [q])[vs.length] = q := by rw [List.getElem_append_right (by omega)]; simp [hl]
    rw [e1, e2]
    exact ⟨hk.own hu (fun g hg hg' => own_ne h.2.1 hu hg' hg), huC⟩

theorem Dist.nil : Dist [] := fun i _ hi => by simp at hi

theorem Dist.snoc {vs : List Value} {u : Value} {C : Nat} (h : Dist vs) (hC : ∀ j (h1 : j < vs.length) g, vs[j].ownBlock = some g → g < C) (hu : ∀ g, u.ownBlock = some g → C ≤ g) : Dist (vs ++ [u]) := by
  intro i j hi hj g hgi hgj
  by_cases hi' : i < vs.length
  · rw [List.getElem_append_left hi'] at hgi
    by_cases hj' : j < vs.length
    · rw [List.getElem_append_left hj'] at hgj
      exact h i j hi' hj' g hgi hgj
    · have e : j = vs.length := by simp at hj; omega
      subst e
      have e1 : (vs ++ [u])[vs.length] = u := by simp
      rw [e1] at hgj
      have := hC i hi' g hgi
      have := hu g hgj
      omega
  · have e : i = vs.length := by simp at hi; omega
    subst e
    have e1 : (vs ++ [u])[vs.length] = u := by simp
    rw [e1] at hgi
    by_cases hj' : j < vs.length
    · rw [List.getElem_append_left hj'] at hgj
      have := hC j hj' g hgj
      have := hu g hgi
      omega
    · simp at hj; omega

end Tr
end Go.Proofs.Yteaidpeifaeckaa
