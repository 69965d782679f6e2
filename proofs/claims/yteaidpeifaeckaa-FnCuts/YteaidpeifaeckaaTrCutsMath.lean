/-
  Of the groups that a list is cut in: each that has more than one item is small enough for a page.
-/
import Derived.Test.YteaidpeifaeckaaTrCut
namespace Go.Proofs.Yteaidpeifaeckaa
namespace Tr
open Go.RowKit
open Go.Proofs.Yteaidpeifaeckaa.Pg

/-- The bytes of a group. -/
def totG (k : Int) (g : List It) : Nat := (g.map (itSize k)).sum

theorem totG_snoc (k : Int) (g : List It) (x : It) : totG k (g ++ [x]) = totG k g + itSize k x := by
  unfold totG
  rw [List.map_append, List.sum_append]
  simp

theorem totG_take (k : Int) (g : List It) (j : Nat) (h : j < g.length) : totG k (g.take (j + 1)) = totG k (g.take j) + itSize k g[j] := by
  rw [List.take_succ_eq_append_getElem h, totG_snoc]

/-- One alone, or small. -/
def FitsG (k : Int) (g : List It) : Prop := g.length ≤ 1 ∨ totG k g ≤ 54

theorem fits_one (k : Int) (x : It) : FitsG k [x] := .inl (by simp)

theorem cutFrom_fits (k : Int) : ∀ (Q now : List It) (size : Nat), size = totG k now → FitsG k now → ∀ g ∈ cutFrom k now size Q, FitsG k g
  | [], now, size, hs, hn => by
    intro g hg
    by_cases h : now = []
    · subst h; rw [cutFrom_end0] at hg; simp at hg
    · rw [cutFrom_end _ _ _ h] at hg
      obtain rfl := List.mem_singleton.1 hg
      exact hn
  | x :: Q, now, size, hs, hn => by
    have i0 := cutFrom_fits k Q [] 0 rfl (.inl (by simp))
    have i1 := cutFrom_fits k Q [x] (itSize k x) (by simp [totG]) (fits_one k x)
    have i2 := cutFrom_fits k Q (now ++ [x]) (size + itSize k x) (by rw [totG_snoc, hs])
    intro g hg
    rw [cutFrom] at hg
    split at hg
    · rcases List.mem_cons.1 hg with rfl | hg
      · exact hn
      · split at hg
        · rcases List.mem_cons.1 hg with rfl | hg
          · exact fits_one k x
          · exact i0 g hg
        · exact i1 g hg
    · rename_i hc
      have hf : FitsG k (now ++ [x]) := by
        by_cases h : now = []
        · subst h; exact fits_one k x
        · refine .inr ?_
          rw [totG_snoc, ← hs]
          exact Nat.le_of_not_lt (fun h' => hc ⟨h, h'⟩)
      split at hg
      · rcases List.mem_cons.1 hg with rfl | hg
        · exact hf
        · exact i0 g hg
      · exact i2 hf g hg

theorem cutG_fits (k : Int) (Q : List It) : ∀ g ∈ cutG k Q, FitsG k g := cutFrom_fits k Q [] 0 rfl (.inl (by simp))

/-- The item that is the j-th of the i-th group. -/
theorem flat_at {α : Type} : ∀ (G : List (List α)) (i j : Nat) (hi : i < G.length) (hj : j < G[i].length), G.flatten[(G.take i).flatten.length + j]? = some (G[i][j])
  | [], i, j, hi, _ => by simp at hi
  | g :: G, 0, j, _, hj => by
    have hj' : j < g.length := hj
    simp only [List.flatten_cons, List.take_zero, List.flatten_nil, List.length_nil, Nat.zero_add]
    rw [List.getElem?_append_left hj', List.getElem?_eq_getElem hj']
    rfl
  | g :: G, i + 1, j, hi, hj => by
    have hi' : i < G.length := by simpa using hi
    have h := flat_at G i j hi' (by simpa using hj)
    simp only [List.flatten_cons, List.take_succ_cons, List.length_append, List.getElem_cons_succ]
    rw [List.getElem?_append_right (by omega), show g.length + (G.take i).flatten.length + j - g.length = (G.take i).flatten.length + j by omega]
    exact h

theorem flat_take {α : Type} (G : List (List α)) (i : Nat) (hi : i < G.length) : (G.take (i + 1)).flatten.length = (G.take i).flatten.length + G[i].length := by
  rw [List.take_succ_eq_append_getElem hi, List.flatten_append, List.length_append]
  simp

end Tr
end Go.Proofs.Yteaidpeifaeckaa
