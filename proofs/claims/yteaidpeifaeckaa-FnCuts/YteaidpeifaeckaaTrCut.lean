/-
  How a list of items is cut in groups: the rule, and that the program's way (a first group, and then the rest) follows it.
-/
import Derived.Test.YteaidpeifaeckaaPgMath
namespace Go.Proofs.Yteaidpeifaeckaa
namespace Tr
open Go.RowKit
open Go.Proofs.Yteaidpeifaeckaa.Pg

/-- Whether a key ends a page. -/
def endsB (s : ByteArray) : Bool := ((sumB s : Nat) : Int) % 4 == 0

/-- Whether an item ends its group by its key. -/
def endsAt (k : Int) (x : It) : Bool := decide (k = 1) && endsB x.key

/-- The groups of what is still to come, behind a group of so many bytes that is not at its end. -/
def cutFrom (k : Int) : List It → Nat → List It → List (List It)
  | now, _, [] => if now = [] then [] else [now]
  | now, size, x :: Q =>
    if now ≠ [] ∧ 54 < size + itSize k x then
      now :: (if endsAt k x = true then [x] :: cutFrom k [] 0 Q else cutFrom k [x] (itSize k x) Q)
    else
      (if endsAt k x = true then (now ++ [x]) :: cutFrom k [] 0 Q else cutFrom k (now ++ [x]) (size + itSize k x) Q)

def cutG (k : Int) (Q : List It) : List (List It) := cutFrom k [] 0 Q

theorem cutFrom_nil (k : Int) (x : It) (Q : List It) : cutFrom k [] 0 (x :: Q) = if endsAt k x = true then [x] :: cutFrom k [] 0 Q else cutFrom k [x] (itSize k x) Q := by
  rw [cutFrom]
  simp

/-- The next one would be too much. -/
theorem cutFrom_full (k : Int) (now : List It) (size : Nat) (x : It) (Q : List It) (h0 : now ≠ []) (h : 54 < size + itSize k x) : cutFrom k now size (x :: Q) = now :: cutFrom k [] 0 (x :: Q) := by
  rw [cutFrom_nil, cutFrom, if_pos ⟨h0, h⟩]

theorem cutFrom_ends (k : Int) (now : List It) (size : Nat) (x : It) (Q : List It) (h : ¬ (now ≠ [] ∧ 54 < size + itSize k x)) (he : endsAt k x = true) : cutFrom k now size (x :: Q) = (now ++ [x]) :: cutFrom k [] 0 Q := by
  rw [cutFrom, if_neg h, if_pos he]

theorem cutFrom_on (k : Int) (now : List It) (size : Nat) (x : It) (Q : List It) (h : ¬ (now ≠ [] ∧ 54 < size + itSize k x)) (he : endsAt k x = false) : cutFrom k now size (x :: Q) = cutFrom k (now ++ [x]) (size + itSize k x) Q := by
  rw [cutFrom, if_neg h, if_neg (by rw [he]; simp)]

theorem cutFrom_end (k : Int) (now : List It) (size : Nat) (h : now ≠ []) : cutFrom k now size [] = [now] := by rw [cutFrom, if_neg h]
theorem cutFrom_end0 (k : Int) (size : Nat) : cutFrom k [] size [] = [] := by rw [cutFrom, if_pos rfl]

/-- All groups put together are all items. -/
theorem cutFrom_flat (k : Int) : ∀ (Q now : List It) (size : Nat), (cutFrom k now size Q).flatten = now ++ Q
  | [], now, size => by
    by_cases h : now = []
    · subst h; rw [cutFrom_end0]; rfl
    · rw [cutFrom_end _ _ _ h]; simp
  | x :: Q, now, size => by
    rw [cutFrom]
    have i0 := cutFrom_flat k Q [] 0
    have i1 := cutFrom_flat k Q [x] (itSize k x)
    have i2 := cutFrom_flat k Q (now ++ [x]) (size + itSize k x)
    split <;> split <;> simp [i0, i1, i2]

/-- None is empty. -/
theorem cutFrom_ne (k : Int) : ∀ (Q now : List It) (size : Nat), ∀ g ∈ cutFrom k now size Q, g ≠ []
  | [], now, size => by
    intro g hg
    by_cases h : now = []
    · subst h; rw [cutFrom_end0] at hg; cases hg
    · rw [cutFrom_end _ _ _ h] at hg; simp at hg; rw [hg]; exact h
  | x :: Q, now, size => by
    intro g hg
    rw [cutFrom] at hg
    have i0 := cutFrom_ne k Q [] 0 g
    have i1 := cutFrom_ne k Q [x] (itSize k x) g
    have i2 := cutFrom_ne k Q (now ++ [x]) (size + itSize k x) g
    split at hg
    · rename_i h
      split at hg
      · rcases List.mem_cons.1 hg with rfl | hg
        · exact h.1
        · rcases List.mem_cons.1 hg with rfl | hg
          · simp
          · exact i0 hg
      · rcases List.mem_cons.1 hg with rfl | hg
        · exact h.1
        · exact i1 hg
    · split at hg
      · rcases List.mem_cons.1 hg with rfl | hg
        · simp
        · exact i0 hg
      · exact i2 hg

theorem flat_length_le {α : Type} (G : List (List α)) (h : ∀ g ∈ G, g ≠ []) : G.length ≤ G.flatten.length := by
  induction G with
  | nil => simp
  | cons g G ih =>
    have h1 := ih (fun x hx => h x (List.mem_cons_of_mem _ hx))
    have h2 : 0 < g.length := List.length_pos_iff.2 (h g (List.mem_cons_self ..))
    simp only [List.length_cons, List.flatten_cons, List.length_append]
    omega

theorem cutG_length (k : Int) (Q : List It) : (cutG k Q).length ≤ Q.length := by
  have h := flat_length_le (cutG k Q) (cutFrom_ne k Q [] 0)
  have e : (cutG k Q).flatten = Q := by unfold cutG; rw [cutFrom_flat]; rfl
  rwa [e] at h

theorem cutG_flat (k : Int) (Q : List It) : (cutG k Q).flatten = Q := by unfold cutG; rw [cutFrom_flat]; rfl
end Tr
end Go.Proofs.Yteaidpeifaeckaa
