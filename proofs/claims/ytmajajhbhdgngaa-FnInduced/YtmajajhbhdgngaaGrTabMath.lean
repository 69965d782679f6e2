/-
  The graph of some vertices alone, by a table of worths: what the program's loops over two places of a list bring is what filtering the edges does.
-/
import Derived.Test.YtmajajhbhdgngaaGrIndMath
namespace Go.Proofs.Ytmajajhbhdgngaa
namespace Gr
open Go.RowKit

/-- The worths of the last edge between x and y, or three times -1. -/
def tab (Q : List EdgeI) (x y : Int) : Int × Int × Int := Q.foldl (fun acc e => if e.A = x ∧ e.B = y then (e.W1, e.W2, e.W3) else acc) (-1, -1, -1)

theorem tab_nil (x y : Int) : tab [] x y = (-1, -1, -1) := rfl

theorem tab_snoc (Q : List EdgeI) (e : EdgeI) (x y : Int) : tab (Q ++ [e]) x y = if e.A = x ∧ e.B = y then (e.W1, e.W2, e.W3) else tab Q x y := by
  unfold tab
  rw [List.foldl_append]
  rfl

theorem tab_mem : ∀ (n : Nat) (Q : List EdgeI) (x y : Int), Q.length = n → (tab Q x y = (-1, -1, -1) ∧ ∀ e ∈ Q, ¬ (e.A = x ∧ e.B = y)) ∨ ∃ e ∈ Q, e.A = x ∧ e.B = y ∧ tab Q x y = (e.W1, e.W2, e.W3)
  | 0, Q, x, y, h => by
    obtain rfl := List.eq_nil_of_length_eq_zero h
    exact .inl ⟨rfl, by simp⟩
  | n + 1, Q, x, y, h => by
    obtain ⟨R, e, rfl⟩ : ∃ R e, Q = R ++ [e] := ⟨Q.dropLast, Q.getLast (by intro h0; rw [h0] at h; simp at h), (List.dropLast_concat_getLast _).symm⟩
    rw [tab_snoc]
    by_cases he : e.A = x ∧ e.B = y
    · rw [if_pos he]
      exact .inr ⟨e, by simp, he.1, he.2, rfl⟩
    · rw [if_neg he]
      rcases tab_mem n R x y (by simpa using h) with ⟨h1, h2⟩ | ⟨p, hp, h1, h2, h3⟩
      · refine .inl ⟨h1, fun q hq => ?_⟩
        rcases List.mem_append.1 hq with hq | hq
        · exact h2 q hq
        · simp at hq; subst hq; exact he
      · exact .inr ⟨p, by simp [hp], h1, h2, h3⟩

/-- The edge from the place a to the place b, if there is one. -/
def tabE (Q : List EdgeI) (x : Int) (a : Nat) (y : Int) (b : Nat) : List EdgeI :=
  if tab Q x y = (-1, -1, -1) then [] else [⟨(a : Int), (b : Int), (tab Q x y).1, (tab Q x y).2.1, (tab Q x y).2.2⟩]

/-- The edges from the place a to the places from b on. -/
def rowFrom (Q : List EdgeI) (x : Int) (a : Nat) : Nat → List Int → List EdgeI
  | _, [] => []
  | b, y :: r => tabE Q x a y b ++ rowFrom Q x a (b + 1) r

/-- The edges from the places from a on. -/
def allFrom (Q : List EdgeI) : Nat → List Int → List EdgeI
  | _, [] => []
  | a, x :: r => rowFrom Q x a (a + 1) r ++ allFrom Q (a + 1) r

theorem row_step (Q : List EdgeI) (x : Int) (a b : Nat) (K : List Int) (h : b < K.length) : rowFrom Q x a b (K.drop b) = tabE Q x a K[b] b ++ rowFrom Q x a (b + 1) (K.drop (b + 1)) := by
  rw [← List.getElem_cons_drop h]
  rfl

theorem all_step (Q : List EdgeI) (a : Nat) (K : List Int) (h : a < K.length) : allFrom Q a (K.drop a) = rowFrom Q K[a] a (a + 1) (K.drop (a + 1)) ++ allFrom Q (a + 1) (K.drop (a + 1)) := by
  rw [← List.getElem_cons_drop h]
  rfl

theorem mem_tabE {Q : List EdgeI} {x y : Int} {a b : Nat} {e : EdgeI} : e ∈ tabE Q x a y b ↔ tab Q x y ≠ (-1, -1, -1) ∧ e = ⟨(a : Int), (b : Int), (tab Q x y).1, (tab Q x y).2.1, (tab Q x y).2.2⟩ := by
  unfold tabE
  split
  · rename_i h; simp [h]
  · rename_i h; simp [h]

theorem mem_row {Q : List EdgeI} {x : Int} {a : Nat} {e : EdgeI} : ∀ (r : List Int) (b : Nat), e ∈ rowFrom Q x a b r ↔ ∃ j y, r[j]? = some y ∧ e ∈ tabE Q x a y (b + j)
  | [], b => by simp [rowFrom]
  | z :: r, b => by
    unfold rowFrom
    rw [List.mem_append, mem_row r (b + 1)]
    constructor
    · rintro (h | ⟨j, y, h1, h2⟩)
      · exact ⟨0, z, rfl, h⟩
      · exact ⟨j + 1, y, by simpa using h1, by rw [← Nat.add_assoc, Nat.add_right_comm]; exact h2⟩
    · rintro ⟨j, y, h1, h2⟩
      cases j with
      | zero => simp at h1; subst h1; exact .inl h2
      | succ j => exact .inr ⟨j, y, by simpa using h1, by rw [Nat.add_right_comm, Nat.add_assoc]; exact h2⟩

theorem mem_all {Q : List EdgeI} {e : EdgeI} : ∀ (r : List Int) (a : Nat), e ∈ allFrom Q a r ↔ ∃ i j x y, i < j ∧ r[i]? = some x ∧ r[j]? = some y ∧ e ∈ tabE Q x (a + i) y (a + j)
  | [], a => by simp [allFrom]
  | z :: r, a => by
    unfold allFrom
    rw [List.mem_append, mem_row r (a + 1), mem_all r (a + 1)]
    constructor
    · rintro (⟨j, y, h1, h2⟩ | ⟨i, j, x, y, hij, h1, h2, h3⟩)
      · exact ⟨0, j + 1, z, y, by omega, rfl, by simpa using h1, by rw [Nat.add_right_comm, Nat.add_assoc] at h2; exact h2⟩
      · refine ⟨i + 1, j + 1, x, y, by omega, by simpa using h1, by simpa using h2, ?_⟩
        rw [show a + (i + 1) = a + 1 + i by omega, show a + (j + 1) = a + 1 + j by omega]
        exact h3
    · rintro ⟨i, j, x, y, hij, h1, h2, h3⟩
      obtain ⟨j, rfl⟩ : ∃ k, j = k + 1 := ⟨j - 1, by omega⟩
      cases i with
      | zero =>
        simp at h1
        subst h1
        refine .inl ⟨j, y, by simpa using h2, ?_⟩
        rw [show a + 1 + j = a + (j + 1) by omega]
        exact h3
      | succ i =>
        refine .inr ⟨i, j, x, y, by omega, by simpa using h1, by simpa using h2, ?_⟩
        rw [show a + 1 + i = a + (i + 1) by omega, show a + 1 + j = a + (j + 1) by omega]
        exact h3

theorem tabE_AB {Q : List EdgeI} {x y : Int} {a b : Nat} {e : EdgeI} (h : e ∈ tabE Q x a y b) : e.A = (a : Int) ∧ e.B = (b : Int) := by
  obtain ⟨_, rfl⟩ := mem_tabE.1 h
  exact ⟨rfl, rfl⟩

theorem sorted_row {Q : List EdgeI} {x : Int} {a : Nat} : ∀ (r : List Int) (b : Nat), (rowFrom Q x a b r).Pairwise (fun p e => ahead p e = true)
  | [], b => List.Pairwise.nil
  | z :: r, b => by
    unfold rowFrom
    rw [List.pairwise_append]
    refine ⟨?_, sorted_row r (b + 1), fun p hp e he => ?_⟩
    · unfold tabE
      split <;> simp
    · obtain ⟨hA, hB⟩ := tabE_AB hp
      obtain ⟨j, y, _, h2⟩ := (mem_row r (b + 1)).1 he
      obtain ⟨hA2, hB2⟩ := tabE_AB h2
      rw [ahead_iff]
      omega

theorem sorted_all {Q : List EdgeI} : ∀ (r : List Int) (a : Nat), (allFrom Q a r).Pairwise (fun p e => ahead p e = true)
  | [], b => List.Pairwise.nil
  | z :: r, a => by
    unfold allFrom
    rw [List.pairwise_append]
    refine ⟨sorted_row r (a + 1), sorted_all r (a + 1), fun p hp e he => ?_⟩
    obtain ⟨j, y, _, h2⟩ := (mem_row r (a + 1)).1 hp
    obtain ⟨hA, _⟩ := tabE_AB h2
    obtain ⟨i, j, x, y, _, _, _, h3⟩ := (mem_all r (a + 1)).1 he
    obtain ⟨hA2, _⟩ := tabE_AB h3
    rw [ahead_iff]
    omega

theorem ahead_irrefl (e : EdgeI) : ¬ ahead e e = true := by rw [ahead_iff]; omega

/-- Two rows that are in order and have the same edges are one. -/
theorem sorted_eq : ∀ (L M : List EdgeI), L.Pairwise (fun p e => ahead p e = true) → M.Pairwise (fun p e => ahead p e = true) → (∀ e, e ∈ L ↔ e ∈ M) → L = M
  | [], [], _, _, _ => rfl
  | [], m :: M, _, _, h => absurd ((h m).2 List.mem_cons_self) (by simp)
  | l :: L, [], _, _, h => absurd ((h l).1 List.mem_cons_self) (by simp)
  | l :: L, m :: M, hL, hM, h => by
    rw [List.pairwise_cons] at hL hM
    have e : l = m := by
      rcases List.mem_cons.1 ((h l).1 List.mem_cons_self) with e | h1
      · exact e
      rcases List.mem_cons.1 ((h m).2 List.mem_cons_self) with e | h2
      · exact e.symm
      · exact absurd (ahead_trans (hM.1 l h1) (hL.1 m h2)) (ahead_irrefl m)
    subst e
    rw [sorted_eq L M hL.2 hM.2 (fun e => ?_)]
    constructor
    · intro he
      rcases List.mem_cons.1 ((h e).1 (List.mem_cons_of_mem _ he)) with rfl | h1
      · exact absurd (hL.1 e he) (ahead_irrefl e)
      · exact h1
    · intro he
      rcases List.mem_cons.1 ((h e).2 (List.mem_cons_of_mem _ he)) with rfl | h1
      · exact absurd (hM.1 e he) (ahead_irrefl e)
      · exact h1

/-- A worth that is right is not -1. -/
theorem worth_ne {x : Int} (h : worthOk x = true) : x ≠ -1 := by
  unfold worthOk at h
  simp at h
  omega

theorem asc_sound (s : Int) : ∀ (K : List Int) (p : Option Int), ascFrom s p K = true → K.Pairwise (· < ·) ∧ (∀ x ∈ K, 0 ≤ x ∧ x < s) ∧ ∀ q, p = some q → ∀ x ∈ K, q < x
  | [], _, _ => ⟨List.Pairwise.nil, by simp, by simp⟩
  | y :: r, p, h => by
    unfold ascFrom at h
    simp only [Bool.and_eq_true, decide_eq_true_eq] at h
    obtain ⟨⟨h1, h2⟩, h3, h4⟩ := h
    obtain ⟨i1, i2, i3⟩ := asc_sound s r (some y) h4
    refine ⟨List.Pairwise.cons (fun x hx => i3 y rfl x hx) i1, fun x hx => ?_, fun q hq x hx => ?_⟩
    · rcases List.mem_cons.1 hx with rfl | hx
      · omega
      · exact i2 x hx
    · subst hq
      have h3' : q < y := by simpa using h3
      rcases List.mem_cons.1 hx with rfl | hx
      · exact h3'
      · have := i3 y rfl x hx
        omega

theorem all_ind {s : Int} {Q : List EdgeI} {K : List Int} (hg : graphOk s Q = true) (ha : ascFrom s none K = true) : allFrom Q 0 K = indL K Q := by
  obtain ⟨hK, hin, _⟩ := asc_sound s K none ha
  obtain ⟨h0, h1, h2, h3⟩ := graph_sound hg
  refine sorted_eq _ _ (sorted_all K 0) ?_ (fun e => ?_)
  · unfold indL
    rw [List.pairwise_filterMap]
    refine h3.imp (fun {p e} hpe x hx y hy => ?_)
    obtain ⟨i, j, hi, hj, rfl⟩ := indE_some hx
    obtain ⟨i', j', hi', hj', rfl⟩ := indE_some hy
    rw [ahead_iff] at hpe ⊢
    have m1 := mono_at hK hi hi'
    have m2 := mono_at hK hj hj'
    rcases hpe with h | ⟨h, h'⟩
    · left
      have := m1.1.2 h
      show (i : Int) < (i' : Int)
      omega
    · right
      have := m1.2.2 h
      have := m2.1.2 h'
      refine ⟨?_, ?_⟩
      · show (i : Int) = (i' : Int); omega
      · show (j : Int) < (j' : Int); omega
  · rw [mem_all K 0]
    constructor
    · rintro ⟨i, j, x, y, hij, hx, hy, he⟩
      obtain ⟨hne, rfl⟩ := mem_tabE.1 he
      rcases tab_mem _ Q x y rfl with ⟨h, _⟩ | ⟨p, hp, hA, hB, ht⟩
      · exact absurd h hne
      · refine List.mem_filterMap.2 ⟨p, hp, ?_⟩
        rw [ht]
        simp only [Nat.zero_add]
        exact indE_of hK (by rw [hA]; exact hx) (by rw [hB]; exact hy)
    · intro he
      obtain ⟨p, hp, hpe⟩ := List.mem_filterMap.1 he
      obtain ⟨i, j, hi, hj, rfl⟩ := indE_some hpe
      have hee := (edgeOk_iff s p).1 (h2 p hp)
      refine ⟨i, j, p.A, p.B, ((mono_at hK hi hj).1).2 hee.2.1, hi, hj, mem_tabE.2 ?_⟩
      rcases tab_mem _ Q p.A p.B rfl with ⟨_, h⟩ | ⟨q, hq, hA, hB, ht⟩
      · exact absurd ⟨rfl, rfl⟩ (h p hp)
      · obtain rfl := same_edge h3 hq hp hA hB
        rw [ht]
        refine ⟨fun e => worth_ne hee.2.2.2.1 (congrArg Prod.fst e), ?_⟩
        simp
end Gr
end Go.Proofs.Ytmajajhbhdgngaa
