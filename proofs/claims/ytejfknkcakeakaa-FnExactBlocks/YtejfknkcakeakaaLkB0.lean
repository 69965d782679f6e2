/-
  The set that blocks, as mathematics: sets of vertices as numbers, which set is the better one, the best of all in both programs' orders.
-/
import Derived.Test.YtejfknkcakeakaaLkA
import Derived.Test.YtejfknkcakeakaaLkY
namespace Go.Proofs.Ytejfknkcakeakaa
namespace Lk

/-! ### Lists -/

theorem ahead_trans' : ∀ (A B C : List Int), A.length = B.length → B.length = C.length → aheadF A B = true → aheadF B C = true → aheadF A C = true
  | [], [], C, _, _, h, _ => by simp [aheadF] at h
  | x :: a, y :: b, z :: c, h1, h2, hab, hbc => by
    have l1 : a.length = b.length := by simpa using h1
    have l2 : b.length = c.length := by simpa using h2
    unfold aheadF at hab hbc ⊢
    by_cases e1 : x = y
    · subst e1
      rw [if_neg (by simp)] at hab
      by_cases e2 : x = z
      · subst e2
        rw [if_neg (by simp)] at hbc ⊢
        exact ahead_trans' a b c l1 l2 hab hbc
      · rw [if_pos e2] at hbc ⊢
        exact hbc
    · rw [if_pos e1] at hab
      have hxy : x < y := by simpa using hab
      by_cases e2 : y = z
      · subst e2
        rw [if_pos e1]
        exact hab
      · rw [if_pos e2] at hbc
        have hyz : y < z := by simpa using hbc
        rw [if_pos (by omega)]
        simp; omega

theorem ahead_total : ∀ (A B : List Int), A.length = B.length → A = B ∨ aheadF A B = true ∨ aheadF B A = true
  | [], [], _ => .inl rfl
  | x :: a, y :: b, h => by
    have l1 : a.length = b.length := by simpa using h
    unfold aheadF
    by_cases e : x = y
    · subst e
      rcases ahead_total a b l1 with h1 | h1 | h1
      · exact .inl (by rw [h1])
      · exact .inr (.inl (by rw [if_neg (by simp)]; exact h1))
      · exact .inr (.inr (by rw [if_neg (by simp)]; exact h1))
    · rcases Int.lt_or_gt_of_ne e with h1 | h1
      · exact .inr (.inl (by rw [if_pos e]; simpa using h1))
      · exact .inr (.inr (by rw [if_pos (Ne.symm e)]; simpa using h1))

theorem ahead_irrefl : ∀ (A : List Int), aheadF A A = false
  | [] => by simp [aheadF]
  | x :: a => by unfold aheadF; rw [if_neg (by simp)]; exact ahead_irrefl a

theorem ahead_same (x : Int) (A B : List Int) : aheadF (x :: A) (x :: B) = aheadF A B := by
  show (if x ≠ x then _ else _) = _
  rw [if_neg (by simp)]

theorem ahead_app (P A B : List Int) : aheadF (P ++ A) (P ++ B) = aheadF A B := by
  induction P with
  | nil => rfl
  | cons x r ih => rw [List.cons_append, List.cons_append, ahead_same]; exact ih

/-! ### Sets as numbers, the first vertex the highest figure -/

def num : Nat → (Nat → Bool) → Nat
  | 0, _ => 0
  | n + 1, f => 2 * num n f + (if f n = true then 1 else 0)

theorem num_congr : ∀ (n : Nat) (f g : Nat → Bool), (∀ u, u < n → f u = g u) → num n f = num n g
  | 0, _, _, _ => rfl
  | n + 1, f, g, h => by
    unfold num
    rw [num_congr n f g (fun u hu => h u (by omega)), h n (by omega)]

theorem num_inj : ∀ (n : Nat) (f g : Nat → Bool), num n f = num n g → ∀ u, u < n → f u = g u
  | 0, _, _, _, u, hu => absurd hu (by omega)
  | n + 1, f, g, h, u, hu => by
    unfold num at h
    have h1 : num n f = num n g ∧ f n = g n := by
      cases hf : f n <;> cases hg : g n <;> rw [hf, hg] at h <;> simp at h ⊢ <;> omega
    by_cases e : u = n
    · subst e; exact h1.2
    · exact num_inj n f g h1.1 u (by omega)

/-- The set behind one: the last vertex that it has goes, all behind that one come in. -/
def decF (n k : Nat) (f : Nat → Bool) : Nat → Bool := fun u => if u = k then false else if k < u ∧ u < n then true else f u

theorem num_dec (f : Nat → Bool) (k : Nat) (hk : f k = true) : ∀ d, (∀ u, k < u → u < k + 1 + d → f u = false) → num (k + 1 + d) (decF (k + 1 + d) k f) + 1 = num (k + 1 + d) f
  | 0, _ => by
    have e : num k (decF (k + 1 + 0) k f) = num k f := num_congr k _ _ (fun u hu => by unfold decF; rw [if_neg (by omega), if_neg (by omega)])
    show 2 * num k (decF (k + 1 + 0) k f) + (if decF (k + 1 + 0) k f k = true then 1 else 0) + 1 = 2 * num k f + (if f k = true then 1 else 0)
    rw [e, hk]
    unfold decF
    simp
  | d + 1, h => by
    have ih := num_dec f k hk d (fun u h1 h2 => h u h1 (by omega))
    have e : num (k + 1 + d) (decF (k + 1 + (d + 1)) k f) = num (k + 1 + d) (decF (k + 1 + d) k f) := num_congr _ _ _ (fun u hu => by
      unfold decF
      by_cases e1 : u = k
      · simp [e1]
      · rw [if_neg e1, if_neg e1]
        by_cases e2 : k < u
        · rw [if_pos ⟨e2, by omega⟩, if_pos ⟨e2, by omega⟩]
        · rw [if_neg (by omega), if_neg (by omega)])
    show 2 * num (k + 1 + d) (decF (k + 1 + (d + 1)) k f) + (if decF (k + 1 + (d + 1)) k f (k + 1 + d) = true then 1 else 0) + 1 = 2 * num (k + 1 + d) f + (if f (k + 1 + d) = true then 1 else 0)
    rw [e, h (k + 1 + d) (by omega) (by omega)]
    have e3 : decF (k + 1 + (d + 1)) k f (k + 1 + d) = true := by
      unfold decF
      rw [if_neg (by omega), if_pos (by omega)]
    rw [e3]
    simp
    omega

theorem num_zero : ∀ (n : Nat) (f : Nat → Bool), (∀ u, u < n → f u = false) → num n f = 0
  | 0, _, _ => rfl
  | n + 1, f, h => by
    unfold num
    rw [num_zero n f (fun u hu => h u (by omega)), h n (by omega)]
    rfl

theorem num_all : ∀ (n : Nat) (f g : Nat → Bool), (∀ u, u < n → g u = true) → num n f ≤ num n g
  | 0, _, _, _ => Nat.le_refl _
  | n + 1, f, g, h => by
    have := num_all n f g (fun u hu => h u (by omega))
    unfold num
    rw [h n (by omega)]
    split <;> simp <;> omega

theorem setTo_lt (f : Nat → Bool) (k : Nat) : ∀ x ∈ setTo f k, 0 ≤ x ∧ x < (k : Int) := fun x hx => by
  unfold setTo at hx
  obtain ⟨j, hj, rfl⟩ := List.mem_map.1 hx
  have := List.mem_range.1 (List.mem_filter.1 hj).1
  omega

/-- Of two sets of one size the one with the greater number stands ahead as a list. -/
theorem num_ahead : ∀ (n : Nat) (f g : Nat → Bool), num n g < num n f → (setTo f n).length = (setTo g n).length → aheadF (setTo f n) (setTo g n) = true
  | 0, _, _, h, _ => absurd h (by simp [num])
  | n + 1, f, g, h, hl => by
    unfold num at h
    rcases Nat.lt_trichotomy (num n g) (num n f) with h1 | h1 | h1
    · -- they differ ahead
      have h2 := num_first n f g h1
      obtain ⟨P, A, B, x, hf, hg, hB⟩ := h2
      have ef : ∃ A', setTo f (n + 1) = P ++ x :: A' := by
        cases hq : f n
        · rw [setTo_out hq, hf]; exact ⟨A, rfl⟩
        · rw [setTo_in hq, hf]; exact ⟨A ++ [(n : Int)], by simp⟩
      obtain ⟨A', ef⟩ := ef
      have eg : ∃ B', setTo g (n + 1) = P ++ B' ∧ ∀ y ∈ B', x < y := by
        have hx : x < (n : Int) := (setTo_lt f n x (by rw [hf]; simp)).2
        cases hq : g n
        · rw [setTo_out hq, hg]; exact ⟨B, rfl, hB⟩
        · rw [setTo_in hq, hg]
          refine ⟨B ++ [(n : Int)], by simp, fun y hy => ?_⟩
          rcases List.mem_append.1 hy with hy | hy
          · exact hB y hy
          · have : y = (n : Int) := by simpa using hy
            omega
      obtain ⟨B', eg, hB'⟩ := eg
      rw [ef, eg] at hl ⊢
      rw [ahead_app]
      cases B' with
      | nil => simp at hl
      | cons y r =>
        have hxy := hB' y (by simp)
        unfold aheadF
        rw [if_pos (by omega)]
        simpa using hxy
    · rw [h1] at h
      have hf : f n = true := by
        cases hq : f n
        · rw [hq] at h; simp at h; split at h <;> omega
        · rfl
      have hg : g n = false := by
        cases hq : g n
        · rfl
        · rw [hq, hf] at h; simp at h
      have hs : setTo f n = setTo g n := setTo_congr (fun u hu => num_inj n f g h1.symm u hu)
      rw [setTo_in hf, setTo_out hg, hs] at hl
      simp at hl
    · exfalso
      have hb : ∀ b : Bool, (if b = true then 1 else 0) ≤ 1 := fun b => by cases b <;> simp
      have := hb (f n)
      have := hb (g n)
      omega
where
  num_first : ∀ (n : Nat) (f g : Nat → Bool), num n g < num n f → ∃ P A B x, setTo f n = P ++ x :: A ∧ setTo g n = P ++ B ∧ ∀ y ∈ B, x < y
    | 0, _, _, h => absurd h (by simp [num])
    | n + 1, f, g, h => by
      unfold num at h
      rcases Nat.lt_trichotomy (num n g) (num n f) with h1 | h1 | h1
      · obtain ⟨P, A, B, x, hf, hg, hB⟩ := num_first n f g h1
        have hx : x < (n : Int) := (setTo_lt f n x (by rw [hf]; simp)).2
        have ef : ∃ A', setTo f (n + 1) = P ++ x :: A' := by
          cases hq : f n
          · rw [setTo_out hq, hf]; exact ⟨A, rfl⟩
          · rw [setTo_in hq, hf]; exact ⟨A ++ [(n : Int)], by simp⟩
        obtain ⟨A', ef⟩ := ef
        cases hq : g n
        · exact ⟨P, A', B, x, ef, by rw [setTo_out hq, hg], hB⟩
        · refine ⟨P, A', B ++ [(n : Int)], x, ef, by rw [setTo_in hq, hg]; simp, fun y hy => ?_⟩
          rcases List.mem_append.1 hy with hy | hy
          · exact hB y hy
          · have : y = (n : Int) := by simpa using hy
            omega
      · rw [h1] at h
        have hf : f n = true := by
          cases hq : f n
          · rw [hq] at h; simp at h; split at h <;> omega
          · rfl
        have hg : g n = false := by
          cases hq : g n
          · rfl
          · rw [hq, hf] at h; simp at h
        have hs : setTo f n = setTo g n := setTo_congr (fun u hu => num_inj n f g h1.symm u hu)
        exact ⟨setTo g n, [], [], (n : Int), by rw [setTo_in hf, hs], by rw [setTo_out hg]; simp, fun y hy => by cases hy⟩
      · exfalso
        have hb : ∀ b : Bool, (if b = true then 1 else 0) ≤ 1 := fun b => by cases b <;> simp
        have := hb (f n)
        have := hb (g n)
        omega

/-! ### Sets as numbers, the first vertex the lowest figure -/

def bitF (x : Nat) : Nat → Bool := fun v => (x / 2 ^ v) % 2 == 1

def numL : Nat → (Nat → Bool) → Nat
  | 0, _ => 0
  | n + 1, f => numL n f + (if f n = true then 2 ^ n else 0)

theorem numL_lt : ∀ (n : Nat) (f : Nat → Bool), numL n f < 2 ^ n
  | 0, _ => by simp [numL]
  | n + 1, f => by
    have := numL_lt n f
    unfold numL
    rw [Nat.pow_succ]
    split <;> omega

theorem numL_bit : ∀ (n : Nat) (f : Nat → Bool) (v : Nat), v < n → bitF (numL n f) v = f v
  | 0, _, _, h => absurd h (by omega)
  | n + 1, f, v, h => by
    have hl := numL_lt n f
    unfold numL
    by_cases e : v = n
    · subst e
      unfold bitF
      cases hq : f v
      · simp [Nat.div_eq_of_lt hl]
      · rw [if_pos rfl, Nat.add_div_right _ (Nat.two_pow_pos v), Nat.div_eq_of_lt hl]
        rfl
    · have hv : v < n := by omega
      have ih := numL_bit n f v hv
      cases hq : f n
      · simpa using ih
      · rw [if_pos rfl]
        unfold bitF at ih ⊢
        have e2 : 2 ^ n = 2 ^ v * (2 * 2 ^ (n - v - 1)) := by
          rw [← Nat.pow_succ', ← Nat.pow_add]
          congr 1
          omega
        rw [e2, Nat.add_mul_div_left _ _ (Nat.two_pow_pos v), Nat.add_mul_mod_self_left]
        exact ih

end Lk
end Go.Proofs.Ytejfknkcakeakaa
