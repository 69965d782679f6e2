/-
  The set that blocks, as mathematics: the better of two sets; the best of all, as the one program and as the other finds it.
-/
import Derived.Test.YtejfknkcakeakaaLkB0
namespace Go.Proofs.Ytejfknkcakeakaa
namespace Lk

section
variable (F : Nat → Nat → Bool) (n : Nat)

/-- The size of a set, less the odd parts without it. -/
def valB (f : Nat → Bool) : Int := ((setTo f n).length : Int) - (oddN (prts F (List.range' 0 9) (fun v => decide (v < n) && !f v)) : Int)

/-- Is the first set better? -/
def bet (f g : Nat → Bool) : Bool := decide (valB F n f < valB F n g) || (decide (valB F n f = valB F n g) && (decide ((setTo f n).length < (setTo g n).length) || (decide ((setTo f n).length = (setTo g n).length) && aheadF (setTo f n) (setTo g n))))

theorem val_congr {f g : Nat → Bool} (h : ∀ u, u < n → f u = g u) : valB F n f = valB F n g := by
  unfold valB
  rw [setTo_congr h]
  have e : (fun v => decide (v < n) && !f v) = (fun v => decide (v < n) && !g v) := by
    funext v
    by_cases hv : v < n
    · rw [h v hv]
    · simp [hv]
  rw [e]

theorem bet_congr {f g f' g' : Nat → Bool} (h : ∀ u, u < n → f u = f' u) (k : ∀ u, u < n → g u = g' u) : bet F n f g = bet F n f' g' := by
  unfold bet
  rw [val_congr F n h, val_congr F n k, setTo_congr h, setTo_congr k]

theorem bet_iff (f g : Nat → Bool) : bet F n f g = true ↔ valB F n f < valB F n g ∨ (valB F n f = valB F n g ∧ ((setTo f n).length < (setTo g n).length ∨ ((setTo f n).length = (setTo g n).length ∧ aheadF (setTo f n) (setTo g n) = true))) := by
  unfold bet
  simp

theorem bet_irrefl (f : Nat → Bool) : bet F n f f = false := by
  cases h : bet F n f f
  · rfl
  · have := (bet_iff F n f f).1 h
    rw [ahead_irrefl] at this
    simp at this

theorem bet_trans {f g h : Nat → Bool} (h1 : bet F n f g = true) (h2 : bet F n g h = true) : bet F n f h = true := by
  rw [bet_iff] at h1 h2 ⊢
  rcases h1 with h1 | ⟨e1, h1⟩
  · rcases h2 with h2 | ⟨e2, _⟩
    · exact .inl (by omega)
    · exact .inl (by omega)
  · rcases h2 with h2 | ⟨e2, h2⟩
    · exact .inl (by omega)
    · refine .inr ⟨by omega, ?_⟩
      rcases h1 with h1 | ⟨l1, a1⟩
      · rcases h2 with h2 | ⟨l2, _⟩
        · exact .inl (by omega)
        · exact .inl (by omega)
      · rcases h2 with h2 | ⟨l2, a2⟩
        · exact .inl (by omega)
        · exact .inr ⟨by omega, ahead_trans' _ _ _ l1 l2 a1 a2⟩

theorem bet_total (f g : Nat → Bool) : setTo f n = setTo g n ∨ bet F n f g = true ∨ bet F n g f = true := by
  rw [bet_iff, bet_iff]
  rcases Int.lt_trichotomy (valB F n f) (valB F n g) with h | h | h
  · exact .inr (.inl (.inl h))
  · rcases Nat.lt_trichotomy (setTo f n).length (setTo g n).length with l | l | l
    · exact .inr (.inl (.inr ⟨h, .inl l⟩))
    · rcases ahead_total _ _ l with a | a | a
      · exact .inl a
      · exact .inr (.inl (.inr ⟨h, .inr ⟨l, a⟩⟩))
      · exact .inr (.inr (.inr ⟨h.symm, .inr ⟨l.symm, a⟩⟩))
    · exact .inr (.inr (.inr ⟨h.symm, .inl l⟩))
  · exact .inr (.inr (.inl h))

/-- No set is better. -/
def Opt (b : Nat → Bool) : Prop := ∀ g, bet F n g b = false

theorem opt_same {a b : Nat → Bool} (ha : Opt F n a) (hb : Opt F n b) : setTo a n = setTo b n := by
  rcases bet_total F n a b with h | h | h
  · exact h
  · rw [hb a] at h; cases h
  · rw [ha b] at h; cases h

/-- The number of the best set of the ones up to x. -/
def blkX : Nat → Nat
  | 0 => 0
  | x + 1 => if bet F n (bitF (x + 1)) (bitF (blkX x)) = true then x + 1 else blkX x

theorem blkX_best : ∀ (x : Nat) (g : Nat → Bool), numL n g ≤ x → bet F n g (bitF (blkX F n x)) = false
  | 0, g, h => by
    have e : numL n g = 0 := by omega
    have hg : ∀ u, u < n → g u = bitF 0 u := fun u hu => by rw [← numL_bit n g u hu, e]
    rw [bet_congr F n hg (fun _ _ => rfl)]
    exact bet_irrefl F n _
  | x + 1, g, h => by
    unfold blkX
    by_cases hb : bet F n (bitF (x + 1)) (bitF (blkX F n x)) = true
    · rw [if_pos hb]
      by_cases e : numL n g = x + 1
      · have hg : ∀ u, u < n → g u = bitF (x + 1) u := fun u hu => by rw [← numL_bit n g u hu, e]
        rw [bet_congr F n hg (fun _ _ => rfl)]
        exact bet_irrefl F n _
      · cases hq : bet F n g (bitF (x + 1))
        · rfl
        · have h1 := bet_trans F n hq hb
          rw [blkX_best x g (by omega)] at h1
          cases h1
    · rw [if_neg hb]
      by_cases e : numL n g = x + 1
      · have hg : ∀ u, u < n → g u = bitF (x + 1) u := fun u hu => by rw [← numL_bit n g u hu, e]
        rw [bet_congr F n hg (fun _ _ => rfl)]
        simpa using hb
      · exact blkX_best x g (by omega)

theorem blkX_opt : Opt F n (bitF (blkX F n (2 ^ n - 1))) := fun g => blkX_best F n _ g (by have := numL_lt n g; omega)

/-- What holds while the sets are gone through downward: none from the current one on is better than the best one, which is among them. -/
structure Down (cur b : Nat → Bool) : Prop where
  best : ∀ g, num n cur ≤ num n g → bet F n g b = false
  among : num n cur ≤ num n b
  cin : ∀ v, cur v = true → v < n
  bin : ∀ v, b v = true → v < n

theorem down0 : Down F n (allF n) (allF n) where
  best := fun g h => by
    have h1 := num_all n g (allF n) (fun u hu => by simp [allF, hu])
    have hg : ∀ u, u < n → g u = allF n u := num_inj n g (allF n) (by omega)
    rw [bet_congr F n hg (fun _ _ => rfl)]
    exact bet_irrefl F n _
  among := Nat.le_refl _
  cin := fun v h => by simpa [allF] using h
  bin := fun v h => by simpa [allF] using h

theorem dec_in {cur : Nat → Bool} {k : Nat} (h : ∀ v, cur v = true → v < n) : ∀ v, decF n k cur v = true → v < n := fun v hv => by
  unfold decF at hv
  split at hv
  · cases hv
  · split at hv
    · omega
    · exact h v hv

theorem num_decF {cur : Nat → Bool} {k : Nat} (hk : k < n) (hc : cur k = true) (hz : ∀ u, k < u → u < n → cur u = false) : num n (decF n k cur) + 1 = num n cur := by
  obtain ⟨d, rfl⟩ : ∃ d, n = k + 1 + d := ⟨n - (k + 1), by omega⟩
  exact num_dec cur k hc d hz

theorem down_take {cur b : Nat → Bool} {k : Nat} (h : Down F n cur b) (hk : k < n) (hc : cur k = true) (hz : ∀ u, k < u → u < n → cur u = false)
    (ht : valB F n (decF n k cur) < valB F n b ∨ (valB F n (decF n k cur) = valB F n b ∧ (setTo (decF n k cur) n).length < (setTo b n).length)) : Down F n (decF n k cur) (decF n k cur) where
  best := fun g hg => by
    have hn := num_decF n hk hc hz
    by_cases e : num n g = num n (decF n k cur)
    · rw [bet_congr F n (num_inj n g _ e) (fun _ _ => rfl)]
      exact bet_irrefl F n _
    · cases hq : bet F n g (decF n k cur)
      · rfl
      · have h2 : bet F n (decF n k cur) b = true := by
          rw [bet_iff]
          rcases ht with ht | ⟨ht1, ht2⟩
          · exact .inl ht
          · exact .inr ⟨ht1, .inl ht2⟩
        have h3 := bet_trans F n hq h2
        rw [h.best g (by omega)] at h3
        cases h3
  among := Nat.le_refl _
  cin := dec_in n h.cin
  bin := dec_in n h.cin

theorem down_keep {cur b : Nat → Bool} {k : Nat} (h : Down F n cur b) (hk : k < n) (hc : cur k = true) (hz : ∀ u, k < u → u < n → cur u = false)
    (ht : ¬ (valB F n (decF n k cur) < valB F n b ∨ (valB F n (decF n k cur) = valB F n b ∧ (setTo (decF n k cur) n).length < (setTo b n).length))) : Down F n (decF n k cur) b where
  best := fun g hg => by
    have hn := num_decF n hk hc hz
    by_cases e : num n g = num n (decF n k cur)
    · rw [bet_congr F n (num_inj n g _ e) (fun _ _ => rfl)]
      cases hq : bet F n (decF n k cur) b
      · rfl
      · rw [bet_iff] at hq
        rcases hq with hq | ⟨e1, hq | ⟨e2, hq⟩⟩
        · exact absurd (.inl hq) ht
        · exact absurd (.inr ⟨e1, hq⟩) ht
        · have ha := num_ahead n b (decF n k cur) (by have := h.among; omega) e2.symm
          have := ahead_trans' _ _ _ e2 e2.symm hq ha
          rw [ahead_irrefl] at this
          cases this
    · exact h.best g (by omega)
  among := by have := num_decF n hk hc hz; have := h.among; omega
  cin := dec_in n h.cin
  bin := h.bin

theorem down_end {cur b : Nat → Bool} (h : Down F n cur b) (hz : ∀ u, u < n → cur u = false) : Opt F n b := fun g => h.best g (by rw [num_zero n cur hz]; omega)

end

end Lk
end Go.Proofs.Ytejfknkcakeakaa
