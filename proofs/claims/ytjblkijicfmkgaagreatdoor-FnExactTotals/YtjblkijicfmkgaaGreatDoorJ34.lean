/-
 Rg5, Rh4, Rg7.
-/
import Derived.Test.YtjblkijicfmkgaaGreatDoorJ30
import Derived.Test.YtjblkijicfmkgaaGreatDoorJ32
import Derived.Test.YtjblkijicfmkgaaGreatDoorJ31
import Derived.Test.YtjblkijicfmkgaaGreatDoorJ33
namespace Go.Proofs.YtjblkijicfmkgaaGreatDoor
namespace Rg
open Go.RowKit
theorem asc_num {Q : PL} {n : Nat} (ha : Asc Q) (hf : ∀ p ∈ Q, FormK n p) (word : List UInt8) : (idsP word Q).Pairwise (· < ·) ∧ ∀ x ∈ idsP word Q, ∃ a : Nat, a < 12 ∧ x = (a : Int) ∧ ∃ p ∈ Q, p.1 = k1 118 a ∧ (word = [] ∨ p.2.toList = word) := by
  induction Q with
  | nil => simp [idsP]
  | cons q Q ih =>
    have h2 := List.pairwise_cons.1 ha
    obtain ⟨i1, i2⟩ := ih h2.2 (fun p hp => hf p (by simp [hp]))
    have i2' : ∀ x ∈ idsP word Q, ∃ a : Nat, a < 12 ∧ x = (a : Int) ∧ ∃ p ∈ q :: Q, p.1 = k1 118 a ∧ (word = [] ∨ p.2.toList = word) := fun x hx => by
      obtain ⟨a, h3, h4, p, hp, h5⟩ := i2 x hx
      exact ⟨a, h3, h4, p, by simp [hp], h5⟩
    rw [idsP]
    split
    · rename_i hc
      obtain ⟨hb, hw⟩ := hc
      have hw' : word = [] ∨ q.2.toList = word := by
        rcases hw with h | h
        · exact Or.inl h
        · exact Or.inr (eq_of_beq h)
      have hfq := hf q (by simp)
      have hv : ∃ a, a < 12 ∧ q.1 = k1 118 a := by
        rcases hfq with ⟨a, h1, h3, _⟩ | ⟨a, b, h1, h3, h4, _⟩ | ⟨a, h1, h3, h4⟩ | ⟨a, b, h1, h3, h4, h5⟩
        · exact ⟨a, h1, h3⟩
        · rw [h4, k2_byte _ a b (by omega) (by omega)] at hb; exact absurd hb (by decide)
        · rw [h4, k1_byte _ a h1] at hb; exact absurd hb (by decide)
        · rw [h5, k2_byte _ a b h1 h3] at hb; exact absurd hb (by decide)
      obtain ⟨a, h12, hka⟩ := hv
      have hx : oN (numP (q.1.extract 1 q.1.size)) = (a : Int) := by rw [hka, k1_num _ a (by omega)]; rfl
      rw [hx]
      refine ⟨List.pairwise_cons.2 ⟨fun x hx => ?_, i1⟩, fun x hx => ?_⟩
      · obtain ⟨b, h3, rfl, p, hp, h5, _⟩ := i2 x hx
        have hl := h2.1 p hp
        rw [hka, h5] at hl
        rcases Nat.lt_trichotomy a b with h | h | h
        · omega
        · subst h; rw [less_irrefl] at hl; cases hl
        · have := less_trans _ _ _ hl (k1_less h (by omega))
          rw [less_irrefl] at this; cases this
      · rcases List.mem_cons.1 hx with rfl | hx
        · exact ⟨a, h12, rfl, q, by simp, hka, hw'⟩
        · exact i2' x hx
    · exact ⟨i1, i2'⟩
theorem ids_mem {word : List UInt8} : ∀ (Q : PL) (p : ByteArray × ByteArray) (a : Nat), p ∈ Q → a ≤ 99 → p.1 = k1 118 a → (word = [] ∨ p.2.toList = word) → (a : Int) ∈ idsP word Q
  | [], p, a, h, _, _, _ => by simp at h
  | q :: Q, p, a, h, h99, hk, hw => by
    rw [idsP]
    rcases List.mem_cons.1 h with rfl | h
    · have hx : oN (numP (p.1.extract 1 p.1.size)) = (a : Int) := by rw [hk, k1_num _ a h99]; rfl
      rw [if_pos ⟨by rw [hk, k1_byte _ a h99]; rfl, by rcases hw with h | h <;> simp [h]⟩, hx]
      simp
    · have := ids_mem Q p a h h99 hk hw
      split
      · simp [this]
      · exact this
theorem lt_eq : ∀ (L M : List Int), L.Pairwise (· < ·) → M.Pairwise (· < ·) → (∀ e, e ∈ L ↔ e ∈ M) → L = M
  | [], [], _, _, _ => rfl
  | [], y :: M, _, _, h => absurd ((h y).2 (by simp)) (by simp)
  | x :: L, [], _, _, h => absurd ((h x).1 (by simp)) (by simp)
  | x :: L, y :: M, hL, hM, h => by
    have h1 := List.pairwise_cons.1 hL
    have h2 := List.pairwise_cons.1 hM
    have hxy : x = y := by
      rcases List.mem_cons.1 ((h x).1 (by simp)) with e | e
      · exact e
      · rcases List.mem_cons.1 ((h y).2 (by simp)) with e' | e'
        · exact e'.symm
        · have := h2.1 x e
          have := h1.1 y e'
          omega
    subst hxy
    congr 1
    refine lt_eq L M h1.2 h2.2 (fun e => ?_)
    constructor
    · intro he
      have := h1.1 e he
      rcases List.mem_cons.1 ((h e).1 (by simp [he])) with e' | e'
      · omega
      · exact e'
    · intro he
      have := h2.1 e he
      rcases List.mem_cons.1 ((h e).2 (by simp [he])) with e' | e'
      · omega
      · exact e'
theorem who_asc (f : Nat → Bool) (n : Nat) : (whoTo f n).Pairwise (· < ·) := by
  unfold whoTo
  rw [List.pairwise_map]
  refine List.Pairwise.filter _ ?_
  refine List.Pairwise.imp ?_ (List.pairwise_lt_range (n := n))
  intro a b h
  omega
theorem who_mem (f : Nat → Bool) (n : Nat) (x : Int) : x ∈ whoTo f n ↔ ∃ a : Nat, a < n ∧ f a = true ∧ x = (a : Int) := by
  unfold whoTo
  simp only [List.mem_map, List.mem_filter, List.mem_range]
  constructor
  · rintro ⟨a, ⟨h1, h2⟩, rfl⟩; exact ⟨a, h1, h2, rfl⟩
  · rintro ⟨a, h1, h2, rfl⟩; exact ⟨a, ⟨h1, h2⟩, rfl⟩
theorem stand_here {v : ByteArray} {s : Nat × Nat} (h : standV v = some s) : s.1 = 1 ↔ v.toList = [97] := by
  unfold standV at h
  split at h
  · rename_i hv; simp at h; subst h; simp [eq_of_beq hv]
  · rename_i hv
    have hv' : v.toList ≠ [97] := fun e => hv (by rw [e]; rfl)
    split at h
    · simp at h; subst h; simp [hv']
    · split at h
      · cases hr : rdD (v.extract 1 v.size) with
        | none => rw [hr] at h; cases h
        | some r => rw [hr] at h; simp at h; subst h; simp [hv']
      · cases h
theorem ids_is {Q : PL} {R : Rgs} (I : Inv Q R) (ha : Asc Q) : idsP [] Q = whoTo (isIn R) 12 := by
  obtain ⟨h1, h2⟩ := asc_num ha I.f []
  refine lt_eq _ _ h1 (who_asc _ _) (fun x => ?_)
  rw [who_mem]
  constructor
  · intro hx
    obtain ⟨a, h12, rfl, p, hp, hk, _⟩ := h2 x hx
    refine ⟨a, h12, ?_, rfl⟩
    unfold isIn
    rw [joined_iff I a h12, ← hk]
    exact getP_some hp
  · rintro ⟨a, h12, hj, rfl⟩
    unfold isIn at hj
    rw [joined_iff I a h12] at hj
    obtain ⟨v, hv⟩ := Option.isSome_iff_exists.1 hj
    obtain ⟨p, hp, hk, _⟩ := get_pair Q _ v hv
    exact ids_mem Q p a hp (by omega) hk (Or.inl rfl)
theorem here_is {Q : PL} {R : Rgs} (I : Inv Q R) (ha : Asc Q) : idsP [97] Q = whoTo (isHr R) 12 := by
  obtain ⟨h1, h2⟩ := asc_num ha I.f [97]
  refine lt_eq _ _ h1 (who_asc _ _) (fun x => ?_)
  rw [who_mem]
  constructor
  · intro hx
    obtain ⟨a, h12, rfl, p, hp, hk, hw⟩ := h2 x hx
    refine ⟨a, h12, ?_, rfl⟩
    have hv := I.v a h12
    have hg := getP_mem ha hp
    rw [hk] at hg
    rw [hg] at hv
    simp only at hv
    unfold isHr isHereR
    rw [decide_eq_true (by omega), decide_eq_true (by omega), Bool.true_and, Bool.true_and, Int.toNat_natCast]
    refine decide_eq_true ((stand_here hv).2 ?_)
    rcases hw with h | h
    · cases h
    · exact h
  · rintro ⟨a, h12, hj, rfl⟩
    unfold isHr isHereR at hj
    simp only [Bool.and_eq_true, decide_eq_true_eq, Int.toNat_natCast] at hj
    have hv := I.v a h12
    cases hg : getP Q (k1 118 a) with
    | none => rw [hg] at hv; simp only at hv; rw [hv] at hj; cases hj.2.2
    | some v =>
      rw [hg] at hv
      simp only at hv
      obtain ⟨p, hp, hk, h3⟩ := get_pair Q _ v hg
      refine ids_mem Q p a hp (by omega) hk (Or.inr ?_)
      rw [h3]
      exact (stand_here hv).1 hj.2.2
end Rg
end Go.Proofs.YtjblkijicfmkgaaGreatDoor
