/-
  Texts of this claim, one behind the other: Rg5, Rh4, Au0.
-/
import Derived.Test.YtjciccjcekcogaaGreatDoorJ32
import Derived.Test.YtjciccjcekcogaaGreatDoorJ34
import Derived.Test.YtjciccjcekcogaaGreatDoorJ33
import Derived.Test.YtjciccjcekcogaaGreatDoorJ20
import Derived.Test.YtjciccjcekcogaaGreatDoorJ23
import Derived.Test.YtjciccjcekcogaaGreatDoorJ14
import Derived.Test.YtjciccjcekcogaaGreatDoorJ21

/-
  The register: ids: what they are, and the contracts of the specification's. (Written by program.)
-/
namespace Go.Proofs.YtjciccjcekcogaaGreatDoor
namespace Rg
open Go.RowKit

end Rg
end Go.Proofs.YtjciccjcekcogaaGreatDoor

/-
  The register: who joined and who is in the hall, told both ways.
-/
namespace Go.Proofs.YtjciccjcekcogaaGreatDoor
namespace Rg
open Go.RowKit

theorem asc_num {Q : PL} {n : Nat} (ha : Asc Q) (hf : ∀ p ∈ Q, FormK n p) (word : List UInt8) : (idsP word Q).Pairwise (· < ·) ∧ ∀ x ∈ idsP word Q, ∃ a : Nat, a < 12 ∧ x = (a : Int) ∧ ∃ p ∈ Q, p.1 = k1 118 a ∧ (word = [] ∨ p.2.toList = word) := by
  induction Q with
  | nil => simp [idsP]
  | cons q Q ih =>
    have h2 := List.pairwise_cons.1 ha
    obtain ⟨i1, i2⟩ := ih h2.2 (fun p hp => hf p (by simp [hp]))
    have i2' : ∀ x ∈ idsP word Q, ∃ a : Nat, a < 12 ∧ x = (a : Int) ∧ ∃ p ∈ q :: Q, p.1 = k1 118 a ∧ (word = [] ∨ p.2.toList = word) := fun x hx => by
      obtain ⟨a, h3, h4, p, hp, h5⟩ := i2 x hx
      exact ⟨a, h3, h4, p, by simp [hp], h5⟩
    rw [idsP]
    split
    · rename_i hc
      obtain ⟨hb, hw⟩ := hc
      have hw' : word = [] ∨ q.2.toList = word := by
        rcases hw with h | h
        · exact Or.inl h
        · exact Or.inr (eq_of_beq h)
      have hfq := hf q (by simp)
      have hv : ∃ a, a < 12 ∧ q.1 = k1 118 a := by
        rcases hfq with ⟨a, h1, h3, _⟩ | ⟨a, b, h1, h3, h4, _⟩ | ⟨a, h1, h3, h4⟩ | ⟨a, b, h1, h3, h4, h5⟩
        · exact ⟨a, h1, h3⟩
        · rw [h4, k2_byte _ a b (by omega) (by omega)] at hb; exact absurd hb (by decide)
        · rw [h4, k1_byte _ a h1] at hb; exact absurd hb (by decide)
        · rw [h5, k2_byte _ a b h1 h3] at hb; exact absurd hb (by decide)
      obtain ⟨a, h12, hka⟩ := hv
      have hx : oN (numP (q.1.extract 1 q.1.size)) = (a : Int) := by rw [hka, k1_num _ a (by omega)]; rfl
      rw [hx]
      refine ⟨List.pairwise_cons.2 ⟨fun x hx => ?_, i1⟩, fun x hx => ?_⟩
      · obtain ⟨b, h3, rfl, p, hp, h5, _⟩ := i2 x hx
        have hl := h2.1 p hp
        rw [hka, h5] at hl
        rcases Nat.lt_trichotomy a b with h | h | h
        · omega
        · subst h; rw [less_irrefl] at hl; cases hl
        · have := less_trans _ _ _ hl (k1_less h (by omega))
          rw [less_irrefl] at this; cases this
      · rcases List.mem_cons.1 hx with rfl | hx
        · exact ⟨a, h12, rfl, q, by simp, hka, hw'⟩
        · exact i2' x hx
    · exact ⟨i1, i2'⟩

theorem ids_mem {word : List UInt8} : ∀ (Q : PL) (p : ByteArray × ByteArray) (a : Nat), p ∈ Q → a ≤ 99 → p.1 = k1 118 a → (word = [] ∨ p.2.toList = word) → (a : Int) ∈ idsP word Q
  | [], p, a, h, _, _, _ => by simp at h
  | q :: Q, p, a, h, h99, hk, hw => by
    rw [idsP]
    rcases List.mem_cons.1 h with rfl | h
    · have hx : oN (numP (p.1.extract 1 p.1.size)) = (a : Int) := by rw [hk, k1_num _ a h99]; rfl
      rw [if_pos ⟨by rw [hk, k1_byte _ a h99]; rfl, by rcases hw with h | h <;> simp [h]⟩, hx]
      simp
    · have := ids_mem Q p a h h99 hk hw
      split
      · simp [this]
      · exact this

theorem lt_eq : ∀ (L M : List Int), L.Pairwise (· < ·) → M.Pairwise (· < ·) → (∀ e, e ∈ L ↔ e ∈ M) → L = M
  | [], [], _, _, _ => rfl
  | [], y :: M, _, _, h => absurd ((h y).2 (by simp)) (by simp)
  | x :: L, [], _, _, h => absurd ((h x).1 (by simp)) (by simp)
  | x :: L, y :: M, hL, hM, h => by
    have h1 := List.pairwise_cons.1 hL
    have h2 := List.pairwise_cons.1 hM
    have hxy : x = y := by
      rcases List.mem_cons.1 ((h x).1 (by simp)) with e | e
      · exact e
      · rcases List.mem_cons.1 ((h y).2 (by simp)) with e' | e'
        · exact e'.symm
        · have := h2.1 x e
          have := h1.1 y e'
          omega
    subst hxy
    congr 1
    refine lt_eq L M h1.2 h2.2 (fun e => ?_)
    constructor
    · intro he
      have := h1.1 e he
      rcases List.mem_cons.1 ((h e).1 (by simp [he])) with e' | e'
      · omega
      · exact e'
    · intro he
      have := h2.1 e he
      rcases List.mem_cons.1 ((h e).2 (by simp [he])) with e' | e'
      · omega
      · exact e'

theorem who_asc (f : Nat → Bool) (n : Nat) : (whoTo f n).Pairwise (· < ·) := by
  unfold whoTo
  rw [List.pairwise_map]
  refine List.Pairwise.filter _ ?_
  refine List.Pairwise.imp ?_ (List.pairwise_lt_range (n := n))
  intro a b h
  omega

theorem who_mem (f : Nat → Bool) (n : Nat) (x : Int) : x ∈ whoTo f n ↔ ∃ a : Nat, a < n ∧ f a = true ∧ x = (a : Int) := by
  unfold whoTo
  simp only [List.mem_map, List.mem_filter, List.mem_range]
  constructor
  · rintro ⟨a, ⟨h1, h2⟩, rfl⟩; exact ⟨a, h1, h2, rfl⟩
  · rintro ⟨a, h1, h2, rfl⟩; exact ⟨a, ⟨h1, h2⟩, rfl⟩

theorem stand_here {v : ByteArray} {s : Nat × Nat} (h : standV v = some s) : s.1 = 1 ↔ v.toList = [97] := by
  unfold standV at h
  split at h
  · rename_i hv; simp at h; subst h; simp [eq_of_beq hv]
  · rename_i hv
    have hv' : v.toList ≠ [97] := fun e => hv (by rw [e]; rfl)
    split at h
    · simp at h; subst h; simp [hv']
    · split at h
      · cases hr : rdD (v.extract 1 v.size) with
        | none => rw [hr] at h; cases h
        | some r => rw [hr] at h; simp at h; subst h; simp [hv']
      · cases h

/-- Who joined, and who is in the hall: both tell the same. -/
theorem ids_is {Q : PL} {R : Rgs} (I : Inv Q R) (ha : Asc Q) : idsP [] Q = whoTo (isIn R) 12 := by
  obtain ⟨h1, h2⟩ := asc_num ha I.f []
  refine lt_eq _ _ h1 (who_asc _ _) (fun x => ?_)
  rw [who_mem]
  constructor
  · intro hx
    obtain ⟨a, h12, rfl, p, hp, hk, _⟩ := h2 x hx
    refine ⟨a, h12, ?_, rfl⟩
    unfold isIn
    rw [joined_iff I a h12, ← hk]
    exact getP_some hp
  · rintro ⟨a, h12, hj, rfl⟩
    unfold isIn at hj
    rw [joined_iff I a h12] at hj
    obtain ⟨v, hv⟩ := Option.isSome_iff_exists.1 hj
    obtain ⟨p, hp, hk, _⟩ := get_pair Q _ v hv
    exact ids_mem Q p a hp (by omega) hk (Or.inl rfl)

theorem here_is {Q : PL} {R : Rgs} (I : Inv Q R) (ha : Asc Q) : idsP [97] Q = whoTo (isHr R) 12 := by
  obtain ⟨h1, h2⟩ := asc_num ha I.f [97]
  refine lt_eq _ _ h1 (who_asc _ _) (fun x => ?_)
  rw [who_mem]
  constructor
  · intro hx
    obtain ⟨a, h12, rfl, p, hp, hk, hw⟩ := h2 x hx
    refine ⟨a, h12, ?_, rfl⟩
    have hv := I.v a h12
    have hg := getP_mem ha hp
    rw [hk] at hg
    rw [hg] at hv
    simp only at hv
    unfold isHr isHereR
    rw [decide_eq_true (by omega), decide_eq_true (by omega), Bool.true_and, Bool.true_and, Int.toNat_natCast]
    refine decide_eq_true ((stand_here hv).2 ?_)
    rcases hw with h | h
    · cases h
    · exact h
  · rintro ⟨a, h12, hj, rfl⟩
    unfold isHr isHereR at hj
    simp only [Bool.and_eq_true, decide_eq_true_eq, Int.toNat_natCast] at hj
    have hv := I.v a h12
    cases hg : getP Q (k1 118 a) with
    | none => rw [hg] at hv; simp only at hv; rw [hv] at hj; cases hj.2.2
    | some v =>
      rw [hg] at hv
      simp only at hv
      obtain ⟨p, hp, hk, h3⟩ := get_pair Q _ v hg
      refine ids_mem Q p a hp (by omega) hk (Or.inr ?_)
      rw [h3]
      exact (stand_here hv).1 hj.2.2

theorem who_range (f : Nat → Bool) : ∀ x ∈ whoTo f 12, 0 ≤ x ∧ x < 12 := by
  intro x hx
  obtain ⟨a, h1, _, rfl⟩ := (who_mem f 12 x).1 hx
  omega

end Rg
end Go.Proofs.YtjciccjcekcogaaGreatDoor

/-
  An audit as mathematics: what the specification asks of a round of a right state, what the program asks of its register, and that both are one.
-/
namespace Go.Proofs.YtjciccjcekcogaaGreatDoor
namespace Rg

/-- The value of an id that is paired in a round. -/
def pW (r : Nat) : ByteArray := ⟨#[112]⟩ ++ ⟨(Lib.itoa (r : Int)).toArray⟩

theorem pW_list (r : Nat) : (pW r).toList = 112 :: Lib.itoa (r : Int) := by
  rw [ByteArray.toList_eq]
  simp [pW]

theorem itoa_inj {r r' : Nat} (h : Lib.itoa (r : Int) = Lib.itoa (r' : Int)) : r = r' := by
  rw [Lib.itoa_nonneg, Lib.itoa_nonneg] at h
  have := congrArg valD h
  rwa [val_dec, val_dec] at this

theorem stand_paired {v : ByteArray} {s : Nat × Nat} (h : standV v = some s) (r : Nat) : s = (3, r) ↔ v.toList = (pW r).toList := by
  rw [pW_list]
  unfold standV at h
  split at h
  · rename_i hv
    simp only [Option.some.injEq] at h
    subst h
    rw [eq_of_beq hv]
    constructor
    · intro e; cases e
    · intro e; simp at e
  · split at h
    · rename_i hv
      simp only [Option.some.injEq] at h
      subst h
      rw [eq_of_beq hv]
      constructor
      · intro e; cases e
      · intro e; simp at e
    · split at h
      · rename_i h112
        cases hr : rdD (v.extract 1 v.size) with
        | none => rw [hr] at h; cases h
        | some r' =>
          rw [hr] at h
          simp only [Option.map_some, Option.some.injEq] at h
          subst h
          have hsz : 0 < v.size := by
            rcases Nat.eq_zero_or_pos v.size with h0 | h0
            · rw [rd_nil _ (by rw [ByteArray.size_extract]; omega)] at hr; cases hr
            · exact h0
          have hl : v.toList = 112 :: (v.extract 1 v.size).toList := by
            rw [head_list hsz, h112, extract_list, ← size_list, List.take_length]
            rfl
          have hi : Lib.itoa (r' : Int) = (v.extract 1 v.size).toList := by
            unfold rdD at hr
            split at hr
            · split at hr
              · cases hr
              · split at hr
                · rename_i hh
                  simp only [Option.some.injEq] at hr
                  subst hr
                  exact hh.2
                · cases hr
            · cases hr
          rw [hl, ← hi]
          constructor
          · intro e
            simp only [Prod.mk.injEq, true_and] at e
            rw [e]
          · intro e
            simp only [List.cons.injEq, true_and] at e
            rw [itoa_inj e]
      · cases h

/-- Does the map say that an id is paired in a round? -/
def vP (Q : PL) (r : Nat) (a : Nat) : Bool := (oT (getP Q (k1 118 a))).toList == (pW r).toList

theorem vP_is {Q : PL} {R : Rgs} (I : Inv Q R) (r a : Nat) (h : a < 12) : vP Q r a = pF R r a := by
  have hv := I.v a h
  unfold vP pF
  cases hg : getP Q (k1 118 a) with
  | none =>
    rw [hg] at hv
    simp only at hv
    rw [hv, pW_list]
    simp [oT, ByteArray.toList_eq]
  | some v =>
    rw [hg] at hv
    simp only at hv
    have := stand_paired hv r
    rw [Bool.eq_iff_iff, decide_eq_true_eq, this]
    show (v.toList == _) = true ↔ _
    exact ⟨fun e => eq_of_beq e, fun e => by rw [e]; simp⟩

/-- Is a place of the pool in a couple? -/
def pr (M : List Gr.CoupleI) (i : Nat) : Bool := M.any fun c => decide (c.A = (i : Int)) || decide (c.B = (i : Int))

/-- What the specification asks of a round: each place of the pool; each id that is paired in it. -/
def sAud (Q : PL) (r : Nat) (K : List Int) (M : List Gr.CoupleI) : Bool := ((List.range K.length).all fun i => pr M i == vP Q r (K.getD i 0).toNat) && (idsP (pW r).toList Q).all fun x => inK K x

/-- What the program asks of it. -/
def iAud (R : Rgs) (r : Nat) (K : List Int) (M : List Gr.CoupleI) : Bool := (List.range 12).all fun a => pF R r a == cF K M a

theorem paired_is {Q : PL} {R : Rgs} (I : Inv Q R) (ha : Asc Q) (r : Nat) (x : Int) : x ∈ idsP (pW r).toList Q ↔ ∃ a : Nat, a < 12 ∧ x = (a : Int) ∧ pF R r a = true := by
  obtain ⟨_, h2⟩ := asc_num ha I.f (pW r).toList
  constructor
  · intro hx
    obtain ⟨a, h12, rfl, p, hp, hk, hw⟩ := h2 x hx
    refine ⟨a, h12, rfl, ?_⟩
    rw [← vP_is I r a h12]
    have hg := getP_mem ha hp
    rw [hk] at hg
    unfold vP
    rw [hg]
    rcases hw with hw | hw
    · rw [pW_list] at hw; cases hw
    · show (p.2.toList == _) = true
      rw [hw]; simp
  · rintro ⟨a, h12, rfl, hp⟩
    rw [← vP_is I r a h12] at hp
    unfold vP at hp
    cases hg : getP Q (k1 118 a) with
    | none =>
      rw [hg, pW_list] at hp
      simp [oT, ByteArray.toList_eq] at hp
    | some v =>
      rw [hg] at hp
      obtain ⟨p, hp1, hk, h3⟩ := get_pair Q _ v hg
      refine ids_mem Q p a hp1 (by omega) hk (Or.inr ?_)
      rw [h3]
      exact eq_of_beq hp

theorem chain_asc : ∀ (K : List Int) (p : Option Int), Gr.chainFrom p K = true → K.Pairwise (· < ·) ∧ ∀ q, p = some q → ∀ x ∈ K, q < x
  | [], p, _ => by simp
  | y :: K, p, h => by
    have h2 : (∀ q, p = some q → q < y) ∧ Gr.chainFrom (some y) K = true := by
      cases p with
      | none => exact ⟨fun q e => (by cases e), by simpa [Gr.chainFrom] using h⟩
      | some q => simp only [Gr.chainFrom, Bool.and_eq_true, decide_eq_true_eq] at h; exact ⟨fun q' e => (by cases e; exact h.1), h.2⟩
    obtain ⟨i1, i2⟩ := chain_asc K (some y) h2.2
    refine ⟨List.pairwise_cons.2 ⟨i2 y rfl, i1⟩, ?_⟩
    rintro q hq x hx
    have h1 := h2.1 q hq
    rcases List.mem_cons.1 hx with rfl | hx
    · exact h1
    · have := i2 y rfl x hx; omega

theorem aud_is {Q : PL} {R : Rgs} (I : Inv Q R) (ha : Asc Q) (r : Nat) (K : List Int) (M : List Gr.CoupleI) (hK : ∀ x ∈ K, 0 ≤ x ∧ x < 12) (hasc : K.Pairwise (· < ·)) (hM : ∀ c ∈ M, 0 ≤ c.A ∧ c.A < (K.length : Int) ∧ 0 ≤ c.B ∧ c.B < (K.length : Int)) : sAud Q r K M = iAud R r K M := by
  have hinj : ∀ i j (hi : i < K.length) (hj : j < K.length), K[i] = K[j] → i = j := by
    intro i j hi hj e
    rcases Nat.lt_trichotomy i j with h | h | h
    · have := List.pairwise_iff_getElem.1 hasc i j hi hj h; omega
    · exact h
    · have := List.pairwise_iff_getElem.1 hasc j i hj hi h; omega
  have hkat : ∀ (c : Int), 0 ≤ c → c < (K.length : Int) → ∃ h : c.toNat < K.length, kat K c = K[c.toNat] := by
    intro c h0 h1
    have h : c.toNat < K.length := by omega
    exact ⟨h, by unfold kat; rw [List.getD_eq_getElem?_getD, List.getElem?_eq_getElem h]; rfl⟩
  have hget : ∀ i (h : i < K.length), K.getD i 0 = K[i] := fun i h => by rw [List.getD_eq_getElem?_getD, List.getElem?_eq_getElem h]; rfl
  -- a place's flag is its id's
  have hpc : ∀ i (h : i < K.length), pr M i = cF K M K[i].toNat := by
    intro i h
    have hKi := hK _ (List.getElem_mem h)
    rw [Bool.eq_iff_iff]
    unfold pr cF
    simp only [List.any_eq_true, Bool.or_eq_true, decide_eq_true_eq]
    constructor
    · rintro ⟨c, hc, h1⟩
      obtain ⟨a0, a1, b0, b1⟩ := hM c hc
      obtain ⟨hA, eA⟩ := hkat c.A a0 a1
      obtain ⟨hB, eB⟩ := hkat c.B b0 b1
      refine ⟨c, hc, ?_⟩
      rcases h1 with h1 | h1
      · left
        have : c.A.toNat = i := by omega
        rw [eA]; simp only [this]; omega
      · right
        have : c.B.toNat = i := by omega
        rw [eB]; simp only [this]; omega
    · rintro ⟨c, hc, h1⟩
      obtain ⟨a0, a1, b0, b1⟩ := hM c hc
      obtain ⟨hA, eA⟩ := hkat c.A a0 a1
      obtain ⟨hB, eB⟩ := hkat c.B b0 b1
      refine ⟨c, hc, ?_⟩
      rcases h1 with h1 | h1
      · left
        rw [eA] at h1
        have := hinj _ _ hA h (by omega)
        omega
      · right
        rw [eB] at h1
        have := hinj _ _ hB h (by omega)
        omega
  have hcK : ∀ a : Nat, cF K M a = true → ∃ i, ∃ h : i < K.length, K[i] = (a : Int) := by
    intro a h
    unfold cF at h
    simp only [List.any_eq_true, Bool.or_eq_true, decide_eq_true_eq] at h
    obtain ⟨c, hc, h1⟩ := h
    obtain ⟨a0, a1, b0, b1⟩ := hM c hc
    obtain ⟨hA, eA⟩ := hkat c.A a0 a1
    obtain ⟨hB, eB⟩ := hkat c.B b0 b1
    rcases h1 with h1 | h1
    · exact ⟨_, hA, by rw [← eA]; exact h1⟩
    · exact ⟨_, hB, by rw [← eB]; exact h1⟩
  rw [Bool.eq_iff_iff]
  unfold sAud iAud
  simp only [Bool.and_eq_true, List.all_eq_true, List.mem_range, beq_iff_eq]
  constructor
  · rintro ⟨h1, h2⟩ a h12
    by_cases hin : ∃ i, ∃ h : i < K.length, K[i] = (a : Int)
    · obtain ⟨i, hi, e⟩ := hin
      have := h1 i hi
      rw [hget i hi, hpc i hi, e, Int.toNat_natCast, vP_is I r a h12] at this
      exact this.symm
    · have hc : cF K M a = false := by
        cases hc : cF K M a with
        | false => rfl
        | true => exact absurd (hcK a hc) hin
      rw [hc]
      cases hp : pF R r a with
      | false => rfl
      | true =>
        have := h2 (a : Int) ((paired_is I ha r _).2 ⟨a, h12, rfl, hp⟩)
        unfold inK at this
        rw [List.contains_iff_mem] at this
        obtain ⟨i, hi, e⟩ := List.getElem_of_mem this
        exact absurd ⟨i, hi, e⟩ hin
  · intro h
    refine ⟨fun i hi => ?_, fun x hx => ?_⟩
    · have hKi := hK _ (List.getElem_mem hi)
      have := h K[i].toNat (by omega)
      rw [hget i hi, hpc i hi, ← this, vP_is I r _ (by omega)]
    · obtain ⟨a, h12, rfl, hp⟩ := (paired_is I ha r x).1 hx
      have := h a h12
      rw [hp] at this
      obtain ⟨i, hi, e⟩ := hcK a this.symm
      unfold inK
      rw [List.contains_iff_mem, ← e]
      exact List.getElem_mem hi

/-- What holds of a round of a right state. -/
structure RoF (K : List Int) (C : Gr.RC) : Prop where
  cert : Gr.certR C.s C.Q C.M C.Y C.G = true
  size : C.s = (K.length : Int)
  few : K.length ≤ 9
  pool : ∀ x ∈ K, 0 ≤ x ∧ x < 12
  asc : K.Pairwise (· < ·)

theorem RoF.match {K : List Int} {C : Gr.RC} (h : RoF K C) : Gr.matchOk C.s C.Q C.M = true := by
  have := h.cert
  unfold Gr.certR at this
  simp only [Bool.and_eq_true] at this
  exact this.2.1

theorem RoF.couples {K : List Int} {C : Gr.RC} (h : RoF K C) : ∀ c ∈ C.M, 0 ≤ c.A ∧ c.A < (K.length : Int) ∧ 0 ≤ c.B ∧ c.B < (K.length : Int) := by
  intro c hc
  obtain ⟨hg, _, hm⟩ := Gr.match_sound h.match
  have := (Gr.match_pm hg C.M none [] hm).1 c hc
  have := h.size
  omega

theorem RoF.best {K : List Int} {C : Gr.RC} (h : RoF K C) : Gr.sumsR C.s C.Q C.M = Gr.bestR C.s C.Q := by
  unfold Gr.sumsR Gr.bestR
  rw [if_pos h.match, if_pos (Gr.match_sound h.match).1]
  exact Gr.certified_best h.cert

theorem RoF.little {K : List Int} {C : Gr.RC} (h : RoF K C) : C.M.length ≤ 9 := (Gr.match_sound h.match).2.1

theorem round_rof {Q : PL} {R : Rgs} (hst : stateOk Q = true) (hf : regFold R0 Q = some R) : Inv Q R ∧ Asc Q ∧ rnds Q = R.rds.length ∧ R.rds.length ≤ 6 ∧ ∀ r (h : r < R.rds.length), poolP Q r = R.rds[r].1 ∧ joinB R.rds[r].2 = textP Q r ∧ RoF R.rds[r].1 (Gr.rcV (textP Q r)) := by
  obtain ⟨R', hf', I, ha, hc, hr⟩ := reg_inv hst
  rw [hf] at hf'
  cases hf'
  have hc' := hc
  unfold checks roundsR at hc'
  simp only [Bool.and_eq_true, decide_eq_true_eq] at hc'
  have h6 := hc'.2.1.2
  refine ⟨I, ha, hr, h6, fun r h => ?_⟩
  have ht := I.t r (by omega)
  rw [List.getElem?_eq_getElem h] at ht
  change joinB R.rds[r].2 = textP Q r at ht
  have hrd := hc'.2.1.1 _ (List.getElem_mem h)
  unfold rdOk poolR at hrd
  simp only [Bool.and_eq_true, decide_eq_true_eq] at hrd
  obtain ⟨⟨_, hrc⟩, hs, hj, h9, hch⟩ := hrd
  rw [ht] at hrc hs
  refine ⟨(inv_pool I r (by omega) h).2, ht, (Gr.rc_is hrc).1, hs, h9, fun x hx => ?_, (chain_asc _ _ hch).1⟩
  have := hj x hx
  unfold joined at this
  simp only [Bool.and_eq_true, decide_eq_true_eq] at this
  exact ⟨this.1, this.2.1⟩

/-- Is a state audited? -/
def audM (Q : PL) : Bool := stateOk Q && (List.range (rnds Q)).all fun r => sAud Q r (poolP Q r) (Gr.rcV (textP Q r)).M

def audTo (Q : PL) (f r : Nat) : Bool := (List.range' r f).all fun r => sAud Q r (poolP Q r) (Gr.rcV (textP Q r)).M

theorem audTo_step (Q : PL) (f r : Nat) : audTo Q (f + 1) r = (sAud Q r (poolP Q r) (Gr.rcV (textP Q r)).M && audTo Q f (r + 1)) := by
  unfold audTo
  rw [List.range'_succ, List.all_cons]

theorem audM_is (Q : PL) : audM Q = (stateOk Q && audTo Q (rnds Q) 0) := by
  unfold audM audTo
  rw [List.range_eq_range']

end Rg
end Go.Proofs.YtjciccjcekcogaaGreatDoor
