/-
 RhE, Rh2, Rh3, Rh4.
-/
import Derived.Test.YtihnaddfpmjpaaaGreatDoorJ20
import Derived.Test.YtihnaddfpmjpaaaGreatDoorJ18
import Derived.Test.YtihnaddfpmjpaaaGreatDoorJ23
import Derived.Test.YtihnaddfpmjpaaaGreatDoorJ14
import Derived.Test.YtihnaddfpmjpaaaGreatDoorJ6
import Derived.Test.YtihnaddfpmjpaaaGreatDoorJ30
import Derived.Test.YtihnaddfpmjpaaaGreatDoorJ31
namespace Go.Proofs.YtihnaddfpmjpaaaGreatDoor
namespace Rg
open Go.RowKit
def joined (R : Rgs) (i : Int) : Bool := decide (0 ≤ i) && (decide (i < 12) && decide ((R.mem i.toNat).1 ≠ 0))
def lkOk (R : Rgs) (a b : Nat) : Bool := match R.lnk a b with | none => true | some (x, y, z) => joined R a && (joined R b && (decide (x ≤ 50) && (decide (y ≤ 50) && decide (z ≤ 50))))
def linksOk (R : Rgs) : Bool := (List.range 12).all fun a => (List.range 12).all fun b => lkOk R a b
theorem linksOk_iff (R : Rgs) : linksOk R = true ↔ ∀ a, a < 12 → ∀ b, b < 12 → lkOk R a b = true := by
  unfold linksOk
  simp only [List.all_eq_true, List.mem_range]
def poolR (R : Rgs) (K : List Int) : Bool := decide (∀ i ∈ K, joined R i = true) && (decide (K.length ≤ 9) && Gr.chainFrom none K)
def rdOk (R : Rgs) (x : List Int × List ByteArray) : Bool := (decide (Gr.partsT (joinB x.2) = x.2) && Gr.rcOk (joinB x.2)) && (decide ((Gr.rcV (joinB x.2)).s = (x.1.length : Int)) && poolR R x.1)
def roundsR (R : Rgs) : Bool := decide (∀ x ∈ R.rds, rdOk R x = true) && decide (R.rds.length ≤ 6)
def membersOk (R : Rgs) : Bool := (List.range 12).all fun a => !(decide ((R.mem a).1 = 3) && !decide ((R.mem a).2 < R.rds.length))
theorem membersOk_iff (R : Rgs) : membersOk R = true ↔ ∀ a, a < 12 → (R.mem a).1 = 3 → (R.mem a).2 < R.rds.length := by
  unfold membersOk
  simp only [List.all_eq_true, List.mem_range, Bool.not_eq_true', Bool.and_eq_false_iff, decide_eq_false_iff_not, Bool.not_eq_false', decide_eq_true_eq]
  constructor
  · intro h a ha h3
    rcases h a ha with h | h
    · exact absurd h3 h
    · exact h
  · intro h a ha
    by_cases h3 : (R.mem a).1 = 3
    · exact Or.inr (h a ha h3)
    · exact Or.inl h3
def checks (R : Rgs) : Bool := linksOk R && (roundsR R && membersOk R)
def regOk (Q : PL) : Bool := decide (Tr.MapR Q) && (match regFold R0 Q with | none => false | some R => checks R)
def whoTo (f : Nat → Bool) (n : Nat) : List Int := ((List.range n).filter f).map fun (i : Nat) => (i : Int)
theorem who_succ (f : Nat → Bool) (n : Nat) : whoTo f (n + 1) = if f n = true then whoTo f n ++ [(n : Int)] else whoTo f n := by
  unfold whoTo
  rw [List.range_succ, List.filter_append, List.map_append]
  by_cases h : f n = true
  · simp [h]
  · simp [h]
def isIn (R : Rgs) (a : Nat) : Bool := joined R (a : Int)
def isHereR (R : Rgs) (i : Int) : Bool := decide (0 ≤ i) && (decide (i < 12) && decide ((R.mem i.toNat).1 = 1))
def isHr (R : Rgs) (a : Nat) : Bool := isHereR R (a : Int)
theorem rd_nil (s : ByteArray) (h : s.size = 0) : rdD s = none := by
  have hl : s.toList = [] := List.length_eq_zero_iff.1 (by rw [size_list]; exact h)
  unfold rdD
  rw [if_pos (by omega), h, hl]
  show (if (0 : Nat) ≤ 1000000000 ∧ Lib.itoa ((0 : Nat) : Int) = [] then some 0 else none) = none
  rw [if_neg]
  rintro ⟨_, h2⟩
  rw [Lib.itoa_nonneg, Lib.decDigits] at h2
  simp at h2
theorem stand_pos {v : ByteArray} {s : Nat × Nat} (h : standV v = some s) : s.1 = 1 ∨ s.1 = 2 ∨ s.1 = 3 := by
  unfold standV at h
  split at h
  · simp at h; subst h; simp
  · split at h
    · simp at h; subst h; simp
    · split at h
      · cases hr : rdD (v.extract 1 v.size) with
        | none => rw [hr] at h; cases h
        | some r => rw [hr] at h; simp at h; subst h; simp
      · cases h
theorem joined_iff {Q : PL} {R : Rgs} (I : Inv Q R) (a : Nat) (h : a < 12) : joined R (a : Int) = (getP Q (k1 118 a)).isSome := by
  unfold joined
  rw [decide_eq_true (by omega), decide_eq_true (by omega), Bool.true_and, Bool.true_and, Int.toNat_natCast]
  have h1 := I.v a h
  cases hg : getP Q (k1 118 a) with
  | none => rw [hg] at h1; simp only at h1; rw [h1]; rfl
  | some v =>
    rw [hg] at h1
    simp only at h1
    have := stand_pos h1
    rw [decide_eq_true (by omega)]
    rfl
theorem rndF_ge (Q : PL) : ∀ (f m n : Nat), m ≤ n → n < m + f → (∀ i, m ≤ i → i < n → (getP Q (qk i)).isSome = true) → n ≤ rndF Q f m
  | 0, m, n, h1, h2, _ => by omega
  | f + 1, m, n, h1, h2, h => by
    rw [rndF]
    rcases Nat.lt_or_ge m n with hm | hm
    · rw [if_pos (h m (Nat.le_refl _) hm)]
      exact rndF_ge Q f (m + 1) n (by omega) (by omega) (fun i hi hn => h i (by omega) hn)
    · split
      · have : m + 1 ≤ rndF Q f (m + 1) ∨ f = 0 := by
          rcases Nat.eq_zero_or_pos f with h0 | h0
          · exact Or.inr h0
          · exact Or.inl (rndF_ge Q f (m + 1) (m + 1) (Nat.le_refl _) (by omega) (fun i hi hn => by omega))
        rcases this with h3 | h3
        · omega
        · subst h3; simp [rndF]; omega
      · omega
theorem rndF_some (Q : PL) : ∀ (f m i : Nat), m ≤ i → i < rndF Q f m → (getP Q (qk i)).isSome = true
  | 0, m, i, h1, h2 => by simp [rndF] at h2; omega
  | f + 1, m, i, h1, h2 => by
    rw [rndF] at h2
    split at h2
    · rename_i hs
      rcases Nat.eq_or_lt_of_le h1 with h | h
      · subst h; exact hs
      · exact rndF_some Q f (m + 1) i (by omega) h2
    · omega
theorem rndF_le (Q : PL) : ∀ (f m n : Nat), m ≤ n → getP Q (qk n) = none → rndF Q f m ≤ n
  | 0, m, n, h1, _ => by simp [rndF]; exact h1
  | f + 1, m, n, h1, h => by
    rw [rndF]
    split
    · rename_i hs
      rcases Nat.eq_or_lt_of_le h1 with h2 | h2
      · subst h2; rw [h] at hs; cases hs
      · exact rndF_le Q f (m + 1) n (by omega) h
    · omega
theorem rnds_some (Q : PL) (i : Nat) (h : i < rnds Q) : (getP Q (qk i)).isSome = true := rndF_some Q _ 0 i (Nat.zero_le _) h
theorem rnds_le_of {Q : PL} {n : Nat} (h : ∀ i, i < n → (getP Q (qk i)).isSome = true) : n ≤ rnds Q := by
  have := rounds_le Q n h
  exact rndF_ge Q _ 0 n (Nat.zero_le _) (by omega) (fun i _ hi => h i hi)
theorem inv_pool {Q : PL} {R : Rgs} (I : Inv Q R) (r : Nat) (hr : r ≤ 99) (h : r < R.rds.length) : (getP Q (qk r)).isSome = true ∧ poolP Q r = R.rds[r].1 := by
  have h1 := I.q r hr
  rw [List.getElem?_eq_getElem h] at h1
  show (getP Q (k1 113 r)).isSome = true ∧ bytesI (oT (getP Q (k1 113 r))) = _
  cases hg : getP Q (k1 113 r) with
  | none => rw [hg] at h1; cases h1
  | some v => rw [hg] at h1; simp at h1; exact ⟨rfl, by rw [h1]; rfl⟩
theorem inv_rnds {Q : PL} {R : Rgs} (I : Inv Q R) : (R.rds.length ≤ 6 ↔ rnds Q ≤ 6) ∧ (R.rds.length ≤ 6 → rnds Q = R.rds.length) := by
  have h1 : ∀ n, n ≤ R.rds.length → n ≤ rnds Q := fun n hn => rnds_le_of (fun i hi => (inv_pool I i (by have := I.ql; omega) (by omega)).1)
  have h2 : R.rds.length ≤ 6 → rnds Q ≤ R.rds.length := fun h => rndF_le Q _ 0 _ (Nat.zero_le _) (by
    have := I.q R.rds.length (by omega)
    rw [List.getElem?_eq_none (Nat.le_refl _)] at this
    show getP Q (k1 113 R.rds.length) = none
    cases hg : getP Q (k1 113 R.rds.length) with
    | none => rfl
    | some v => rw [hg] at this; cases this)
  refine ⟨⟨fun h => Nat.le_trans (h2 h) h, fun h => ?_⟩, fun h => Nat.le_antisymm (h2 h) (h1 _ (Nat.le_refl _))⟩
  have := h1 R.rds.length (Nat.le_refl _)
  omega
theorem keys_of (Q : PL) (n : Nat) : ∀ (L : PL), (∀ q ∈ L, keyOk Q n q.1 q.2 = true) → keysOk Q n L = true
  | [], _ => rfl
  | p :: r, h => by
    rw [keysOk, h p (by simp), keys_of Q n r (fun q hq => h q (by simp [hq]))]
    rfl
theorem getP_mem {Q : PL} (ha : Asc Q) {p : ByteArray × ByteArray} (h : p ∈ Q) : getP Q p.1 = some p.2 := by
  induction Q with
  | nil => simp at h
  | cons q Q ih =>
    rw [getP]
    have h2 := List.pairwise_cons.1 ha
    rcases List.mem_cons.1 h with rfl | h
    · simp
    · rw [if_neg]
      · exact ih h2.2 h
      · intro e
        have := h2.1 p h
        rw [eq_of_beq e, less_irrefl] at this
        cases this
theorem vOk_stand (n a : Nat) (v : ByteArray) : vOk n (some a) v = (decide (a < 12) && (match standV v with | none => false | some s => if s.1 = 3 then decide (s.2 < n) else true)) := by
  simp only [vOk]
  by_cases h12 : 12 ≤ a
  · rw [if_pos h12, decide_eq_false (by omega), Bool.false_and]
  · rw [if_neg h12, decide_eq_true (by omega), Bool.true_and]
    unfold standV
    by_cases h1 : (v.toList == [97]) = true
    · rw [if_pos h1, if_pos h1]; rfl
    · rw [if_neg h1, if_neg h1]
      by_cases h2 : (v.toList == [108]) = true
      · rw [if_pos h2, if_pos h2]; rfl
      · rw [if_neg h2, if_neg h2]
        by_cases h3 : byteAt v 0 = 112
        · rw [if_pos h3]
          by_cases h4 : v.size < 2
          · rw [if_pos h4, rd_nil _ (by rw [ByteArray.size_extract]; omega)]; rfl
          · rw [if_neg h4, if_neg (by simp [h3])]
            cases rdD (v.extract 1 v.size) <;> rfl
        · rw [if_neg h3]
          by_cases h4 : v.size < 2
          · rw [if_pos h4]
          · rw [if_neg h4, if_pos h3]
theorem keyOk_v (Q : PL) (n a : Nat) (v : ByteArray) (h : a ≤ 99) : keyOk Q n (k1 118 a) v = vOk n (some a) v := by
  unfold keyOk
  rw [if_pos (k1_size _ a h), if_pos (by rw [k1_byte _ a h]; rfl), k1_num _ a h]
theorem keyOk_q (Q : PL) (n a : Nat) (v : ByteArray) (h : a ≤ 99) : keyOk Q n (k1 113 a) v = decide (a < n) := by
  unfold keyOk
  rw [if_pos (k1_size _ a h), if_neg (by rw [k1_byte _ a h]; decide), if_pos (by rw [k1_byte _ a h]; rfl), k1_num _ a h]
  rfl
theorem keyOk_r (Q : PL) (n a b : Nat) (v : ByteArray) (h : a ≤ 99) (hb : b ≤ 99) : keyOk Q n (k2 114 a b) v = decide (a < n) := by
  obtain ⟨e1, e2⟩ := k2_num 114 a b h hb
  unfold keyOk
  rw [k2_size _ a b h hb] at e2 ⊢
  rw [if_neg (by omega), if_pos rfl, if_neg (by rw [k2_byte _ a b h hb]; decide), if_pos (by rw [k2_byte _ a b h hb]; rfl), e1, e2, num_tw a h, num_tw b hb]
  rfl
theorem keyOk_e (Q : PL) (n a b : Nat) (v : ByteArray) (h : a ≤ 99) (hb : b ≤ 99) : keyOk Q n (k2 101 a b) v = eOk (getP Q (k1 118 a)).isSome (getP Q (k1 118 b)).isSome (some a) (some b) v := by
  obtain ⟨e1, e2⟩ := k2_num 101 a b h hb
  unfold keyOk
  rw [k2_size _ a b h hb] at e2 ⊢
  rw [if_neg (by omega), if_pos rfl, if_pos (by rw [k2_byte _ a b h hb]; rfl), e1, e2, num_tw a h, num_tw b hb]
  rfl
theorem eOk_is (h1 h2 : Bool) (a b : Nat) (v : ByteArray) (hab : a < b) (hs : v.size = 3) : eOk h1 h2 (some a) (some b) v = (h1 && (h2 && (decide (byteAt v 0 ≤ 50) && (decide (byteAt v 1 ≤ 50) && decide (byteAt v 2 ≤ 50))))) := by
  simp only [eOk]
  rw [if_neg (by omega), if_neg (by simp [hs])]
theorem keys_iff {Q : PL} {R : Rgs} (I : Inv Q R) (ha : Asc Q) : keysOk Q R.rds.length Q = true ↔ (linksOk R = true ∧ membersOk R = true) := by
  constructor
  · intro h
    have hk := keys_all Q _ Q h
    refine ⟨(linksOk_iff R).2 (fun a h12 b hb12 => ?_), (membersOk_iff R).2 (fun a h12 h3 => ?_)⟩
    · by_cases hab : a < b ∧ b < 12
      · have he := I.e a b hab.1 hab.2
        unfold lkOk
        cases hg : getP Q (k2 101 a b) with
        | none => rw [hg] at he; rw [he]; rfl
        | some v =>
          rw [hg] at he
          rw [he]
          obtain ⟨p, hp, hp1, hp2⟩ := get_pair Q _ v hg
          have h1 := hk p hp
          rw [hp1, hp2, keyOk_e Q _ a b v (by omega) (by omega)] at h1
          have hs : v.size = 3 := by
            simp only [eOk] at h1
            split at h1
            · cases h1
            · split at h1
              · cases h1
              · rename_i hh; omega
          rw [eOk_is _ _ a b v hab.1 hs] at h1
          show (joined R a && (joined R b && (decide (byteAt v 0 ≤ 50) && (decide (byteAt v 1 ≤ 50) && decide (byteAt v 2 ≤ 50))))) = true
          rw [joined_iff I a (by omega), joined_iff I b (by omega)]
          exact h1
      · unfold lkOk
        rw [I.e0 a b hab]
    · have hv := I.v a h12
      cases hg : getP Q (k1 118 a) with
      | none => rw [hg] at hv; simp only at hv; rw [hv] at h3; cases h3
      | some v =>
        rw [hg] at hv
        simp only at hv
        obtain ⟨p, hp, hp1, hp2⟩ := get_pair Q _ v hg
        have h1 := hk p hp
        rw [hp1, hp2, keyOk_v Q _ a v (by omega), vOk_stand, hv] at h1
        simp only [h3, if_true, Bool.and_eq_true, decide_eq_true_eq] at h1
        exact h1.2
  · rintro ⟨hl, hm⟩
    have hl := (linksOk_iff R).1 hl
    have hm := (membersOk_iff R).1 hm
    refine keys_of Q _ Q (fun p hp => ?_)
    have hg := getP_mem ha hp
    obtain ⟨k, v⟩ := p
    rcases I.f _ hp with ⟨a, h12, rfl, hs⟩ | ⟨a, b, hab, hb, rfl, hs⟩ | ⟨a, h99, hn, rfl⟩ | ⟨a, b, h99, hb, hn, rfl⟩
    · simp only at hg hs ⊢
      have hv := I.v a h12
      rw [hg] at hv
      simp only at hv
      rw [keyOk_v Q _ a v (by omega), vOk_stand, hv, decide_eq_true h12, Bool.true_and]
      simp only
      split
      · rename_i h3
        exact decide_eq_true (hm a h12 h3)
      · rfl
    · simp only at hg hs ⊢
      have he := I.e a b hab hb
      rw [hg] at he
      have h1 := hl a (by omega) b hb
      unfold lkOk at h1
      rw [he] at h1
      change (joined R a && (joined R b && (decide (byteAt v 0 ≤ 50) && (decide (byteAt v 1 ≤ 50) && decide (byteAt v 2 ≤ 50))))) = true at h1
      rw [joined_iff I a (by omega), joined_iff I b (by omega)] at h1
      rw [keyOk_e Q _ a b v (by omega) (by omega), eOk_is _ _ a b v hab hs]
      exact h1
    · simp only
      rw [keyOk_q Q _ a v h99]
      exact decide_eq_true hn
    · simp only
      rw [keyOk_r Q _ a b v h99 hb]
      exact decide_eq_true hn
theorem pool_iff {Q : PL} {R : Rgs} (I : Inv Q R) : ∀ (K : List Int) (p : Option Int), (∀ x ∈ K, 0 ≤ x) → poolOk Q p K = (decide (∀ i ∈ K, joined R i = true) && Gr.chainFrom p K)
  | [], p, _ => by
    cases p <;> simp [poolOk, Gr.chainFrom]
  | x :: r, p, h => by
    have hcf : Gr.chainFrom p (x :: r) = (aheadI p x && Gr.chainFrom (some x) r) := by cases p <;> rfl
    rw [poolOk, hcf, pool_iff I r (some x) (fun y hy => h y (by simp [hy]))]
    have hj : (decide (x < 12) && (getP Q (vk x)).isSome) = joined R x := by
      have h0 := h x (by simp)
      obtain ⟨n, rfl⟩ := Int.eq_ofNat_of_zero_le h0
      by_cases h12 : n < 12
      · rw [joined_iff I n h12, decide_eq_true (by omega), Bool.true_and]
        rfl
      · unfold joined
        rw [decide_eq_false (by omega), Bool.false_and, Bool.false_and, Bool.and_false]
    have ha : decide (∀ i ∈ x :: r, joined R i = true) = (joined R x && decide (∀ i ∈ r, joined R i = true)) := by
      rw [Bool.eq_iff_iff]; simp
    rw [ha, ← hj]
    generalize decide (x < 12) = b1
    generalize (getP Q (vk x)).isSome = b2
    generalize aheadI p x = b3
    generalize decide (∀ i ∈ r, joined R i = true) = b4
    generalize Gr.chainFrom (some x) r = b5
    cases b1 <;> cases b2 <;> cases b3 <;> cases b4 <;> cases b5 <;> rfl
theorem parts_iff (Q : PL) (r : Nat) : ∀ (L : List ByteArray) (j : Nat), partsOk Q r j L = true ↔ ∀ i (h : i < L.length), j + i ≤ 99 ∧ getP Q (rk r (j + i)) = some L[i]
  | [], j => by simp [partsOk]
  | p :: L, j => by
    rw [partsOk]
    simp only [Bool.and_eq_true, decide_eq_true_eq]
    rw [parts_iff Q r L (j + 1)]
    constructor
    · rintro ⟨h1, h2, h3, h4⟩ i hi
      cases i with
      | zero =>
        refine ⟨h1, ?_⟩
        cases hg : getP Q (rk r j) with
        | none => rw [hg] at h2; cases h2
        | some v => rw [hg] at h3; simp only [oT, Option.getD_some] at h3; simp [ba_ext (eq_of_beq h3)]
      | succ i =>
        have := h4 i (by simpa using hi)
        rw [show j + (i + 1) = j + 1 + i by omega]
        exact this
    · intro h
      have h0 := h 0 (by simp)
      simp only [Nat.add_zero, List.getElem_cons_zero] at h0
      refine ⟨h0.1, by rw [h0.2]; rfl, by rw [h0.2]; simp [oT], fun i hi => ?_⟩
      have := h (i + 1) (by simp; omega)
      rw [show j + 1 + i = j + (i + 1) by omega]
      exact this
theorem form_size {n : Nat} {p : ByteArray × ByteArray} (h : FormK n p) : p.1.size = 3 ∨ p.1.size = 5 := by
  rcases h with ⟨a, h1, h2, _⟩ | ⟨a, b, h1, h2, h3, _⟩ | ⟨a, h1, h2, h3⟩ | ⟨a, b, h1, h2, h3, h4⟩
  · rw [h2]; exact Or.inl (k1_size _ a (by omega))
  · rw [h3]; exact Or.inr (k2_size _ a b (by omega) (by omega))
  · rw [h3]; exact Or.inl (k1_size _ a h1)
  · rw [h4]; exact Or.inr (k2_size _ a b h1 h2)
theorem tw_hundred : (tw 100).size = 3 := by
  unfold tw
  rw [if_neg (by omega), Lib.itoa_nonneg]
  rw [Lib.decDigits, dif_neg (by omega), Lib.decDigits, dif_neg (by omega), Lib.decDigits, dif_pos (by omega)]
  rfl
theorem round_iff {Q : PL} {R : Rgs} (I : Inv Q R) (r : Nat) (hr : r ≤ 99) (h : r < R.rds.length) : roundOk Q r = rdOk R R.rds[r] := by
  obtain ⟨_, hp⟩ := inv_pool I r hr h
  have ht : textP Q r = joinB R.rds[r].2 := by
    have := I.t r hr
    rw [List.getElem?_eq_getElem h] at this
    exact this.symm
  have hri : ∀ i, i ≤ 99 → getP Q (rk r i) = R.rds[r].2[i]? := fun i hi => by
    have := I.r r i hr hi
    rw [List.getElem?_eq_getElem h] at this
    exact this.symm
  have hlen := I.rl _ (List.getElem_mem h)
  have hb := pool_bytes Q r
  unfold roundOk rdOk poolR
  rw [pool_iff I _ _ (fun x hx => (hb x hx).1), hp, ht]
  generalize R.rds[r] = x at *
  obtain ⟨K, L⟩ := x
  simp only at *
  have hpart : (partsOk Q r 0 (Gr.partsT (joinB L)) && !(getP Q (rk r (Gr.partsT (joinB L)).length)).isSome) = decide (Gr.partsT (joinB L) = L) := by
    rw [Bool.eq_iff_iff]
    simp only [Bool.and_eq_true, decide_eq_true_eq, parts_iff, Nat.zero_add, Bool.not_eq_true', Option.isSome_eq_false_iff, Option.isNone_iff_eq_none]
    generalize Gr.partsT (joinB L) = M
    constructor
    · rintro ⟨h1, h2⟩
      apply List.ext_getElem?
      intro i
      rcases Nat.lt_or_ge i M.length with hi | hi
      · obtain ⟨h3, h4⟩ := h1 i hi
        rw [hri i h3] at h4
        rw [h4, List.getElem?_eq_getElem hi]
      · rw [List.getElem?_eq_none hi]
        by_cases hM : M.length ≤ 99
        · rw [hri _ hM] at h2
          have := List.getElem?_eq_none_iff.1 h2
          rw [List.getElem?_eq_none (by omega)]
        · rw [List.getElem?_eq_none (by omega)]
    · rintro rfl
      refine ⟨fun i hi => ⟨by omega, by rw [hri i (by omega), List.getElem?_eq_getElem hi]⟩, ?_⟩
      by_cases hM : M.length ≤ 99
      · rw [hri _ hM, List.getElem?_eq_none (Nat.le_refl _)]
      · have hM' : M.length = 100 := by omega
        refine getP_none (fun p hpQ e => ?_)
        have hs := form_size (I.f p hpQ)
        have hz : (rk r M.length).size = p.1.size := by rw [← size_list, ← size_list, e]
        rw [hM'] at hz
        unfold rk at hz
        rw [ByteArray.size_append, ByteArray.size_append, tw_hundred] at hz
        have h2 : (tw r).size = 2 := by rw [← size_list, tw_list r hr]; rfl
        have h1 : (ByteArray.mk #[114]).size = 1 := rfl
        omega
  rw [← hpart]
  generalize partsOk Q r 0 (Gr.partsT (joinB L)) = b1
  generalize (getP Q (rk r (Gr.partsT (joinB L)).length)).isSome = b2
  generalize Gr.rcOk (joinB L) = b3
  generalize decide ((Gr.rcV (joinB L)).s = (K.length : Int)) = b4
  generalize decide (K.length ≤ 9) = b5
  generalize decide (∀ i ∈ K, joined R i = true) = b6
  generalize Gr.chainFrom none K = b7
  cases b1 <;> cases b2 <;> cases b3 <;> cases b4 <;> cases b5 <;> cases b6 <;> cases b7 <;> rfl
theorem rounds_iff (Q : PL) : ∀ (f r : Nat), roundsOk Q f r = true ↔ ∀ i, i < f → roundOk Q (r + i) = true
  | 0, r => by simp [roundsOk]
  | f + 1, r => by
    rw [roundsOk, Bool.and_eq_true, rounds_iff Q f (r + 1)]
    constructor
    · rintro ⟨h1, h2⟩ i hi
      cases i with
      | zero => exact h1
      | succ i => rw [show r + (i + 1) = r + 1 + i by omega]; exact h2 i (by omega)
    · intro h
      exact ⟨h 0 (by omega), fun i hi => by rw [show r + 1 + i = r + (i + 1) by omega]; exact h (i + 1) (by omega)⟩
theorem sum_parts (Q : PL) (L : List (List Int × List ByteArray)) : ∀ (f r : Nat), f + r = L.length → (∀ i (h : i < L.length), r ≤ i → (Gr.partsT (textP Q i)).length = L[i].2.length) → partsSum Q f r = partsN (L.drop r)
  | 0, r, h, _ => by rw [List.drop_eq_nil_of_le (by omega)]; rfl
  | f + 1, r, h, hh => by
    have hl : r < L.length := by omega
    rw [partsSum, sum_parts Q L f (r + 1) (by omega) (fun i hi hr => hh i hi (by omega)), hh r hl (Nat.le_refl _), List.drop_eq_getElem_cons hl]
    unfold partsN
    rw [List.map_cons, List.sum_cons]
theorem checks_iff {Q : PL} {R : Rgs} (I : Inv Q R) (ha : Asc Q) : checks R = (decide (rnds Q ≤ 6) && (keysOk Q (rnds Q) Q && (roundsOk Q (rnds Q) 0 && decide (rCount Q = partsSum Q (rnds Q) 0)))) := by
  obtain ⟨hr1, hr2⟩ := inv_rnds I
  by_cases h6 : R.rds.length ≤ 6
  · have hr := hr2 h6
    rw [hr, decide_eq_true h6, Bool.true_and]
    rw [Bool.eq_iff_iff]
    unfold checks roundsR
    rw [decide_eq_true h6, Bool.and_true]
    simp only [Bool.and_eq_true, keys_iff I ha, decide_eq_true_eq, rounds_iff, Nat.zero_add]
    constructor
    · rintro ⟨h1, h2, h3⟩
      have hro : ∀ i, i < R.rds.length → roundOk Q i = true := fun i hi => by rw [round_iff I i (by omega) hi]; exact h2 _ (List.getElem_mem hi)
      refine ⟨⟨h1, h3⟩, hro, ?_⟩
      rw [I.c, sum_parts Q R.rds R.rds.length 0 (by omega) (fun i hi _ => ?_), List.drop_zero]
      have := h2 _ (List.getElem_mem hi)
      unfold rdOk at this
      simp only [Bool.and_eq_true, decide_eq_true_eq] at this
      have ht := I.t i (by omega)
      rw [List.getElem?_eq_getElem hi] at ht
      rw [← ht]
      exact congrArg List.length this.1.1
    · rintro ⟨⟨h1, h3⟩, h2, _⟩
      refine ⟨h1, fun x hx => ?_, h3⟩
      obtain ⟨i, hi, rfl⟩ := List.mem_iff_getElem.1 hx
      rw [← round_iff I i (by omega) hi]
      exact h2 i hi
  · have : ¬ rnds Q ≤ 6 := fun h => h6 (hr1.2 h)
    unfold checks roundsR
    rw [decide_eq_false h6, decide_eq_false this]
    simp
theorem rCount_len : ∀ (Q : PL), rCount Q = (Q.filter fun p => decide (byteAt p.1 0 = 114)).length
  | [] => rfl
  | p :: Q => by
    rw [rCount, rCount_len Q]
    by_cases h : byteAt p.1 0 = 114
    · rw [if_pos h, List.filter_cons_of_pos (by simp [h]), List.length_cons]; omega
    · rw [if_neg h, List.filter_cons_of_neg (by simp [h])]; omega
def askedF (Q : PL) : Nat → Nat → List (List UInt8)
  | 0, _ => []
  | f + 1, r => ((List.range (Gr.partsT (textP Q r)).length).map fun i => (k2 114 r i).toList) ++ askedF Q f (r + 1)
theorem asked_len (Q : PL) : ∀ (f r : Nat), (askedF Q f r).length = partsSum Q f r
  | 0, r => rfl
  | f + 1, r => by rw [askedF, partsSum, List.length_append, asked_len Q f (r + 1)]; simp
theorem asked_mem (Q : PL) : ∀ (f r : Nat) (x : List UInt8), x ∈ askedF Q f r ↔ ∃ a i, r ≤ a ∧ a < r + f ∧ i < (Gr.partsT (textP Q a)).length ∧ x = (k2 114 a i).toList
  | 0, r, x => by simp [askedF]; intro a i h1 h2; omega
  | f + 1, r, x => by
    rw [askedF, List.mem_append, asked_mem Q f (r + 1) x]
    constructor
    · rintro (h | ⟨a, i, h1, h2, h3, h4⟩)
      · obtain ⟨i, hi, rfl⟩ := List.mem_map.1 h
        exact ⟨r, i, Nat.le_refl _, by omega, by simpa using hi, rfl⟩
      · exact ⟨a, i, by omega, by omega, h3, h4⟩
    · rintro ⟨a, i, h1, h2, h3, h4⟩
      rcases Nat.eq_or_lt_of_le h1 with h | h
      · subst h
        exact Or.inl (List.mem_map.2 ⟨i, by simpa using h3, h4.symm⟩)
      · exact Or.inr ⟨a, i, by omega, by omega, h3, h4⟩
theorem asked_nodup (Q : PL) : ∀ (f r : Nat), r + f ≤ 99 → (∀ a, r ≤ a → a < r + f → (Gr.partsT (textP Q a)).length ≤ 100) → (askedF Q f r).Nodup
  | 0, r, _, _ => by simp [askedF]
  | f + 1, r, h, hl => by
    rw [askedF, List.nodup_append]
    refine ⟨?_, asked_nodup Q f (r + 1) (by omega) (fun a h1 h2 => hl a (by omega) (by omega)), ?_⟩
    · unfold List.Nodup
      rw [List.pairwise_map]
      refine List.Pairwise.imp_of_mem ?_ (List.nodup_range (n := (Gr.partsT (textP Q r)).length))
      intro a b ha hb hab e
      have h1 := List.mem_range.1 ha
      have h2 := List.mem_range.1 hb
      have h3 := hl r (Nat.le_refl _) (by omega)
      exact hab (k2_inj (by omega) (by omega) (by omega) (by omega) e).2
    · intro x hx y hy e
      obtain ⟨i, hi, rfl⟩ := List.mem_map.1 hx
      obtain ⟨a, j, h1, h2, h3, h4⟩ := (asked_mem Q f (r + 1) y).1 hy
      have h5 := hl r (Nat.le_refl _) (by omega)
      have h6 := hl a (by omega) (by omega)
      have h7 := List.mem_range.1 hi
      rw [h4] at e
      have := (k2_inj (by omega) (by omega) (by omega) (by omega) e).1
      omega
theorem part_below {Q : PL} (hn : rnds Q ≤ 6) (hr : ∀ i, i < rnds Q → roundOk Q i = true) (hc : rCount Q = partsSum Q (rnds Q) 0) {a b : Nat} (h99 : a ≤ 99) (hb : b ≤ 99) (hg : (getP Q (k2 114 a b)).isSome = true) : b < (Gr.partsT (textP Q a)).length := by
  have hpo : ∀ r, r < rnds Q → ∀ i (h : i < (Gr.partsT (textP Q r)).length), i ≤ 99 ∧ getP Q (rk r i) = some (Gr.partsT (textP Q r))[i] := fun r hrn => by
    have h1 := hr r hrn
    unfold roundOk at h1
    simp only [Bool.and_eq_true] at h1
    have h2 := (parts_iff Q r _ 0).1 h1.2.2.1
    intro i hi
    have := h2 i hi
    rwa [Nat.zero_add] at this
  have hl : ∀ r, 0 ≤ r → r < 0 + rnds Q → (Gr.partsT (textP Q r)).length ≤ 100 := fun r _ hrn => by
    rcases Nat.lt_or_ge 100 (Gr.partsT (textP Q r)).length with h | h
    · have := (hpo r (by omega) 100 h).1; omega
    · exact h
  have hnd := asked_nodup Q (rnds Q) 0 (by omega) hl
  by_cases hin : (k2 114 a b).toList ∈ askedF Q (rnds Q) 0
  · obtain ⟨a', i, _, h2, h3, h4⟩ := (asked_mem Q _ 0 _).1 hin
    have h5 := hl a' (Nat.zero_le _) h2
    obtain ⟨rfl, rfl⟩ := k2_inj h99 hb (by omega) (by omega) h4
    exact h3
  · exfalso
    have hsub : ∀ x ∈ (k2 114 a b).toList :: askedF Q (rnds Q) 0, x ∈ (Q.filter fun p => decide (byteAt p.1 0 = 114)).map fun p => p.1.toList := by
      have hmem : ∀ c d, c ≤ 99 → d ≤ 99 → (getP Q (k2 114 c d)).isSome = true → (k2 114 c d).toList ∈ (Q.filter fun p => decide (byteAt p.1 0 = 114)).map fun p => p.1.toList := fun c d hc hd hs => by
        obtain ⟨v, hv⟩ := Option.isSome_iff_exists.1 hs
        obtain ⟨p, hp, h1, _⟩ := get_pair Q _ v hv
        refine List.mem_map.2 ⟨p, List.mem_filter.2 ⟨hp, ?_⟩, by rw [h1]⟩
        rw [h1, k2_byte _ c d hc hd]
        rfl
      intro x hx
      rcases List.mem_cons.1 hx with rfl | hx
      · exact hmem a b h99 hb hg
      · obtain ⟨a', i, _, h2, h3, rfl⟩ := (asked_mem Q _ 0 _).1 hx
        have h5 := hpo a' (by omega) i h3
        exact hmem a' i (by omega) h5.1 (by show (getP Q (rk a' i)).isSome = true; rw [h5.2]; rfl)
    have hle := nodup_le _ _ (List.nodup_cons.2 ⟨hin, hnd⟩) hsub
    rw [List.length_cons, asked_len, ← hc, List.length_map, ← rCount_len] at hle
    omega
theorem fold_some {Q : PL} (hst : stateOk Q = true) : ∀ (L P : PL) (R : Rgs), Inv P R → P ++ L = Q → ∃ R', regFold R L = some R'
  | [], P, R, _, _ => ⟨R, rfl⟩
  | q :: L, P, R, I, hQ => by
    have hst2 := hst
    unfold stateOk at hst2
    simp only [Bool.and_eq_true, decide_eq_true_eq] at hst2
    obtain ⟨hM, h6, hk, hro, hcount⟩ := hst2
    have hasc := map_asc hM
    have hall := keys_all Q _ Q hk
    have hro := (rounds_iff Q _ 0).1 hro
    simp only [Nat.zero_add] at hro
    have hq : q ∈ Q := by rw [← hQ]; simp
    have hkq := hall q hq
    have hasc' : Asc (P ++ q :: L) := by rw [hQ]; exact hasc
    have hnew := asc_new hasc'
    have hahead : ∀ k, (getP Q k).isSome = true → Op.bytesLess k.toList q.1.toList = true → (getP P k).isSome = true := fun k hs hl => by
      obtain ⟨v, hv⟩ := Option.isSome_iff_exists.1 hs
      obtain ⟨p, hp, h1, _⟩ := get_pair Q k v hv
      have hp' : p ∈ P ++ q :: L := by rw [hQ]; exact hp
      have := asc_ahead hasc' hp' (by rw [h1]; exact hl)
      rw [← h1]
      exact getP_some this
    have hdup : (getP P q.1).isSome = true → False := fun hs => by
      obtain ⟨v, hv⟩ := Option.isSome_iff_exists.1 hs
      obtain ⟨p, hp, h1, _⟩ := get_pair P q.1 v hv
      exact hnew p hp (by rw [h1])
    have hrd : ∀ m, m ≤ 99 → m = R.rds.length → (getP P (k1 113 m)).isSome = true → False := fun m hm he hs => by
      have := I.q m hm
      rw [List.getElem?_eq_none (by omega)] at this
      cases hg : getP P (k1 113 m) with
      | none => rw [hg] at hs; cases hs
      | some v => rw [hg] at this; cases this
    have htake : ∃ R1, takeP R q.1 q.2 = some R1 := by
      obtain ⟨k, v⟩ := q
      simp only at *
      by_cases h3 : k.size = 3
      · rw [takeP_1 R k v h3]
        have hkq' := hkq
        unfold keyOk at hkq'
        rw [if_pos h3] at hkq'
        cases hn : numP (k.extract 1 k.size) with
        | none =>
          rw [hn] at hkq'
          split at hkq'
          · cases hkq'
          · split at hkq' <;> cases hkq'
        | some a =>
          obtain ⟨h99, hka⟩ := key1_is h3 hn
          rw [hn] at hkq'
          simp only [take1]
          split at hkq'
          · rename_i hb
            rw [hb, if_neg (by omega), if_pos rfl]
            rw [vOk_stand] at hkq'
            simp only [Bool.and_eq_true, decide_eq_true_eq] at hkq'
            unfold takeV
            rw [if_pos hkq'.1]
            cases hs : standV v with
            | none => rw [hs] at hkq'; cases hkq'.2
            | some s => exact ⟨_, rfl⟩
          · split at hkq'
            · rename_i hb
              rw [hb, if_pos rfl]
              rw [hb] at hka
              have han : a < rnds Q := of_decide_eq_true hkq'
              unfold takeQ
              have : a = R.rds.length := by
                rcases Nat.lt_trichotomy a R.rds.length with h | h | h
                · exfalso
                  have := I.q a h99
                  rw [List.getElem?_eq_getElem h] at this
                  refine hdup ?_
                  rw [hka]
                  cases hg : getP P (k1 113 a) with
                  | none => change _ = (getP P (k1 113 a)).map bytesI at this; rw [hg] at this; cases this
                  | some v => rfl
                · exact h
                · exfalso
                  refine hrd R.rds.length (by omega) rfl (hahead _ (rnds_some Q _ (by omega)) ?_)
                  rw [hka]
                  exact k1_less h h99
              rw [if_pos this]
              exact ⟨_, rfl⟩
            · cases hkq'
      · by_cases h5 : k.size = 5
        · rw [takeP_2 R k v h5]
          have hkq' := hkq
          unfold keyOk at hkq'
          rw [if_neg h3, if_pos h5] at hkq'
          cases hn : numP (k.extract 1 3) with
          | none =>
            rw [hn] at hkq'
            split at hkq'
            · cases hkq'
            · split at hkq' <;> cases hkq'
          | some a =>
            cases hm : numP (k.extract 3 k.size) with
            | none =>
              rw [hn, hm] at hkq'
              split at hkq'
              · cases hkq'
              · split at hkq' <;> cases hkq'
            | some b =>
              obtain ⟨h99, hb99, hka⟩ := key2_is h5 hn hm
              simp only [take2]
              split at hkq'
              · rename_i hb
                rw [hb, if_pos rfl]
                rw [hb] at hka
                have hke := hkq
                rw [hka] at hke
                change keyOk Q (rnds Q) (k2 101 a b) v = true at hke
                rw [keyOk_e Q _ a b v h99 hb99] at hke
                simp only [eOk] at hke
                split at hke
                · cases hke
                · split at hke
                  · cases hke
                  · rename_i h1 h2
                    simp only [Bool.and_eq_true] at hke
                    have hvb := hke.2.1
                    obtain ⟨u, hu⟩ := Option.isSome_iff_exists.1 hvb
                    obtain ⟨p, hp, hp1, hp2⟩ := get_pair Q _ u hu
                    have hkp := hall p hp
                    rw [hp1, keyOk_v Q _ b _ hb99, vOk_stand] at hkp
                    simp only [Bool.and_eq_true, decide_eq_true_eq] at hkp
                    unfold takeE
                    rw [if_pos ⟨hkp.1, by omega, by omega⟩]
                    exact ⟨_, rfl⟩
              · split at hkq'
                · rename_i hb
                  rw [hb, if_neg (by omega), if_pos rfl]
                  rw [hb] at hka
                  change k = k2 114 a b at hka
                  have han : a < rnds Q := by
                    rw [hka, keyOk_r Q _ a b v h99 hb99] at hkq
                    exact of_decide_eq_true hkq
                  have hal : a < R.rds.length := by
                    rcases Nat.lt_or_ge a R.rds.length with h | h
                    · exact h
                    · exfalso
                      refine hrd R.rds.length (by omega) rfl (hahead _ (rnds_some Q _ (by omega)) ?_)
                      rw [hka, k2_list _ a b h99 hb99]
                      show Op.bytesLess (k1 113 R.rds.length).toList _ = true
                      rw [k1_list _ _ (by omega)]
                      exact less_lt (by decide) _ _
                  have hgk : (getP Q (k2 114 a b)).isSome = true := by
                    have := getP_some hq
                    simp only at this
                    rwa [hka] at this
                  have hbl := part_below h6 hro hcount h99 hb99 hgk
                  unfold takeR
                  rw [List.getElem?_eq_getElem hal]
                  simp only
                  have hrr : ∀ i, i ≤ 99 → getP P (k2 114 a i) = R.rds[a].2[i]? := fun i hi => by
                    have := I.r a i h99 hi
                    rw [List.getElem?_eq_getElem hal] at this
                    exact this.symm
                  have : b = R.rds[a].2.length := by
                    rcases Nat.lt_trichotomy b R.rds[a].2.length with h | h | h
                    · exfalso
                      refine hdup ?_
                      rw [hka, hrr b hb99, List.getElem?_eq_getElem h]
                      rfl
                    · exact h
                    · exfalso
                      have h1 : (getP P (k2 114 a R.rds[a].2.length)).isSome = true := by
                        refine hahead _ ?_ ?_
                        · have h2 := hro a han
                          unfold roundOk at h2
                          simp only [Bool.and_eq_true] at h2
                          have h3 := ((parts_iff Q a _ 0).1 h2.2.2.1 R.rds[a].2.length (by omega)).2
                          rw [Nat.zero_add] at h3
                          show (getP Q (rk a R.rds[a].2.length)).isSome = true
                          rw [h3]
                          rfl
                        · rw [hka]
                          exact k2_less h99 h hb99
                      rw [hrr _ (by omega), List.getElem?_eq_none (Nat.le_refl _)] at h1
                      cases h1
                  rw [if_pos this]
                  exact ⟨_, rfl⟩
                · cases hkq'
        · exfalso
          unfold keyOk at hkq
          rw [if_neg h3, if_neg h5] at hkq
          cases hkq
    obtain ⟨R1, h1⟩ := htake
    rw [regFold, h1]
    exact fold_some hst L (P ++ [q]) R1 (inv_step I hnew h1) (by simpa using hQ)
theorem reg_is (Q : PL) : regOk Q = stateOk Q := by
  unfold regOk
  by_cases hM : Tr.MapR Q
  · have ha := map_asc hM
    cases hf : regFold R0 Q with
    | none =>
      rw [Bool.and_false]
      cases hs : stateOk Q with
      | false => rfl
      | true =>
        obtain ⟨R', h⟩ := fold_some hs Q [] R0 inv_nil rfl
        rw [hf] at h
        cases h
    | some R =>
      have I := inv_fold Q [] R0 R inv_nil (by simpa using ha) hf
      rw [List.nil_append] at I
      simp only
      rw [checks_iff I ha]
      rfl
  · unfold stateOk
    rw [decide_eq_false hM, Bool.false_and, Bool.false_and]
theorem reg_inv {Q : PL} (h : stateOk Q = true) : ∃ R, regFold R0 Q = some R ∧ Inv Q R ∧ Asc Q ∧ checks R = true ∧ rnds Q = R.rds.length := by
  have h2 := h
  rw [← reg_is] at h2
  unfold regOk at h2
  simp only [Bool.and_eq_true, decide_eq_true_eq] at h2
  have ha := map_asc h2.1
  cases hf : regFold R0 Q with
  | none => rw [hf] at h2; cases h2.2
  | some R =>
    rw [hf] at h2
    have I := inv_fold Q [] R0 R inv_nil (by simpa using ha) hf
    rw [List.nil_append] at I
    have hc : checks R = true := h2.2
    refine ⟨R, rfl, I, ha, hc, (inv_rnds I).2 ?_⟩
    unfold checks roundsR at hc
    simp only [Bool.and_eq_true, decide_eq_true_eq] at hc
    exact hc.2.1.2
theorem asc_num {Q : PL} {n : Nat} (ha : Asc Q) (hf : ∀ p ∈ Q, FormK n p) (word : List UInt8) : (idsP word Q).Pairwise (· < ·) ∧ ∀ x ∈ idsP word Q, ∃ a : Nat, a < 12 ∧ x = (a : Int) ∧ ∃ p ∈ Q, p.1 = k1 118 a ∧ (word = [] ∨ p.2.toList = word) := by
  induction Q with
  | nil => simp [idsP]
  | cons q Q ih =>
    have h2 := List.pairwise_cons.1 ha
    obtain ⟨i1, i2⟩ := ih h2.2 (fun p hp => hf p (by simp [hp]))
    have i2' : ∀ x ∈ idsP word Q, ∃ a : Nat, a < 12 ∧ x = (a : Int) ∧ ∃ p ∈ q :: Q, p.1 = k1 118 a ∧ (word = [] ∨ p.2.toList = word) := fun x hx => by
      obtain ⟨a, h3, h4, p, hp, h5⟩ := i2 x hx
      exact ⟨a, h3, h4, p, by simp [hp], h5⟩
    rw [idsP]
    split
    · rename_i hc
      obtain ⟨hb, hw⟩ := hc
      have hw' : word = [] ∨ q.2.toList = word := by
        rcases hw with h | h
        · exact Or.inl h
        · exact Or.inr (eq_of_beq h)
      have hfq := hf q (by simp)
      have hv : ∃ a, a < 12 ∧ q.1 = k1 118 a := by
        rcases hfq with ⟨a, h1, h3, _⟩ | ⟨a, b, h1, h3, h4, _⟩ | ⟨a, h1, h3, h4⟩ | ⟨a, b, h1, h3, h4, h5⟩
        · exact ⟨a, h1, h3⟩
        · rw [h4, k2_byte _ a b (by omega) (by omega)] at hb; exact absurd hb (by decide)
        · rw [h4, k1_byte _ a h1] at hb; exact absurd hb (by decide)
        · rw [h5, k2_byte _ a b h1 h3] at hb; exact absurd hb (by decide)
      obtain ⟨a, h12, hka⟩ := hv
      have hx : oN (numP (q.1.extract 1 q.1.size)) = (a : Int) := by rw [hka, k1_num _ a (by omega)]; rfl
      rw [hx]
      refine ⟨List.pairwise_cons.2 ⟨fun x hx => ?_, i1⟩, fun x hx => ?_⟩
      · obtain ⟨b, h3, rfl, p, hp, h5, _⟩ := i2 x hx
        have hl := h2.1 p hp
        rw [hka, h5] at hl
        rcases Nat.lt_trichotomy a b with h | h | h
        · omega
        · subst h; rw [less_irrefl] at hl; cases hl
        · have := less_trans _ _ _ hl (k1_less h (by omega))
          rw [less_irrefl] at this; cases this
      · rcases List.mem_cons.1 hx with rfl | hx
        · exact ⟨a, h12, rfl, q, by simp, hka, hw'⟩
        · exact i2' x hx
    · exact ⟨i1, i2'⟩
theorem ids_mem {word : List UInt8} : ∀ (Q : PL) (p : ByteArray × ByteArray) (a : Nat), p ∈ Q → a ≤ 99 → p.1 = k1 118 a → (word = [] ∨ p.2.toList = word) → (a : Int) ∈ idsP word Q
  | [], p, a, h, _, _, _ => by simp at h
  | q :: Q, p, a, h, h99, hk, hw => by
    rw [idsP]
    rcases List.mem_cons.1 h with rfl | h
    · have hx : oN (numP (p.1.extract 1 p.1.size)) = (a : Int) := by rw [hk, k1_num _ a h99]; rfl
      rw [if_pos ⟨by rw [hk, k1_byte _ a h99]; rfl, by rcases hw with h | h <;> simp [h]⟩, hx]
      simp
    · have := ids_mem Q p a h h99 hk hw
      split
      · simp [this]
      · exact this
theorem lt_eq : ∀ (L M : List Int), L.Pairwise (· < ·) → M.Pairwise (· < ·) → (∀ e, e ∈ L ↔ e ∈ M) → L = M
  | [], [], _, _, _ => rfl
  | [], y :: M, _, _, h => absurd ((h y).2 (by simp)) (by simp)
  | x :: L, [], _, _, h => absurd ((h x).1 (by simp)) (by simp)
  | x :: L, y :: M, hL, hM, h => by
    have h1 := List.pairwise_cons.1 hL
    have h2 := List.pairwise_cons.1 hM
    have hxy : x = y := by
      rcases List.mem_cons.1 ((h x).1 (by simp)) with e | e
      · exact e
      · rcases List.mem_cons.1 ((h y).2 (by simp)) with e' | e'
        · exact e'.symm
        · have := h2.1 x e
          have := h1.1 y e'
          omega
    subst hxy
    congr 1
    refine lt_eq L M h1.2 h2.2 (fun e => ?_)
    constructor
    · intro he
      have := h1.1 e he
      rcases List.mem_cons.1 ((h e).1 (by simp [he])) with e' | e'
      · omega
      · exact e'
    · intro he
      have := h2.1 e he
      rcases List.mem_cons.1 ((h e).2 (by simp [he])) with e' | e'
      · omega
      · exact e'
theorem who_asc (f : Nat → Bool) (n : Nat) : (whoTo f n).Pairwise (· < ·) := by
  unfold whoTo
  rw [List.pairwise_map]
  refine List.Pairwise.filter _ ?_
  refine List.Pairwise.imp ?_ (List.pairwise_lt_range (n := n))
  intro a b h
  omega
theorem who_mem (f : Nat → Bool) (n : Nat) (x : Int) : x ∈ whoTo f n ↔ ∃ a : Nat, a < n ∧ f a = true ∧ x = (a : Int) := by
  unfold whoTo
  simp only [List.mem_map, List.mem_filter, List.mem_range]
  constructor
  · rintro ⟨a, ⟨h1, h2⟩, rfl⟩; exact ⟨a, h1, h2, rfl⟩
  · rintro ⟨a, h1, h2, rfl⟩; exact ⟨a, ⟨h1, h2⟩, rfl⟩
theorem stand_here {v : ByteArray} {s : Nat × Nat} (h : standV v = some s) : s.1 = 1 ↔ v.toList = [97] := by
  unfold standV at h
  split at h
  · rename_i hv; simp at h; subst h; simp [eq_of_beq hv]
  · rename_i hv
    have hv' : v.toList ≠ [97] := fun e => hv (by rw [e]; rfl)
    split at h
    · simp at h; subst h; simp [hv']
    · split at h
      · cases hr : rdD (v.extract 1 v.size) with
        | none => rw [hr] at h; cases h
        | some r => rw [hr] at h; simp at h; subst h; simp [hv']
      · cases h
theorem ids_is {Q : PL} {R : Rgs} (I : Inv Q R) (ha : Asc Q) : idsP [] Q = whoTo (isIn R) 12 := by
  obtain ⟨h1, h2⟩ := asc_num ha I.f []
  refine lt_eq _ _ h1 (who_asc _ _) (fun x => ?_)
  rw [who_mem]
  constructor
  · intro hx
    obtain ⟨a, h12, rfl, p, hp, hk, _⟩ := h2 x hx
    refine ⟨a, h12, ?_, rfl⟩
    unfold isIn
    rw [joined_iff I a h12, ← hk]
    exact getP_some hp
  · rintro ⟨a, h12, hj, rfl⟩
    unfold isIn at hj
    rw [joined_iff I a h12] at hj
    obtain ⟨v, hv⟩ := Option.isSome_iff_exists.1 hj
    obtain ⟨p, hp, hk, _⟩ := get_pair Q _ v hv
    exact ids_mem Q p a hp (by omega) hk (Or.inl rfl)
theorem here_is {Q : PL} {R : Rgs} (I : Inv Q R) (ha : Asc Q) : idsP [97] Q = whoTo (isHr R) 12 := by
  obtain ⟨h1, h2⟩ := asc_num ha I.f [97]
  refine lt_eq _ _ h1 (who_asc _ _) (fun x => ?_)
  rw [who_mem]
  constructor
  · intro hx
    obtain ⟨a, h12, rfl, p, hp, hk, hw⟩ := h2 x hx
    refine ⟨a, h12, ?_, rfl⟩
    have hv := I.v a h12
    have hg := getP_mem ha hp
    rw [hk] at hg
    rw [hg] at hv
    simp only at hv
    unfold isHr isHereR
    rw [decide_eq_true (by omega), decide_eq_true (by omega), Bool.true_and, Bool.true_and, Int.toNat_natCast]
    refine decide_eq_true ((stand_here hv).2 ?_)
    rcases hw with h | h
    · cases h
    · exact h
  · rintro ⟨a, h12, hj, rfl⟩
    unfold isHr isHereR at hj
    simp only [Bool.and_eq_true, decide_eq_true_eq, Int.toNat_natCast] at hj
    have hv := I.v a h12
    cases hg : getP Q (k1 118 a) with
    | none => rw [hg] at hv; simp only at hv; rw [hv] at hj; cases hj.2.2
    | some v =>
      rw [hg] at hv
      simp only at hv
      obtain ⟨p, hp, hk, h3⟩ := get_pair Q _ v hg
      refine ids_mem Q p a hp (by omega) hk (Or.inr ?_)
      rw [h3]
      exact (stand_here hv).1 hj.2.2
theorem who_range (f : Nat → Bool) : ∀ x ∈ whoTo f 12, 0 ≤ x ∧ x < 12 := by
  intro x hx
  obtain ⟨a, h1, _, rfl⟩ := (who_mem f 12 x).1 hx
  omega
end Rg
end Go.Proofs.YtihnaddfpmjpaaaGreatDoor
