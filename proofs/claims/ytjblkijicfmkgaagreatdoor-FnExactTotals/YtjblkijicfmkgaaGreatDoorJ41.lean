/-
 LgM.
-/
import Derived.Test.YtjblkijicfmkgaaGreatDoorJ34
import Derived.Test.YtjblkijicfmkgaaGreatDoorJ39
import Derived.Test.YtjblkijicfmkgaaGreatDoorJ14
import Derived.Test.YtjblkijicfmkgaaGreatDoorJ40
namespace Go.Proofs.YtjblkijicfmkgaaGreatDoor
namespace Rg
open Go.RowKit
/-- What holds of a round of a right state. -/
structure RoG (K : List Int) (C : Gr.RC) : Prop where
  mok : Gr.matchOk C.s C.Q C.M = true
  size : C.s = (K.length : Int)
  few : K.length ≤ 9
  pool : ∀ x ∈ K, 0 ≤ x ∧ x < 12
  small : Gr.csize C.Q C.M C.Y C.G ≤ 1048576
theorem RoG.couples {K : List Int} {C : Gr.RC} (h : RoG K C) : ∀ c ∈ C.M, 0 ≤ c.A ∧ c.A < (K.length : Int) ∧ 0 ≤ c.B ∧ c.B < (K.length : Int) := by
  intro c hc
  obtain ⟨hg, _, hm⟩ := Gr.match_sound h.mok
  have := (Gr.match_pm hg C.M none [] hm).1 c hc
  have := h.size
  omega
theorem RoG.sums {K : List Int} {C : Gr.RC} (h : RoG K C) : Gr.SB (Gr.sums C.Q C.M) 9 := by
  obtain ⟨hg, h9, hm⟩ := Gr.match_sound h.mok
  have key : ∀ (L : List Gr.CoupleI) (t : Gr.SumsI) (n : Int), Gr.SB t n → (∀ x ∈ L, 0 ≤ Gr.atFrom x.A x.B 0 C.Q) → Gr.SB (Gr.sumsFrom C.Q t L) (n + (L.length : Int)) := by
    intro L
    induction L with
    | nil => intro t n ht _; simpa [Gr.sumsFrom] using ht
    | cons x r ih =>
      intro t n ht hx
      have h1 := ih _ (n + 1) (ht.add (Gr.edgeN_ok hg (hx x List.mem_cons_self))) (fun y hy => hx y (List.mem_cons_of_mem _ hy))
      show Gr.SB (Gr.sumsFrom C.Q _ r) _
      rw [List.length_cons]
      exact h1.mono (by omega)
  exact (key C.M ⟨0, 0, 0⟩ 0 (Gr.SB.zero _ (by omega)) (Gr.mFrom_at C.Q C.M none [] hm)).mono (by omega)
theorem RoG.sumsR {K : List Int} {C : Gr.RC} (h : RoG K C) : Gr.sumsR C.s C.Q C.M = Gr.sums C.Q C.M := by
  unfold Gr.sumsR
  rw [if_pos h.mok]
theorem round_rog {Q : PL} {R : Rgs} (hst : stateOk Q = true) (hf : regFold R0 Q = some R) : Inv Q R ∧ Asc Q ∧ rnds Q = R.rds.length ∧ R.rds.length ≤ 6 ∧ (∀ r (h : r < R.rds.length), poolP Q r = R.rds[r].1 ∧ joinB R.rds[r].2 = textP Q r ∧ Gr.partsT (joinB R.rds[r].2) = R.rds[r].2 ∧ RoG R.rds[r].1 (Gr.rcV (textP Q r))) ∧ ∀ a, a < 12 → (R.mem a).1 = 3 → (R.mem a).2 < R.rds.length := by
  obtain ⟨R', hf', I, ha, hc, hr⟩ := reg_inv hst
  rw [hf] at hf'
  cases hf'
  have hc' := hc
  unfold checks roundsR at hc'
  simp only [Bool.and_eq_true, decide_eq_true_eq] at hc'
  have h6 := hc'.2.1.2
  refine ⟨I, ha, hr, h6, fun r h => ?_, (membersOk_iff R).1 hc'.2.2⟩
  have ht := I.t r (by omega)
  rw [List.getElem?_eq_getElem h] at ht
  change joinB R.rds[r].2 = textP Q r at ht
  have hrd := hc'.2.1.1 _ (List.getElem_mem h)
  unfold rdOk poolR at hrd
  simp only [Bool.and_eq_true, decide_eq_true_eq] at hrd
  obtain ⟨⟨hpt, hrc⟩, hs, hj, h9, hch⟩ := hrd
  have hrc' := hrc
  rw [ht] at hrc hs
  have hcert := (Gr.rc_is hrc).1
  unfold Gr.certR at hcert
  simp only [Bool.and_eq_true] at hcert
  refine ⟨(inv_pool I r (by omega) h).2, ht, hpt, hcert.2.1, hs, h9, fun x hx => ?_, (Gr.rc_small _).1⟩
  have := hj x hx
  unfold joined at this
  simp only [Bool.and_eq_true, decide_eq_true_eq] at this
  exact ⟨this.1, this.2.1⟩
theorem round_map {Q : PL} (hst : stateOk Q = true) (r : Nat) (h : r < rnds Q) : RoG (poolP Q r) (Gr.rcV (textP Q r)) := by
  obtain ⟨R, hf, _⟩ := reg_inv hst
  obtain ⟨_, _, h1, _, h2, _⟩ := round_rog hst hf
  obtain ⟨e1, _, _, e2⟩ := h2 r (by omega)
  rw [e1]
  exact e2
theorem roOk_at {Q : PL} {r : Nat} (hst : stateOk Q = true) (h : r < rnds Q) : roOk Q (r : Int) = true ∧ roP Q (r : Int) = poolP Q r ∧ roC Q (r : Int) = Gr.rcV (textP Q r) := by
  have h1 : roOk Q (r : Int) = true := by unfold roOk; rw [hst, decide_eq_true (by omega), decide_eq_true (by omega)]; rfl
  unfold roP roC
  rw [if_pos h1, if_pos h1, Int.toNat_natCast]
  exact ⟨h1, rfl, rfl⟩
def sumQ (Q : PL) : Nat → Gr.SumsI
  | 0 => ⟨0, 0, 0⟩
  | n + 1 => plusS (sumQ Q n) (Gr.sums (Gr.rcV (textP Q n)).Q (Gr.rcV (textP Q n)).M)
theorem sumQ_bound {Q : PL} (hst : stateOk Q = true) : ∀ n, n ≤ rnds Q → Gr.SB (sumQ Q n) (9 * (n : Int))
  | 0, _ => Gr.SB.zero _ (by omega)
  | n + 1, h => by
    have h1 := sumQ_bound hst n (by omega)
    have h2 := (round_map hst n (by omega)).sums
    unfold Gr.SB at *
    show (0 ≤ (sumQ Q n).W1 + _ ∧ (sumQ Q n).W1 + _ ≤ _) ∧ (0 ≤ (sumQ Q n).W2 + _ ∧ (sumQ Q n).W2 + _ ≤ _) ∧ (0 ≤ (sumQ Q n).W3 + _ ∧ (sumQ Q n).W3 + _ ≤ _)
    omega
def memN (R : Rgs) (s : Nat) : Nat → Nat
  | 0 => 0
  | n + 1 => if (R.mem n).1 = s then memN R s n + 1 else memN R s n
theorem memN_le (R : Rgs) (s : Nat) : ∀ n, memN R s n ≤ n
  | 0 => Nat.le_refl _
  | n + 1 => by
    have := memN_le R s n
    rw [memN]
    split <;> omega
theorem who_len (f : Nat → Bool) (R : Rgs) (s : Nat) : ∀ n, n ≤ 12 → (∀ a, a < 12 → f a = decide ((R.mem a).1 = s)) → (whoTo f n).length = memN R s n
  | 0, _, _ => rfl
  | n + 1, hn, h => by
    have ih := who_len f R s n (by omega) h
    rw [who_succ, memN, h n (by omega)]
    by_cases hs : (R.mem n).1 = s
    · rw [if_pos hs, decide_eq_true hs, if_pos rfl, List.length_append, ih]
      rfl
    · rw [if_neg hs, decide_eq_false hs, if_neg (by simp), ih]
theorem mem_four {Q : PL} {R : Rgs} (I : Inv Q R) (a : Nat) (h : a < 12) : (R.mem a).1 ≤ 3 := by
  have hv := I.v a h
  cases hg : getP Q (k1 118 a) with
  | none =>
    rw [hg] at hv
    simp only at hv
    rw [hv]
    simp
  | some v =>
    rw [hg] at hv
    simp only at hv
    unfold standV at hv
    split at hv
    · simp only [Option.some.injEq] at hv; rw [← hv]; simp
    · split at hv
      · simp only [Option.some.injEq] at hv; rw [← hv]; simp
      · split at hv
        · obtain ⟨r, _, e⟩ := Option.map_eq_some_iff.1 hv
          rw [← e]
          simp
        · cases hv
theorem who_all (R : Rgs) : ∀ n, n ≤ 12 → (∀ a, a < 12 → (R.mem a).1 ≤ 3) → (whoTo (isIn R) n).length = memN R 1 n + memN R 2 n + memN R 3 n
  | 0, _, _ => rfl
  | n + 1, hn, h => by
    have ih := who_all R n (by omega) h
    have h3 := h n (by omega)
    have hj : isIn R n = decide ((R.mem n).1 ≠ 0) := by
      unfold isIn joined
      rw [decide_eq_true (by omega), decide_eq_true (by omega), Bool.true_and, Bool.true_and, Int.toNat_natCast]
    rw [who_succ, hj, memN, memN, memN]
    have : (R.mem n).1 = 0 ∨ (R.mem n).1 = 1 ∨ (R.mem n).1 = 2 ∨ (R.mem n).1 = 3 := by omega
    rcases this with e | e | e | e <;> rw [e] <;> simp [ih] <;> omega
def isLf (R : Rgs) (a : Nat) : Bool := decide ((R.mem a).1 = 2)
theorem stand_left {v : ByteArray} {s : Nat × Nat} (h : standV v = some s) : s.1 = 2 ↔ v.toList = [108] := by
  unfold standV at h
  split at h
  · rename_i hv
    simp only [Option.some.injEq] at h
    subst h
    rw [eq_of_beq hv]
    simp
  · split at h
    · rename_i hv
      simp only [Option.some.injEq] at h
      subst h
      simp [eq_of_beq hv]
    · rename_i hv
      have hv' : v.toList ≠ [108] := fun e => hv (by rw [e]; rfl)
      split at h
      · obtain ⟨r, _, e⟩ := Option.map_eq_some_iff.1 h
        rw [← e]
        simp [hv']
      · cases h
theorem left_is {Q : PL} {R : Rgs} (I : Inv Q R) (ha : Asc Q) : idsP [108] Q = whoTo (isLf R) 12 := by
  obtain ⟨h1, h2⟩ := asc_num ha I.f [108]
  refine lt_eq _ _ h1 (who_asc _ _) (fun x => ?_)
  rw [who_mem]
  constructor
  · intro hx
    obtain ⟨a, h12, rfl, p, hp, hk, hw⟩ := h2 x hx
    refine ⟨a, h12, ?_, rfl⟩
    have hv := I.v a h12
    have hg := getP_mem ha hp
    rw [hk] at hg
    rw [hg] at hv
    simp only at hv
    unfold isLf
    refine decide_eq_true ((stand_left hv).2 ?_)
    rcases hw with h | h
    · cases h
    · exact h
  · rintro ⟨a, h12, hj, rfl⟩
    unfold isLf at hj
    simp only [decide_eq_true_eq] at hj
    have hv := I.v a h12
    cases hg : getP Q (k1 118 a) with
    | none => rw [hg] at hv; simp only at hv; rw [hv] at hj; cases hj
    | some v =>
      rw [hg] at hv
      simp only at hv
      obtain ⟨p, hp, hk, h3⟩ := get_pair Q _ v hg
      refine ids_mem Q p a hp (by omega) hk (Or.inr ?_)
      rw [h3]
      exact (stand_left hv).1 hj
def totV (Q : PL) : TotI := if stateOk Q = true then ⟨(rnds Q : Int), ((idsP [] Q).length : Int) - ((idsP [97] Q).length : Int) - ((idsP [108] Q).length : Int), ((idsP [97] Q).length : Int), ((idsP [108] Q).length : Int), sumQ Q (rnds Q)⟩ else ⟨0, 0, 0, 0, ⟨0, 0, 0⟩⟩
def memTot (R : Rgs) (n : Nat) : TotI := ⟨0, ((memN R 3 n : Nat) : Int), ((memN R 1 n : Nat) : Int), ((memN R 2 n : Nat) : Int), ⟨0, 0, 0⟩⟩
theorem totV_is {Q : PL} {R : Rgs} (hst : stateOk Q = true) (I : Inv Q R) (ha : Asc Q) : totV Q = { memTot R 12 with R := (rnds Q : Int), S := sumQ Q (rnds Q) } := by
  unfold totV memTot
  rw [if_pos hst]
  have h1 : (idsP [97] Q).length = memN R 1 12 := by
    rw [here_is I ha]
    refine who_len _ R 1 12 (by omega) (fun a h => ?_)
    unfold isHr isHereR
    rw [decide_eq_true (by omega), decide_eq_true (by omega), Bool.true_and, Bool.true_and, Int.toNat_natCast]
  have h2 : (idsP [108] Q).length = memN R 2 12 := by
    rw [left_is I ha]
    exact who_len _ R 2 12 (by omega) (fun a h => rfl)
  have h3 : (idsP [] Q).length = memN R 1 12 + memN R 2 12 + memN R 3 12 := by
    rw [ids_is I ha]
    exact who_all R 12 (by omega) (fun a h => mem_four I a h)
  rw [h1, h2, h3]
  simp only [TotI.mk.injEq, true_and, and_true]
  omega
end Rg
end Go.Proofs.YtjblkijicfmkgaaGreatDoor
