/-
  Sums of pairings, the best of all pairings and how many there are: as mathematics.
-/
import Derived.Test.YtejfknkcakeakaaGrMatch
import Derived.Test.YtejfknkcakeakaaGrBetter
import Derived.Test.YtejfknkcakeakaaGrOkMath
namespace Go.Proofs.Ytejfknkcakeakaa
namespace Gr
open Go.RowKit

/-- Sums and the worths of an edge. -/
def addS (s : SumsI) (e : EdgeI) : SumsI := ⟨s.W1 + e.W1, s.W2 + e.W2, s.W3 + e.W3⟩

/-- The i-th edge. -/
def edgeN (Q : List EdgeI) (i : Int) : EdgeI := Q.getD i.toNat ⟨0, 0, 0, 0, 0⟩

def sumsFrom (Q : List EdgeI) : SumsI → List CoupleI → SumsI
  | s, [] => s
  | s, x :: r => sumsFrom Q (addS s (edgeN Q (atFrom x.A x.B 0 Q))) r

/-- The sums of a pairing. -/
def sums (Q : List EdgeI) (M : List CoupleI) : SumsI := sumsFrom Q ⟨0, 0, 0⟩ M

/-- Sums of at most n right edges. -/
def SB (s : SumsI) (n : Int) : Prop := (0 ≤ s.W1 ∧ s.W1 ≤ 50 * n) ∧ (0 ≤ s.W2 ∧ s.W2 ≤ 50 * n) ∧ (0 ≤ s.W3 ∧ s.W3 ≤ 50 * n)

theorem SB.mono {s : SumsI} {n m : Int} (h : SB s n) (hm : n ≤ m) : SB s m := by
  unfold SB at *
  omega

theorem worth_range {x : Int} (h : worthOk x = true) : 0 ≤ x ∧ x ≤ 50 := by
  unfold worthOk at h
  simpa using h

theorem SB.add {s : SumsI} {n : Int} {g : Int} {e : EdgeI} (h : SB s n) (he : edgeOk g e = true) : SB (addS s e) (n + 1) := by
  obtain ⟨_, _, _, h1, h2, h3⟩ := (edgeOk_iff g e).1 he
  have := worth_range h1
  have := worth_range h2
  have := worth_range h3
  unfold SB addS at *
  simp only
  omega

theorem SB.zero (n : Int) (h : 0 ≤ n) : SB ⟨0, 0, 0⟩ n := by
  unfold SB
  simp only
  omega

theorem at_range (x y : Int) : ∀ (Q : List EdgeI) (k : Nat), 0 ≤ atFrom x y k Q → ∃ i, ∃ h : i < Q.length, atFrom x y k Q = ((k + i : Nat) : Int) ∧ hit x y Q[i] = true
  | [], _, h => by unfold atFrom at h; omega
  | q :: r, k, h => by
    unfold atFrom at h ⊢
    by_cases hq : hit x y q = true
    · rw [if_pos hq]
      exact ⟨0, by simp, rfl, hq⟩
    · rw [if_neg hq] at h ⊢
      obtain ⟨i, hi, e, hh⟩ := at_range x y r (k + 1) h
      exact ⟨i + 1, by simp; omega, by rw [e]; omega, by simpa using hh⟩

theorem edgeN_at {x y : Int} {Q : List EdgeI} (h : 0 ≤ atFrom x y 0 Q) : ∃ i, ∃ h' : i < Q.length, atFrom x y 0 Q = (i : Int) ∧ edgeN Q (atFrom x y 0 Q) = Q[i] ∧ hit x y Q[i] = true := by
  obtain ⟨i, hi, e, hh⟩ := at_range x y Q 0 h
  rw [Nat.zero_add] at e
  refine ⟨i, hi, e, ?_, hh⟩
  unfold edgeN
  rw [e, Int.toNat_natCast, List.getD_eq_getElem?_getD, List.getElem?_eq_getElem hi]
  rfl

theorem edgeN_ok {s x y : Int} {Q : List EdgeI} (hg : graphOk s Q = true) (h : 0 ≤ atFrom x y 0 Q) : edgeOk s (edgeN Q (atFrom x y 0 Q)) = true := by
  obtain ⟨i, hi, _, e, _⟩ := edgeN_at h
  rw [e]
  exact (graph_sound hg).2.2.1 _ (List.getElem_mem hi)

/-- One vertex b looked at as the fellow of f. -/
def bstep (Q : List EdgeI) (f : Int) (U : List Int) (rec : List Int → SumsI × Int) (acc : SumsI × Int) (b : Int) : SumsI × Int :=
  if atFrom f b 0 Q < 0 ∨ inK U b = true then acc
  else (if better (addS (rec (U ++ [b])).1 (edgeN Q (atFrom f b 0 Q))) acc.1 = true then addS (rec (U ++ [b])).1 (edgeN Q (atFrom f b 0 Q)) else acc.1, acc.2 + (rec (U ++ [b])).2)

/-- m vertices from b on. -/
def bloop (Q : List EdgeI) (f : Int) (U : List Int) (rec : List Int → SumsI × Int) : Nat → Int → SumsI × Int → SumsI × Int
  | 0, _, acc => acc
  | m + 1, b, acc => bloop Q f U rec m (b + 1) (bstep Q f U rec acc b)

/-- The best sums of all pairings of the last n vertices that are not used, and how many there are. -/
def best (Q : List EdgeI) (s : Int) : Nat → List Int → SumsI × Int
  | 0, _ => (⟨0, 0, 0⟩, 1)
  | n + 1, U => if inK U (s - ((n + 1 : Nat) : Int)) = true then best Q s n U else bloop Q (s - ((n + 1 : Nat) : Int)) U (fun V => best Q s n V) n (s - (n : Int)) (best Q s n U)

theorem best_skip (Q : List EdgeI) (s : Int) (n : Nat) (U : List Int) (h : inK U (s - ((n + 1 : Nat) : Int)) = true) : best Q s (n + 1) U = best Q s n U := by
  rw [best, if_pos h]

theorem best_loop (Q : List EdgeI) (s : Int) (n : Nat) (U : List Int) (h : inK U (s - ((n + 1 : Nat) : Int)) = false) : best Q s (n + 1) U = bloop Q (s - ((n + 1 : Nat) : Int)) U (fun V => best Q s n V) n (s - (n : Int)) (best Q s n U) := by
  rw [best, if_neg (by rw [h]; simp)]

theorem bstep_bounds {Q : List EdgeI} {s f : Int} {U : List Int} {rec : List Int → SumsI × Int} {k : Int} {F : Int} (hg : graphOk s Q = true) (hk : ∀ V, SB (rec V).1 k) (hF : ∀ V, 1 ≤ (rec V).2 ∧ (rec V).2 ≤ F) {acc : SumsI × Int} (h1 : SB acc.1 (k + 1)) (b : Int) :
    SB (bstep Q f U rec acc b).1 (k + 1) ∧ acc.2 ≤ (bstep Q f U rec acc b).2 ∧ (bstep Q f U rec acc b).2 ≤ acc.2 + F := by
  have hFF := hF (U ++ [b])
  unfold bstep
  split
  · exact ⟨h1, Int.le_refl _, by omega⟩
  · rename_i h
    have h0 : 0 ≤ atFrom f b 0 Q := by omega
    refine ⟨?_, by simp only; omega, by simp only; omega⟩
    simp only
    split
    · exact (hk (U ++ [b])).add (edgeN_ok hg h0)
    · exact h1

theorem bloop_bounds {Q : List EdgeI} {s f : Int} {U : List Int} {rec : List Int → SumsI × Int} {k : Int} {F : Int} (hg : graphOk s Q = true) (hk : ∀ V, SB (rec V).1 k) (hF : ∀ V, 1 ≤ (rec V).2 ∧ (rec V).2 ≤ F) :
    ∀ (m : Nat) (b : Int) (acc : SumsI × Int), SB acc.1 (k + 1) → SB (bloop Q f U rec m b acc).1 (k + 1) ∧ acc.2 ≤ (bloop Q f U rec m b acc).2 ∧ (bloop Q f U rec m b acc).2 ≤ acc.2 + (m : Int) * F
  | 0, b, acc, h => by
    refine ⟨h, Int.le_refl _, ?_⟩
    show acc.2 ≤ acc.2 + ((0 : Nat) : Int) * F
    simp
  | m + 1, b, acc, h => by
    obtain ⟨i1, i2, i3⟩ := bstep_bounds (f := f) (U := U) hg hk hF h b
    obtain ⟨j1, j2, j3⟩ := bloop_bounds (f := f) (U := U) hg hk hF m (b + 1) _ i1
    refine ⟨j1, Int.le_trans i2 j2, ?_⟩
    have e : ((m + 1 : Nat) : Int) * F = (m : Int) * F + F := by
      rw [Int.natCast_add, Int.add_mul]
      simp
    rw [e]
    show (bloop Q f U rec m (b + 1) (bstep Q f U rec acc b)).2 ≤ _
    omega

theorem best_bounds {Q : List EdgeI} {s : Int} (hg : graphOk s Q = true) : ∀ (n : Nat) (U : List Int), n ≤ 9 → SB (best Q s n U).1 (n : Int) ∧ 1 ≤ (best Q s n U).2 ∧ (best Q s n U).2 ≤ 10 ^ n
  | 0, U, _ => by
    refine ⟨SB.zero _ (by omega), Int.le_refl _, ?_⟩
    show (1 : Int) ≤ 10 ^ 0
    simp
  | n + 1, U, hn => by
    have ih := fun V => best_bounds hg n V (by omega)
    have hp : (1 : Int) ≤ 10 ^ n := Int.le_trans (ih []).2.1 (ih []).2.2
    have hp2 : (10 : Int) ^ (n + 1) = 10 ^ n * 10 := Int.pow_succ _ _
    cases hu : inK U (s - ((n + 1 : Nat) : Int)) with
    | true =>
      rw [best_skip Q s n U hu, hp2]
      obtain ⟨h1, h2, h3⟩ := ih U
      exact ⟨h1.mono (by omega), h2, by omega⟩
    | false =>
      rw [best_loop Q s n U hu, hp2]
      obtain ⟨h1, h2, h3⟩ := bloop_bounds (f := s - ((n + 1 : Nat) : Int)) (U := U) (rec := fun V => best Q s n V) (k := (n : Int)) (F := 10 ^ n) hg (fun V => (ih V).1) (fun V => (ih V).2) n (s - (n : Int)) (best Q s n U) ((ih U).1.mono (by omega))
      refine ⟨by rw [Int.natCast_add]; exact h1, Int.le_trans (ih U).2.1 h2, Int.le_trans h3 ?_⟩
      have h9 : (n : Int) * 10 ^ n ≤ 9 * 10 ^ n := Int.mul_le_mul_of_nonneg_right (by omega) (by omega)
      have := (ih U).2.2
      omega

theorem pow_big : ∀ n : Nat, n ≤ 9 → (10 : Int) ^ n ≤ 1000000000 := by decide
end Gr
end Go.Proofs.Ytejfknkcakeakaa
