/-
  No pairing is better than the best of all; there are more pairings than couples in one.
-/
import Derived.Test.YtejfknkcakeakaaGrSumsMath
namespace Go.Proofs.Ytejfknkcakeakaa
namespace Gr
open Go.RowKit

/-- Not better. -/
def LE (a b : SumsI) : Prop := a.W1 < b.W1 ∨ a.W1 = b.W1 ∧ (a.W2 < b.W2 ∨ a.W2 = b.W2 ∧ a.W3 ≤ b.W3)

theorem better_iff (a b : SumsI) : better a b = true ↔ b.W1 < a.W1 ∨ b.W1 = a.W1 ∧ (b.W2 < a.W2 ∨ b.W2 = a.W2 ∧ b.W3 < a.W3) := by
  unfold better
  split
  · simp; omega
  · split
    · simp; omega
    · simp; omega

theorem le_iff (a b : SumsI) : better a b = false ↔ LE a b := by
  have h := better_iff a b
  unfold LE
  cases hb : better a b with
  | true => rw [hb] at h; simp at h ⊢; omega
  | false => rw [hb] at h; simp at h ⊢; omega

theorem LE.refl (a : SumsI) : LE a a := by unfold LE; omega
theorem LE.trans {a b c : SumsI} (h : LE a b) (k : LE b c) : LE a c := by unfold LE at *; omega
theorem LE.add {a b : SumsI} (e : EdgeI) (h : LE a b) : LE (addS a e) (addS b e) := by unfold LE addS at *; simp only; omega

/-- Of two sums at most one is better, and one is where they are not the same. -/
theorem better_other {a b : SumsI} (h : better a b = false) : better b a = !(decide (b = a)) := by
  have h1 := (le_iff a b).1 h
  have h2 := better_iff b a
  obtain ⟨a1, a2, a3⟩ := a
  obtain ⟨b1, b2, b3⟩ := b
  unfold LE at h1
  simp only [SumsI.mk.injEq] at h1 h2 ⊢
  cases hb : better ⟨b1, b2, b3⟩ ⟨a1, a2, a3⟩ with
  | true => rw [hb] at h2; simp at h2 ⊢; omega
  | false => rw [hb] at h2; simp at h2 ⊢; omega

theorem sumsFrom_add (Q : List EdgeI) : ∀ (M : List CoupleI) (t : SumsI) (e : EdgeI), sumsFrom Q (addS t e) M = addS (sumsFrom Q t M) e
  | [], _, _ => rfl
  | x :: r, t, e => by
    unfold sumsFrom
    rw [← sumsFrom_add Q r _ e]
    congr 1
    unfold addS
    simp only [SumsI.mk.injEq]
    omega

theorem sums_cons (Q : List EdgeI) (x : CoupleI) (r : List CoupleI) : sums Q (x :: r) = addS (sums Q r) (edgeN Q (atFrom x.A x.B 0 Q)) := by
  unfold sums
  rw [sumsFrom, sumsFrom_add]

theorem bstep_le (Q : List EdgeI) (f : Int) (U : List Int) (rec : List Int → SumsI × Int) (hF : ∀ V, 1 ≤ (rec V).2) (acc : SumsI × Int) (b : Int) : LE acc.1 (bstep Q f U rec acc b).1 ∧ acc.2 ≤ (bstep Q f U rec acc b).2 := by
  have hFF := hF (U ++ [b])
  unfold bstep
  split
  · exact ⟨LE.refl _, Int.le_refl _⟩
  · refine ⟨?_, by simp only; omega⟩
    simp only
    split
    · rename_i h
      have := (better_iff _ _).1 h
      unfold LE
      omega
    · exact LE.refl _

theorem bloop_le (Q : List EdgeI) (f : Int) (U : List Int) (rec : List Int → SumsI × Int) (hF : ∀ V, 1 ≤ (rec V).2) : ∀ (m : Nat) (b : Int) (acc : SumsI × Int), LE acc.1 (bloop Q f U rec m b acc).1 ∧ acc.2 ≤ (bloop Q f U rec m b acc).2
  | 0, _, acc => ⟨LE.refl _, Int.le_refl _⟩
  | m + 1, b, acc => by
    obtain ⟨h1, h2⟩ := bstep_le Q f U rec hF acc b
    obtain ⟨k1, k2⟩ := bloop_le Q f U rec hF m (b + 1) (bstep Q f U rec acc b)
    exact ⟨h1.trans k1, Int.le_trans h2 k2⟩

theorem bloop_in (Q : List EdgeI) (f : Int) (U : List Int) (rec : List Int → SumsI × Int) (hF : ∀ V, 1 ≤ (rec V).2) (x : Int) (hx : 0 ≤ atFrom f x 0 Q) (hU : inK U x = false) :
    ∀ (m : Nat) (b : Int) (acc : SumsI × Int), b ≤ x → x < b + (m : Int) → LE (addS (rec (U ++ [x])).1 (edgeN Q (atFrom f x 0 Q))) (bloop Q f U rec m b acc).1 ∧ acc.2 + (rec (U ++ [x])).2 ≤ (bloop Q f U rec m b acc).2
  | 0, b, acc, h1, h2 => by omega
  | m + 1, b, acc, h1, h2 => by
    show LE _ (bloop Q f U rec m (b + 1) (bstep Q f U rec acc b)).1 ∧ _ ≤ (bloop Q f U rec m (b + 1) (bstep Q f U rec acc b)).2
    by_cases hb : b = x
    · subst hb
      obtain ⟨k1, k2⟩ := bloop_le Q f U rec hF m (b + 1) (bstep Q f U rec acc b)
      have hs : bstep Q f U rec acc b = (if better (addS (rec (U ++ [b])).1 (edgeN Q (atFrom f b 0 Q))) acc.1 = true then addS (rec (U ++ [b])).1 (edgeN Q (atFrom f b 0 Q)) else acc.1, acc.2 + (rec (U ++ [b])).2) := by
        unfold bstep
        rw [if_neg (by rw [hU]; simp; omega)]
      rw [hs] at k1 k2 ⊢
      refine ⟨LE.trans ?_ k1, k2⟩
      simp only
      split
      · exact LE.refl _
      · rename_i h
        exact (le_iff _ _).1 (by simpa using h)
    · obtain ⟨j1, j2⟩ := bstep_le Q f U rec hF acc b
      obtain ⟨k1, k2⟩ := bloop_in Q f U rec hF x hx hU m (b + 1) (bstep Q f U rec acc b) (by omega) (by omega)
      exact ⟨k1, by omega⟩

/-- Couples of the last n vertices, none of them used. -/
def Pm (Q : List EdgeI) (s : Int) (n : Nat) (U : List Int) (M : List CoupleI) : Prop :=
  (∀ x ∈ M, s - (n : Int) ≤ x.A ∧ x.A < x.B ∧ x.B < s ∧ 0 ≤ atFrom x.A x.B 0 Q ∧ inK U x.A = false ∧ inK U x.B = false) ∧ M.Pairwise (fun x y => x.A < y.A ∧ y.A ≠ x.B ∧ y.B ≠ x.B)

theorem best_pos (Q : List EdgeI) (s : Int) : ∀ (n : Nat) (U : List Int), 1 ≤ (best Q s n U).2
  | 0, _ => Int.le_refl _
  | n + 1, U => by
    have ih := fun V => best_pos Q s n V
    cases hu : inK U (s - ((n + 1 : Nat) : Int)) with
    | true => rw [best_skip Q s n U hu]; exact ih U
    | false => rw [best_loop Q s n U hu]; exact Int.le_trans (ih U) (bloop_le Q _ U _ ih n _ _).2

theorem inK_snoc_false {U : List Int} {x y : Int} (h : inK U y = false) (hne : y ≠ x) : inK (U ++ [x]) y = false := by
  unfold inK at *
  simp at h ⊢
  exact ⟨h, hne⟩

theorem best_top (Q : List EdgeI) (s : Int) : ∀ (n : Nat) (U : List Int) (M : List CoupleI), Pm Q s n U M → LE (sums Q M) (best Q s n U).1 ∧ (M.length : Int) + 1 ≤ (best Q s n U).2
  | 0, U, M, h => by
    cases M with
    | nil => exact ⟨LE.refl _, Int.le_refl _⟩
    | cons x r => have := h.1 x List.mem_cons_self; omega
  | n + 1, U, M, h => by
    have hF := fun V => best_pos Q s n V
    cases hu : inK U (s - ((n + 1 : Nat) : Int)) with
    | true =>
      rw [best_skip Q s n U hu]
      refine best_top Q s n U M ⟨fun x hx => ?_, h.2⟩
      obtain ⟨h1, h2, h3, h4, h5, h6⟩ := h.1 x hx
      refine ⟨?_, h2, h3, h4, h5, h6⟩
      have : x.A ≠ s - ((n + 1 : Nat) : Int) := fun e => by rw [e, hu] at h5; cases h5
      omega
    | false =>
      rw [best_loop Q s n U hu]
      have hle := bloop_le Q (s - ((n + 1 : Nat) : Int)) U (fun V => best Q s n V) hF n (s - (n : Int)) (best Q s n U)
      by_cases hx : ∃ x r, M = x :: r ∧ x.A = s - ((n + 1 : Nat) : Int)
      · obtain ⟨x, r, rfl, hA⟩ := hx
        obtain ⟨h1, h2, h3, h4, h5, h6⟩ := h.1 x List.mem_cons_self
        have hp := List.pairwise_cons.1 h.2
        obtain ⟨i1, i2⟩ := best_top Q s n (U ++ [x.B]) r ⟨fun y hy => by
          obtain ⟨g1, g2, g3, g4, g5, g6⟩ := h.1 y (List.mem_cons_of_mem _ hy)
          have := hp.1 y hy
          exact ⟨by omega, g2, g3, g4, inK_snoc_false g5 this.2.1, inK_snoc_false g6 this.2.2⟩, hp.2⟩
        obtain ⟨j1, j2⟩ := bloop_in Q (s - ((n + 1 : Nat) : Int)) U (fun V => best Q s n V) hF x.B (by rw [← hA]; exact h4) h6 n (s - (n : Int)) (best Q s n U) (by omega) (by omega)
        have hb := hF U
        refine ⟨?_, ?_⟩
        · rw [sums_cons, hA]
          exact (i1.add _).trans j1
        · have e : (((x :: r).length : Nat) : Int) = (r.length : Int) + 1 := by simp
          rw [e]
          omega
      · obtain ⟨i1, i2⟩ := best_top Q s n U M ⟨fun y hy => by
          obtain ⟨g1, g2⟩ := h.1 y hy
          refine ⟨?_, g2⟩
          cases M with
          | nil => simp at hy
          | cons x r =>
            have hx1 := (h.1 x List.mem_cons_self).1
            have hx2 : x.A ≠ s - ((n + 1 : Nat) : Int) := fun e => hx ⟨x, r, rfl, e⟩
            rcases List.mem_cons.1 hy with rfl | hy
            · omega
            · have := (List.pairwise_cons.1 h.2).1 y hy
              omega, h.2⟩
        exact ⟨i1.trans hle.1, Int.le_trans i2 hle.2⟩

theorem inK_two {U : List Int} {a b x : Int} (h : inK (U ++ [a, b]) x = false) : inK U x = false ∧ x ≠ a ∧ x ≠ b := by
  unfold inK at *
  simp at h ⊢
  exact h

theorem match_pm {s : Int} {Q : List EdgeI} (hg : graphOk s Q = true) : ∀ (M : List CoupleI) (p : Option CoupleI) (U : List Int), mFrom Q p U M = true → (∀ x ∈ M, 0 ≤ x.A ∧ x.A < x.B ∧ x.B < s ∧ 0 ≤ atFrom x.A x.B 0 Q ∧ inK U x.A = false ∧ inK U x.B = false) ∧ M.Pairwise (fun x y => x.A < y.A ∧ y.A ≠ x.B ∧ y.B ≠ x.B) ∧ ∀ q, p = some q → ∀ x ∈ M, q.A < x.A
  | [], _, _, _ => ⟨by simp, List.Pairwise.nil, by simp⟩
  | x :: r, p, U, h => by
    unfold mFrom at h
    simp only [Bool.and_eq_true, decide_eq_true_eq, Bool.not_eq_true'] at h
    obtain ⟨h1, h2, h3, h4, h5, h6⟩ := h
    obtain ⟨i1, i2, i3⟩ := match_pm hg r (some x) (U ++ [x.A, x.B]) h6
    obtain ⟨i, hi, _, _, hh⟩ := edgeN_at h3
    have hek := (graph_sound hg).2.2.1 _ (List.getElem_mem hi)
    have he := (edgeOk_iff s _).1 hek
    have hh2 := ((hit_iff hek h1).1).1 hh
    refine ⟨fun y hy => ?_, List.Pairwise.cons (fun y hy => ?_) i2, fun q hq y hy => ?_⟩
    · rcases List.mem_cons.1 hy with rfl | hy
      · exact ⟨by omega, h1, by omega, h3, h4, h5⟩
      · obtain ⟨g1, g2, g3, g4, g5, g6⟩ := i1 y hy
        exact ⟨g1, g2, g3, g4, (inK_two g5).1, (inK_two g6).1⟩
    · obtain ⟨g1, g2, g3, g4, g5, g6⟩ := i1 y hy
      exact ⟨i3 x rfl y hy, (inK_two g5).2.2, (inK_two g6).2.2⟩
    · subst hq
      have h2' : q.A < x.A := by simpa [aheadC] using h2
      rcases List.mem_cons.1 hy with rfl | hy
      · exact h2'
      · have := i3 x rfl y hy
        omega

/-- No pairing is better than the best of all, and there are more pairings than couples in one. -/
theorem best_of_all {s : Int} {Q : List EdgeI} {M : List CoupleI} (h : matchOk s Q M = true) : better (sums Q M) (best Q s s.toNat []).1 = false ∧ (M.length : Int) < (best Q s s.toNat []).2 := by
  obtain ⟨hg, _, hm⟩ := match_sound h
  obtain ⟨h0, h9, _, _⟩ := graph_sound hg
  obtain ⟨i1, i2, _⟩ := match_pm hg M none [] hm
  obtain ⟨j1, j2⟩ := best_top Q s s.toNat [] M ⟨fun x hx => by
    obtain ⟨g1, g2⟩ := i1 x hx
    exact ⟨by omega, g2⟩, i2⟩
  exact ⟨(le_iff _ _).2 j1, by omega⟩

end Gr
end Go.Proofs.Ytejfknkcakeakaa
