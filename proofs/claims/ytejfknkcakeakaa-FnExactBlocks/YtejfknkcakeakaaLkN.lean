/-
  The table of the edges of a right graph tells who is beside whom: mathematics.
-/
import Derived.Test.YtejfknkcakeakaaLkG
import Derived.Test.YtejfknkcakeakaaLkH
namespace Go.Proofs.Ytejfknkcakeakaa
namespace Lk
open Gr (EdgeI hit atFrom graphOk graph_sound edgeOk_iff ahead ahead_iff at_some at_none)

theorem at_iff (x y : Int) (Q : List EdgeI) : decide (0 ≤ atFrom x y 0 Q) = Q.any (hit x y) := by
  cases h : Q.any (hit x y)
  · rw [List.any_eq_false] at h
    have := at_none x y Q 0 h
    rw [this]
    rfl
  · rw [List.any_eq_true] at h
    obtain ⟨e, he, hh⟩ := h
    obtain ⟨i, _, _, _, h3⟩ := at_some x y Q 0 ⟨e, he, hh⟩
    rw [h3]
    simp

theorem hit_swap (x y : Int) (e : EdgeI) : hit x y e = hit y x e := by
  unfold hit
  rw [Bool.or_comm]

theorem any_swap (x y : Int) (Q : List EdgeI) : Q.any (hit x y) = Q.any (hit y x) := by
  congr 1
  funext e
  exact hit_swap x y e

/-- Edges of which no two are between the same vertices. -/
def Apart (Q : List EdgeI) : Prop := (∀ e ∈ Q, 0 ≤ e.A ∧ e.A < e.B ∧ e.B < 9) ∧ ∀ i j (hi : i < Q.length) (hj : j < Q.length), i < j → ¬ (Q[i].A = Q[j].A ∧ Q[i].B = Q[j].B)

theorem apart_of {s : Int} {Q : List EdgeI} (h : graphOk s Q = true) : Apart Q := by
  obtain ⟨h0, h9, he, hp⟩ := graph_sound h
  refine ⟨fun e hm => ?_, fun i j hi hj hij hh => ?_⟩
  · have := (edgeOk_iff s e).1 (he e hm)
    omega
  · have := (ahead_iff _ _).1 (List.pairwise_iff_getElem.1 hp i j hi hj hij)
    omega

theorem lnk_any {Q : List EdgeI} (hq : Apart Q) (a b : Nat) : ∀ j, j ≤ Q.length → lnk Q j a b = (Q.take j).any (hit (a : Int) (b : Int))
  | 0, _ => by simp [lnk]
  | j + 1, h => by
    have hj : j < Q.length := by omega
    have ih := lnk_any hq a b j (by omega)
    rw [lnk_next Q j hj, List.take_succ_eq_append_getElem hj, List.any_append]
    have hr := hq.1 _ (List.getElem_mem hj)
    unfold turnF
    by_cases hh : hit (a : Int) (b : Int) Q[j] = true
    · have h2 := hh
      unfold hit at h2
      simp only [Bool.or_eq_true, Bool.and_eq_true, beq_iff_eq] at h2
      have hno : (Q.take j).any (hit (a : Int) (b : Int)) = false := by
        rw [List.any_eq_false]
        intro e he h3
        obtain ⟨i, hi, rfl⟩ := List.mem_iff_getElem.1 he
        have hil : i < j := by simp at hi; omega
        rw [List.getElem_take] at h3
        have hr2 := hq.1 _ (List.getElem_mem (show i < Q.length by omega))
        unfold hit at h3
        simp only [Bool.or_eq_true, Bool.and_eq_true, beq_iff_eq] at h3
        exact hq.2 i j (by omega) hj hil (by omega)
      rw [if_pos (by omega), ih, hno]
      simp [hh]
    · have h2 := hh
      unfold hit at h2
      simp only [Bool.or_eq_true, Bool.and_eq_true, beq_iff_eq] at h2
      rw [if_neg (by omega), ih]
      simp [hh]

theorem lnkF_any {Q : List EdgeI} (hq : Apart Q) (a b : Nat) : lnkF Q a b = Q.any (hit (a : Int) (b : Int)) := by
  unfold lnkF
  rw [lnk_any hq a b _ (Nat.le_refl _), List.take_length]

theorem lnkF_swap {Q : List EdgeI} (hq : Apart Q) (a b : Nat) : lnkF Q a b = lnkF Q b a := by
  rw [lnkF_any hq, lnkF_any hq, any_swap]

/-- Two vertices are beside each other by an edge between them alone. -/
theorem nb_is {Q : List EdgeI} (hq : Apart Q) (v u : Nat) : nb Q (v : Int) u = lnkF Q v u := by
  rw [lnkF_any hq]
  unfold nb
  rw [at_iff, any_swap]
  by_cases e : u = v
  · subst e
    have : Q.any (hit (u : Int) (u : Int)) = false := by
      rw [List.any_eq_false]
      intro e he h
      have := hq.1 e he
      unfold hit at h
      simp at h
      omega
    rw [this]
    simp
  · have : ((u : Int) != (v : Int)) = true := by simp; omega
    rw [this, Bool.true_and]

theorem lnk_out {s : Int} {Q : List EdgeI} (h : graphOk s Q = true) (a b : Nat) (hb : s ≤ (b : Int)) : lnkF Q a b = false := by
  obtain ⟨h0, h9, he, hp⟩ := graph_sound h
  rw [lnkF_any (apart_of h), List.any_eq_false]
  intro e hm hh
  have := (edgeOk_iff s e).1 (he e hm)
  unfold hit at hh
  simp at hh
  omega

/-- What a set of nine flags has below a bound is all that it has. -/
theorem setTo_low (f : Nat → Bool) (n : Nat) : ∀ d, (∀ j, n ≤ j → j < n + d → f j = false) → setTo f (n + d) = setTo f n
  | 0, _ => rfl
  | d + 1, h => by
    rw [show n + (d + 1) = n + d + 1 by omega, setTo_out (h (n + d) (by omega) (by omega))]
    exact setTo_low f n d (fun j h1 h2 => h j h1 (by omega))

theorem setTo_congr {f g : Nat → Bool} {k : Nat} (h : ∀ j, j < k → f j = g j) : setTo f k = setTo g k := by
  unfold setTo
  congr 1
  exact List.filter_congr (fun j hj => h j (List.mem_range.1 hj))

theorem next_is {s : Int} {Q : List EdgeI} (h : graphOk s Q = true) (v : Nat) : setTo (lnkF Q v) 9 = nextTo Q (v : Int) s.toNat := by
  obtain ⟨h0, h9, _, _⟩ := graph_sound h
  obtain ⟨d, hd⟩ : ∃ d, 9 = s.toNat + d := ⟨9 - s.toNat, by omega⟩
  rw [hd, setTo_low _ _ d (fun j h1 _ => lnk_out h v j (by omega))]
  exact setTo_congr (fun j _ => (nb_is (apart_of h) v j).symm)

end Lk
end Go.Proofs.Ytejfknkcakeakaa
