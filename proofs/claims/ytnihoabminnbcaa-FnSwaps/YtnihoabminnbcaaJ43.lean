/-
 SvE1.
-/
import Derived.Test.YtnihoabminnbcaaJ39
import Derived.Test.YtnihoabminnbcaaJ42
namespace Go.Proofs.Ytnihoabminnbcaa
namespace Sv
open Go.RowKit Gr
theorem hit_at {a b : Int} {Q : List EdgeI} : ∀ {L : List EdgeI} {k : Nat}, (∃ e ∈ L, hit a b e = true) → 0 ≤ atFrom a b k L
  | [], _, h => by obtain ⟨e, he, _⟩ := h; cases he
  | x :: r, k, h => by
    unfold atFrom
    by_cases hx : hit a b x = true
    · rw [if_pos hx]; omega
    · rw [if_neg hx]
      obtain ⟨e, he, hh⟩ := h
      rcases List.mem_cons.1 he with rfl | he
      · exact absurd hh hx
      · exact hit_at (Q := Q) ⟨e, he, hh⟩
/-- A link that is an edge of the graph. -/
def EdgeL (Q : List EdgeI) (x : Lk) : Prop := ∃ e ∈ Q, hit (x.f : Int) (x.t : Int) e = true
theorem edgeL_flip (Q : List EdgeI) (x : Lk) (h : EdgeL Q x) : EdgeL Q x.flip := by
  obtain ⟨e, he, hh⟩ := h
  refine ⟨e, he, ?_⟩
  unfold hit at hh ⊢
  show ((e.A == (x.t : Int)) && (e.B == (x.f : Int)) || (e.A == (x.f : Int)) && (e.B == (x.t : Int))) = true
  rw [Bool.or_comm]
  exact hh
/-- What spec.Solve pairs. -/
def pairsS (n : Nat) (Q : List EdgeI) : List CoupleI := (solveM n Q).map cplI
theorem solve_pairs {n : Nat} {Q : List EdgeI} (hok : graphOk (n : Int) Q = true) : matchOk (n : Int) Q (pairsS n Q) = true := by
  obtain ⟨h0, h9, h3, _⟩ := graph_sound hok
  have hE : ∀ e ∈ Q, (0 ≤ e.A ∧ e.A < (n : Int)) ∧ (0 ≤ e.B ∧ e.B < (n : Int)) := fun e he => by
    have := h3 e he
    unfold edgeOk at this
    simp only [Bool.and_eq_true, decide_eq_true_eq] at this
    omega
  have hQ : ∀ e ∈ Q, e.A.toNat < n ∧ e.B.toNat < n := fun e he => by have := hE e he; omega
  have hT : ∀ e ∈ Q, EdgeL Q ⟨e.A.toNat, e.B.toNat⟩ := fun e he => by
    have h := hE e he
    refine ⟨e, he, ?_⟩
    unfold hit
    have e1 : ((e.A.toNat : Nat) : Int) = e.A := by omega
    have e2 : ((e.B.toNat : Nat) : Int) = e.B := by omega
    simp [e1, e2]
  obtain ⟨I, _, _, _⟩ := solved_inv (s := n) (Q := Q) hQ
  have hl := lt_solved (s := n) (edgeL_flip Q) hQ hT
  obtain ⟨I2, _⟩ := openK_inv (s := n) (n := (solved n Q).2.2.1.length) (solved n Q).2.2.1.length ((solved n Q).2.2.1, (solved n Q).2.2.2.1) I rfl
  have hl2 := lt_openK (s := n) (T := EdgeL Q) (n := (solved n Q).2.2.1.length) (solved n Q).2.2.1.length ((solved n Q).2.2.1, (solved n Q).2.2.2.1) I hl rfl
  have hn : (ends (openK n (solved n Q).2.2.1.length (solved n Q).2.2.1.length ((solved n Q).2.2.1, (solved n Q).2.2.2.1)).2).Nodup := nodup_of_map' I2.mat
  have hfin := I2.fin
  have hm := hl2.mates
  have hp : (pairsS n Q).Pairwise (fun x y => x.A < y.A ∧ y.A ≠ x.B ∧ y.B ≠ x.B) := by
    unfold pairsS
    rw [List.pairwise_map]
    refine (cplTo_order hn n).imp ?_
    rintro a b ⟨h1, h2, h3⟩
    unfold cplI
    refine ⟨by show (a.f : Int) < (b.f : Int); omega, fun e => h2 (by have e : (b.f : Int) = (a.t : Int) := e; omega), fun e => h3 (by have e : (b.t : Int) = (a.t : Int) := e; omega)⟩
  have hx : ∀ x ∈ pairsS n Q, (n : Int) - (n : Int) ≤ x.A ∧ x.A < x.B ∧ x.B < (n : Int) ∧ 0 ≤ atFrom x.A x.B 0 Q ∧ inK [] x.A = false ∧ inK [] x.B = false := fun x hx => by
    unfold pairsS at hx
    obtain ⟨c, hc, rfl⟩ := List.mem_map.1 hx
    obtain ⟨h1, h2, h4⟩ := mem_cplTo.1 hc
    have hct : c.t < n := by
      rcases h4 with h4 | h4
      · exact hfin _ (mem_ends.2 ⟨c, h4, .inr rfl⟩)
      · exact hfin _ (mem_ends.2 ⟨c.flip, h4, .inl rfl⟩)
    have hed : EdgeL Q c := by
      rcases h4 with h4 | h4
      · exact hm c h4
      · exact edgeL_flip Q _ (hm _ h4)
    refine ⟨by show (n : Int) - (n : Int) ≤ (c.f : Int); omega, by show (c.f : Int) < (c.t : Int); omega, by show (c.t : Int) < (n : Int); omega, ?_, rfl, rfl⟩
    obtain ⟨e, he, hh⟩ := hed
    exact hit_at (Q := Q) ⟨e, he, hh⟩
  have hf := pm_few (Q := Q) (s := (n : Int)) (n := n) (U := []) ⟨hx, hp⟩ h9 (by omega)
  unfold matchOk
  rw [hok, decide_eq_true (by omega : (pairsS n Q).length ≤ 9), pm_from Q _ none [] (fun x h => by
    obtain ⟨_, a2, _, a4, a5, a6⟩ := hx x h
    exact ⟨a2, a4, a5, a6⟩) hp (fun q hq => by cases hq)]
  rfl
/-- The contract of spec.Solve: what it pairs is a pairing. -/
theorem solve_match (w : World) (v : Value) (s : Int) (Q : List EdgeI) (hok : graphOk s Q = true) (hQ : Q.length ≤ 90) (hv : GrAt w v w.heap.size s Q) :
    Calls Try.prog 6 #[v] w fun u w' => (∃ dm ya yn yc ga gn gc M, u = .returned (.tuple #[dm, .agg #[.slice ya yn yc, .slice ga gn gc], .bool true]) ∧ CoOwn w' w.heap.size dm M ∧ M = pairsS s.toNat Q ∧ matchOk s Q M = true) ∧ Below w.heap.size w w' := by
  obtain ⟨h0, h9, h3, _⟩ := graph_sound hok
  obtain ⟨n, rfl⟩ := Int.eq_ofNat_of_zero_le h0
  have hE : ∀ e ∈ Q, (0 ≤ e.A ∧ e.A < (n : Int)) ∧ (0 ≤ e.B ∧ e.B < (n : Int)) := fun e he => by
    have := h3 e he
    unfold edgeOk at this
    simp only [Bool.and_eq_true, decide_eq_true_eq] at this
    omega
  obtain ⟨aQ, nQ, cQ, rfl, hed⟩ := hv
  obtain rfl : nQ = Q.length := hed.1.symm
  refine (solve_any w aQ cQ n Q (by omega) (by omega) hok hE hed).mono ?_
  rintro u w' ⟨⟨dm, dy, dg, ms, C, rfl, h1, h2, _, _, _, h3⟩, hb⟩
  obtain ⟨ya, yc, rfl⟩ := own_slice h2
  obtain ⟨ga, gc, rfl⟩ := own_slice h3.2.1
  refine ⟨⟨dm, ya, _, yc, ga, _, gc, pairsS n Q, rfl, ?_, by rw [Int.toNat_natCast], solve_pairs hok⟩, hb⟩
  unfold CoOwn pairsS
  rw [List.length_map, ← lks_couples]
  exact h1
end Sv
end Go.Proofs.Ytnihoabminnbcaa
