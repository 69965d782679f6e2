/-
 LkSwM.
-/
import Derived.Test.YtnihoabminnbcaaJ22
import Derived.Test.YtnihoabminnbcaaJ29
import Derived.Test.YtnihoabminnbcaaJ26
namespace Go.Proofs.Ytnihoabminnbcaa
namespace Lk
open Gr (EdgeI CoupleI hit graphOk matchOk match_sound match_pm edgeOk_iff graph_sound)
theorem lnk_self {s : Int} {Q : List EdgeI} (h : graphOk s Q = true) (u : Nat) : lnkF Q u u = false := by
  rw [lnkF_any (apart_of h), List.any_eq_false]
  intro e he hh
  have := (apart_of h).1 e he
  unfold hit at hh
  simp only [Bool.or_eq_true, Bool.and_eq_true, beq_iff_eq] at hh
  omega
theorem lnk_low {s : Int} {Q : List EdgeI} (h : graphOk s Q = true) (u w : Nat) (hF : lnkF Q u w = true) : u < 9 := by
  rw [lnkF_any (apart_of h), List.any_eq_true] at hF
  obtain ⟨e, he, hh⟩ := hF
  have := (apart_of h).1 e he
  unfold hit at hh
  simp only [Bool.or_eq_true, Bool.and_eq_true, beq_iff_eq] at hh
  omega
theorem swap_long {s : Int} {Q : List EdgeI} {M N : List CoupleI} : ∀ r ∈ swapR s Q M N, 2 ≤ r.length := by
  intro r hr
  unfold swapR at hr
  split at hr
  · rename_i hc
    have hg := swap_ok (match_sound hc.1).1 M N
    have e := prts_ends (F := swpF M N) (by rw [swp_is hc.1 hc.2]; exact lnkF_swap (apart_of hg)) (by rw [swp_is hc.1 hc.2]; exact lnk_self hg) (by rw [swp_is hc.1 hc.2]; exact lnk_low hg) (List.range' 0 9) (fun _ => true) (fun v hv => by have := List.mem_range'_1.1 hv; omega) (fun _ _ _ _ _ => rfl)
    have e2 : (fun j => (fun _ => true) j && endF (swpF M N) j) = endF (swpF M N) := by funext j; simp
    rw [e2] at e
    rw [← e] at hr
    have := of_decide_eq_true (List.mem_filter.1 hr).2
    omega
  · cases hr
theorem swap_same {s : Int} {Q : List EdgeI} {M : List CoupleI} : swapR s Q M M = [] := by
  unfold swapR
  split
  · rename_i hc
    have e0 : swapQ Q M M = [] := by unfold swapQ; simp
    have hz : ∀ v, endF (swpF M M) v = false := fun v => by
      cases h : endF (swpF M M) v
      · rfl
      · obtain ⟨u, _, hF⟩ := (endF_iff _ v).1 h
        rw [swp_is hc.1 hc.2, e0, lnkF_any (apart_of (swap_ok (match_sound hc.1).1 M M |> fun h => by rw [e0] at h; exact h))] at hF
        cases hF
    rw [prts_none _ _ _ (fun v _ => hz v)]
    rfl
  · rfl
theorem turn_lone {s : Int} {Q : List EdgeI} (hg : graphOk s Q = true) : ∀ (M : List CoupleI), (∀ x ∈ M, 0 ≤ x.A ∧ x.A < x.B ∧ x.B < s ∧ 0 ≤ Gr.atFrom x.A x.B 0 Q) → M.Pairwise (fun x y => x.A < y.A ∧ y.A ≠ x.B ∧ y.B ≠ x.B) → ∀ v : Nat, loneF M v = decide (turnC M v = v)
  | [], _, _, v => by
    have : turnC [] v = v := rfl
    simp [loneF, inC, this]
  | x :: r, h, hp, v => by
    rw [List.pairwise_cons] at hp
    obtain ⟨a0, ab, bs, _⟩ := h x List.mem_cons_self
    have ih := turn_lone hg r (fun y hy => h y (List.mem_cons_of_mem _ hy)) hp.2 v
    have e : loneF (x :: r) v = (!((x.A == (v : Int)) || (x.B == (v : Int))) && loneF r v) := by
      unfold loneF inC
      rw [List.any_cons]
      cases (x.A == (v : Int) || x.B == (v : Int)) <;> simp
    rw [e, ih]
    show _ = decide (joinU (turnC r) x.A.toNat x.B.toNat v = v)
    unfold joinU
    by_cases e1 : v = x.A.toNat
    · have h1 : (x.A == (v : Int)) = true := by rw [beq_iff_eq]; omega
      have h2 : ¬ x.B.toNat = v := by omega
      rw [h1, if_pos e1]
      simp [h2]
    · by_cases e2 : v = x.B.toNat
      · have h1 : (x.B == (v : Int)) = true := by rw [beq_iff_eq]; omega
        have h2 : ¬ x.A.toNat = v := by omega
        rw [h1, if_neg e1, if_pos e2]
        simp [h2]
      · have h1 : (x.A == (v : Int)) = false := by rw [beq_eq_false_iff_ne]; omega
        have h2 : (x.B == (v : Int)) = false := by rw [beq_eq_false_iff_ne]; omega
        rw [h1, h2, if_neg e1, if_neg e2]
        simp
/-- Who is lonely, and who is in a couple. -/
theorem lone_count {s : Int} {Q : List EdgeI} {M : List CoupleI} (hm : matchOk s Q M = true) : ((loneR s Q M).length : Int) + 2 * (M.length : Int) = s := by
  obtain ⟨hg, _, hmf⟩ := match_sound hm
  obtain ⟨s0, s9⟩ := ok_size hg
  obtain ⟨h1, h2, _⟩ := match_pm hg M none [] hmf
  have h1' : ∀ x ∈ M, 0 ≤ x.A ∧ x.A < x.B ∧ x.B < s ∧ 0 ≤ Gr.atFrom x.A x.B 0 Q := fun x hx => by obtain ⟨a, b, c, d, _⟩ := h1 x hx; exact ⟨a, b, c, d⟩
  obtain ⟨_, hd⟩ := turnC_mt hg M h1' h2
  have e : (loneR s Q M).length = dfc (lowF s.toNat) (turnC M) := by
    unfold loneR
    rw [if_pos hm, setTo_cnt _ _ (by omega)]
    unfold dfc
    exact cnt_eq (fun j _ => by
      show (decide (j < s.toNat) && loneF M j) = (lowF s.toNat j && decide (turnC M j = j))
      rw [turn_lone hg M h1' h2 j]
      rfl)
  rw [e]
  omega
/-- What is swapped is short. -/
theorem swap_small {s : Int} {Q : List EdgeI} {M N : List CoupleI} : (swapR s Q M N).length ≤ 9 ∧ ∀ r ∈ swapR s Q M N, r.length ≤ 9 := by
  unfold swapR
  split
  · refine ⟨?_, fun r hr => ?_⟩
    · rw [List.length_map]
      have := prts_length (swpF M N) (List.range' 0 9) (endF (swpF M N))
      rw [List.length_range'] at this
      exact this
    · obtain ⟨p, _, rfl⟩ := List.mem_map.1 hr
      exact setTo_length _ _
  · exact ⟨by simp, fun r hr => by cases hr⟩
end Lk
end Go.Proofs.Ytnihoabminnbcaa
