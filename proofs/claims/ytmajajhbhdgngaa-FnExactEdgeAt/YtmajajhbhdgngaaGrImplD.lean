/-
  The contracts of impl.isAscending and impl.arePlaces; what they tell together.
-/
import Derived.Test.YtmajajhbhdgngaaGrImplC
namespace Go.Proofs.Ytmajajhbhdgngaa
namespace Gr
open Go.RowKit

/-- Whether a list ascends behind a number. -/
def chainFrom : Option Int → List Int → Bool
  | _, [] => true
  | p, y :: r => (match p with | none => true | some q => decide (q < y)) && chainFrom (some y) r

/-- Whether numbers are vertices. -/
def allIn (s : Int) : List Int → Bool
  | [] => true
  | y :: r => (decide (0 ≤ y) && decide (y < s)) && allIn s r

theorem asc_parts (s : Int) : ∀ (K : List Int) (p : Option Int), ascFrom s p K = (chainFrom p K && allIn s K)
  | [], _ => rfl
  | y :: r, p => by
    unfold ascFrom chainFrom allIn
    rw [asc_parts s r (some y)]
    have e : decide (y ≤ s - 1) = decide (y < s) := by rw [decide_eq_decide]; omega
    rw [e]
    generalize (decide (0 ≤ y) && decide (y < s)) = a
    generalize chainFrom (some y) r = b
    generalize allIn s r = c
    cases p with
    | none => cases a <;> cases b <;> cases c <;> rfl
    | some q =>
      simp only
      generalize decide (q < y) = d
      cases a <;> cases b <;> cases c <;> cases d <;> rfl

theorem chainFrom_step (K : List Int) (k : Nat) (h : k < K.length) (h0 : 0 < k) : chainFrom (prevK K k) (K.drop k) = (decide (K[k - 1] < K[k]) && chainFrom (prevK K (k + 1)) (K.drop (k + 1))) := by
  rw [← List.getElem_cons_drop h]
  have e : prevK K (k + 1) = some K[k] := by unfold prevK; simp [h]
  have e2 : prevK K k = some K[k - 1] := by unfold prevK; rw [if_neg (by omega), List.getElem?_eq_getElem (by omega)]
  rw [e, e2]
  rfl

theorem chainFrom_one (K : List Int) : chainFrom none K = chainFrom (prevK K 1) (K.drop 1) := by
  cases K with
  | nil => rfl
  | cons y r => rfl

theorem chainFrom_end (K : List Int) (k : Nat) (h : K.length ≤ k) : chainFrom (prevK K k) (K.drop k) = true := by
  rw [List.drop_of_length_le h]
  cases prevK K k <;> rfl

set_option maxRecDepth 100000 in
set_option maxHeartbeats 1000000 in
theorem isAsc_any (a : Option Addr) (n c B : Nat) (K : List Int) (hn : n ≤ 1048576) (w : World) (hB : B ≤ w.heap.size) (hK : IntsAt w a n B K) :
    Calls Try.prog 38 #[.slice a n c] w fun e w' => e = .returned (.bool (chainFrom none K)) ∧ Below w.heap.size w w' := by
  obtain ⟨hL, hc⟩ := hK
  have HST := hide (fun k h h0 => chainFrom_step K k h h0)
  have HEND : Hid (∀ k, n ≤ k → chainFrom (prevK K k) (K.drop k) = true) := fun k hk => chainFrom_end K k (by omega)
  have H0 : Hid (chainFrom none K = chainFrom (prevK K 1) (K.drop 1)) := chainFrom_one K
  have HC := hide hc
  have HL := hide hL
  generalize chainFrom none K = r at H0 ⊢
  clear hc hL
  go_enter Try.func38, Try.ntmps38
  go_wp2_with fail
  go_loopw [3] (fun i wr => ∃ k : Nat, i = .int .i64 k ∧ 0 < k ∧ k ≤ n + 1 ∧ Hid (r = chainFrom (prevK K k) (K.drop k)) ∧ Below w.heap.size w wr) (fun i _ => n + 1 - (intOf i).toNat)
  case atStart => exact ⟨1, rfl, by omega, by omega, unhide H0, Below.refl _ _⟩
  case round =>
    obtain ⟨k, rfl, hk0, hk, HR, hb⟩ := hrel
    by_cases hlt : k < n
    · have hkL : k < K.length := by have := unhide HL; omega
      obtain ⟨i, rfl⟩ : ∃ i, k = i + 1 := ⟨k - 1, by omega⟩
      obtain ⟨b, off, rfl, hbB, c1⟩ := unhide HC (i + 1) hkL
      obtain ⟨b', off', e', _, c0⟩ := unhide HC i (by omega)
      simp at e'
      obtain ⟨rfl, rfl⟩ := e'
      have hr := (unhide HR).trans (unhide HST (i + 1) hkL hk0)
      rw [← hb.cell (p := ⟨b, off + (i + 1), none⟩) (by simp; omega)] at c1
      rw [← hb.cell (p := ⟨b, off + i, none⟩) (by simp; omega)] at c0
      generalize hrest : chainFrom (prevK K (i + 1 + 1)) (K.drop (i + 1 + 1)) = rest at hr
      have HREST := hide hrest
      simp only [Nat.add_sub_cancel] at hr
      have hx0 : (0 : Int) ≤ (i : Int) := by omega
      have hx1 : (i : Int) + 1 < (n : Int) := by omega
      have hx3 : (i : Int) < (n : Int) := by omega
      have hx2 : (n : Int) ≤ 9223372036854775807 := by omega
      generalize K[i + 1] = y at c1 hr
      generalize K[i] = z at c0 hr
      clear hrest HR
      by_cases t : z < y
      · rw [decide_eq_true t, Bool.true_and] at hr
        subst hr
        go_upto_region 4 with fail
        go_quiet (fail)
        go_wp2
        go_roundw
        case rel => exact ⟨i + 1 + 1, by go_num, by omega, by omega, (by show _ = _; rw [unhide HREST]), below_drewN hb _⟩
        case measure => simp [intOf]; omega
      · rw [decide_eq_false t, Bool.false_and] at hr
        subst hr
        go_upto_region 4 with fail
        go_quiet (fail)
        go_wp2
        go_ret
        exact ⟨rfl, below_drewN hb _⟩
    · have hr := (unhide HR).trans (unhide HEND k (by omega))
      subst hr
      go_wp2
      go_ret
      exact ⟨rfl, hb⟩

theorem allIn_step (s : Int) (K : List Int) (k : Nat) (h : k < K.length) : allIn s (K.drop k) = ((decide (0 ≤ K[k]) && decide (K[k] < s)) && allIn s (K.drop (k + 1))) := by
  rw [← List.getElem_cons_drop h]
  rfl

set_option maxRecDepth 100000 in
set_option maxHeartbeats 1000000 in
theorem arePlaces_is (a : Option Addr) (n c B : Nat) (K : List Int) (s : Int) (hn : n ≤ 1048576) (w : World) (hK : IntsAt w a n B K) :
    Calls Try.prog 39 #[.slice a n c, .int .i64 s] w fun e w' => e = .returned (.bool (allIn s K)) ∧ w' = w := by
  obtain ⟨hL, hc⟩ := hK
  have HST := hide (fun k h => allIn_step s K k h)
  have HEND : Hid (allIn s (K.drop n) = true) := by show _ = _; rw [← hL, List.drop_length]; rfl
  have H0 : Hid (allIn s K = allIn s (K.drop 0)) := rfl
  have HC := hide hc
  have HL := hide hL
  generalize allIn s K = r at H0 ⊢
  clear hc hL
  go_enter Try.func39, Try.ntmps39
  go_wp2_with fail
  go_loop [9] (fun i => ∃ k : Nat, i = .int .i64 k ∧ k ≤ n ∧ Hid (r = allIn s (K.drop k))) (fun i => n - (intOf i).toNat)
  case atStart => exact ⟨0, rfl, Nat.zero_le _, unhide H0⟩
  case round =>
    obtain ⟨k, rfl, hk, HR⟩ := hrel
    by_cases hlt : k < n
    · have hkL : k < K.length := by have := unhide HL; omega
      obtain ⟨b, off, rfl, hbB, hcell⟩ := unhide HC k hkL
      have hx0 : (0 : Int) ≤ (k : Int) := by omega
      have hx1 : (k : Int) < (n : Int) := by omega
      have hr := (unhide HR).trans (unhide HST k hkL)
      generalize hrest : allIn s (K.drop (k + 1)) = rest at hr
      have HREST := hide hrest
      generalize K[k] = y at hcell hr
      have HP := hide (fun w => isPlace_is y s w)
      generalize (decide (0 ≤ y) && decide (y < s)) = kp at HP hr
      clear hrest HR
      cases kp
      · rw [Bool.false_and] at hr
        subst hr
        go_wp2_with fail
        refine (unhide HP _).mono ?_
        rintro e wk ⟨rfl, rfl⟩
        go_wp2
        go_ret
        exact ⟨rfl, rfl⟩
      · rw [Bool.true_and] at hr
        subst hr
        go_wp2_with fail
        refine (unhide HP _).mono ?_
        rintro e wk ⟨rfl, rfl⟩
        go_wp2
        go_round
        case rel => exact ⟨k + 1, by go_num, by omega, (by show _ = _; rw [unhide HREST])⟩
        case measure => simp [intOf]; omega
    · obtain rfl : k = n := by omega
      have hr := (unhide HR).trans (unhide HEND)
      subst hr
      go_wp2
      go_ret
      exact ⟨rfl, rfl⟩
end Gr
end Go.Proofs.Ytmajajhbhdgngaa
