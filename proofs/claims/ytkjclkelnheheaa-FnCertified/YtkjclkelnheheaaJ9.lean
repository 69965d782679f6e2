/-
 GrOk, GrEdgeAt, GrOkMath.
-/
import Derived.Test.YtkjclkelnheheaaJ8
import Derived.Deep.RegionWith
import Derived.Deep.DeepCutAuto
namespace Go.Proofs.Ytkjclkelnheheaa
namespace Gr
open Go.RowKit
theorem l01In_is (x y z : Int) (w : World) :
    Calls Try.prog 29 #[.int .i64 x, .int .i64 y, .int .i64 z] w fun e w' => e = .returned (.bool (decide (y ≤ x) && decide (x ≤ z))) ∧ w' = w := by
  go_enter Try.func29, Try.ntmps29
  go_wp2
  all_goals (go_ret; exact ⟨by simp_all <;> omega, rfl⟩)
def worthOk (x : Int) : Bool := decide (0 ≤ x) && decide (x ≤ 50)
theorem worth_any (x : Int) (w : World) :
    Calls Try.prog 55 #[.int .i64 x] w fun e w' => e = .returned (.bool (worthOk x)) ∧ w' = w := by
  have H := hide (fun w => l01In_is x 0 50 w)
  unfold worthOk
  generalize (decide (0 ≤ x) && decide (x ≤ 50)) = r at H
  go_enter Try.func55, Try.ntmps55
  go_wp2_with fail
  refine (unhide H _).mono ?_
  rintro e w1 ⟨rfl, rfl⟩
  go_wp2
  go_ret
  exact ⟨rfl, rfl⟩
def edgeOk (s : Int) (e : EdgeI) : Bool := decide (0 ≤ e.A) && (decide (e.A < e.B) && (decide (e.B < s) && (worthOk e.W1 && (worthOk e.W2 && worthOk e.W3))))
def ahead (p e : EdgeI) : Bool := decide (p.A < e.A) || (decide (p.A = e.A) && decide (p.B < e.B))
def aheadOf (p : Option EdgeI) (e : EdgeI) : Bool := match p with | none => true | some q => ahead q e
def okFrom (s : Int) : Option EdgeI → List EdgeI → Bool
  | _, [] => true
  | p, e :: r => edgeOk s e && (aheadOf p e && okFrom s (some e) r)
def graphOk (s : Int) (Q : List EdgeI) : Bool := (decide (0 ≤ s) && decide (s ≤ 9)) && okFrom s none Q
def prevE (Q : List EdgeI) (k : Nat) : Option EdgeI := if k = 0 then none else Q[k - 1]?
theorem okFrom_step (s : Int) (Q : List EdgeI) (k : Nat) (h : k < Q.length) : okFrom s (prevE Q k) (Q.drop k) = (edgeOk s Q[k] && (aheadOf (prevE Q k) Q[k] && okFrom s (prevE Q (k + 1)) (Q.drop (k + 1)))) := by
  rw [← List.getElem_cons_drop h]
  have e : prevE Q (k + 1) = some Q[k] := by unfold prevE; simp [h]
  rw [e]
  rfl
set_option maxRecDepth 100000 in
set_option maxHeartbeats 4000000 in
theorem specGraph_any (v : Value) (B : Nat) (s : Int) (Q : List EdgeI) (h1 : Q.length ≤ 1048576) (w : World) (hB : B ≤ w.heap.size) (hv : GrAt w v B s Q) :
    Calls Try.prog 28 #[v] w fun e w' => e = .returned (.bool (graphOk s Q)) ∧ Below w.heap.size w w' := by
  obtain ⟨a, n, c, rfl, hE⟩ := hv
  have HI := hide (fun w => l01In_is s 0 9 w)
  have hg : graphOk s Q = ((decide (0 ≤ s) && decide (s ≤ 9)) && okFrom s none Q) := rfl
  cases hsz : (decide (0 ≤ s) && decide (s ≤ 9))
  · rw [hsz] at HI hg
    rw [hg, Bool.false_and]
    clear hE hg hsz
    go_enter Try.func28, Try.ntmps28
    go_wp2_with fail
    refine (unhide HI _).mono ?_
    rintro e w1 ⟨rfl, rfl⟩
    go_wp2
    go_ret
    exact ⟨rfl, below_new _ _⟩
  · rw [hsz] at HI hg
    rw [Bool.true_and] at hg
    obtain ⟨hL, hc⟩ := hE
    have HST := hide (fun k h => okFrom_step s Q k h)
    have HEND : Hid (okFrom s (prevE Q n) (Q.drop n) = true) := by show _ = _; rw [← hL, List.drop_length]; cases prevE Q Q.length <;> rfl
    have H0 : Hid (graphOk s Q = okFrom s (prevE Q 0) (Q.drop 0)) := hg
    have HC := hide hc
    have HL := hide hL
    generalize graphOk s Q = r at H0
    have HN : Hid (n ≤ 1048576) := by show _ ≤ _; omega
    clear hc hL hg hsz h1
    go_enter Try.func28, Try.ntmps28
    go_wp2_with fail
    obtain ⟨V1, hV1⟩ : ∃ W, W = w.alloc (Obj.cells #[Value.int .i64 s, Value.slice a n c] 26) := ⟨_, rfl⟩
    rw [← hV1]
    have x1 : GBox V1 w.heap.size s (.slice a n c) := by rw [hV1]; exact GBox.new _ _ _
    have b1 : Below w.heap.size w V1 := by rw [hV1]; exact below_new _ _
    have z1 : V1.heap.size = w.heap.size + 1 := by rw [hV1]; simp
    clear hV1
    refine (unhide HI _).mono ?_
    rintro e w1 ⟨rfl, rfl⟩
    obtain ⟨p0, p1⟩ := x1.cells
    go_wp2_with fail
    go_loopw [3] (fun i wr => ∃ j : Nat, i = .int .i64 (j : Int) ∧ j ≤ n ∧ Hid (r = okFrom s (prevE Q j) (Q.drop j)) ∧ Below (w.heap.size + 1) w1 wr) (fun i _ => n - (intOf i).toNat)
    case atStart => exact ⟨0, rfl, Nat.zero_le _, unhide H0, Below.refl _ _⟩
    case round =>
      obtain ⟨j, rfl, hj, HR, hb⟩ := hrel
      have hsr := hb.size
      have g0 := p0
      have g1 := p1
      rw [← hb.cell (p := ⟨w.heap.size, 0, none⟩) (by simp)] at g0
      rw [← hb.cell (p := ⟨w.heap.size, 1, none⟩) (by simp)] at g1
      by_cases hlt : j < n
      · have hjL : j < Q.length := by have := unhide HL; omega
        obtain ⟨b, off, rfl, hbB, c0, c1, c2, c3, c4⟩ := unhide HC j hjL
        have hbw : Below w.heap.size w wr := b1.trans (hb.mono (by omega))
        rw [← hbw.cell (p := ⟨b, off + j * 5, none⟩) (by simp; omega)] at c0
        rw [← hbw.cell (p := ⟨b, off + j * 5 + 1, none⟩) (by simp; omega)] at c1
        rw [← hbw.cell (p := ⟨b, off + j * 5 + 2, none⟩) (by simp; omega)] at c2
        rw [← hbw.cell (p := ⟨b, off + j * 5 + 3, none⟩) (by simp; omega)] at c3
        rw [← hbw.cell (p := ⟨b, off + j * 5 + 4, none⟩) (by simp; omega)] at c4
        have HPR : Hid (∀ q, prevE Q j = some q → 0 < j ∧ wr.cell? ⟨b, off + (j - 1) * 5, none⟩ = some (.int .i64 q.A) ∧ wr.cell? ⟨b, off + (j - 1) * 5 + 1, none⟩ = some (.int .i64 q.B)) := fun q hq => by
          unfold prevE at hq
          split at hq
          · cases hq
          · have hj1 : j - 1 < Q.length := by omega
            obtain ⟨b', off', e', _, k0, k1, _⟩ := unhide HC (j - 1) hj1
            simp at e'
            obtain ⟨rfl, rfl⟩ := e'
            rw [List.getElem?_eq_getElem hj1] at hq
            obtain rfl := Option.some.inj hq
            refine ⟨by omega, ?_, ?_⟩
            · rw [hbw.cell (p := ⟨b, off + (j - 1) * 5, none⟩) (by simp; omega)]; exact k0
            · rw [hbw.cell (p := ⟨b, off + (j - 1) * 5 + 1, none⟩) (by simp; omega)]; exact k1
        have HPZ : Hid (prevE Q j = none → j = 0) := fun h => by
          unfold prevE at h
          split at h
          · assumption
          · rw [List.getElem?_eq_getElem (show j - 1 < Q.length by omega)] at h; cases h
        have hr := (unhide HR).trans (unhide HST j hjL)
        have hwl : w.heap.size < wr.heap.size := by omega
        have hbl : b < wr.heap.size := by omega
        have hx0 : (0 : Int) ≤ (j : Int) := by omega
        have hx1 : (j : Int) < (n : Int) := by omega
        have hx2 : (n : Int) ≤ 9223372036854775807 := by have := unhide HN; omega
        generalize Q[j] = q at c0 c1 c2 c3 c4 hr
        generalize hrest : okFrom s (prevE Q (j + 1)) (Q.drop (j + 1)) = rest at hr
        have HREST := hide hrest
        clear hrest
        generalize hpe : prevE Q j = pe at hr HPR HPZ
        obtain ⟨y0, y1, y2, y3, y4⟩ := q
        simp only at c0 c1 c2 c3 c4
        have hok : edgeOk s ⟨y0, y1, y2, y3, y4⟩ = (decide (0 ≤ y0) && (decide (y0 < y1) && (decide (y1 < s) && (worthOk y2 && (worthOk y3 && worthOk y4))))) := rfl
        rw [hok] at hr
        have W2 := hide (fun w => worth_any y2 w)
        have W3 := hide (fun w => worth_any y3 w)
        have W4 := hide (fun w => worth_any y4 w)
        generalize worthOk y2 = k2 at W2 hr
        generalize worthOk y3 = k3 at W3 hr
        generalize worthOk y4 = k4 at W4 hr
        have hbn : Below w.heap.size w (wr.alloc (Obj.cells #[Value.int .i64 y0, Value.int .i64 y1, Value.int .i64 y2, Value.int .i64 y3, Value.int .i64 y4] 68)) := hbw.alloc hbw.size _
        have HBN := hide hbn
        have hbm : Below (w.heap.size + 1) w1 (wr.alloc (Obj.cells #[Value.int .i64 y0, Value.int .i64 y1, Value.int .i64 y2, Value.int .i64 y3, Value.int .i64 y4] 68)) := hb.alloc (by omega) _
        have HBM := hide hbm
        clear hok HR hpe hbn hbm hb hbw
        by_cases t0 : y0 < 0
        · rw [decide_eq_false (show ¬ 0 ≤ y0 by omega), Bool.false_and, Bool.false_and] at hr
          subst hr
          go_wp2_with (first | (go_at_call 55; (first | refine (unhide W2 _).mono ?_ | refine (unhide W3 _).mono ?_ | refine (unhide W4 _).mono ?_); rintro e wk ⟨rfl, rfl⟩))
          go_ret
          exact ⟨rfl, unhide HBN⟩
        · rw [decide_eq_true (show 0 ≤ y0 by omega), Bool.true_and] at hr
          by_cases t1 : y1 ≤ y0
          · rw [decide_eq_false (show ¬ y0 < y1 by omega), Bool.false_and, Bool.false_and] at hr
            subst hr
            go_wp2_with (first | (go_at_call 55; (first | refine (unhide W2 _).mono ?_ | refine (unhide W3 _).mono ?_ | refine (unhide W4 _).mono ?_); rintro e wk ⟨rfl, rfl⟩))
            go_ret
            exact ⟨rfl, unhide HBN⟩
          · rw [decide_eq_true (show y0 < y1 by omega), Bool.true_and] at hr
            by_cases t2 : s ≤ y1
            · rw [decide_eq_false (show ¬ y1 < s by omega), Bool.false_and, Bool.false_and] at hr
              subst hr
              go_wp2_with (first | (go_at_call 55; (first | refine (unhide W2 _).mono ?_ | refine (unhide W3 _).mono ?_ | refine (unhide W4 _).mono ?_); rintro e wk ⟨rfl, rfl⟩))
              go_ret
              exact ⟨rfl, unhide HBN⟩
            · rw [decide_eq_true (show y1 < s by omega), Bool.true_and] at hr
              cases k2
              · rw [Bool.false_and, Bool.false_and] at hr
                subst hr
                go_wp2_with (first | (go_at_call 55; (first | refine (unhide W2 _).mono ?_ | refine (unhide W3 _).mono ?_ | refine (unhide W4 _).mono ?_); rintro e wk ⟨rfl, rfl⟩))
                go_ret
                exact ⟨rfl, unhide HBN⟩
              · rw [Bool.true_and] at hr
                cases k3
                · rw [Bool.false_and, Bool.false_and] at hr
                  subst hr
                  go_wp2_with (first | (go_at_call 55; (first | refine (unhide W2 _).mono ?_ | refine (unhide W3 _).mono ?_ | refine (unhide W4 _).mono ?_); rintro e wk ⟨rfl, rfl⟩))
                  go_ret
                  exact ⟨rfl, unhide HBN⟩
                · rw [Bool.true_and] at hr
                  cases k4
                  · rw [Bool.false_and] at hr
                    subst hr
                    go_wp2_with (first | (go_at_call 55; (first | refine (unhide W2 _).mono ?_ | refine (unhide W3 _).mono ?_ | refine (unhide W4 _).mono ?_); rintro e wk ⟨rfl, rfl⟩))
                    go_ret
                    exact ⟨rfl, unhide HBN⟩
                  · rw [Bool.true_and] at hr
                    go_wp2_with (first | (go_at_call 55; (first | refine (unhide W2 _).mono ?_ | refine (unhide W3 _).mono ?_ | refine (unhide W4 _).mono ?_); rintro e wk ⟨rfl, rfl⟩))
                    cases pe with
                    | none =>
                      obtain rfl := unhide HPZ rfl
                      change r = rest at hr
                      have hz : decide (0 < 0) = false := rfl
                      go_quiet (fail)
                      go_wp2
                      go_roundw
                      case rel => exact ⟨0 + 1, by go_num, by omega, (by show _ = _; rw [unhide HREST]; exact hr), below_drewN (unhide HBM) _⟩
                      case measure => simp [intOf]; omega
                    | some q =>
                      obtain ⟨hj0, d0, d1⟩ := unhide HPR q rfl
                      obtain ⟨i, rfl⟩ : ∃ i, j = i + 1 := ⟨j - 1, by omega⟩
                      rw [Nat.add_sub_cancel] at d0 d1
                      obtain ⟨z0, z1', z2, z3, z4⟩ := q
                      simp only at d0 d1
                      change r = ((decide (z0 < y0) || (decide (z0 = y0) && decide (z1' < y1))) && rest) at hr
                      have hj1 : (0 : Int) < (i : Int) + 1 := by omega
                      have hi0 : (0 : Int) ≤ (i : Int) := by omega
                      have hi1 : (i : Int) < (n : Int) := by omega
                      by_cases t3 : y0 < z0
                      · rw [decide_eq_false (show ¬ z0 < y0 by omega), decide_eq_false (show ¬ z0 = y0 by omega), Bool.false_and, Bool.false_or, Bool.false_and] at hr
                        subst hr
                        go_quiet (fail)
                        go_wp2
                        go_ret
                        exact ⟨rfl, below_drewN (unhide HBN) _⟩
                      · have e3 : decide (y0 < z0) = false := decide_eq_false t3
                        by_cases t4 : z0 = y0
                        · subst t4
                          rw [decide_eq_false (show ¬ z0 < z0 by omega), decide_eq_true (show z0 = z0 from rfl), Bool.true_and, Bool.false_or] at hr
                          by_cases t5 : y1 ≤ z1'
                          · rw [decide_eq_false (show ¬ z1' < y1 by omega), Bool.false_and] at hr
                            subst hr
                            go_quiet (fail)
                            go_wp2
                            go_ret
                            exact ⟨rfl, below_drewN (unhide HBN) _⟩
                          · rw [decide_eq_true (show z1' < y1 by omega), Bool.true_and] at hr
                            have e5 : decide (y1 ≤ z1') = false := decide_eq_false t5
                            go_quiet (fail)
                            go_wp2
                            go_roundw
                            case rel => exact ⟨i + 1 + 1, by go_num, by omega, (by show _ = _; rw [unhide HREST]; exact hr), below_drewN (unhide HBM) _⟩
                            case measure => simp [intOf]; omega
                        · have e4 : (z0 == y0) = false := by simpa using t4
                          rw [decide_eq_true (show z0 < y0 by omega), Bool.true_or, Bool.true_and] at hr
                          go_quiet (fail)
                          go_wp2
                          go_roundw
                          case rel => exact ⟨i + 1 + 1, by go_num, by omega, (by show _ = _; rw [unhide HREST]; exact hr), below_drewN (unhide HBM) _⟩
                          case measure => simp [intOf]; omega
      · obtain rfl : j = n := by omega
        have hr := (unhide HR).trans (unhide HEND)
        subst hr
        go_wp2
        go_ret
        exact ⟨rfl, b1.trans (hb.mono (by omega))⟩
def scal (x : EdgeI) : Int := wrap64 (90000 * x.W1 + 300 * x.W2 + x.W3)
theorem wrap_mod (x : Int) : wrap64 x = (x + 9223372036854775808) % 18446744073709551616 - 9223372036854775808 := by unfold wrap64; rfl
set_option maxRecDepth 100000 in
theorem specScalar_any (x : EdgeI) (w : World) :
    Calls Try.prog 46 #[x.v] w fun e w' => e = .returned (.int .i64 (scal x)) ∧ Below w.heap.size w w' := by
  have HS : Hid (scal x = wrap64 (wrap64 (wrap64 (90000 * x.W1) + wrap64 (300 * x.W2)) + x.W3)) := by
    show _ = _
    unfold scal
    simp only [wrap_mod]
    omega
  generalize scal x = r at HS
  unfold EdgeI.v
  obtain ⟨y0, y1, y2, y3, y4⟩ := x
  simp only at HS ⊢
  go_enter Try.func46, Try.ntmps46
  go_wp2
  go_ret
  rw [unhide HS]
  exact ⟨rfl, below_new _ _⟩
def hit (a b : Int) (e : EdgeI) : Bool := ((e.A == a) && (e.B == b)) || ((e.A == b) && (e.B == a))
def atFrom (a b : Int) : Nat → List EdgeI → Int
  | _, [] => -1
  | k, e :: r => if hit a b e = true then (k : Int) else atFrom a b (k + 1) r
theorem atFrom_step (a b : Int) (Q : List EdgeI) (k : Nat) (h : k < Q.length) : atFrom a b k (Q.drop k) = if hit a b Q[k] = true then (k : Int) else atFrom a b (k + 1) (Q.drop (k + 1)) := by
  rw [← List.getElem_cons_drop h]
  rfl
set_option maxRecDepth 100000 in
set_option maxHeartbeats 4000000 in
theorem specAt_any (v : Value) (B : Nat) (s x y : Int) (Q : List EdgeI) (h1 : Q.length ≤ 1048576) (w : World) (hB : B ≤ w.heap.size) (hv : GrAt w v B s Q) :
    Calls Try.prog 43 #[v, .int .i64 x, .int .i64 y] w fun e w' => e = .returned (.int .i64 (atFrom x y 0 Q)) ∧ Below w.heap.size w w' := by
  obtain ⟨a, n, c, rfl, hE⟩ := hv
  obtain ⟨hL, hc⟩ := hE
  have HST := hide (fun k h => atFrom_step x y Q k h)
  have HEND : Hid (atFrom x y n (Q.drop n) = -1) := by show _ = _; rw [← hL, List.drop_length]; rfl
  have H0 : Hid (atFrom x y 0 Q = atFrom x y 0 (Q.drop 0)) := rfl
  have HC := hide hc
  have HL := hide hL
  have HN : Hid (n ≤ 1048576) := by show _ ≤ _; omega
  generalize atFrom x y 0 Q = r at H0 ⊢
  clear hc hL h1
  go_enter Try.func43, Try.ntmps43
  go_wp2_with fail
  obtain ⟨V1, hV1⟩ : ∃ W, W = w.alloc (Obj.cells #[Value.int .i64 s, Value.slice a n c] 26) := ⟨_, rfl⟩
  rw [← hV1]
  have x1 : GBox V1 w.heap.size s (.slice a n c) := by rw [hV1]; exact GBox.new _ _ _
  have b1 : Below w.heap.size w V1 := by rw [hV1]; exact below_new _ _
  clear hV1
  obtain ⟨p0, p1⟩ := x1.cells
  go_loopw [7] (fun i wr => ∃ j : Nat, i = .int .i64 (j : Int) ∧ j ≤ n ∧ Hid (r = atFrom x y j (Q.drop j)) ∧ wr = V1) (fun i _ => n - (intOf i).toNat)
  case atStart => exact ⟨0, rfl, Nat.zero_le _, unhide H0, rfl⟩
  case round =>
    obtain ⟨j, rfl, hj, HR, rfl⟩ := hrel
    by_cases hlt : j < n
    · have hjL : j < Q.length := by have := unhide HL; omega
      obtain ⟨b, off, rfl, hbB, c0, c1, _⟩ := unhide HC j hjL
      rw [← b1.cell (p := ⟨b, off + j * 5, none⟩) (by simp; omega)] at c0
      rw [← b1.cell (p := ⟨b, off + j * 5 + 1, none⟩) (by simp; omega)] at c1
      have hr := (unhide HR).trans (unhide HST j hjL)
      generalize hrest : atFrom x y (j + 1) (Q.drop (j + 1)) = rest at hr
      have HREST := hide hrest
      have hx0 : (0 : Int) ≤ (j : Int) := by omega
      have hx1 : (j : Int) < (n : Int) := by omega
      have hx2 : (n : Int) ≤ 9223372036854775807 := by have := unhide HN; omega
      generalize Q[j] = q at c0 c1 hr
      obtain ⟨y0, y1, y2, y3, y4⟩ := q
      have hh : hit x y ⟨y0, y1, y2, y3, y4⟩ = (((y0 == x) && (y1 == y)) || ((y0 == y) && (y1 == x))) := rfl
      simp only at c0 c1
      generalize hit x y ⟨y0, y1, y2, y3, y4⟩ = h at hh hr
      clear hrest HR
      cases t0 : (y0 == x) <;> cases t1 : (y1 == y) <;> cases t2 : (y0 == y) <;> cases t3 : (y1 == x)
      all_goals
        rw [t0, t1, t2, t3] at hh
        first | (obtain rfl : h = true := hh) | (obtain rfl : h = false := hh)
        first | rw [if_pos rfl] at hr | rw [if_neg (by simp)] at hr
        subst hr
        go_wp2
        first
          | (go_ret; exact ⟨rfl, b1⟩)
          | (go_roundw
             case rel => exact ⟨j + 1, by go_num, by omega, (by show _ = _; rw [unhide HREST]), (by first | rfl | trivial)⟩
             case measure => simp [intOf]; omega)
    · obtain rfl : j = n := by omega
      have hr := (unhide HR).trans (unhide HEND)
      subst hr
      go_wp2
      go_ret
      exact ⟨rfl, b1⟩
def edgeAtV (s x y : Int) (Q : List EdgeI) : Int := if graphOk s Q = true then atFrom x y 0 Q else -1
set_option maxRecDepth 100000 in
theorem specEdgeAt_any (v : Value) (B : Nat) (s x y : Int) (Q : List EdgeI) (h1 : Q.length ≤ 1048576) (w : World) (hB : B ≤ w.heap.size) (hv : GrAt w v B s Q) :
    Calls Try.prog 45 #[v, .int .i64 x, .int .i64 y] w fun e w' => e = .returned (.int .i64 (edgeAtV s x y Q)) ∧ Below w.heap.size w w' := by
  have OK := hide (fun w1 (hb : Below w.heap.size w w1) => specGraph_any v B s Q h1 w1 (by have := hb.size; omega) (hv.below hb hB))
  have AT := hide (fun w1 (hb : Below w.heap.size w w1) => specAt_any v B s x y Q h1 w1 (by have := hb.size; omega) (hv.below hb hB))
  obtain ⟨a, n, c, rfl, _⟩ := hv
  have hV : edgeAtV s x y Q = if graphOk s Q = true then atFrom x y 0 Q else -1 := rfl
  generalize edgeAtV s x y Q = V at hV ⊢
  generalize atFrom x y 0 Q = r at AT hV
  generalize graphOk s Q = ok at OK hV
  clear h1
  cases ok
  · rw [if_neg (by simp)] at hV
    subst hV
    go_enter Try.func45, Try.ntmps45
    go_wp2_with fail
    obtain ⟨V1, hV1⟩ : ∃ W, W = w.alloc (Obj.cells #[Value.int .i64 s, Value.slice a n c] 26) := ⟨_, rfl⟩
    rw [← hV1]
    have x1 : GBox V1 w.heap.size s (.slice a n c) := by rw [hV1]; exact GBox.new _ _ _
    have b1 : Below w.heap.size w V1 := by rw [hV1]; exact below_new _ _
    clear hV1
    refine (unhide OK V1 b1).mono ?_
    rintro e w2 ⟨rfl, hb2⟩
    have x2 := x1.below hb2
    have b2 := b1.trans (hb2.mono b1.size)
    obtain ⟨p0, p1⟩ := x2.cells
    clear hb2 x1 x2
    go_wp2
    go_ret
    exact ⟨rfl, b2⟩
  · rw [if_pos rfl] at hV
    subst hV
    go_enter Try.func45, Try.ntmps45
    go_wp2_with fail
    obtain ⟨V1, hV1⟩ : ∃ W, W = w.alloc (Obj.cells #[Value.int .i64 s, Value.slice a n c] 26) := ⟨_, rfl⟩
    rw [← hV1]
    have x1 : GBox V1 w.heap.size s (.slice a n c) := by rw [hV1]; exact GBox.new _ _ _
    have b1 : Below w.heap.size w V1 := by rw [hV1]; exact below_new _ _
    clear hV1
    refine (unhide OK V1 b1).mono ?_
    rintro e w2 ⟨rfl, hb2⟩
    have x2 := x1.below hb2
    have b2 := b1.trans (hb2.mono b1.size)
    obtain ⟨p0, p1⟩ := x2.cells
    clear hb2 x1 x2
    go_wp2_with fail
    refine (unhide AT w2 b2).mono ?_
    rintro e w3 ⟨rfl, hb3⟩
    have b3 := b2.trans (hb3.mono b2.size)
    clear p0 p1 hb3
    go_wp2
    go_ret
    exact ⟨rfl, b3⟩
theorem ahead_iff (p e : EdgeI) : ahead p e = true ↔ p.A < e.A ∨ p.A = e.A ∧ p.B < e.B := by
  unfold ahead
  simp
theorem ahead_trans {a b c : EdgeI} (h : ahead a b = true) (k : ahead b c = true) : ahead a c = true := by
  rw [ahead_iff] at *
  omega
theorem edgeOk_iff (s : Int) (e : EdgeI) : edgeOk s e = true ↔ 0 ≤ e.A ∧ e.A < e.B ∧ e.B < s ∧ worthOk e.W1 = true ∧ worthOk e.W2 = true ∧ worthOk e.W3 = true := by
  unfold edgeOk
  simp
theorem okFrom_sound (s : Int) : ∀ (Q : List EdgeI) (p : Option EdgeI), okFrom s p Q = true → (∀ e ∈ Q, edgeOk s e = true) ∧ Q.Pairwise (fun a b => ahead a b = true) ∧ ∀ q, p = some q → ∀ e ∈ Q, ahead q e = true
  | [], _, _ => ⟨by simp, List.Pairwise.nil, by simp⟩
  | e :: r, p, h => by
    have h' : (edgeOk s e && (aheadOf p e && okFrom s (some e) r)) = true := h
    simp only [Bool.and_eq_true] at h'
    obtain ⟨h1, h2, h3⟩ := h'
    obtain ⟨i1, i2, i3⟩ := okFrom_sound s r (some e) h3
    refine ⟨fun x hx => ?_, List.Pairwise.cons (fun x hx => i3 e rfl x hx) i2, fun q hq x hx => ?_⟩
    · rcases List.mem_cons.1 hx with rfl | hx
      · exact h1
      · exact i1 x hx
    · subst hq
      have h2' : ahead q e = true := h2
      rcases List.mem_cons.1 hx with rfl | hx
      · exact h2'
      · exact ahead_trans h2' (i3 e rfl x hx)
theorem graph_sound {s : Int} {Q : List EdgeI} (h : graphOk s Q = true) : 0 ≤ s ∧ s ≤ 9 ∧ (∀ e ∈ Q, edgeOk s e = true) ∧ Q.Pairwise (fun a b => ahead a b = true) := by
  unfold graphOk at h
  simp only [Bool.and_eq_true, decide_eq_true_eq] at h
  obtain ⟨⟨h0, h1⟩, h2⟩ := h
  obtain ⟨i1, i2, _⟩ := okFrom_sound s Q none h2
  exact ⟨h0, h1, i1, i2⟩
theorem hit_iff {s x y : Int} {e : EdgeI} (he : edgeOk s e = true) (hxy : x < y) : (hit x y e = true ↔ e.A = x ∧ e.B = y) ∧ (hit y x e = true ↔ e.A = x ∧ e.B = y) := by
  have := (edgeOk_iff s e).1 he
  unfold hit
  simp only [Bool.or_eq_true, Bool.and_eq_true, beq_iff_eq]
  omega
theorem at_some (x y : Int) : ∀ (Q : List EdgeI) (k : Nat), (∃ e ∈ Q, hit x y e = true) → ∃ i e, Q[i]? = some e ∧ hit x y e = true ∧ atFrom x y k Q = ((k + i : Nat) : Int)
  | [], _, h => by simp at h
  | q :: r, k, h => by
    unfold atFrom
    by_cases hq : hit x y q = true
    · rw [if_pos hq]
      exact ⟨0, q, rfl, hq, rfl⟩
    · rw [if_neg hq]
      have hr : ∃ e ∈ r, hit x y e = true := by
        obtain ⟨e, he, hh⟩ := h
        rcases List.mem_cons.1 he with rfl | he
        · exact absurd hh hq
        · exact ⟨e, he, hh⟩
      obtain ⟨i, e, h1, h2, h3⟩ := at_some x y r (k + 1) hr
      exact ⟨i + 1, e, by simpa using h1, h2, by rw [h3]; omega⟩
theorem at_none (x y : Int) : ∀ (Q : List EdgeI) (k : Nat), (∀ e ∈ Q, ¬ hit x y e = true) → atFrom x y k Q = -1
  | [], _, _ => rfl
  | q :: r, k, h => by
    unfold atFrom
    rw [if_neg (h q List.mem_cons_self)]
    exact at_none x y r (k + 1) (fun e he => h e (List.mem_cons_of_mem _ he))
end Gr
end Go.Proofs.Ytkjclkelnheheaa
