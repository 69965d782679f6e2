/-
  The contract of spec.GraphOk.
-/
import Derived.Test.YtejfknkcakeakaaGrGraph
import Derived.Deep.RegionWith
import Derived.Deep.DeepCutAuto
namespace Go.Proofs.Ytejfknkcakeakaa
namespace Gr
open Go.RowKit

theorem l01In_is (x y z : Int) (w : World) :
    Calls Try.prog 41 #[.int .i64 x, .int .i64 y, .int .i64 z] w fun e w' => e = .returned (.bool (decide (y ≤ x) && decide (x ≤ z))) ∧ w' = w := by
  go_enter Try.func41, Try.ntmps41
  go_wp2
  all_goals (go_ret; exact ⟨by simp_all <;> omega, rfl⟩)

def worthOk (x : Int) : Bool := decide (0 ≤ x) && decide (x ≤ 50)

theorem worth_any (x : Int) (w : World) :
    Calls Try.prog 69 #[.int .i64 x] w fun e w' => e = .returned (.bool (worthOk x)) ∧ w' = w := by
  have H := hide (fun w => l01In_is x 0 50 w)
  unfold worthOk
  generalize (decide (0 ≤ x) && decide (x ≤ 50)) = r at H
  go_enter Try.func69, Try.ntmps69
  go_wp2_with fail
  refine (unhide H _).mono ?_
  rintro e w1 ⟨rfl, rfl⟩
  go_wp2
  go_ret
  exact ⟨rfl, rfl⟩

/-- Whether an edge may stand in a graph of a size. -/
def edgeOk (s : Int) (e : EdgeI) : Bool := decide (0 ≤ e.A) && (decide (e.A < e.B) && (decide (e.B < s) && (worthOk e.W1 && (worthOk e.W2 && worthOk e.W3))))

/-- Whether an edge may stand behind another one. -/
def ahead (p e : EdgeI) : Bool := decide (p.A < e.A) || (decide (p.A = e.A) && decide (p.B < e.B))

def aheadOf (p : Option EdgeI) (e : EdgeI) : Bool := match p with | none => true | some q => ahead q e

/-- Whether edges may stand behind another one. -/
def okFrom (s : Int) : Option EdgeI → List EdgeI → Bool
  | _, [] => true
  | p, e :: r => edgeOk s e && (aheadOf p e && okFrom s (some e) r)

/-- Whether a graph is right. -/
def graphOk (s : Int) (Q : List EdgeI) : Bool := (decide (0 ≤ s) && decide (s ≤ 9)) && okFrom s none Q

/-- The edge ahead of the k-th. -/
def prevE (Q : List EdgeI) (k : Nat) : Option EdgeI := if k = 0 then none else Q[k - 1]?

theorem okFrom_step (s : Int) (Q : List EdgeI) (k : Nat) (h : k < Q.length) : okFrom s (prevE Q k) (Q.drop k) = (edgeOk s Q[k] && (aheadOf (prevE Q k) Q[k] && okFrom s (prevE Q (k + 1)) (Q.drop (k + 1)))) := by
  rw [← List.getElem_cons_drop h]
  have e : prevE Q (k + 1) = some Q[k] := by unfold prevE; simp [h]
  rw [e]
  rfl

set_option maxRecDepth 100000 in
set_option maxHeartbeats 4000000 in
theorem specGraph_any (v : Value) (B : Nat) (s : Int) (Q : List EdgeI) (h1 : Q.length ≤ 1048576) (w : World) (hB : B ≤ w.heap.size) (hv : GrAt w v B s Q) :
    Calls Try.prog 40 #[v] w fun e w' => e = .returned (.bool (graphOk s Q)) ∧ Below w.heap.size w w' := by
  obtain ⟨a, n, c, rfl, hE⟩ := hv
  have HI := hide (fun w => l01In_is s 0 9 w)
  have hg : graphOk s Q = ((decide (0 ≤ s) && decide (s ≤ 9)) && okFrom s none Q) := rfl
  cases hsz : (decide (0 ≤ s) && decide (s ≤ 9))
  · rw [hsz] at HI hg
    rw [hg, Bool.false_and]
    clear hE hg hsz
    go_enter Try.func40, Try.ntmps40
    go_wp2_with fail
    refine (unhide HI _).mono ?_
    rintro e w1 ⟨rfl, rfl⟩
    go_wp2
    go_ret
    exact ⟨rfl, below_new _ _⟩
  · rw [hsz] at HI hg
    rw [Bool.true_and] at hg
    obtain ⟨hL, hc⟩ := hE
    have HST := hide (fun k h => okFrom_step s Q k h)
    have HEND : Hid (okFrom s (prevE Q n) (Q.drop n) = true) := by show _ = _; rw [← hL, List.drop_length]; cases prevE Q Q.length <;> rfl
    have H0 : Hid (graphOk s Q = okFrom s (prevE Q 0) (Q.drop 0)) := hg
    have HC := hide hc
    have HL := hide hL
    generalize graphOk s Q = r at H0
    have HN : Hid (n ≤ 1048576) := by show _ ≤ _; omega
    clear hc hL hg hsz h1
    go_enter Try.func40, Try.ntmps40
    go_wp2_with fail
    obtain ⟨V1, hV1⟩ : ∃ W, W = w.alloc (Obj.cells #[Value.int .i64 s, Value.slice a n c] 30) := ⟨_, rfl⟩
    rw [← hV1]
    have x1 : GBox V1 w.heap.size s (.slice a n c) := by rw [hV1]; exact GBox.new _ _ _
    have b1 : Below w.heap.size w V1 := by rw [hV1]; exact below_new _ _
    have z1 : V1.heap.size = w.heap.size + 1 := by rw [hV1]; simp
    clear hV1
    refine (unhide HI _).mono ?_
    rintro e w1 ⟨rfl, rfl⟩
    obtain ⟨p0, p1⟩ := x1.cells
    go_wp2_with fail
    go_loopw [3] (fun i wr => ∃ j : Nat, i = .int .i64 (j : Int) ∧ j ≤ n ∧ Hid (r = okFrom s (prevE Q j) (Q.drop j)) ∧ Below (w.heap.size + 1) w1 wr) (fun i _ => n - (intOf i).toNat)
    case atStart => exact ⟨0, rfl, Nat.zero_le _, unhide H0, Below.refl _ _⟩
    case round =>
      obtain ⟨j, rfl, hj, HR, hb⟩ := hrel
      have hsr := hb.size
      have g0 := p0
      have g1 := p1
      rw [← hb.cell (p := ⟨w.heap.size, 0, none⟩) (by simp)] at g0
      rw [← hb.cell (p := ⟨w.heap.size, 1, none⟩) (by simp)] at g1
      by_cases hlt : j < n
      · have hjL : j < Q.length := by have := unhide HL; omega
        obtain ⟨b, off, rfl, hbB, c0, c1, c2, c3, c4⟩ := unhide HC j hjL
        have hbw : Below w.heap.size w wr := b1.trans (hb.mono (by omega))
        rw [← hbw.cell (p := ⟨b, off + j * 5, none⟩) (by simp; omega)] at c0
        rw [← hbw.cell (p := ⟨b, off + j * 5 + 1, none⟩) (by simp; omega)] at c1
        rw [← hbw.cell (p := ⟨b, off + j * 5 + 2, none⟩) (by simp; omega)] at c2
        rw [← hbw.cell (p := ⟨b, off + j * 5 + 3, none⟩) (by simp; omega)] at c3
        rw [← hbw.cell (p := ⟨b, off + j * 5 + 4, none⟩) (by simp; omega)] at c4
        have HPR : Hid (∀ q, prevE Q j = some q → 0 < j ∧ wr.cell? ⟨b, off + (j - 1) * 5, none⟩ = some (.int .i64 q.A) ∧ wr.cell? ⟨b, off + (j - 1) * 5 + 1, none⟩ = some (.int .i64 q.B)) := fun q hq => by
          unfold prevE at hq
          split at hq
          · cases hq
          · have hj1 : j - 1 < Q.length := by omega
            obtain ⟨b', off', e', _, k0, k1, _⟩ := unhide HC (j - 1) hj1
            simp at e'
            obtain ⟨rfl, rfl⟩ := e'
            rw [List.getElem?_eq_getElem hj1] at hq
            obtain rfl := Option.some.inj hq
            refine ⟨by omega, ?_, ?_⟩
            · rw [hbw.cell (p := ⟨b, off + (j - 1) * 5, none⟩) (by simp; omega)]; exact k0
            · rw [hbw.cell (p := ⟨b, off + (j - 1) * 5 + 1, none⟩) (by simp; omega)]; exact k1
        have HPZ : Hid (prevE Q j = none → j = 0) := fun h => by
          unfold prevE at h
          split at h
          · assumption
          · rw [List.getElem?_eq_getElem (show j - 1 < Q.length by omega)] at h; cases h
        have hr := (unhide HR).trans (unhide HST j hjL)
        have hwl : w.heap.size < wr.heap.size := by omega
        have hbl : b < wr.heap.size := by omega
        have hx0 : (0 : Int) ≤ (j : Int) := by omega
        have hx1 : (j : Int) < (n : Int) := by omega
        have hx2 : (n : Int) ≤ 9223372036854775807 := by have := unhide HN; omega
        generalize Q[j] = q at c0 c1 c2 c3 c4 hr
        generalize hrest : okFrom s (prevE Q (j + 1)) (Q.drop (j + 1)) = rest at hr
        have HREST := hide hrest
        clear hrest
        generalize hpe : prevE Q j = pe at hr HPR HPZ
        obtain ⟨y0, y1, y2, y3, y4⟩ := q
        simp only at c0 c1 c2 c3 c4
        have hok : edgeOk s ⟨y0, y1, y2, y3, y4⟩ = (decide (0 ≤ y0) && (decide (y0 < y1) && (decide (y1 < s) && (worthOk y2 && (worthOk y3 && worthOk y4))))) := rfl
        rw [hok] at hr
        have W2 := hide (fun w => worth_any y2 w)
        have W3 := hide (fun w => worth_any y3 w)
        have W4 := hide (fun w => worth_any y4 w)
        generalize worthOk y2 = k2 at W2 hr
        generalize worthOk y3 = k3 at W3 hr
        generalize worthOk y4 = k4 at W4 hr
        have hbn : Below w.heap.size w (wr.alloc (Obj.cells #[Value.int .i64 y0, Value.int .i64 y1, Value.int .i64 y2, Value.int .i64 y3, Value.int .i64 y4] 76)) := hbw.alloc hbw.size _
        have HBN := hide hbn
        have hbm : Below (w.heap.size + 1) w1 (wr.alloc (Obj.cells #[Value.int .i64 y0, Value.int .i64 y1, Value.int .i64 y2, Value.int .i64 y3, Value.int .i64 y4] 76)) := hb.alloc (by omega) _
        have HBM := hide hbm
        clear hok HR hpe hbn hbm hb hbw
        by_cases t0 : y0 < 0
        · rw [decide_eq_false (show ¬ 0 ≤ y0 by omega), Bool.false_and, Bool.false_and] at hr
          subst hr
          go_wp2_with (first | (go_at_call 69; (first | refine (unhide W2 _).mono ?_ | refine (unhide W3 _).mono ?_ | refine (unhide W4 _).mono ?_); rintro e wk ⟨rfl, rfl⟩))
          go_ret
          exact ⟨rfl, unhide HBN⟩
        · rw [decide_eq_true (show 0 ≤ y0 by omega), Bool.true_and] at hr
          by_cases t1 : y1 ≤ y0
          · rw [decide_eq_false (show ¬ y0 < y1 by omega), Bool.false_and, Bool.false_and] at hr
            subst hr
            go_wp2_with (first | (go_at_call 69; (first | refine (unhide W2 _).mono ?_ | refine (unhide W3 _).mono ?_ | refine (unhide W4 _).mono ?_); rintro e wk ⟨rfl, rfl⟩))
            go_ret
            exact ⟨rfl, unhide HBN⟩
          · rw [decide_eq_true (show y0 < y1 by omega), Bool.true_and] at hr
            by_cases t2 : s ≤ y1
            · rw [decide_eq_false (show ¬ y1 < s by omega), Bool.false_and, Bool.false_and] at hr
              subst hr
              go_wp2_with (first | (go_at_call 69; (first | refine (unhide W2 _).mono ?_ | refine (unhide W3 _).mono ?_ | refine (unhide W4 _).mono ?_); rintro e wk ⟨rfl, rfl⟩))
              go_ret
              exact ⟨rfl, unhide HBN⟩
            · rw [decide_eq_true (show y1 < s by omega), Bool.true_and] at hr
              cases k2
              · rw [Bool.false_and, Bool.false_and] at hr
                subst hr
                go_wp2_with (first | (go_at_call 69; (first | refine (unhide W2 _).mono ?_ | refine (unhide W3 _).mono ?_ | refine (unhide W4 _).mono ?_); rintro e wk ⟨rfl, rfl⟩))
                go_ret
                exact ⟨rfl, unhide HBN⟩
              · rw [Bool.true_and] at hr
                cases k3
                · rw [Bool.false_and, Bool.false_and] at hr
                  subst hr
                  go_wp2_with (first | (go_at_call 69; (first | refine (unhide W2 _).mono ?_ | refine (unhide W3 _).mono ?_ | refine (unhide W4 _).mono ?_); rintro e wk ⟨rfl, rfl⟩))
                  go_ret
                  exact ⟨rfl, unhide HBN⟩
                · rw [Bool.true_and] at hr
                  cases k4
                  · rw [Bool.false_and] at hr
                    subst hr
                    go_wp2_with (first | (go_at_call 69; (first | refine (unhide W2 _).mono ?_ | refine (unhide W3 _).mono ?_ | refine (unhide W4 _).mono ?_); rintro e wk ⟨rfl, rfl⟩))
                    go_ret
                    exact ⟨rfl, unhide HBN⟩
                  · rw [Bool.true_and] at hr
                    go_wp2_with (first | (go_at_call 69; (first | refine (unhide W2 _).mono ?_ | refine (unhide W3 _).mono ?_ | refine (unhide W4 _).mono ?_); rintro e wk ⟨rfl, rfl⟩))
                    cases pe with
                    | none =>
                      obtain rfl := unhide HPZ rfl
                      change r = rest at hr
                      have hz : decide (0 < 0) = false := rfl
                      go_quiet (fail)
                      go_wp2
                      go_roundw
                      case rel => exact ⟨0 + 1, by go_num, by omega, (by show _ = _; rw [unhide HREST]; exact hr), below_drewN (unhide HBM) _⟩
                      case measure => simp [intOf]; omega
                    | some q =>
                      obtain ⟨hj0, d0, d1⟩ := unhide HPR q rfl
                      obtain ⟨i, rfl⟩ : ∃ i, j = i + 1 := ⟨j - 1, by omega⟩
                      rw [Nat.add_sub_cancel] at d0 d1
                      obtain ⟨z0, z1', z2, z3, z4⟩ := q
                      simp only at d0 d1
                      change r = ((decide (z0 < y0) || (decide (z0 = y0) && decide (z1' < y1))) && rest) at hr
                      have hj1 : (0 : Int) < (i : Int) + 1 := by omega
                      have hi0 : (0 : Int) ≤ (i : Int) := by omega
                      have hi1 : (i : Int) < (n : Int) := by omega
                      by_cases t3 : y0 < z0
                      · rw [decide_eq_false (show ¬ z0 < y0 by omega), decide_eq_false (show ¬ z0 = y0 by omega), Bool.false_and, Bool.false_or, Bool.false_and] at hr
                        subst hr
                        go_quiet (fail)
                        go_wp2
                        go_ret
                        exact ⟨rfl, below_drewN (unhide HBN) _⟩
                      · have e3 : decide (y0 < z0) = false := decide_eq_false t3
                        by_cases t4 : z0 = y0
                        · subst t4
                          rw [decide_eq_false (show ¬ z0 < z0 by omega), decide_eq_true (show z0 = z0 from rfl), Bool.true_and, Bool.false_or] at hr
                          by_cases t5 : y1 ≤ z1'
                          · rw [decide_eq_false (show ¬ z1' < y1 by omega), Bool.false_and] at hr
                            subst hr
                            go_quiet (fail)
                            go_wp2
                            go_ret
                            exact ⟨rfl, below_drewN (unhide HBN) _⟩
                          · rw [decide_eq_true (show z1' < y1 by omega), Bool.true_and] at hr
                            have e5 : decide (y1 ≤ z1') = false := decide_eq_false t5
                            go_quiet (fail)
                            go_wp2
                            go_roundw
                            case rel => exact ⟨i + 1 + 1, by go_num, by omega, (by show _ = _; rw [unhide HREST]; exact hr), below_drewN (unhide HBM) _⟩
                            case measure => simp [intOf]; omega
                        · have e4 : (z0 == y0) = false := by simpa using t4
                          rw [decide_eq_true (show z0 < y0 by omega), Bool.true_or, Bool.true_and] at hr
                          go_quiet (fail)
                          go_wp2
                          go_roundw
                          case rel => exact ⟨i + 1 + 1, by go_num, by omega, (by show _ = _; rw [unhide HREST]; exact hr), below_drewN (unhide HBM) _⟩
                          case measure => simp [intOf]; omega
      · obtain rfl : j = n := by omega
        have hr := (unhide HR).trans (unhide HEND)
        subst hr
        go_wp2
        go_ret
        exact ⟨rfl, b1.trans (hb.mono (by omega))⟩

end Gr
end Go.Proofs.Ytejfknkcakeakaa
