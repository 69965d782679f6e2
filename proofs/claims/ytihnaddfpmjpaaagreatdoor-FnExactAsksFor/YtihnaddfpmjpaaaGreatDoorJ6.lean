/-
 TrMap, TrMapImpl.
-/
import Derived.Test.YtihnaddfpmjpaaaGreatDoorJ5
import Derived.Deep.RegionWith
import Derived.Deep.DeepCutAuto
namespace Go.Proofs.YtihnaddfpmjpaaaGreatDoor
namespace Tr
open Go.RowKit
theorem l01In_is (x y z : Int) (w : World) :
    Calls Tryz.prog 90 #[.int .i64 x, .int .i64 y, .int .i64 z] w fun e w' => e = .returned (.bool (decide (y ≤ x) && decide (x ≤ z))) ∧ w' = w := by
  go_enter Tryz.func90, Tryz.ntmps90
  go_wp2
  all_goals (go_ret; exact ⟨by simp_all <;> omega, rfl⟩)
def prevP (Q : List (ByteArray × ByteArray)) (n : Nat) : ByteArray := ((Q[n - 1]?).map Prod.fst).getD ⟨#[]⟩
def pairOk (Q : List (ByteArray × ByteArray)) (n : Nat) (q : ByteArray × ByteArray) : Bool :=
  (decide ((1 : Int) ≤ (q.1.size : Int)) && decide ((q.1.size : Int) ≤ 8)) && (decide ((q.2.size : Int) ≤ 40) && (n == 0 || Op.bytesLess (prevP Q n).toList q.1.toList))
def MapR (Q : List (ByteArray × ByteArray)) : Prop := Q.length ≤ 120 ∧ ∀ n (h : n < Q.length), pairOk Q n Q[n] = true
instance (Q : List (ByteArray × ByteArray)) : Decidable (MapR Q) := by unfold MapR; exact inferInstance
set_option maxRecDepth 100000 in
set_option maxHeartbeats 4000000 in
theorem specMap_any (a : Option Addr) (len cap B : Nat) (Q : List (ByteArray × ByteArray)) (hlen : len ≤ 1048576) (w : World) (hB : B ≤ w.heap.size) (hs : PairsAt w a len B Q) :
    Calls Tryz.prog 68 #[.slice a len cap] w fun e w' => e = .returned (.bool (decide (MapR Q))) ∧ Below w.heap.size w w' := by
  obtain ⟨hL, hc⟩ := hs
  by_cases hbig : 120 < len
  · have e : decide (MapR Q) = false := decide_eq_false (fun h => by have := h.1; omega)
    rw [e]
    clear hc e
    go_enter Tryz.func68, Tryz.ntmps68
    go_wp2
    go_ret
    exact ⟨rfl, Below.refl _ _⟩
  · have HYES : Hid ((∀ n (h : n < Q.length), pairOk Q n Q[n] = true) → decide (MapR Q) = true) := fun h => decide_eq_true ⟨by omega, h⟩
    have HNO : Hid (∀ n (h : n < Q.length), pairOk Q n Q[n] = false → decide (MapR Q) = false) := fun n h h2 => decide_eq_false (fun h3 => by have := h3.2 n h; rw [h2] at this; cases this)
    generalize decide (MapR Q) = r at HYES HNO
    have HC := hide hc
    have HL := hide hL
    clear hc hL
    go_enter Tryz.func68, Tryz.ntmps68
    go_wp2_with fail
    go_loopw [3] (fun i wr => ∃ j : Nat, i = .int .i64 (j : Int) ∧ j ≤ len ∧ (∀ m (h : m < Q.length), m < j → pairOk Q m Q[m] = true) ∧ Below w.heap.size w wr) (fun i _ => len - (intOf i).toNat)
    case atStart => exact ⟨0, rfl, Nat.zero_le _, fun m h h0 => by omega, Below.refl _ _⟩
    case round =>
      obtain ⟨j, rfl, hj, hok, hb⟩ := hrel
      have HOK := hide hok
      clear hok
      by_cases hlt : j < len
      · have hjL : j < Q.length := by have := unhide HL; omega
        obtain ⟨b, off, rfl, hbB, g0, g1⟩ := unhide HC j hjL
        rw [← hb.cell (p := ⟨b, off + j * 2, none⟩) (by simp; omega)] at g0
        rw [← hb.cell (p := ⟨b, off + j * 2 + 1, none⟩) (by simp; omega)] at g1
        have HPR : Hid (0 < j → wr.cell? ⟨b, off + (j - 1) * 2, none⟩ = some (.string (prevP Q j))) := fun h0 => by
          have hj1 : j - 1 < Q.length := by omega
          obtain ⟨b', off', e', _, k0, _⟩ := unhide HC (j - 1) hj1
          simp at e'
          obtain ⟨rfl, rfl⟩ := e'
          rw [← hb.cell (p := ⟨b, off + (j - 1) * 2, none⟩) (by simp; omega)] at k0
          rw [k0]
          simp [prevP, hj1]
        have hx0 : (0 : Int) ≤ (j : Int) := by omega
        have hx1 : (j : Int) < (len : Int) := by omega
        have hoke : pairOk Q j Q[j] = ((decide ((1 : Int) ≤ (Q[j].1.size : Int)) && decide ((Q[j].1.size : Int) ≤ 8)) && (decide ((Q[j].2.size : Int) ≤ 40) && (j == 0 || Op.bytesLess (prevP Q j).toList Q[j].1.toList))) := rfl
        have HNJ := hide (unhide HNO j hjL)
        have HOKN : Hid (pairOk Q j Q[j] = true → ∀ m (h : m < Q.length), m < j + 1 → pairOk Q m Q[m] = true) := fun h m hm hmj => by
          by_cases e : m = j
          · subst e; exact h
          · exact unhide HOK m hm (by omega)
        generalize pairOk Q j Q[j] = ok at hoke HNJ HOKN
        generalize prevP Q j = pk at hoke HPR
        generalize Q[j] = q at g0 g1 hoke
        obtain ⟨s, t⟩ := q
        simp only at g0 g1 hoke
        have HIN := hide (fun w => l01In_is (s.size : Int) 1 8 w)
        generalize (decide ((1 : Int) ≤ (s.size : Int)) && decide ((s.size : Int) ≤ 8)) = kb at HIN hoke
        go_upto_region 6 with fail
        go_cut [47] (fun t wx => t = .bool (!ok) ∧ ∃ m, wx = wr.drewN m)
        case first =>
          cases kb
          · rw [Bool.false_and] at hoke
            subst hoke
            clear HPR
            go_quiet ((go_at_call 90; exact Calls.quiet_of_same (unhide HIN _)))
            go_wp2_with fail
            go_meet
            case rel => exact ⟨rfl, _, rfl⟩
          · rw [Bool.true_and] at hoke
            by_cases ht : (40 : Int) < (t.size : Int)
            · rw [decide_eq_false (show ¬ (t.size : Int) ≤ 40 by omega), Bool.false_and] at hoke
              subst hoke
              clear HPR
              go_quiet ((go_at_call 90; exact Calls.quiet_of_same (unhide HIN _)))
              go_wp2_with fail
              go_meet
              case rel => exact ⟨rfl, _, rfl⟩
            · rw [decide_eq_true (show (t.size : Int) ≤ 40 by omega), Bool.true_and] at hoke
              rcases Nat.eq_zero_or_pos j with hj0 | hj0
              · have hz : decide (0 < j) = false := decide_eq_false (by omega)
                rw [show (j == 0) = true by simp [hj0], Bool.true_or] at hoke
                subst hoke
                clear HPR hj0
                go_quiet ((go_at_call 90; exact Calls.quiet_of_same (unhide HIN _)))
                go_wp2_with fail
                go_meet
                case rel => exact ⟨rfl, _, rfl⟩
              · obtain ⟨i, rfl⟩ : ∃ i, j = i + 1 := ⟨j - 1, by omega⟩
                have hpc := unhide HPR (by omega)
                rw [Nat.add_sub_cancel] at hpc
                have hj1 : (0 : Int) < (i : Int) + 1 := by omega
                have hi0 : (0 : Int) ≤ (i : Int) := by omega
                have hi1 : (i : Int) < (len : Int) := by omega
                rw [show (i + 1 == 0) = false from rfl, Bool.false_or] at hoke
                clear HPR hj0
                cases hls : Op.bytesLess pk.toList s.toList
                · rw [hls] at hoke
                  subst hoke
                  go_quiet ((go_at_call 90; exact Calls.quiet_of_same (unhide HIN _)))
                  go_wp2_with fail
                  go_meet
                  case rel => exact ⟨rfl, _, rfl⟩
                · rw [hls] at hoke
                  subst hoke
                  go_quiet ((go_at_call 90; exact Calls.quiet_of_same (unhide HIN _)))
                  go_wp2_with fail
                  go_meet
                  case rel => exact ⟨rfl, _, rfl⟩
        case rest =>
          obtain ⟨rfl, m, rfl⟩ := hcut
          clear HPR g0 g1 HIN hoke
          cases ok
          · have hr := unhide HNJ rfl
            subst hr
            clear HYES HNO HNJ
            go_wp2
            go_ret
            exact ⟨rfl, below_drewN hb _⟩
          · go_wp2
            go_roundw
            case rel => exact ⟨j + 1, by go_num, by omega, unhide HOKN rfl, below_drewN hb _⟩
            case measure => simp [intOf]; omega
      · have hr := unhide HYES (fun n h => unhide HOK n h (by have := unhide HL; omega))
        subst hr
        clear HYES HNO
        go_wp2
        go_ret
        exact ⟨rfl, hb⟩
theorem less_total (x y : List UInt8) : (Op.bytesLess y x || y == x) = !(Op.bytesLess x y) := by
  induction x generalizing y with
  | nil => cases y with
    | nil => simp [Op.bytesLess]
    | cons b y => simp [Op.bytesLess]
  | cons a x ih => cases y with
    | nil => simp [Op.bytesLess]
    | cons b y =>
      have := ih y
      simp only [Op.bytesLess]
      by_cases h1 : b < a
      · have h2 : ¬ a < b := by rw [UInt8.lt_iff_toNat_lt] at *; omega
        have h3 : ¬ a = b := by rintro rfl; exact UInt8.lt_irrefl _ h1
        simp [h1, h2, h3]
      · by_cases h2 : a < b
        · have h3 : ¬ b = a := by rintro rfl; exact UInt8.lt_irrefl _ h2
          simp [h1, h2, h3]
        · have h3 : b = a := by
            apply UInt8.toNat_inj.1
            rw [UInt8.lt_iff_toNat_lt] at h1 h2
            omega
          subst h3
          simpa [UInt8.lt_irrefl] using this
def lastP (Q : List (ByteArray × ByteArray)) (n : Nat) : ByteArray := if n = 0 then ⟨#[]⟩ else prevP Q n
theorem lastP_succ (Q : List (ByteArray × ByteArray)) (n : Nat) (h : n < Q.length) : lastP Q (n + 1) = Q[n].1 := by simp [lastP, prevP, h]
theorem less_nil (x : List UInt8) : Op.bytesLess x [] = false := by cases x <;> simp [Op.bytesLess]
theorem nil_less (b : ByteArray) : Op.bytesLess [] b.toList = decide (1 ≤ b.size) := by
  have e : b.toList.length = b.size := by rw [ByteArray.toList_eq]; rfl
  cases h : b.toList with
  | nil =>
    have e2 : b.size = 0 := by rw [h] at e; exact e.symm
    rw [decide_eq_false (by omega)]; rfl
  | cons x l =>
    have e2 : b.size = l.length + 1 := by rw [h] at e; exact e.symm
    rw [decide_eq_true (by omega)]; rfl
theorem pairOk_eq (Q : List (ByteArray × ByteArray)) (n : Nat) (q : ByteArray × ByteArray) :
    pairOk Q n q = (Op.bytesLess (lastP Q n).toList q.1.toList && (decide ((q.1.size : Int) ≤ 8) && decide ((q.2.size : Int) ≤ 40))) := by
  have hone : Op.bytesLess [] q.1.toList = decide ((1 : Int) ≤ (q.1.size : Int)) := by rw [nil_less]; congr 1; simp; omega
  unfold pairOk lastP
  by_cases h0 : n = 0
  · subst h0
    rw [if_pos rfl]
    have e : (⟨#[]⟩ : ByteArray).toList = [] := by rw [ByteArray.toList_eq]
    rw [e, hone]
    simp [Bool.and_assoc]
  · rw [if_neg h0]
    have e : (n == 0) = false := by simp [h0]
    rw [e, Bool.false_or]
    cases hl : Op.bytesLess (prevP Q n).toList q.1.toList
    · simp
    · have h1 : decide ((1 : Int) ≤ (q.1.size : Int)) = true := by
        rw [← hone]
        cases hq : q.1.toList with
        | nil => rw [hq, less_nil] at hl; cases hl
        | cons x l => simp [Op.bytesLess]
      rw [h1]
      simp
set_option maxRecDepth 100000 in
set_option maxHeartbeats 4000000 in
theorem implMap_any (a : Option Addr) (len cap B : Nat) (Q : List (ByteArray × ByteArray)) (hlen : len ≤ 1048576) (w : World) (hB : B ≤ w.heap.size) (hs : PairsAt w a len B Q) :
    Calls Tryz.prog 73 #[.slice a len cap] w fun e w' => e = .returned (.bool (decide (MapR Q))) ∧ Below w.heap.size w w' := by
  obtain ⟨hL, hc⟩ := hs
  by_cases hbig : 120 < len
  · have e : decide (MapR Q) = false := decide_eq_false (fun h => by have := h.1; omega)
    rw [e]
    clear hc e
    go_enter Tryz.func73, Tryz.ntmps73
    go_wp2
    go_ret
    exact ⟨rfl, Below.refl _ _⟩
  · have HYES : Hid ((∀ n (h : n < Q.length), pairOk Q n Q[n] = true) → decide (MapR Q) = true) := fun h => decide_eq_true ⟨by omega, h⟩
    have HNO : Hid (∀ n (h : n < Q.length), pairOk Q n Q[n] = false → decide (MapR Q) = false) := fun n h h2 => decide_eq_false (fun h3 => by have := h3.2 n h; rw [h2] at this; cases this)
    generalize decide (MapR Q) = r at HYES HNO
    have HC := hide hc
    have HL := hide hL
    clear hc hL
    go_enter Tryz.func73, Tryz.ntmps73
    go_wp2_with fail
    go_loopw [3, 11] (fun l i wr => ∃ j : Nat, i = .int .i64 (j : Int) ∧ j ≤ len ∧ l = .string (lastP Q j) ∧ (∀ m (h : m < Q.length), m < j → pairOk Q m Q[m] = true) ∧ Below w.heap.size w wr) (fun _ i _ => len - (intOf i).toNat)
    case atStart => exact ⟨0, rfl, Nat.zero_le _, rfl, fun m h h0 => by omega, Below.refl _ _⟩
    case round =>
      obtain ⟨j, rfl, hj, rfl, hok, hb⟩ := hrel
      have HOK := hide hok
      clear hok
      by_cases hlt : j < len
      · have hjL : j < Q.length := by have := unhide HL; omega
        obtain ⟨b, off, rfl, hbB, g0, g1⟩ := unhide HC j hjL
        rw [← hb.cell (p := ⟨b, off + j * 2, none⟩) (by simp; omega)] at g0
        rw [← hb.cell (p := ⟨b, off + j * 2 + 1, none⟩) (by simp; omega)] at g1
        have hx0 : (0 : Int) ≤ (j : Int) := by omega
        have hx1 : (j : Int) < (len : Int) := by omega
        have hoke := pairOk_eq Q j Q[j]
        have HNJ := hide (unhide HNO j hjL)
        have HLS := hide (lastP_succ Q j hjL)
        have HOKN : Hid (pairOk Q j Q[j] = true → ∀ m (h : m < Q.length), m < j + 1 → pairOk Q m Q[m] = true) := fun h m hm hmj => by
          by_cases e : m = j
          · subst e; exact h
          · exact unhide HOK m hm (by omega)
        generalize pairOk Q j Q[j] = ok at hoke HNJ HOKN
        have htt := less_total (lastP Q j).toList Q[j].1.toList
        generalize lastP Q j = pk at hoke htt ⊢
        generalize Q[j] = q at g0 g1 hoke HLS htt
        obtain ⟨s, t⟩ := q
        simp only at g0 g1 hoke HLS htt
        have hbn : Below w.heap.size w (wr.alloc (Obj.cells #[Value.string s, Value.string t] 55)) := hb.alloc hb.size _
        cases h1 : Op.bytesLess s.toList pk.toList
        · cases h2 : (s.toList == pk.toList)
          · have h3 : Op.bytesLess pk.toList s.toList = true := by
              rw [h1, h2] at htt
              simpa using htt.symm
            rw [h3, Bool.true_and] at hoke
            clear htt h3
            by_cases hs8 : (8 : Int) < (s.size : Int)
            · rw [decide_eq_false (show ¬ (s.size : Int) ≤ 8 by omega), Bool.false_and] at hoke
              have hr := unhide HNJ hoke
              subst hr
              clear HYES HNO HNJ HOKN hoke
              go_wp2
              go_ret
              exact ⟨rfl, hbn⟩
            · rw [decide_eq_true (show (s.size : Int) ≤ 8 by omega), Bool.true_and] at hoke
              by_cases ht : (40 : Int) < (t.size : Int)
              · rw [decide_eq_false (show ¬ (t.size : Int) ≤ 40 by omega)] at hoke
                have hr := unhide HNJ hoke
                subst hr
                clear HYES HNO HNJ HOKN hoke
                go_wp2
                go_ret
                exact ⟨rfl, hbn⟩
              · rw [decide_eq_true (show (t.size : Int) ≤ 40 by omega)] at hoke
                subst hoke
                go_wp2
                go_roundw
                case rel => exact ⟨j + 1, by go_num, by omega, by rw [unhide HLS], unhide HOKN rfl, hbn⟩
                case measure => simp [intOf]; omega
          · have h3 : Op.bytesLess pk.toList s.toList = false := by
              rw [h1, h2] at htt
              simpa using htt.symm
            rw [h3, Bool.false_and] at hoke
            have hr := unhide HNJ hoke
            subst hr
            clear HYES HNO HNJ HOKN hoke htt h3
            go_wp2
            go_ret
            exact ⟨rfl, hbn⟩
        · have h3 : Op.bytesLess pk.toList s.toList = false := by
            rw [h1] at htt
            simpa using htt.symm
          rw [h3, Bool.false_and] at hoke
          have hr := unhide HNJ hoke
          subst hr
          clear HYES HNO HNJ HOKN hoke htt h3
          go_wp2
          go_ret
          exact ⟨rfl, hbn⟩
      · have hr := unhide HYES (fun n h => unhide HOK n h (by have := unhide HL; omega))
        subst hr
        clear HYES HNO
        go_wp2
        go_ret
        exact ⟨rfl, hb⟩
end Tr
end Go.Proofs.YtihnaddfpmjpaaaGreatDoor
