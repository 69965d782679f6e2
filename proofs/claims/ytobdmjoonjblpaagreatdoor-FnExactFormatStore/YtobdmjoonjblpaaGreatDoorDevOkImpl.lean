/-
  The contracts of impl.isPlace, impl.isPutTo, impl.areSectors and impl.DeviceOk.
-/
import Derived.Test.YtobdmjoonjblpaaGreatDoorMarkDev
namespace Go.Proofs.YtobdmjoonjblpaaGreatDoor
open Go.RowKit

theorem isPlace_any (x y : Int) (w : World) :
    Calls Tryz.prog 78 #[.int .i64 x, .int .i64 y] w fun e w' => e = .returned (.bool (decide (0 ≤ x) && decide (x < y))) ∧ w' = w := by
  go_enter Tryz.func78, Tryz.ntmps78
  go_wp2
  all_goals (go_ret; exact ⟨by simp_all <;> omega, rfl⟩)

theorem putOk_lt (n : Nat) (x : Int) (s : ByteArray) : putOk n x s = ((decide (0 ≤ x) && decide (x < (n : Int))) && decide ((s.size : Int) ≤ 64)) := by
  have e : decide (x ≤ (n : Int) - 1) = decide (x < (n : Int)) := by
    by_cases h : x < (n : Int)
    · rw [decide_eq_true h, decide_eq_true (by omega)]
    · rw [decide_eq_false h, decide_eq_false (by omega)]
  unfold putOk
  rw [e]

set_option maxRecDepth 100000 in
theorem isPutTo_any (n : Nat) (x : Int) (s : ByteArray) (w : World) :
    Calls Tryz.prog 92 #[.agg #[.int .i64 x, .string s], .int .i64 (n : Int)] w fun e w' => e = .returned (.bool (putOk n x s)) ∧ Below w.heap.size w w' := by
  have H := hide (fun w => isPlace_any x (n : Int) w)
  rw [putOk_lt]
  cases hq : (decide (0 ≤ x) && decide (x < (n : Int)))
  · rw [hq] at H
    clear hq
    go_enter Tryz.func92, Tryz.ntmps92
    go_wp2_with fail
    refine (unhide H _).mono ?_
    rintro e w1 ⟨rfl, rfl⟩
    go_wp2
    go_ret
    exact ⟨rfl, (Below.refl _ _).alloc (Nat.le_refl _) _⟩
  · rw [hq] at H
    clear hq
    go_enter Tryz.func92, Tryz.ntmps92
    go_wp2_with fail
    refine (unhide H _).mono ?_
    rintro e w1 ⟨rfl, rfl⟩
    go_wp2
    go_ret
    exact ⟨rfl, (Below.refl _ _).alloc (Nat.le_refl _) _⟩

set_option maxRecDepth 100000 in
theorem areSectors_no (a : Option Addr) (n c : Nat) (hno : ¬ (1 ≤ n ∧ n ≤ 400)) (hn : n ≤ 1048576) (w : World) :
    Calls Tryz.prog 129 #[.slice a n c] w fun e w' => e = .returned (.bool false) ∧ w' = w := by
  by_cases h1 : (n : Int) < 1
  · go_enter Tryz.func129, Tryz.ntmps129
    go_wp2
    go_ret
    exact ⟨rfl, rfl⟩
  · have h2 : (400 : Int) < (n : Int) := by omega
    go_enter Tryz.func129, Tryz.ntmps129
    go_wp2
    go_ret
    exact ⟨rfl, rfl⟩

set_option maxRecDepth 100000 in
set_option maxHeartbeats 1000000 in
theorem areSectors_yes (a : Option Addr) (n c B : Nat) (L : List ByteArray) (h1 : 1 ≤ n) (h2 : n ≤ 400) (hm : ∀ s ∈ L, s.size ≤ 9223372036854775807) (w : World) (hs : StrsAt w a n B L) :
    Calls Tryz.prog 129 #[.slice a n c] w fun e w' => e = .returned (.bool (L.all secOk)) ∧ w' = w := by
  obtain ⟨hL, hc⟩ := hs
  have HC := hide hc
  have HM := hide hm
  have HN := hide hL
  clear hc hm hL
  have i1 : ¬ (n : Int) < 1 := by omega
  have i2 : ¬ (400 : Int) < (n : Int) := by omega
  go_enter Tryz.func129, Tryz.ntmps129
  go_wp2_with fail
  go_loop [15] (fun i => ∃ k : Nat, i = .int .i64 k ∧ k ≤ n ∧ Hid ((L.take k).all secOk = true)) (fun i => n - (intOf i).toNat)
  case atStart => exact ⟨0, rfl, Nat.zero_le _, rfl⟩
  case round =>
    obtain ⟨k, rfl, hk, hall⟩ := hrel
    by_cases hlt : k < n
    · have hkL : k < L.length := by have := unhide HN; omega
      obtain ⟨b, off, rfl, hbB, hcell⟩ := unhide HC k hkL
      have hsz := unhide HM _ (List.getElem_mem hkL)
      have HA := hide (all_take_succ secOk L k hkL)
      have HF := hide (fun h => all_false secOk L k hkL h)
      have hx0 : (0 : Int) ≤ (k : Int) := by omega
      have hx1 : (k : Int) < (n : Int) := by omega
      generalize L[k] = s at hcell hsz HA HF
      by_cases hok : (s.size : Int) ≤ 64
      · go_wp2
        go_round
        case rel => exact ⟨k + 1, by go_num, by omega, by show _ = _; rw [unhide HA, unhide hall]; simp [secOk, hok]⟩
        case measure => simp [intOf]; omega
      · have hgt : (64 : Int) < (s.size : Int) := by omega
        go_wp2
        go_ret
        refine ⟨?_, rfl⟩
        rw [unhide HF (by simp [secOk]; omega)]
        rfl
    · obtain rfl : k = n := by omega
      have HA : Hid (L.all secOk = true) := by
        have h := unhide hall
        rw [List.take_of_length_le (by have := unhide HN; omega)] at h
        exact h
      clear hall
      go_wp2
      go_ret
      exact ⟨by rw [unhide HA]; rfl, rfl⟩

/-- Whether some texts are the sectors of a device. -/
def areL (L : List ByteArray) : Bool := (decide ((1 : Int) ≤ (L.length : Int)) && decide ((L.length : Int) ≤ 400)) && L.all secOk

theorem areSectors_any (a : Option Addr) (n c B : Nat) (L : List ByteArray) (hn : n ≤ 1048576) (hm : ∀ s ∈ L, s.size ≤ 9223372036854775807) (w : World) (hs : StrsAt w a n B L) :
    Calls Tryz.prog 129 #[.slice a n c] w fun e w' => e = .returned (.bool (areL L)) ∧ w' = w := by
  have hl := hs.1
  by_cases h : 1 ≤ n ∧ n ≤ 400
  · have e : areL L = L.all secOk := by
      unfold areL
      rw [hl, decide_eq_true (by omega), decide_eq_true (by omega)]
      rfl
    rw [e]
    exact areSectors_yes a n c B L h.1 h.2 hm w hs
  · have e : areL L = false := by
      unfold areL
      rw [hl]
      have a2 : (decide ((1 : Int) ≤ (n : Int)) && decide ((n : Int) ≤ 400)) = false := by simp; omega
      rw [a2]
      rfl
    rw [e]
    exact areSectors_no a n c h hn w

theorem devOk_eq (L : List ByteArray) (Q : List (Int × ByteArray)) : devOk L Q = (areL L && (decide ((Q.length : Int) ≤ 400) && Q.all (putOk2 L.length))) := by
  unfold devOk areL
  generalize (decide ((1 : Int) ≤ (L.length : Int)) && decide ((L.length : Int) ≤ 400)) = p
  generalize L.all secOk = q
  cases p <;> cases q <;> simp

/-- A put's variable in memory. -/
def PBox (w : World) (g : Nat) (x : Int) (s : ByteArray) : Prop := w.heap[g]? = some (.cells #[.int .i64 x, .string s] 134 (0, 0))

set_option maxRecDepth 100000 in
set_option maxHeartbeats 2000000 in
theorem implDev_any (v : Value) (B : Nat) (L : List ByteArray) (Q : List (Int × ByteArray)) (h1 : L.length ≤ 1048576) (h2 : Q.length ≤ 1048576) (hm : ∀ s ∈ L, s.size ≤ 9223372036854775807) (w : World) (hB : B ≤ w.heap.size) (hv : DevAt w v B L Q) :
    Calls Tryz.prog 91 #[v] w fun e w' => e = .returned (.bool (devOk L Q)) ∧ Below w.heap.size w w' := by
  obtain ⟨a, n, c, a', n', c', rfl, hL, hQ⟩ := hv
  have AR := hide (fun w1 (hb : Below w.heap.size w w1) => areSectors_any a n c B L (by rw [← hL.1]; exact h1) hm w1 (hL.below hb hB))
  obtain ⟨e1, hLc⟩ := hL
  obtain ⟨e2, hQc⟩ := hQ
  rw [devOk_eq]
  subst e1 e2
  have HQC := hide hQc
  obtain ⟨n, hn⟩ : ∃ n, n = L.length := ⟨_, rfl⟩
  obtain ⟨n', hn'⟩ : ∃ n, n = Q.length := ⟨_, rfl⟩
  rw [← hn] at AR h1 ⊢
  rw [← hn'] at h2 ⊢
  have HN' := hide hn'
  clear hLc hQc hm hn hn'
  generalize areL L = ar at AR
  cases ar
  · have hb1 := below_new w (Obj.cells #[Value.slice a n c, Value.slice a' n' c'] 25)
    go_enter Tryz.func91, Tryz.ntmps91
    go_wp2_with fail
    refine (unhide AR _ hb1).mono ?_
    rintro e w1 ⟨rfl, rfl⟩
    go_wp2
    go_ret
    exact ⟨rfl, hb1⟩
  · by_cases hbig : (400 : Int) < (n' : Int)
    · have hd : decide ((n' : Int) ≤ 400) = false := by simp; omega
      rw [hd]
      have hb1 := below_new w (Obj.cells #[Value.slice a n c, Value.slice a' n' c'] 25)
      go_enter Tryz.func91, Tryz.ntmps91
      go_wp2_with fail
      refine (unhide AR _ hb1).mono ?_
      rintro e w1 ⟨rfl, rfl⟩
      go_wp2
      go_ret
      exact ⟨rfl, hb1⟩
    · have hd : decide ((n' : Int) ≤ 400) = true := by simp; omega
      rw [hd]
      have hd400 : decide ((400 : Int) < (n' : Int)) = false := by simp; omega
      clear hd
      go_enter Tryz.func91, Tryz.ntmps91
      go_wp2_with fail
      have hb0 := below_new w (Obj.cells #[Value.slice a n c, Value.slice a' n' c'] 25)
      refine (unhide AR _ hb0).mono ?_
      rintro e w1 ⟨rfl, rfl⟩
      clear hb0
      go_wp2_with fail
      obtain ⟨W1, hW1⟩ : ∃ W, W = w.alloc (Obj.cells #[Value.slice a n c, Value.slice a' n' c'] 25) := ⟨_, rfl⟩
      rw [← hW1]
      have hs1 : W1.heap.size = w.heap.size + 1 := by rw [hW1]; simp
      have b0 : W1.heap[w.heap.size]? = some (.cells #[Value.slice a n c, Value.slice a' n' c'] 25 (0, 0)) := by rw [hW1]; exact heap_alloc_new w _
      have hb1 : Below w.heap.size w W1 := by rw [hW1]; exact (Below.refl _ _).alloc (Nat.le_refl _) _
      obtain ⟨p0, p1, _⟩ := cells_of_two b0
      clear hW1 b0
      go_loopw [18] (fun i wr => ∃ j : Nat, i = .int .i64 j ∧ j ≤ n' ∧ Hid ((Q.take j).all (putOk2 n) = true) ∧ Below W1.heap.size W1 wr) (fun i _ => n' - (intOf i).toNat)
      case atStart => exact ⟨0, rfl, Nat.zero_le _, rfl, Below.refl _ _⟩
      case round =>
        obtain ⟨j, rfl, hj, hallQ, hbw⟩ := hrel
        have hbw0 : Below w.heap.size w wr := hb1.trans (hbw.mono (by omega))
        by_cases hltj : j < n'
        · have hjQ : j < Q.length := by have := unhide HN'; omega
          obtain ⟨b, off, rfl, hbB, hcell, hcell1⟩ := unhide HQC j hjQ
          rw [← hbw0.cell (p := ⟨b, off + j * 2, none⟩) (by simp; omega)] at hcell
          rw [← hbw0.cell (p := ⟨b, off + j * 2 + 1, none⟩) (by simp; omega)] at hcell1
          have HAQ := hide (all_take_succ (putOk2 n) Q j hjQ)
          have HFQ := hide (fun h => all_false (putOk2 n) Q j hjQ h)
          have hx0 : (0 : Int) ≤ (j : Int) := by omega
          have hx1 : (j : Int) < (n' : Int) := by omega
          generalize Q[j] = q at hcell hcell1 HAQ HFQ
          obtain ⟨x, s⟩ := q
          simp only at hcell hcell1
          have HP := hide (fun w => isPutTo_any n x s w)
          have HE : Hid (putOk2 n (x, s) = putOk n x s) := rfl
          have hkl : w.heap.size < wr.heap.size := by have := hbw.size; omega
          have q0 : (wr.alloc (Obj.cells #[Value.int .i64 x, Value.string s] 134)).cell? ⟨w.heap.size, 0, none⟩ = some (Value.slice a n c) := by
            rw [(below_new wr _).cell (p := ⟨w.heap.size, 0, none⟩) hkl, hbw.cell (p := ⟨w.heap.size, 0, none⟩) (by simp; omega)]; exact p0
          cases hq : putOk n x s
          · rw [hq] at HP HE
            clear hq
            go_wp2_with fail
            refine (unhide HP _).mono ?_
            rintro e w2 ⟨rfl, hb2⟩
            have hbe := (hbw0.trans ((below_new wr _).mono hbw0.size)).trans (hb2.mono (by simp; have := hbw0.size; omega))
            clear hb2
            go_wp2
            go_ret
            refine ⟨?_, hbe⟩
            rw [unhide HFQ (unhide HE)]
            rfl
          · rw [hq] at HP HE
            clear hq
            go_wp2_with fail
            refine (unhide HP _).mono ?_
            rintro e w2 ⟨rfl, hb2⟩
            have hbe := (hbw.trans ((below_new wr _).mono hbw.size)).trans (hb2.mono (by simp; have := hbw.size; omega))
            clear hb2
            go_wp2
            go_roundw
            case rel => exact ⟨j + 1, by go_num, by omega, by show _ = _; rw [unhide HAQ, unhide hallQ, unhide HE]; rfl, hbe⟩
            case measure => simp [intOf]; omega
        · go_wp2
          go_ret
          refine ⟨?_, hbw0⟩
          have h := unhide hallQ
          rw [List.take_of_length_le (by have := unhide HN'; omega)] at h
          rw [h]
          rfl
end Go.Proofs.YtobdmjoonjblpaaGreatDoor
