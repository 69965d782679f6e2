/-
  The contracts of spec.l01In, spec.l03Put and spec.DeviceOk.
-/
import Derived.Test.YtobdmjoonjblpaaGreatDoorDevTo2
import Derived.Deep.RegionHeld3
namespace Go.Proofs.YtobdmjoonjblpaaGreatDoor
open Go.RowKit

theorem l01In_any (x y z : Int) (w : World) :
    Calls Tryz.prog 76 #[.int .i64 x, .int .i64 y, .int .i64 z] w fun e w' => e = .returned (.bool (decide (y ≤ x) && decide (x ≤ z))) ∧ w' = w := by
  go_enter Tryz.func76, Tryz.ntmps76
  go_wp2
  all_goals (go_ret; exact ⟨by simp_all <;> omega, rfl⟩)

/-- Whether a put is right on n sectors. -/
def putOk (n : Nat) (x : Int) (s : ByteArray) : Bool := (decide (0 ≤ x) && decide (x ≤ (n : Int) - 1)) && decide ((s.size : Int) ≤ 64)

set_option maxRecDepth 100000 in
theorem specPut_any (a a' : Option Addr) (n c n' c' : Nat) (x : Int) (s : ByteArray) (hn : n ≤ 1048576) (w : World) :
    Calls Tryz.prog 114 #[.agg #[.slice a n c, .slice a' n' c'], .agg #[.int .i64 x, .string s]] w fun e w' => e = .returned (.bool (putOk n x s)) ∧ Below w.heap.size w w' := by
  have H := hide (fun w => l01In_any x 0 ((n : Int) - 1) w)
  cases hq : (decide (0 ≤ x) && decide (x ≤ (n : Int) - 1))
  · have E : Hid (putOk n x s = false) := by show _ = _; unfold putOk; rw [hq]; rfl
    rw [hq] at H
    clear hq
    go_enter Tryz.func114, Tryz.ntmps114
    go_wp2_with fail
    refine (unhide H _).mono ?_
    rintro e w1 ⟨rfl, rfl⟩
    go_wp2
    go_ret
    rw [unhide E]
    exact ⟨rfl, ((Below.refl _ _).alloc (Nat.le_refl _) _).alloc (by simp) _⟩
  · have E : Hid (putOk n x s = decide ((s.size : Int) ≤ 64)) := by show _ = _; unfold putOk; rw [hq]; rfl
    rw [hq] at H
    clear hq
    go_enter Tryz.func114, Tryz.ntmps114
    go_wp2_with fail
    refine (unhide H _).mono ?_
    rintro e w1 ⟨rfl, rfl⟩
    go_wp2
    go_ret
    rw [unhide E]
    exact ⟨rfl, ((Below.refl _ _).alloc (Nat.le_refl _) _).alloc (by simp) _⟩

def secOk (s : ByteArray) : Bool := decide ((s.size : Int) ≤ 64)
def putOk2 (n : Nat) (q : Int × ByteArray) : Bool := putOk n q.1 q.2

/-- Whether a device is right. -/
def devOk (L : List ByteArray) (Q : List (Int × ByteArray)) : Bool :=
  (decide ((1 : Int) ≤ (L.length : Int)) && decide ((L.length : Int) ≤ 400)) && (decide ((Q.length : Int) ≤ 400) && (L.all secOk && Q.all (putOk2 L.length)))

theorem all_take_succ {α : Type} (p : α → Bool) (L : List α) (k : Nat) (h : k < L.length) : (L.take (k + 1)).all p = ((L.take k).all p && p L[k]) := by
  rw [List.take_succ_eq_append_getElem h, List.all_append]
  simp

theorem all_false {α : Type} (p : α → Bool) (L : List α) (k : Nat) (h : k < L.length) (hp : p L[k] = false) : L.all p = false := by
  rw [List.all_eq_false]
  exact ⟨L[k], List.getElem_mem h, by simp [hp]⟩

set_option maxRecDepth 100000 in
theorem specDev_no (v : Value) (B : Nat) (L : List ByteArray) (Q : List (Int × ByteArray)) (h1 : L.length ≤ 1048576) (h2 : Q.length ≤ 1048576) (w : World) (hv : DevAt w v B L Q)
    (hno : ¬ (1 ≤ L.length ∧ L.length ≤ 400 ∧ Q.length ≤ 400)) :
    Calls Tryz.prog 101 #[v] w fun e w' => e = .returned (.bool false) ∧ Below w.heap.size w w' := by
  obtain ⟨a, n, c, a', n', c', rfl, hL, hQ⟩ := hv
  have e1 := hL.1
  have e2 := hQ.1
  subst e1 e2
  clear hL hQ
  generalize L.length = n at h1 hno
  generalize Q.length = n' at h2 hno
  have H := hide (fun w => l01In_any (n : Int) 1 400 w)
  cases hq : (decide ((1 : Int) ≤ (n : Int)) && decide ((n : Int) ≤ 400))
  · rw [hq] at H
    clear hq hno
    go_enter Tryz.func101, Tryz.ntmps101
    go_wp2_with fail
    refine (unhide H _).mono ?_
    rintro e w1 ⟨rfl, rfl⟩
    go_wp2
    go_ret
    exact ⟨rfl, (Below.refl _ _).alloc (Nat.le_refl _) _⟩
  · have hbig : (400 : Int) < (n' : Int) := by simp at hq; omega
    rw [hq] at H
    clear hq hno
    go_enter Tryz.func101, Tryz.ntmps101
    go_wp2_with fail
    refine (unhide H _).mono ?_
    rintro e w1 ⟨rfl, rfl⟩
    go_wp2
    go_ret
    exact ⟨rfl, (Below.refl _ _).alloc (Nat.le_refl _) _⟩

set_option maxRecDepth 100000 in
set_option maxHeartbeats 2000000 in
theorem specDev_yes (v : Value) (B : Nat) (L : List ByteArray) (Q : List (Int × ByteArray)) (w : World) (hB : B ≤ w.heap.size) (hv : DevAt w v B L Q)
    (hm : ∀ s ∈ L, s.size ≤ 9223372036854775807) (hy : 1 ≤ L.length ∧ L.length ≤ 400 ∧ Q.length ≤ 400) :
    Calls Tryz.prog 101 #[v] w fun e w' => e = .returned (.bool (L.all secOk && Q.all (putOk2 L.length))) ∧ Below w.heap.size w w' := by
  obtain ⟨a, n, c, a', n', c', rfl, hL, hQ⟩ := hv
  obtain ⟨e1, hLc⟩ := hL
  obtain ⟨e2, hQc⟩ := hQ
  subst e1 e2
  have HLC := hide hLc
  have HQC := hide hQc
  have HM := hide hm
  obtain ⟨n, hn⟩ : ∃ n, n = L.length := ⟨_, rfl⟩
  obtain ⟨n', hn'⟩ : ∃ n, n = Q.length := ⟨_, rfl⟩
  have hin : (decide ((1 : Int) ≤ (n : Int)) && decide ((n : Int) ≤ 400)) = true := by simp; omega
  have H := hide (fun w => l01In_any (n : Int) 1 400 w)
  rw [hin] at H
  have hy1 : n ≤ 400 := by omega
  have hy2 : n' ≤ 400 := by omega
  have HN := hide hn
  have HN' := hide hn'
  rw [← hn, ← hn']
  clear hLc hQc hm hin hy hn hn'
  go_enter Tryz.func101, Tryz.ntmps101
  go_wp2_with fail
  refine (unhide H _).mono ?_
  rintro e w1 ⟨rfl, rfl⟩
  have hd400 : decide ((400 : Int) < (n' : Int)) = false := by simp; omega
  go_wp2_with fail
  obtain ⟨W1, hW1⟩ : ∃ W, W = w.alloc (Obj.cells #[Value.slice a n c, Value.slice a' n' c'] 25) := ⟨_, rfl⟩
  rw [← hW1]
  have hs1 : W1.heap.size = w.heap.size + 1 := by rw [hW1]; simp
  have b0 : W1.heap[w.heap.size]? = some (.cells #[Value.slice a n c, Value.slice a' n' c'] 25 (0, 0)) := by rw [hW1]; exact heap_alloc_new w _
  have hb1 : Below w.heap.size w W1 := by rw [hW1]; exact (Below.refl _ _).alloc (Nat.le_refl _) _
  obtain ⟨p0, p1, _⟩ := cells_of_two b0
  have HB0 := hide b0
  clear hW1 b0
  go_loop [3] (fun i => ∃ k : Nat, i = .int .i64 k ∧ k ≤ n ∧ Hid ((L.take k).all secOk = true)) (fun i => n - (intOf i).toNat)
  case atStart => exact ⟨0, rfl, Nat.zero_le _, rfl⟩
  case round =>
    obtain ⟨k, rfl, hk, hall⟩ := hrel
    by_cases hlt : k < n
    · have hkL : k < L.length := by have := unhide HN; omega
      obtain ⟨b, off, rfl, hbB, hcell⟩ := unhide HLC k hkL
      rw [← hb1.cell (p := ⟨b, off + k, none⟩) (by simp; omega)] at hcell
      have hsz := unhide HM _ (List.getElem_mem hkL)
      have HA := hide (all_take_succ secOk L k hkL)
      have HF := hide (fun h => all_false secOk L k hkL h)
      have hx0 : (0 : Int) ≤ (k : Int) := by omega
      have hx1 : (k : Int) < (n : Int) := by omega
      generalize L[k] = s at hcell hsz HA HF
      by_cases hok : (s.size : Int) ≤ 64
      · go_wp2
        go_round
        case rel => exact ⟨k + 1, by go_num, by omega, by show _ = _; rw [unhide HA, unhide hall]; simp [secOk, hok]⟩
        case measure => simp [intOf]; omega
      · have hgt : (64 : Int) < (s.size : Int) := by omega
        go_wp2
        go_ret
        refine ⟨?_, hb1⟩
        rw [unhide HF (by simp [secOk]; omega)]
        rfl
    · obtain rfl : k = n := by omega
      have HA : Hid (L.all secOk = true) := by
        have h := unhide hall
        rw [List.take_of_length_le (by have := unhide HN; omega)] at h
        exact h
      clear hall
      go_wp2_with fail
      go_loopw [4] (fun i wr => ∃ j : Nat, i = .int .i64 j ∧ j ≤ n' ∧ Hid ((Q.take j).all (putOk2 k) = true) ∧ Below W1.heap.size W1 wr) (fun i _ => n' - (intOf i).toNat)
      case atStart => exact ⟨0, rfl, Nat.zero_le _, rfl, Below.refl _ _⟩
      case round =>
        obtain ⟨j, rfl, hj, hallQ, hbw⟩ := hrel
        have hbw0 : Below w.heap.size w wr := hb1.trans (hbw.mono (by omega))
        have q0 : wr.cell? ⟨w.heap.size, 0, none⟩ = some (Value.slice a k c) := by rw [hbw.cell (p := ⟨w.heap.size, 0, none⟩) (by simp; omega)]; exact p0
        have q1 : wr.cell? ⟨w.heap.size, 1, none⟩ = some (Value.slice a' n' c') := by rw [hbw.cell (p := ⟨w.heap.size, 1, none⟩) (by simp; omega)]; exact p1
        by_cases hltj : j < n'
        · have hjQ : j < Q.length := by have := unhide HN'; omega
          obtain ⟨b, off, rfl, hbB, hcell, hcell1⟩ := unhide HQC j hjQ
          rw [← hbw0.cell (p := ⟨b, off + j * 2, none⟩) (by simp; omega)] at hcell
          rw [← hbw0.cell (p := ⟨b, off + j * 2 + 1, none⟩) (by simp; omega)] at hcell1
          have HAQ := hide (all_take_succ (putOk2 k) Q j hjQ)
          have HFQ := hide (fun h => all_false (putOk2 k) Q j hjQ h)
          have hx0 : (0 : Int) ≤ (j : Int) := by omega
          have hx1 : (j : Int) < (n' : Int) := by omega
          generalize Q[j] = q at hcell hcell1 HAQ HFQ
          obtain ⟨x, s⟩ := q
          simp only at hcell hcell1
          have HP := hide (fun w => specPut_any a (some ⟨b, off, none⟩) k c n' c' x s (by omega) w)
          have HE : Hid (putOk2 k (x, s) = putOk k x s) := rfl
          have hkl : w.heap.size < wr.heap.size := by have := hbw.size; omega
          have hbl : b < wr.heap.size := by omega
          cases hq : putOk k x s
          · rw [hq] at HP HE
            clear hq
            go_wp2_with fail
            go_region_held3 (fun u => u.cell? ⟨w.heap.size, 0, none⟩ = some (Value.slice a k c) ∧ u.cell? ⟨w.heap.size, 1, none⟩ = some (Value.slice (some ⟨b, off, none⟩) n' c') ∧ u.cell? ⟨b, off + j * 2, none⟩ = some (.int .i64 x) ∧ u.cell? ⟨b, off + j * 2 + 1, none⟩ = some (.string s))
              (first | go_keep | exact ⟨(hb2.cell (p := ⟨w.heap.size, 0, none⟩) hkl).trans q0, (hb2.cell (p := ⟨w.heap.size, 1, none⟩) hkl).trans q1, (hb2.cell (p := ⟨b, off + j * 2, none⟩) hbl).trans hcell, (hb2.cell (p := ⟨b, off + j * 2 + 1, none⟩) hbl).trans hcell1⟩) ((go_at_call 114; refine (unhide HP _).mono ?_; rintro e w2 ⟨rfl, hb2⟩))
            have hbe := hbw0.drew.trans (hb2.mono hbw0.size)
            clear hb2
            go_wp2
            go_ret
            refine ⟨?_, hbe⟩
            rw [unhide HFQ (unhide HE)]
            simp
          · rw [hq] at HP HE
            clear hq
            go_wp2_with fail
            go_region_held3 (fun u => u.cell? ⟨w.heap.size, 0, none⟩ = some (Value.slice a k c) ∧ u.cell? ⟨w.heap.size, 1, none⟩ = some (Value.slice (some ⟨b, off, none⟩) n' c') ∧ u.cell? ⟨b, off + j * 2, none⟩ = some (.int .i64 x) ∧ u.cell? ⟨b, off + j * 2 + 1, none⟩ = some (.string s))
              (first | go_keep | exact ⟨(hb2.cell (p := ⟨w.heap.size, 0, none⟩) hkl).trans q0, (hb2.cell (p := ⟨w.heap.size, 1, none⟩) hkl).trans q1, (hb2.cell (p := ⟨b, off + j * 2, none⟩) hbl).trans hcell, (hb2.cell (p := ⟨b, off + j * 2 + 1, none⟩) hbl).trans hcell1⟩) ((go_at_call 114; refine (unhide HP _).mono ?_; rintro e w2 ⟨rfl, hb2⟩))
            have hbe := hbw.drew.trans (hb2.mono hbw.size)
            clear hb2
            go_wp2
            go_roundw
            case rel => exact ⟨j + 1, by go_num, by omega, by show _ = _; rw [unhide HAQ, unhide hallQ, unhide HE]; rfl, hbe⟩
            case measure => simp [intOf]; omega
        · go_wp2
          go_ret
          refine ⟨?_, hbw0⟩
          have h := unhide hallQ
          rw [List.take_of_length_le (by have := unhide HN'; omega)] at h
          rw [unhide HA, h]
          rfl

theorem specDev_any (v : Value) (B : Nat) (L : List ByteArray) (Q : List (Int × ByteArray)) (h1 : L.length ≤ 1048576) (h2 : Q.length ≤ 1048576) (hm : ∀ s ∈ L, s.size ≤ 9223372036854775807) (w : World) (hB : B ≤ w.heap.size) (hv : DevAt w v B L Q) :
    Calls Tryz.prog 101 #[v] w fun e w' => e = .returned (.bool (devOk L Q)) ∧ Below w.heap.size w w' := by
  by_cases hy : 1 ≤ L.length ∧ L.length ≤ 400 ∧ Q.length ≤ 400
  · have e : devOk L Q = (L.all secOk && Q.all (putOk2 L.length)) := by
      have a1 : decide ((1 : Int) ≤ (L.length : Int)) = true := by simp; omega
      have a2 : decide ((L.length : Int) ≤ 400) = true := by simp; omega
      have a3 : decide ((Q.length : Int) ≤ 400) = true := by simp; omega
      unfold devOk
      rw [a1, a2, a3]
      rfl
    rw [e]
    exact specDev_yes v B L Q w hB hv hm hy
  · have e : devOk L Q = false := by
      unfold devOk
      by_cases a1 : 1 ≤ L.length ∧ L.length ≤ 400
      · have a3 : decide ((Q.length : Int) ≤ 400) = false := by simp; omega
        rw [a3]
        simp
      · have a2 : (decide ((1 : Int) ≤ (L.length : Int)) && decide ((L.length : Int) ≤ 400)) = false := by simp; omega
        rw [a2]
        rfl
    rw [e]
    exact specDev_no v B L Q h1 h2 w hv hy
end Go.Proofs.YtobdmjoonjblpaaGreatDoor
