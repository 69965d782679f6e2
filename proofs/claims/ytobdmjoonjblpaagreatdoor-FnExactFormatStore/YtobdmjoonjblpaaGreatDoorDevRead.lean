/-
  The contracts of spec.l03Read and spec.ReadSector.
-/
import Derived.Test.YtobdmjoonjblpaaGreatDoorMarkDev
namespace Go.Proofs.YtobdmjoonjblpaaGreatDoor
open Go.RowKit

/-- The text of the last of some puts at a place, or what stood there. -/
def lastOf (k : Nat) (s : ByteArray) (Q : List (Int × ByteArray)) : ByteArray := Q.foldl (fun s q => if q.1 = (k : Int) then q.2 else s) s

theorem lastOf_snoc (k : Nat) (s : ByteArray) (Q : List (Int × ByteArray)) (j : Nat) (h : j < Q.length) :
    lastOf k s (Q.take (j + 1)) = if Q[j].1 = (k : Int) then Q[j].2 else lastOf k s (Q.take j) := by
  unfold lastOf
  rw [List.take_succ_eq_append_getElem h, List.foldl_append]
  rfl

set_option maxRecDepth 100000 in
set_option maxHeartbeats 2000000 in
theorem specRead_any (v : Value) (B k : Nat) (L : List ByteArray) (Q : List (Int × ByteArray)) (hk : k < L.length) (h2 : Q.length ≤ 1048576) (w : World) (hB : B ≤ w.heap.size) (hv : DevAt w v B L Q) :
    Calls Tryz.prog 131 #[v, .int .i64 (k : Int)] w fun e w' => e = .returned (.string (lastOf k L[k] Q)) ∧ Below w.heap.size w w' := by
  obtain ⟨a, n, c, a', n', c', rfl, hL, hQ⟩ := hv
  obtain ⟨e1, hLc⟩ := hL
  obtain ⟨e2, hQc⟩ := hQ
  obtain ⟨b, off, rfl, hbB, hcell⟩ := hLc k hk
  generalize L[k] = s0 at hcell
  rw [e1] at hk
  rw [e2] at h2
  have HQC := hide hQc
  have HN' := hide e2
  clear hQc hLc e1 e2
  have hx0 : (0 : Int) ≤ (k : Int) := by omega
  have hx1 : (k : Int) < (n : Int) := by omega
  have hbl : b ≠ w.heap.size := by omega
  have hcell' : (w.alloc (Obj.cells #[Value.slice (some ⟨b, off, none⟩) n c, Value.slice a' n' c'] 25)).cell? ⟨b, off + k, none⟩ = some (.string s0) := by
    rw [(below_new w _).cell (p := ⟨b, off + k, none⟩) (by simp; omega)]; exact hcell
  clear hcell
  go_enter Tryz.func131, Tryz.ntmps131
  go_wp2_with fail
  obtain ⟨W1, hW1⟩ : ∃ W, W = w.alloc (Obj.cells #[Value.slice (some ⟨b, off, none⟩) n c, Value.slice a' n' c'] 25) := ⟨_, rfl⟩
  rw [← hW1]
  have hb1 : Below w.heap.size w W1 := by rw [hW1]; exact below_new _ _
  have hx : Box W1 w.heap.size (Value.slice (some ⟨b, off, none⟩) n c) (Value.slice a' n' c') := by rw [hW1]; exact Box.new _ _ _
  obtain ⟨p0, p1⟩ := hx.cells
  clear hW1 hx hcell'
  go_loop [5, 6] (fun s i => ∃ j : Nat, i = .int .i64 j ∧ j ≤ n' ∧ s = .string (lastOf k s0 (Q.take j))) (fun _ i => n' - (intOf i).toNat)
  case atStart => exact ⟨0, rfl, Nat.zero_le _, rfl⟩
  case round =>
    obtain ⟨j, rfl, hj, rfl⟩ := hrel
    by_cases hlt : j < n'
    · have hjQ : j < Q.length := by have := unhide HN'; omega
      obtain ⟨b', off', rfl, hbB', hc0, hc1⟩ := unhide HQC j hjQ
      have HS := hide (lastOf_snoc k s0 Q j hjQ)
      rw [← hb1.cell (p := ⟨b', off' + j * 2, none⟩) (by simp; omega)] at hc0
      rw [← hb1.cell (p := ⟨b', off' + j * 2 + 1, none⟩) (by simp; omega)] at hc1
      have hy0 : (0 : Int) ≤ (j : Int) := by omega
      have hy1 : (j : Int) < (n' : Int) := by omega
      generalize Q[j] = q at hc0 hc1 HS
      obtain ⟨x, t⟩ := q
      simp only at hc0 hc1
      generalize lastOf k s0 (Q.take j) = u at HS
      by_cases he : x = (k : Int)
      · have hb : (x == (k : Int)) = true := by simp [he]
        have E : Hid (lastOf k s0 (Q.take (j + 1)) = t) := by
          show _ = _
          rw [unhide HS]; simp [he]
        clear he
        go_wp2
        go_round
        case rel => exact ⟨j + 1, by go_num, by omega, by rw [unhide E]⟩
        case measure => simp [intOf]; omega
      · have hb : (x == (k : Int)) = false := by simp [he]
        have E : Hid (lastOf k s0 (Q.take (j + 1)) = u) := by
          show _ = _
          rw [unhide HS]; simp [he]
        clear he
        go_wp2
        go_round
        case rel => exact ⟨j + 1, by go_num, by omega, by rw [unhide E]⟩
        case measure => simp [intOf]; omega
    · have E : Hid (lastOf k s0 (Q.take j) = lastOf k s0 Q) := by
        show _ = _
        rw [List.take_of_length_le (by have := unhide HN'; omega)]
      generalize lastOf k s0 (Q.take j) = u at E
      go_wp2
      go_ret
      exact ⟨by rw [← unhide E]; rfl, hb1⟩

/-- What ReadSector answers. -/
def readA (L : List ByteArray) (Q : List (Int × ByteArray)) (x : Int) : ByteArray × Bool :=
  if devOk L Q = true ∧ 0 ≤ x ∧ x < (L.length : Int) then (lastOf x.toNat (L.getD x.toNat ⟨#[]⟩) Q, true) else (⟨#[]⟩, false)

set_option maxRecDepth 100000 in
set_option maxHeartbeats 2000000 in
theorem specSector_any (v : Value) (B : Nat) (x : Int) (L : List ByteArray) (Q : List (Int × ByteArray)) (h1 : L.length ≤ 1048576) (h2 : Q.length ≤ 1048576) (hm : ∀ s ∈ L, s.size ≤ 9223372036854775807) (w : World) (hB : B ≤ w.heap.size) (hv : DevAt w v B L Q) :
    Calls Tryz.prog 99 #[v, .int .i64 x] w fun e w' => e = .returned (.tuple #[.string (readA L Q x).1, .bool (readA L Q x).2]) ∧ Below w.heap.size w w' := by
  have OK := hide (fun w1 (hb : Below w.heap.size w w1) => specDev_any v B L Q h1 h2 hm w1 (by have := hb.size; omega) (hv.below hb hB))
  have RD := hide (fun (k : Nat) (hk : k < L.length) w1 (hb : Below w.heap.size w w1) => specRead_any v B k L Q hk h2 w1 (by have := hb.size; omega) (hv.below hb hB))
  have IN := hide (fun w => l01In_any x 0 ((L.length : Int) - 1) w)
  obtain ⟨a, n, c, a', n', c', rfl, hL, hQ⟩ := hv
  obtain rfl : n = L.length := hL.1.symm
  clear hL hQ
  have HR : Hid (readA L Q x = if devOk L Q = true ∧ 0 ≤ x ∧ x < (L.length : Int) then (lastOf x.toNat (L.getD x.toNat ⟨#[]⟩) Q, true) else (⟨#[]⟩, false)) := rfl
  generalize readA L Q x = r at HR
  cases hok : devOk L Q
  · rw [hok] at OK HR
    have e : r = (⟨#[]⟩, false) := by have := unhide HR; simpa using this
    subst e
    clear hok HR
    go_enter Tryz.func99, Tryz.ntmps99
    go_wp2_with fail
    have hb1 := below_new w (Obj.cells #[Value.slice a L.length c, Value.slice a' n' c'] 25)
    refine (unhide OK _ hb1).mono ?_
    rintro e w2 ⟨rfl, hb2⟩
    have hc := hb1.trans (hb2.mono hb1.size)
    clear hb1 hb2
    go_wp2
    go_ret2
    exact ⟨rfl, hc⟩
  · rw [hok] at OK HR
    clear hok
    by_cases hin : 0 ≤ x ∧ x < (L.length : Int)
    · obtain ⟨k, rfl⟩ := Int.eq_ofNat_of_zero_le hin.1
      have hkL : k < L.length := by omega
      have e : r = (lastOf k L[k] Q, true) := by
        have h := unhide HR
        rw [if_pos ⟨rfl, hin.1, hin.2⟩] at h
        rw [h]
        simp [hkL]
      subst e
      have RK := hide (unhide RD k hkL)
      have hdec : (decide ((0 : Int) ≤ (k : Int)) && decide ((k : Int) ≤ (L.length : Int) - 1)) = true := by simp; omega
      rw [hdec] at IN
      generalize lastOf k L[k] Q = t at RK
      clear HR RD hdec
      go_enter Tryz.func99, Tryz.ntmps99
      go_wp2_with fail
      obtain ⟨W1, hW1⟩ : ∃ W, W = w.alloc (Obj.cells #[Value.slice a L.length c, Value.slice a' n' c'] 25) := ⟨_, rfl⟩
      rw [← hW1]
      have hb1 : Below w.heap.size w W1 := by rw [hW1]; exact below_new _ _
      have hx : Box W1 w.heap.size (Value.slice a L.length c) (Value.slice a' n' c') := by rw [hW1]; exact Box.new _ _ _
      clear hW1
      refine (unhide OK W1 hb1).mono ?_
      rintro e w2 ⟨rfl, hb2⟩
      obtain ⟨p0, p1⟩ := (hx.below hb2).cells
      have hc := hb1.trans (hb2.mono hb1.size)
      clear hb1 hb2 hx
      go_wp2_with fail
      refine (unhide IN _).mono ?_
      rintro e w3 ⟨rfl, rfl⟩
      go_wp2_with fail
      refine (unhide RK _ hc).mono ?_
      rintro e w4 ⟨rfl, hb4⟩
      have hc4 := hc.trans (hb4.mono hc.size)
      clear hb4 hc p0 p1
      go_wp2
      go_ret2
      exact ⟨rfl, hc4⟩
    · have e : r = (⟨#[]⟩, false) := by
        have h := unhide HR
        rw [if_neg (fun hh => hin hh.2)] at h
        exact h
      subst e
      have hdec : (decide ((0 : Int) ≤ x) && decide (x ≤ (L.length : Int) - 1)) = false := by simp; omega
      rw [hdec] at IN
      clear HR RD hdec
      go_enter Tryz.func99, Tryz.ntmps99
      go_wp2_with fail
      obtain ⟨W1, hW1⟩ : ∃ W, W = w.alloc (Obj.cells #[Value.slice a L.length c, Value.slice a' n' c'] 25) := ⟨_, rfl⟩
      rw [← hW1]
      have hb1 : Below w.heap.size w W1 := by rw [hW1]; exact below_new _ _
      have hx : Box W1 w.heap.size (Value.slice a L.length c) (Value.slice a' n' c') := by rw [hW1]; exact Box.new _ _ _
      clear hW1
      refine (unhide OK W1 hb1).mono ?_
      rintro e w2 ⟨rfl, hb2⟩
      obtain ⟨p0, p1⟩ := (hx.below hb2).cells
      have hc := hb1.trans (hb2.mono hb1.size)
      clear hb1 hb2 hx
      go_wp2_with fail
      refine (unhide IN _).mono ?_
      rintro e w3 ⟨rfl, rfl⟩
      go_wp2
      go_ret2
      exact ⟨rfl, hc⟩
end Go.Proofs.YtobdmjoonjblpaaGreatDoor
