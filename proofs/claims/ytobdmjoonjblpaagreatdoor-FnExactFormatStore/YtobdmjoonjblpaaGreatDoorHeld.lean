/-
  The contracts of laws.heldStringS, markPutS and heldPutS.
-/
import Derived.Test.YtobdmjoonjblpaaGreatDoorMarks
import Derived.Deep.RegionHeld3
namespace Go.Proofs.YtobdmjoonjblpaaGreatDoor
open Go.RowKit

set_option maxRecDepth 100000 in
set_option maxHeartbeats 1000000 in
theorem heldStrs_any (A : Option Addr) (n cap B k : Nat) (h0 : 0 < k) (h1 : k + n ≤ 100000000) (w : World) (hB : B ≤ w.heap.size) (hs : StrsAt w A n B (marks k n)) :
    Calls Tryz.prog 74 #[.slice A n cap, .int .i64 (k : Int)] w fun e w' => e = .returned (.int .i64 ((k + n : Nat) : Int)) ∧ Below w.heap.size w w' := by
  have HC := hide hs.2
  clear hs
  go_enter Tryz.func74, Tryz.ntmps74
  go_wp2_with fail
  go_loopw [1, 5] (fun a1 a5 wr => ∃ j : Nat, a5 = .int .i64 j ∧ j ≤ n ∧ a1 = .int .i64 ((k + j : Nat) : Int) ∧ Below w.heap.size w wr) (fun _ a5 _ => n - (intOf a5).toNat)
  case atStart => exact ⟨0, rfl, Nat.zero_le _, rfl, Below.refl _ _⟩
  case round =>
    obtain ⟨j, rfl, hj, rfl, hb⟩ := hrel
    by_cases hlt : j < n
    · have hjm : j < (marks k n).length := by rw [marks_length]; exact hlt
      obtain ⟨b, off, rfl, hbB, hcell⟩ := unhide HC j hjm
      rw [marks_at k n j hjm, ← hb.cell (p := ⟨b, off + j, none⟩) (by simp; omega)] at hcell
      have hx0 : (0 : Int) ≤ (j : Int) := by omega
      have hx1 : (j : Int) < (n : Int) := by omega
      have hbl : b < wr.heap.size := by have := hb.size; omega
      have HT := hide (fun w => markText_any (k + j) (by omega) (by omega) w)
      generalize markT (k + j) = t at hcell HT
      go_wp2_with fail
      go_region_held3 (fun u => u.cell? ⟨b, off + j, none⟩ = some (.string t)) (first | go_keep | exact (hb2.cell (p := ⟨b, off + j, none⟩) hbl).trans hcell)
        ((go_at_call 73; refine (unhide HT _).mono ?_; rintro e w2 ⟨rfl, hb2⟩))
      have hbe := hb.drew.trans (hb2.mono hb.size)
      clear hb2
      go_wp2
      go_roundw
      case rel => exact ⟨j + 1, by go_num, by omega, by go_num, hbe⟩
      case measure => simp [intOf]; omega
    · obtain rfl : j = n := by omega
      go_wp2
      go_ret
      exact ⟨rfl, hb⟩

/-- The marks of n puts from k on. -/
def marksQ (k n : Nat) : List (Int × ByteArray) := (List.range n).map fun i => (((k + i * 2 : Nat) : Int), markT (k + i * 2 + 1))

theorem marksQ_length (k n : Nat) : (marksQ k n).length = n := by simp [marksQ]
theorem marksQ_at (k n i : Nat) (h : i < (marksQ k n).length) : (marksQ k n)[i] = (((k + i * 2 : Nat) : Int), markT (k + i * 2 + 1)) := by simp [marksQ]

set_option maxRecDepth 100000 in
set_option maxHeartbeats 1000000 in
theorem markPuts_any (v : Value) (B n k : Nat) (Q : List (Int × ByteArray)) (h0 : 0 < k) (h1 : k + n * 2 ≤ 100000000) (w : World) (ho : w.ownsRow B 134 2 v n (putsV Q)) :
    Calls Tryz.prog 62 #[v, .int .i64 (k : Int)] w fun e w' => e = .returned (.int .i64 ((k + n * 2 : Nat) : Int)) ∧ w'.ownsRow B 134 2 v n (putsV (marksQ k n)) ∧ Kept (fun g => v.ownBlock = some g) w w' := by
  have hl : Q.length = n := by have := ho.1; rw [putsV_length] at this; omega
  obtain ⟨A, cap, rfl⟩ : ∃ A cap, v = .slice A n cap := by
    obtain ⟨a, c, e, _⟩ := PutsAt.of_own ho
    exact ⟨a, c, e⟩
  have HO := hide ho
  have HL := hide hl
  clear ho hl
  go_enter Tryz.func62, Tryz.ntmps62
  go_wp2_with fail
  go_loopw [1, 5] (fun a1 a5 wr => ∃ j y : Nat, a5 = .int .i64 j ∧ j ≤ n ∧ y = k + j * 2 ∧ a1 = .int .i64 (y : Int) ∧ wr.ownsRow B 134 2 (.slice A n cap) n (putsV (over (marksQ k n) Q j)) ∧ Kept (fun g => (Value.slice A n cap).ownBlock = some g) w wr) (fun _ a5 _ => n - (intOf a5).toNat)
  case atStart => exact ⟨0, k, rfl, Nat.zero_le _, rfl, rfl, by rw [over_zero]; exact unhide HO, Kept.refl _ _⟩
  case round =>
    obtain ⟨j, y, rfl, hj, hy, rfl, hown, hkp⟩ := hrel
    have HY := hide hy
    by_cases hlt : j < n
    · obtain ⟨g, cap', hA, hBg, hgl⟩ := hown.form (by omega)
      simp at hA
      obtain ⟨rfl, rfl⟩ := hA
      have hm := marksQ_at k n j (by rw [marksQ_length]; exact hlt)
      rw [← hy] at hm
      have hjL : j < Q.length := by have := unhide HL; omega
      have hset := over_set (marksQ k n) Q j (by rw [marksQ_length]; exact (unhide HL).symm) hjL
      rw [hm] at hset
      have hol : j < (over (marksQ k n) Q j).length := by rw [over_length _ _ _ (by rw [marksQ_length]; exact (unhide HL).symm) (by omega)]; exact hjL
      have hps := putsV_set (over (marksQ k n) Q j) j hol (y : Int) (markT (y + 1))
      rw [hset] at hps
      have HPS := hide hps
      have hx0 : (0 : Int) ≤ (j : Int) := by omega
      have hx1 : (j : Int) < (n : Int) := by omega
      have hat := putsV_at _ j hol
      have hce0 := hown.cellAt (j * 2) (by omega)
      rw [hat.1] at hce0
      have hf0 := hown.frozenAt (j * 2)
      have hst0 := (hown.stored (j * 2) (.int .i64 (y : Int))).1
      have hce1 := hst0.cellAt (j * 2 + 1) (by omega)
      have e1 : ((putsV (over (marksQ k n) Q j)).set (j * 2) (.int .i64 (y : Int)))[j * 2 + 1]? = some (.string (over (marksQ k n) Q j)[j].2) := by
        rw [List.getElem?_set_ne (by omega)]; exact hat.2
      rw [e1] at hce1
      have HS0 := hide hst0
      have ht : ∀ w, Calls Tryz.prog 73 #[.int .i64 ((y : Int) + 1)] w fun e w' => e = .returned (.string (markT (y + 1))) ∧ Below w.heap.size w w' := fun w => by
        have h := markText_any (y + 1) (by omega) (by omega) w
        rw [Int.natCast_add] at h
        exact h
      have HT := hide ht
      have hyl : (y : Int) ≤ 100000000 := by omega
      generalize (over (marksQ k n) Q j)[j] = q at hce0 hce1
      clear hm hset hown hat hst0 hps e1 hy ht
      go_wp2_with fail
      refine (unhide HT _).mono ?_
      rintro e w1 ⟨rfl, hb1⟩
      have hown := own_below (unhide HS0) hb1
      have hkp1 := (hkp.trans (Kept.set wr g (j * 2) (.int .i64 (y : Int)) rfl)).trans (Kept.of_below hb1)
      have hcg : w1.cell? ⟨g, j * 2 + 1, none⟩ = some (.string q.2) := by
        rw [hb1.cell (p := ⟨g, j * 2 + 1, none⟩) (by simpa [World.setCell] using hgl)]; exact hce1
      have hf1 := hown.frozenAt (j * 2 + 1)
      have hst := (hown.stored (j * 2 + 1) (.string (markT (y + 1)))).1
      rw [unhide HPS] at hst
      have HST := hide hst
      clear hst hown hb1 hkp hce0 hce1 hf0
      generalize markT (y + 1) = t at HST
      go_wp2
      go_roundw
      case rel => exact ⟨j + 1, y + 2, by go_num, by omega, by have := unhide HY; omega, by go_num, unhide HST, hkp1.trans (Kept.set _ g (j * 2 + 1) _ rfl)⟩
      case measure => simp [intOf]; omega
    · obtain rfl : j = n := by omega
      have HW := hide hown
      clear hown hy
      go_wp2
      go_ret
      refine ⟨by rw [← unhide HY]; rfl, ?_, hkp⟩
      have h := unhide HW
      have e := unhide HL
      have e2 := over_all (marksQ k Q.length) Q (by rw [marksQ_length])
      rw [e] at e2
      rw [e2] at h
      exact h

set_option maxRecDepth 100000 in
set_option maxHeartbeats 1000000 in
theorem heldPuts_any (A : Option Addr) (n cap B k : Nat) (h0 : 0 < k) (h1 : k + n * 2 ≤ 100000000) (w : World) (hB : B ≤ w.heap.size) (hs : PutsAt w A n B (marksQ k n)) :
    Calls Tryz.prog 75 #[.slice A n cap, .int .i64 (k : Int)] w fun e w' => e = .returned (.int .i64 ((k + n * 2 : Nat) : Int)) ∧ Below w.heap.size w w' := by
  have HC := hide hs.2
  clear hs
  go_enter Tryz.func75, Tryz.ntmps75
  go_wp2_with fail
  go_loopw [1, 5] (fun a1 a5 wr => ∃ j y : Nat, a5 = .int .i64 j ∧ j ≤ n ∧ y = k + j * 2 ∧ a1 = .int .i64 (y : Int) ∧ Below w.heap.size w wr) (fun _ a5 _ => n - (intOf a5).toNat)
  case atStart => exact ⟨0, k, rfl, Nat.zero_le _, rfl, rfl, Below.refl _ _⟩
  case round =>
    obtain ⟨j, y, rfl, hj, hy, rfl, hb⟩ := hrel
    have HY := hide hy
    by_cases hlt : j < n
    · have hjm : j < (marksQ k n).length := by rw [marksQ_length]; exact hlt
      obtain ⟨b, off, rfl, hbB, hc0, hc1⟩ := unhide HC j hjm
      rw [marksQ_at k n j hjm, ← hy] at hc0 hc1
      simp only at hc0 hc1
      rw [← hb.cell (p := ⟨b, off + j * 2, none⟩) (by simp; omega)] at hc0
      rw [← hb.cell (p := ⟨b, off + j * 2 + 1, none⟩) (by simp; omega)] at hc1
      have hx0 : (0 : Int) ≤ (j : Int) := by omega
      have hx1 : (j : Int) < (n : Int) := by omega
      have hbl : b < wr.heap.size := by have := hb.size; omega
      have ht : ∀ w, Calls Tryz.prog 73 #[.int .i64 ((y : Int) + 1)] w fun e w' => e = .returned (.string (markT (y + 1))) ∧ Below w.heap.size w w' := fun w => by
        have h := markText_any (y + 1) (by omega) (by omega) w
        rw [Int.natCast_add] at h
        exact h
      have HT := hide ht
      have hyl : (y : Int) ≤ 100000000 := by omega
      generalize markT (y + 1) = t at hc1 HT
      clear hy ht
      go_wp2_with fail
      go_region_held3 (fun u => u.cell? ⟨b, off + j * 2 + 1, none⟩ = some (.string t)) (first | go_keep | exact (hb2.cell (p := ⟨b, off + j * 2 + 1, none⟩) hbl).trans hc1)
        ((go_at_call 73; refine (unhide HT _).mono ?_; rintro e w2 ⟨rfl, hb2⟩))
      have hbe := hb.drew.trans (hb2.mono hb.size)
      clear hb2
      go_wp2
      go_roundw
      case rel => exact ⟨j + 1, y + 2, by go_num, by omega, by have := unhide HY; omega, by go_num, hbe⟩
      case measure => simp [intOf]; omega
    · obtain rfl : j = n := by omega
      clear hy
      go_wp2
      go_ret
      exact ⟨by rw [← unhide HY]; rfl, hb⟩
end Go.Proofs.YtobdmjoonjblpaaGreatDoor
