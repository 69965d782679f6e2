/-
  The contracts of laws.eqStringS, eqPut, eqPutS and eqDevice at what is the same: true.
-/
import Derived.Test.YtobdmjoonjblpaaGreatDoorDevOk
namespace Go.Proofs.YtobdmjoonjblpaaGreatDoor
open Go.RowKit

set_option maxRecDepth 100000 in
set_option maxHeartbeats 1000000 in
theorem eqStrs_same (a a' : Option Addr) (len c c' B B' : Nat) (L : List ByteArray) (hlen : len ≤ 1048576) (w : World) (hB : B ≤ w.heap.size) (hB' : B' ≤ w.heap.size) (hs : StrsAt w a len B L) (hs' : StrsAt w a' len B' L) :
    Calls Tryz.prog 59 #[.slice a len c, .slice a' len c'] w fun e w' => e = .returned (.bool true) ∧ Below w.heap.size w w' := by
  obtain ⟨hL, hc⟩ := hs
  obtain ⟨_, hc'⟩ := hs'
  have HC := hide hc
  have HC' := hide hc'
  have HL := hide hL
  clear hc hc' hL
  go_enter Tryz.func59, Tryz.ntmps59
  go_wp2_with fail
  go_loopw [5] (fun i wr => ∃ k : Nat, i = .int .i64 k ∧ k ≤ len ∧ Below w.heap.size w wr) (fun i _ => len - (intOf i).toNat)
  case atStart => exact ⟨0, rfl, Nat.zero_le _, Below.refl _ _⟩
  case round =>
    obtain ⟨k, rfl, hk, hb⟩ := hrel
    by_cases hlt : k < len
    · have hkL : k < L.length := by have := unhide HL; omega
      obtain ⟨b, off, rfl, hbB, hcell⟩ := unhide HC k hkL
      obtain ⟨b', off', rfl, hbB', hcell'⟩ := unhide HC' k hkL
      rw [← hb.cell (p := ⟨b, off + k, none⟩) (by simp; omega)] at hcell
      rw [← hb.cell (p := ⟨b', off' + k, none⟩) (by simp; omega)] at hcell'
      have hx0 : (0 : Int) ≤ (k : Int) := by omega
      have hx1 : (k : Int) < (len : Int) := by omega
      generalize L[k] = s at hcell hcell'
      go_wp2_with fail
      go_quiet (fail)
      go_wp2
      go_roundw
      case rel => exact ⟨k + 1, by go_num, by omega, below_drewN hb _⟩
      case measure => simp [intOf]; omega
    · go_wp2
      go_ret
      exact ⟨rfl, hb⟩

set_option maxRecDepth 100000 in
theorem eqPut_same (x : Int) (s : ByteArray) (w : World) :
    Calls Tryz.prog 109 #[.agg #[.int .i64 x, .string s], .agg #[.int .i64 x, .string s]] w fun e w' => e = .returned (.bool true) ∧ Below w.heap.size w w' := by
  go_enter Tryz.func109, Tryz.ntmps109
  go_wp2
  go_ret
  exact ⟨rfl, ((Below.refl _ _).alloc (Nat.le_refl _) _).alloc (by simp) _⟩

set_option maxRecDepth 100000 in
set_option maxHeartbeats 1000000 in
theorem eqPuts_same (a a' : Option Addr) (len c c' B B' : Nat) (Q : List (Int × ByteArray)) (hlen : len ≤ 1048576) (w : World) (hB : B ≤ w.heap.size) (hB' : B' ≤ w.heap.size) (hs : PutsAt w a len B Q) (hs' : PutsAt w a' len B' Q) :
    Calls Tryz.prog 60 #[.slice a len c, .slice a' len c'] w fun e w' => e = .returned (.bool true) ∧ Below w.heap.size w w' := by
  obtain ⟨hL, hc⟩ := hs
  obtain ⟨_, hc'⟩ := hs'
  have HC := hide hc
  have HC' := hide hc'
  have HL := hide hL
  clear hc hc' hL
  go_enter Tryz.func60, Tryz.ntmps60
  go_wp2_with fail
  go_loopw [5] (fun i wr => ∃ k : Nat, i = .int .i64 k ∧ k ≤ len ∧ Below w.heap.size w wr) (fun i _ => len - (intOf i).toNat)
  case atStart => exact ⟨0, rfl, Nat.zero_le _, Below.refl _ _⟩
  case round =>
    obtain ⟨k, rfl, hk, hb⟩ := hrel
    by_cases hlt : k < len
    · have hkL : k < Q.length := by have := unhide HL; omega
      obtain ⟨b, off, rfl, hbB, hc0, hc1⟩ := unhide HC k hkL
      obtain ⟨b', off', rfl, hbB', hc0', hc1'⟩ := unhide HC' k hkL
      rw [← hb.cell (p := ⟨b, off + k * 2, none⟩) (by simp; omega)] at hc0
      rw [← hb.cell (p := ⟨b, off + k * 2 + 1, none⟩) (by simp; omega)] at hc1
      rw [← hb.cell (p := ⟨b', off' + k * 2, none⟩) (by simp; omega)] at hc0'
      rw [← hb.cell (p := ⟨b', off' + k * 2 + 1, none⟩) (by simp; omega)] at hc1'
      have hx0 : (0 : Int) ≤ (k : Int) := by omega
      have hx1 : (k : Int) < (len : Int) := by omega
      generalize Q[k] = q at hc0 hc1 hc0' hc1'
      obtain ⟨x, s⟩ := q
      simp only at hc0 hc1 hc0' hc1'
      have HP := hide (fun w => eqPut_same x s w)
      have hl := hb.size
      have hkl : b < wr.heap.size := by omega
      have hkl' : b' < wr.heap.size := by omega
      go_wp2_with fail
      go_region_held3 (fun u => u.cell? ⟨b, off + k * 2, none⟩ = some (.int .i64 x) ∧ u.cell? ⟨b, off + k * 2 + 1, none⟩ = some (.string s) ∧ u.cell? ⟨b', off' + k * 2, none⟩ = some (.int .i64 x) ∧ u.cell? ⟨b', off' + k * 2 + 1, none⟩ = some (.string s))
        (first | go_keep | exact ⟨(hb2.cell (p := ⟨b, off + k * 2, none⟩) hkl).trans hc0, (hb2.cell (p := ⟨b, off + k * 2 + 1, none⟩) hkl).trans hc1, (hb2.cell (p := ⟨b', off' + k * 2, none⟩) hkl').trans hc0', (hb2.cell (p := ⟨b', off' + k * 2 + 1, none⟩) hkl').trans hc1'⟩)
        ((go_at_call 109; refine (unhide HP _).mono ?_; rintro e w2 ⟨rfl, hb2⟩))
      have hbe := hb.drew.trans (hb2.mono hb.size)
      clear hb2
      go_wp2
      go_roundw
      case rel => exact ⟨k + 1, by go_num, by omega, hbe⟩
      case measure => simp [intOf]; omega
    · go_wp2
      go_ret
      exact ⟨rfl, hb⟩

set_option maxRecDepth 100000 in
set_option maxHeartbeats 1000000 in
theorem eqDevice_same (v v' : Value) (B B' : Nat) (L : List ByteArray) (Q : List (Int × ByteArray)) (h1 : L.length ≤ 1048576) (h2 : Q.length ≤ 1048576) (w : World) (hB : B ≤ w.heap.size) (hB' : B' ≤ w.heap.size) (hv : DevAt w v B L Q) (hv' : DevAt w v' B' L Q) :
    Calls Tryz.prog 18 #[v, v'] w fun e w' => e = .returned (.bool true) ∧ Below w.heap.size w w' := by
  obtain ⟨a, n, c, a', n', c', rfl, hL, hQ⟩ := hv
  obtain ⟨d, m, k, d', m', k', rfl, hL', hQ'⟩ := hv'
  have e1 := hL.1
  have e2 := hQ.1
  have e3 := hL'.1
  have e4 := hQ'.1
  subst e1 e2 e3 e4
  have H1 := hide (fun w1 (hb : Below w.heap.size w w1) => eqStrs_same a d _ c k B B' L h1 w1 (by have := hb.size; omega) (by have := hb.size; omega) (hL.below hb hB) (hL'.below hb hB'))
  have H2 := hide (fun w1 (hb : Below w.heap.size w w1) => eqPuts_same a' d' _ c' k' B B' Q h2 w1 (by have := hb.size; omega) (by have := hb.size; omega) (hQ.below hb hB) (hQ'.below hb hB'))
  clear hL hQ hL' hQ' h1 h2
  generalize L.length = n at H1
  generalize Q.length = n' at H2
  go_enter Tryz.func18, Tryz.ntmps18
  go_wp2_with fail
  obtain ⟨W2, hW2⟩ : ∃ W, W = (w.alloc (Obj.cells #[Value.slice a n c, Value.slice a' n' c'] 25)).alloc (Obj.cells #[Value.slice d n k, Value.slice d' n' k'] 25) := ⟨_, rfl⟩
  rw [← hW2]
  have hs2 : W2.heap.size = w.heap.size + 2 := by rw [hW2]; simp
  have b0 : W2.heap[w.heap.size]? = some (.cells #[Value.slice a n c, Value.slice a' n' c'] 25 (0, 0)) := by
    rw [hW2, heap_alloc_old _ _ (by simp), heap_alloc_new]
  have b1 : W2.heap[w.heap.size + 1]? = some (.cells #[Value.slice d n k, Value.slice d' n' k'] 25 (0, 0)) := by
    rw [hW2]
    have := heap_alloc_new (w.alloc (Obj.cells #[Value.slice a n c, Value.slice a' n' c'] 25)) (Obj.cells #[Value.slice d n k, Value.slice d' n' k'] 25)
    simpa using this
  have hb2 : Below w.heap.size w W2 := by
    rw [hW2]
    exact ((Below.refl _ _).alloc (Nat.le_refl _) _).alloc (by simp) _
  clear hW2
  refine (unhide H1 W2 hb2).mono ?_
  rintro e w1 ⟨rfl, hb1⟩
  have hs1 := hb1.size
  rw [← hb1.block _ (by omega)] at b0 b1
  have hw1 : Below w.heap.size w w1 := hb2.trans (hb1.mono (by omega))
  obtain ⟨_, p1, _⟩ := cells_of_two b0
  obtain ⟨_, q1, _⟩ := cells_of_two b1
  clear b0 b1 hb1 hb2
  go_wp2_with fail
  refine (unhide H2 w1 hw1).mono ?_
  rintro e w3 ⟨rfl, hb3⟩
  have hw3 := hw1.trans (hb3.mono hw1.size)
  clear hb3 p1 q1
  go_wp2
  go_ret
  exact ⟨rfl, hw3⟩
end Go.Proofs.YtobdmjoonjblpaaGreatDoor
