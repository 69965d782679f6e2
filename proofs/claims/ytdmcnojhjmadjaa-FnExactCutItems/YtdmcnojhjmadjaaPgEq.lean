/-
  The contracts of laws.toPage, and of laws.eqItem, eqItemS and eqPage at what is the same: true.
-/
import Derived.Test.YtdmcnojhjmadjaaPgTo
import Derived.Deep.RegionHeld3
namespace Go.Proofs.Ytdmcnojhjmadjaa
namespace Pg
open Go.RowKit

set_option maxRecDepth 100000 in
theorem eqItem_same (x : It) (w : World) :
    Calls Try.prog 40 #[itV x, itV x] w fun e w' => e = .returned (.bool true) ∧ Below w.heap.size w w' := by
  unfold itV
  go_enter Try.func40, Try.ntmps40
  go_wp2
  go_ret
  exact ⟨rfl, ((Below.refl _ _).alloc (Nat.le_refl _) _).alloc (by simp) _⟩

set_option maxRecDepth 100000 in
set_option maxHeartbeats 1000000 in
theorem eqItems_same (a a' : Option Addr) (len c c' B B' : Nat) (Q : List It) (hlen : len ≤ 1048576) (w : World) (hB : B ≤ w.heap.size) (hB' : B' ≤ w.heap.size) (hs : ItemsAt w a len B Q) (hs' : ItemsAt w a' len B' Q) :
    Calls Try.prog 16 #[.slice a len c, .slice a' len c'] w fun e w' => e = .returned (.bool true) ∧ Below w.heap.size w w' := by
  obtain ⟨hL, hc⟩ := hs
  obtain ⟨_, hc'⟩ := hs'
  have HC := hide hc
  have HC' := hide hc'
  have HL := hide hL
  clear hc hc' hL
  go_enter Try.func16, Try.ntmps16
  go_wp2_with fail
  go_loopw [5] (fun i wr => ∃ k : Nat, i = .int .i64 k ∧ k ≤ len ∧ Below w.heap.size w wr) (fun i _ => len - (intOf i).toNat)
  case atStart => exact ⟨0, rfl, Nat.zero_le _, Below.refl _ _⟩
  case round =>
    obtain ⟨k, rfl, hk, hb⟩ := hrel
    by_cases hlt : k < len
    · have hkL : k < Q.length := by have := unhide HL; omega
      obtain ⟨b, off, rfl, hbB, hc0, hc1, hc2⟩ := unhide HC k hkL
      obtain ⟨b', off', rfl, hbB', hc0', hc1', hc2'⟩ := unhide HC' k hkL
      rw [← hb.cell (p := ⟨b, off + k * 3, none⟩) (by simp; omega)] at hc0
      rw [← hb.cell (p := ⟨b, off + k * 3 + 1, none⟩) (by simp; omega)] at hc1
      rw [← hb.cell (p := ⟨b, off + k * 3 + 2, none⟩) (by simp; omega)] at hc2
      rw [← hb.cell (p := ⟨b', off' + k * 3, none⟩) (by simp; omega)] at hc0'
      rw [← hb.cell (p := ⟨b', off' + k * 3 + 1, none⟩) (by simp; omega)] at hc1'
      rw [← hb.cell (p := ⟨b', off' + k * 3 + 2, none⟩) (by simp; omega)] at hc2'
      have hx0 : (0 : Int) ≤ (k : Int) := by omega
      have hx1 : (k : Int) < (len : Int) := by omega
      have HP := hide (fun w => eqItem_same Q[k] w)
      generalize Q[k] = q at hc0 hc1 hc0' hc1' hc2 hc2' HP
      obtain ⟨s, t, p⟩ := q
      simp only [itV] at hc0 hc1 hc0' hc1' hc2 hc2' HP
      have hl := hb.size
      have hkl : b < wr.heap.size := by omega
      have hkl' : b' < wr.heap.size := by omega
      go_wp2_with fail
      go_region_held3 (fun u => u.cell? ⟨b, off + k * 3, none⟩ = some (.string s) ∧ u.cell? ⟨b, off + k * 3 + 1, none⟩ = some (.string t) ∧ u.cell? ⟨b, off + k * 3 + 2, none⟩ = some (.int .i64 p) ∧ u.cell? ⟨b', off' + k * 3, none⟩ = some (.string s) ∧ u.cell? ⟨b', off' + k * 3 + 1, none⟩ = some (.string t) ∧ u.cell? ⟨b', off' + k * 3 + 2, none⟩ = some (.int .i64 p))
        (first | go_keep | exact ⟨(hb2.cell (p := ⟨b, off + k * 3, none⟩) hkl).trans hc0, (hb2.cell (p := ⟨b, off + k * 3 + 1, none⟩) hkl).trans hc1, (hb2.cell (p := ⟨b, off + k * 3 + 2, none⟩) hkl).trans hc2, (hb2.cell (p := ⟨b', off' + k * 3, none⟩) hkl').trans hc0', (hb2.cell (p := ⟨b', off' + k * 3 + 1, none⟩) hkl').trans hc1', (hb2.cell (p := ⟨b', off' + k * 3 + 2, none⟩) hkl').trans hc2'⟩)
        ((go_at_call 40; refine (unhide HP _).mono ?_; rintro e w2 ⟨rfl, hb2⟩))
      have hbe := hb.drew.trans (hb2.mono hb.size)
      clear hb2
      go_wp2
      go_roundw
      case rel => exact ⟨k + 1, by go_num, by omega, hbe⟩
      case measure => simp [intOf]; omega
    · go_wp2
      go_ret
      exact ⟨rfl, hb⟩

end Pg
end Go.Proofs.Ytdmcnojhjmadjaa
