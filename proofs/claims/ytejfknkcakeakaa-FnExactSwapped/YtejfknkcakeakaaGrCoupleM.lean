/-
  Rows of Couple: what is marked is held. Written by program (tools/introws.py).
-/
import Derived.Test.YtejfknkcakeakaaGrCouple
namespace Go.Proofs.Ytejfknkcakeakaa
namespace Gr
open Go.ChangeShapes Go.WideShapes Go.ChangeAt Go.RowKit

/-- The marks of n rows from k on. -/
def marksCouple (k n : Nat) : List CoupleI := (List.range n).map fun i => ⟨((k + i * 2 : Nat) : Int), ((k + i * 2 + 1 : Nat) : Int)⟩

theorem marksCouple_length (k n : Nat) : (marksCouple k n).length = n := by simp [marksCouple]
theorem marksCouple_at (k n i : Nat) (h : i < (marksCouple k n).length) : (marksCouple k n)[i] = ⟨((k + i * 2 : Nat) : Int), ((k + i * 2 + 1 : Nat) : Int)⟩ := by simp [marksCouple]

set_option maxRecDepth 100000 in
set_option maxHeartbeats 2000000 in
theorem markCoupleS_any (v : Value) (B n k : Nat) (Q : List CoupleI) (h1 : k + n * 2 ≤ 100000000) (w : World) (ho : w.ownsRow B 88 2 v n (couplesV Q)) :
    Calls Try.prog 36 #[v, .int .i64 (k : Int)] w fun e w' => e = .returned (.int .i64 ((k + n * 2 : Nat) : Int)) ∧ w'.ownsRow B 88 2 v n (couplesV (marksCouple k n)) ∧ Kept (fun g => v.ownBlock = some g) w w' := by
  have hl : Q.length = n := by have := ho.1; rw [couplesV_length] at this; omega
  obtain ⟨A, cap, rfl⟩ : ∃ A cap, v = .slice A n cap := by
    obtain ⟨a, c, e, _⟩ := couplesAt.of_own ho
    exact ⟨a, c, e⟩
  have HO := hide ho
  have HL := hide hl
  clear ho hl
  go_enter Try.func36, Try.ntmps36
  go_wp2_with fail
  go_loopw [1, 5] (fun a1 a5 wr => ∃ j y : Nat, a5 = .int .i64 j ∧ j ≤ n ∧ y = k + j * 2 ∧ a1 = .int .i64 (y : Int) ∧ wr.ownsRow B 88 2 (.slice A n cap) n (couplesV (over (marksCouple k n) Q j)) ∧ Kept (fun g => (Value.slice A n cap).ownBlock = some g) w wr) (fun _ a5 _ => n - (intOf a5).toNat)
  case atStart => exact ⟨0, k, rfl, Nat.zero_le _, rfl, rfl, by rw [over_zero]; exact unhide HO, Kept.refl _ _⟩
  case round =>
    obtain ⟨j, y, rfl, hj, hy, rfl, s0, hkp⟩ := hrel
    have HY := hide hy
    by_cases hlt : j < n
    · obtain ⟨g, cap', hA, hBg, hgl⟩ := s0.form (by omega)
      simp at hA
      obtain ⟨rfl, rfl⟩ := hA
      have hm := marksCouple_at k n j (by rw [marksCouple_length]; exact hlt)
      have hjL : j < Q.length := by have := unhide HL; omega
      have hset := over_set (marksCouple k n) Q j (by rw [marksCouple_length]; exact (unhide HL).symm) hjL
      rw [hm] at hset
      have hol : j < (over (marksCouple k n) Q j).length := by rw [over_length _ _ _ (by rw [marksCouple_length]; exact (unhide HL).symm) (by omega)]; exact hjL
      have hme : (⟨((k + j * 2 : Nat) : Int), ((k + j * 2 + 1 : Nat) : Int)⟩ : CoupleI) = ⟨(y : Int), (y : Int) + 1⟩ := by simp only [CoupleI.mk.injEq]; omega
      rw [hme] at hset
      have hps := couplesV_set (over (marksCouple k n) Q j) j hol ⟨(y : Int), (y : Int) + 1⟩
      rw [hset] at hps
      have hx0 : (0 : Int) ≤ (j : Int) := by omega
      have hx1 : (j : Int) < (n : Int) := by omega
      generalize hZ : over (marksCouple k n) Q j = Z at s0 hol hps
      have hat := couplesV_at Z j hol
      have e0 : (couplesV Z)[j * 2]? = some (.int .i64 Z[j].A) := by exact hat.1
      have e1 : ((couplesV Z).set (j * 2) (.int .i64 ((y : Int))))[j * 2 + 1]? = some (.int .i64 Z[j].B) := by rw [List.getElem?_set_ne (by omega)]; exact hat.2
      have hf0 := s0.frozenAt (j * 2)
      have hce0 := s0.cellAt (j * 2) (by omega)
      rw [e0] at hce0
      have s1 := (s0.stored (j * 2) (.int .i64 ((y : Int)))).1
      have hf1 := s1.frozenAt (j * 2 + 1)
      have hce1 := s1.cellAt (j * 2 + 1) (by omega)
      rw [e1] at hce1
      have s2 := (s1.stored (j * 2 + 1) (.int .i64 ((y : Int) + 1))).1
      rw [hps] at s2
      have HST := hide s2
      have HKP := hide ((hkp.trans (Kept.set _ g (j * 2) (.int .i64 ((y : Int))) rfl)).trans (Kept.set _ g (j * 2 + 1) (.int .i64 ((y : Int) + 1)) rfl))
      have hyl : (y : Int) ≤ 100000000 - 2 := by omega
      clear hm hme hset hat hps hy hZ HO hkp e0 e1 s0 s1
      generalize Z[j] = q at hce0 hce1
      go_wp2
      go_roundw
      case rel => exact ⟨j + 1, y + 2, by go_num, by omega, by have := unhide HY; omega, by go_num, unhide HST, unhide HKP⟩
      case measure => simp [intOf]; omega
    · obtain rfl : j = n := by omega
      have HW := hide s0
      clear s0 hy
      go_wp2
      go_ret
      refine ⟨by rw [← unhide HY]; rfl, ?_, hkp⟩
      have h := unhide HW
      have e := unhide HL
      have e2 := over_all (marksCouple k Q.length) Q (by rw [marksCouple_length])
      rw [e] at e2
      rw [e2] at h
      exact h

end Gr
end Go.Proofs.Ytejfknkcakeakaa
