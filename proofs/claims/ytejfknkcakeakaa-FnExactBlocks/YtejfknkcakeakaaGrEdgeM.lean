/-
  Rows of Edge: what is marked is held. Written by program (tools/introws.py).
-/
import Derived.Test.YtejfknkcakeakaaGrEdge
namespace Go.Proofs.Ytejfknkcakeakaa
namespace Gr
open Go.ChangeShapes Go.WideShapes Go.ChangeAt Go.RowKit

/-- The marks of n rows from k on. -/
def marksEdge (k n : Nat) : List EdgeI := (List.range n).map fun i => ⟨((k + i * 5 : Nat) : Int), ((k + i * 5 + 1 : Nat) : Int), ((k + i * 5 + 2 : Nat) : Int), ((k + i * 5 + 3 : Nat) : Int), ((k + i * 5 + 4 : Nat) : Int)⟩

theorem marksEdge_length (k n : Nat) : (marksEdge k n).length = n := by simp [marksEdge]
theorem marksEdge_at (k n i : Nat) (h : i < (marksEdge k n).length) : (marksEdge k n)[i] = ⟨((k + i * 5 : Nat) : Int), ((k + i * 5 + 1 : Nat) : Int), ((k + i * 5 + 2 : Nat) : Int), ((k + i * 5 + 3 : Nat) : Int), ((k + i * 5 + 4 : Nat) : Int)⟩ := by simp [marksEdge]

set_option maxRecDepth 100000 in
set_option maxHeartbeats 2000000 in
theorem markEdgeS_any (v : Value) (B n k : Nat) (Q : List EdgeI) (h1 : k + n * 5 ≤ 100000000) (w : World) (ho : w.ownsRow B 76 5 v n (edgesV Q)) :
    Calls Try.prog 49 #[v, .int .i64 (k : Int)] w fun e w' => e = .returned (.int .i64 ((k + n * 5 : Nat) : Int)) ∧ w'.ownsRow B 76 5 v n (edgesV (marksEdge k n)) ∧ Kept (fun g => v.ownBlock = some g) w w' := by
  have hl : Q.length = n := by have := ho.1; rw [edgesV_length] at this; omega
  obtain ⟨A, cap, rfl⟩ : ∃ A cap, v = .slice A n cap := by
    obtain ⟨a, c, e, _⟩ := edgesAt.of_own ho
    exact ⟨a, c, e⟩
  have HO := hide ho
  have HL := hide hl
  clear ho hl
  go_enter Try.func49, Try.ntmps49
  go_wp2_with fail
  go_loopw [1, 5] (fun a1 a5 wr => ∃ j y : Nat, a5 = .int .i64 j ∧ j ≤ n ∧ y = k + j * 5 ∧ a1 = .int .i64 (y : Int) ∧ wr.ownsRow B 76 5 (.slice A n cap) n (edgesV (over (marksEdge k n) Q j)) ∧ Kept (fun g => (Value.slice A n cap).ownBlock = some g) w wr) (fun _ a5 _ => n - (intOf a5).toNat)
  case atStart => exact ⟨0, k, rfl, Nat.zero_le _, rfl, rfl, by rw [over_zero]; exact unhide HO, Kept.refl _ _⟩
  case round =>
    obtain ⟨j, y, rfl, hj, hy, rfl, s0, hkp⟩ := hrel
    have HY := hide hy
    by_cases hlt : j < n
    · obtain ⟨g, cap', hA, hBg, hgl⟩ := s0.form (by omega)
      simp at hA
      obtain ⟨rfl, rfl⟩ := hA
      have hm := marksEdge_at k n j (by rw [marksEdge_length]; exact hlt)
      have hjL : j < Q.length := by have := unhide HL; omega
      have hset := over_set (marksEdge k n) Q j (by rw [marksEdge_length]; exact (unhide HL).symm) hjL
      rw [hm] at hset
      have hol : j < (over (marksEdge k n) Q j).length := by rw [over_length _ _ _ (by rw [marksEdge_length]; exact (unhide HL).symm) (by omega)]; exact hjL
      have hme : (⟨((k + j * 5 : Nat) : Int), ((k + j * 5 + 1 : Nat) : Int), ((k + j * 5 + 2 : Nat) : Int), ((k + j * 5 + 3 : Nat) : Int), ((k + j * 5 + 4 : Nat) : Int)⟩ : EdgeI) = ⟨(y : Int), (y : Int) + 1, (y : Int) + 1 + 1, (y : Int) + 1 + 1 + 1, (y : Int) + 1 + 1 + 1 + 1⟩ := by simp only [EdgeI.mk.injEq]; omega
      rw [hme] at hset
      have hps := edgesV_set (over (marksEdge k n) Q j) j hol ⟨(y : Int), (y : Int) + 1, (y : Int) + 1 + 1, (y : Int) + 1 + 1 + 1, (y : Int) + 1 + 1 + 1 + 1⟩
      rw [hset] at hps
      have hx0 : (0 : Int) ≤ (j : Int) := by omega
      have hx1 : (j : Int) < (n : Int) := by omega
      generalize hZ : over (marksEdge k n) Q j = Z at s0 hol hps
      have hat := edgesV_at Z j hol
      have e0 : (edgesV Z)[j * 5]? = some (.int .i64 Z[j].A) := by exact hat.1
      have e1 : ((edgesV Z).set (j * 5) (.int .i64 ((y : Int))))[j * 5 + 1]? = some (.int .i64 Z[j].B) := by rw [List.getElem?_set_ne (by omega)]; exact hat.2.1
      have e2 : (((edgesV Z).set (j * 5) (.int .i64 ((y : Int)))).set (j * 5 + 1) (.int .i64 ((y : Int) + 1)))[j * 5 + 2]? = some (.int .i64 Z[j].W1) := by rw [List.getElem?_set_ne (by omega), List.getElem?_set_ne (by omega)]; exact hat.2.2.1
      have e3 : ((((edgesV Z).set (j * 5) (.int .i64 ((y : Int)))).set (j * 5 + 1) (.int .i64 ((y : Int) + 1))).set (j * 5 + 2) (.int .i64 ((y : Int) + 1 + 1)))[j * 5 + 3]? = some (.int .i64 Z[j].W2) := by rw [List.getElem?_set_ne (by omega), List.getElem?_set_ne (by omega), List.getElem?_set_ne (by omega)]; exact hat.2.2.2.1
      have e4 : (((((edgesV Z).set (j * 5) (.int .i64 ((y : Int)))).set (j * 5 + 1) (.int .i64 ((y : Int) + 1))).set (j * 5 + 2) (.int .i64 ((y : Int) + 1 + 1))).set (j * 5 + 3) (.int .i64 ((y : Int) + 1 + 1 + 1)))[j * 5 + 4]? = some (.int .i64 Z[j].W3) := by rw [List.getElem?_set_ne (by omega), List.getElem?_set_ne (by omega), List.getElem?_set_ne (by omega), List.getElem?_set_ne (by omega)]; exact hat.2.2.2.2
      have hf0 := s0.frozenAt (j * 5)
      have hce0 := s0.cellAt (j * 5) (by omega)
      rw [e0] at hce0
      have s1 := (s0.stored (j * 5) (.int .i64 ((y : Int)))).1
      have hf1 := s1.frozenAt (j * 5 + 1)
      have hce1 := s1.cellAt (j * 5 + 1) (by omega)
      rw [e1] at hce1
      have s2 := (s1.stored (j * 5 + 1) (.int .i64 ((y : Int) + 1))).1
      have hf2 := s2.frozenAt (j * 5 + 2)
      have hce2 := s2.cellAt (j * 5 + 2) (by omega)
      rw [e2] at hce2
      have s3 := (s2.stored (j * 5 + 2) (.int .i64 ((y : Int) + 1 + 1))).1
      have hf3 := s3.frozenAt (j * 5 + 3)
      have hce3 := s3.cellAt (j * 5 + 3) (by omega)
      rw [e3] at hce3
      have s4 := (s3.stored (j * 5 + 3) (.int .i64 ((y : Int) + 1 + 1 + 1))).1
      have hf4 := s4.frozenAt (j * 5 + 4)
      have hce4 := s4.cellAt (j * 5 + 4) (by omega)
      rw [e4] at hce4
      have s5 := (s4.stored (j * 5 + 4) (.int .i64 ((y : Int) + 1 + 1 + 1 + 1))).1
      rw [hps] at s5
      have HST := hide s5
      have HKP := hide (((((hkp.trans (Kept.set _ g (j * 5) (.int .i64 ((y : Int))) rfl)).trans (Kept.set _ g (j * 5 + 1) (.int .i64 ((y : Int) + 1)) rfl)).trans (Kept.set _ g (j * 5 + 2) (.int .i64 ((y : Int) + 1 + 1)) rfl)).trans (Kept.set _ g (j * 5 + 3) (.int .i64 ((y : Int) + 1 + 1 + 1)) rfl)).trans (Kept.set _ g (j * 5 + 4) (.int .i64 ((y : Int) + 1 + 1 + 1 + 1)) rfl))
      have hyl : (y : Int) ≤ 100000000 - 5 := by omega
      clear hm hme hset hat hps hy hZ HO hkp e0 e1 e2 e3 e4 s0 s1 s2 s3 s4
      generalize Z[j] = q at hce0 hce1 hce2 hce3 hce4
      go_wp2
      go_roundw
      case rel => exact ⟨j + 1, y + 5, by go_num, by omega, by have := unhide HY; omega, by go_num, unhide HST, unhide HKP⟩
      case measure => simp [intOf]; omega
    · obtain rfl : j = n := by omega
      have HW := hide s0
      clear s0 hy
      go_wp2
      go_ret
      refine ⟨by rw [← unhide HY]; rfl, ?_, hkp⟩
      have h := unhide HW
      have e := unhide HL
      have e2 := over_all (marksEdge k Q.length) Q (by rw [marksEdge_length])
      rw [e] at e2
      rw [e2] at h
      exact h

end Gr
end Go.Proofs.Ytejfknkcakeakaa
