/-
  Rows of texts: marks.
-/
import Derived.Test.YtldbanpfhlmjmaaGrStrS
import Derived.Test.YtldbanpfhlmjmaaGrBlkS
namespace Go.Proofs.Ytldbanpfhlmjmaa
namespace Gr
open Go.RowKit

set_option maxRecDepth 100000 in
set_option maxHeartbeats 1000000 in
theorem markStrS_gen (v : Value) (B k : Nat) (L : List ByteArray) (h1 : k + L.length ≤ 100000000) (w : World) (ho : StOwn w B v L) :
    Calls Try.prog 13 #[v, .int .i64 (k : Int)] w fun e w' => e = .returned (.int .i64 ((k + L.length : Nat) : Int)) ∧ StOwn w' B v (marksT k L.length) ∧ Kept (StBlk v) w w' := by
  have MT := hide (fun y (hy : y ≤ 1000000000) w => mark_text y hy w)
  obtain ⟨n, hn⟩ : ∃ n, L.length = n := ⟨_, rfl⟩
  have HKL := hide hn
  have ho' : w.ownsRow B 9 1 v n (textsV L) := by rw [← hn]; exact ho
  have hsh := (StOwn.at ho).shape
  rw [hn] at hsh h1 ⊢
  obtain ⟨A, cap, rfl⟩ := hsh
  have HO : Hid (w.ownsRow B 9 1 (.slice A n cap) n (textsV (over (marksT k n) L 0))) := by show World.ownsRow _ _ _ _ _ _ _; rw [over_zero]; exact ho'
  clear ho ho' hn
  go_enter Try.func13, Try.ntmps13
  go_wp2_with fail
  go_loopw [1, 5] (fun a1 a5 wr => ∃ j y : Nat, a5 = .int .i64 j ∧ j ≤ n ∧ y = k + j ∧ a1 = .int .i64 (y : Int) ∧ wr.ownsRow B 9 1 (.slice A n cap) n (textsV (over (marksT k n) L j)) ∧ Kept (fun g => (Value.slice A n cap).ownBlock = some g) w wr) (fun _ a5 _ => n - (intOf a5).toNat)
  case atStart => exact ⟨0, k, rfl, Nat.zero_le _, rfl, rfl, unhide HO, Kept.refl _ _⟩
  case round =>
    obtain ⟨j, y, rfl, hj, hy, rfl, hown, hkp⟩ := hrel
    have HY := hide hy
    have hyl : y ≤ 100000000 := by omega
    clear hy
    by_cases hlt : j < n
    · obtain ⟨g, cap', hA, hBg, hgl⟩ := hown.form (by omega)
      simp at hA
      obtain ⟨rfl, rfl⟩ := hA
      have hx1 : (j : Int) < (n : Int) := by omega
      have hKl := unhide HKL
      have MY := hide (unhide MT y (by omega))
      have hys : mtx y = (marksT k n)[j]'(by rw [marksT_length]; exact hlt) := by rw [marksT_at]; rw [unhide HY]
      have hov := over_set (marksT k n) L j (by rw [marksT_length]; omega) (by omega)
      rw [← hys] at hov
      have HOV := hide hov
      have hlo : (over (marksT k n) L j).length = n := by rw [over_length _ _ _ (by rw [marksT_length]; omega) (by omega)]; omega
      have HLO := hide hlo
      have HOW := hide hown
      have HKP := hide hkp
      generalize mtx y = x at MY HOV
      clear hys hov hlo hown hkp hKl
      go_wp2_with fail
      refine (unhide MY _).mono ?_
      rintro e w2 ⟨rfl, hb2⟩
      have hown := own_below (unhide HOW) hb2
      have hjl : j < (over (marksT k n) L j).length := by have := unhide HLO; omega
      have hce := hown.cellAt j (by have := unhide HLO; omega)
      have hce2 : (textsV (over (marksT k n) L j))[j]? = some (.string (over (marksT k n) L j)[j]) := by simp [textsV, hjl]
      rw [hce2] at hce
      have hfz := hown.frozenAt j
      have hst := (hown.stored j (.string x)).1
      rw [textsV_set, unhide HOV] at hst
      have HST := hide hst
      have HK2 := hide (((unhide HKP).trans (Kept.of_below hb2)).trans (Kept.set w2 g j (.string x) rfl))
      generalize (over (marksT k n) L j)[j] = z at hce
      clear hst hown hce2 hb2
      go_wp2_with fail
      exact ⟨⟨j + 1, y + 1, by go_num, by omega, by have := unhide HY; omega, by go_num, unhide HST, unhide HK2⟩, by simp [intOf]; omega⟩
    · obtain rfl : j = n := by omega
      have HOW := hide hown
      clear hown
      go_wp2
      go_ret
      refine ⟨by rw [← unhide HY]; rfl, ?_, hkp⟩
      have h := unhide HOW
      have e := over_all (marksT k j) L (by rw [marksT_length, unhide HKL])
      rw [unhide HKL] at e
      rw [e] at h
      unfold StOwn
      rw [marksT_length]
      exact h
end Gr
end Go.Proofs.Ytldbanpfhlmjmaa
