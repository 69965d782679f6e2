/-
  The contracts of spec.l04Sum and spec.PageText.
-/
import Derived.Test.YtajajfmaekdphaaPgEq
import Derived.Deep.DeepCutAuto
namespace Go.Proofs.Ytajajfmaekdphaa
open Go.RowKit

theorem sizeTo_bd (k : Int) (Q : List It) (hsm : ∀ x ∈ Q, x.key.size ≤ 1048576 ∧ x.val.size ≤ 1048576) (n : Nat) (h : n ≤ Q.length) : sizeTo k Q n ≤ n * 3000000 := by
  induction n with
  | zero => rw [sizeTo_zero]; exact Nat.zero_le _
  | succ n ih =>
    have h1 := ih (by omega)
    have h2 := sizeTo_succ k Q n (by omega)
    have h3 := itSize_le k Q[n]
    have h4 := hsm _ (List.getElem_mem (show n < Q.length by omega))
    omega

set_option maxRecDepth 100000 in
set_option maxHeartbeats 1000000 in
theorem specSum4_any (k : Int) (a : Option Addr) (len cap B : Nat) (Q : List It) (hlen : len ≤ 1000) (hsm : ∀ x ∈ Q, x.key.size ≤ 1048576 ∧ x.val.size ≤ 1048576) (w : World) (hB : B ≤ w.heap.size) (hs : ItemsAt w a len B Q) :
    Calls Try.prog 34 #[.int .i64 k, .slice a len cap] w fun e w' => e = .returned (.int .i64 ((sizeTo k Q len : Nat) : Int)) ∧ Below w.heap.size w w' := by
  obtain ⟨hL, hc⟩ := hs
  have HC := hide hc
  have HL := hide hL
  have HSM := hide hsm
  clear hc hL hsm
  go_enter Try.func34, Try.ntmps34
  go_wp2_with fail
  go_loopw [5, 6] (fun n i wr => ∃ (j y : Nat), i = .int .i64 j ∧ j ≤ len ∧ y = sizeTo k Q j ∧ n = .int .i64 (y : Int) ∧ Below w.heap.size w wr) (fun _ i _ => len - (intOf i).toNat)
  case atStart => exact ⟨0, 0, rfl, Nat.zero_le _, (sizeTo_zero _ _).symm, rfl, Below.refl _ _⟩
  case round =>
    obtain ⟨j, y, rfl, hj, hye, rfl, hb⟩ := hrel
    have HYE := hide hye
    by_cases hlt : j < len
    · have hjL : j < Q.length := by have := unhide HL; omega
      obtain ⟨b, off, rfl, hbB, hc0, hc1, hc2⟩ := unhide HC j hjL
      rw [← hb.cell (p := ⟨b, off + j * 3, none⟩) (by simp; omega)] at hc0
      rw [← hb.cell (p := ⟨b, off + j * 3 + 1, none⟩) (by simp; omega)] at hc1
      rw [← hb.cell (p := ⟨b, off + j * 3 + 2, none⟩) (by simp; omega)] at hc2
      have hx0 : (0 : Int) ≤ (j : Int) := by omega
      have hx1 : (j : Int) < (len : Int) := by omega
      have HSS := hide (sizeTo_succ k Q j hjL)
      have hsm := unhide HSM
      have HZ := hide (fun w => specSize_any k Q[j] (hsm _ (List.getElem_mem hjL)).1 (hsm _ (List.getElem_mem hjL)).2 w)
      have hzl := itSize_le k Q[j]
      have hz1 := hsm _ (List.getElem_mem hjL)
      have hz2 : itSize k Q[j] ≤ 3000000 := by omega
      have hy2 := sizeTo_bd k Q hsm j (by omega)
      have hy3 : y ≤ 3000000000 := by omega
      generalize Q[j] = q at hc0 hc1 hc2 HSS HZ hz2
      generalize itSize k q = z at HSS HZ hz2
      obtain ⟨s, t, p⟩ := q
      simp only [itV] at hc0 hc1 hc2 HZ
      clear hzl hz1 hsm hy2 hye
      go_wp2_with fail
      refine (unhide HZ _).mono ?_
      rintro e w3 ⟨rfl, hb3⟩
      have hbe3 := hb.trans (hb3.mono hb.size)
      clear hb3 hb hc0 hc1 hc2
      go_wp2
      go_roundw
      case rel => exact ⟨j + 1, y + z, by go_num, by omega, by rw [unhide HSS, ← unhide HYE], by go_num, hbe3⟩
      case measure => simp [intOf]; omega
    · obtain rfl : j = len := by omega
      clear hye
      go_wp2
      go_ret
      exact ⟨by rw [← unhide HYE]; rfl, hb⟩

theorem bad_kind {k : Int} {Q : List It} (h1 : k ≠ 1) (h2 : k ≠ 2) : ¬ PageOk k Q := fun h => by rcases h.1 with e | e <;> omega

set_option maxRecDepth 100000 in
theorem specPage_kind (v : Value) (B : Nat) (k : Int) (Q : List It) (h1 : k ≠ 1) (h2 : k ≠ 2) (w : World) (hv : PageAt w v B k Q) :
    Calls Try.prog 11 #[v] w fun e w' => e = .returned (.tuple #[.string ⟨#[]⟩, .bool false]) ∧ Below w.heap.size w w' := by
  obtain ⟨a, n, c, rfl, hQ⟩ := hv
  have hd : (decide ((1 : Int) ≤ k) && decide (k ≤ 2)) = false := by simp; omega
  have HI := hide (l01In_any k 1 2)
  rw [hd] at HI
  clear hQ h1 h2 hd
  go_enter Try.func11, Try.ntmps11
  go_wp2_with fail
  refine (unhide HI _).mono ?_
  rintro e w0 ⟨rfl, rfl⟩
  go_wp2
  go_ret2
  exact ⟨rfl, below_new _ _⟩

set_option maxRecDepth 100000 in
theorem specPage_len (v : Value) (B : Nat) (k : Int) (Q : List It) (hk : k = 1 ∨ k = 2) (hl : Q.length ≤ 1048576) (h : Q.length = 0 ∨ 54 < Q.length) (w : World) (hv : PageAt w v B k Q) :
    Calls Try.prog 11 #[v] w fun e w' => e = .returned (.tuple #[.string ⟨#[]⟩, .bool false]) ∧ Below w.heap.size w w' := by
  obtain ⟨a, n, c, rfl, hQ⟩ := hv
  have hd : (decide ((1 : Int) ≤ k) && decide (k ≤ 2)) = true := by simp; omega
  have HI := hide (l01In_any k 1 2)
  rw [hd] at HI
  have hn := hQ.1
  have h' : (n : Int) = 0 ∨ (54 : Int) < (n : Int) := by omega
  clear hQ hk hd h
  rcases h' with h | h
  · have h0 : ((n : Int) == 0) = true := by simp [h]
    go_enter Try.func11, Try.ntmps11
    go_wp2_with fail
    refine (unhide HI _).mono ?_
    rintro e w0 ⟨rfl, rfl⟩
    go_wp2
    go_ret2
    exact ⟨rfl, below_new _ _⟩
  · have h0 : ((n : Int) == 0) = false := by simp; omega
    go_enter Try.func11, Try.ntmps11
    go_wp2_with fail
    refine (unhide HI _).mono ?_
    rintro e w0 ⟨rfl, rfl⟩
    go_wp2
    go_ret2
    exact ⟨rfl, below_new _ _⟩

set_option maxRecDepth 100000 in
set_option maxHeartbeats 1000000 in
theorem specPage_sum (v : Value) (B : Nat) (k : Int) (Q : List It) (hk : k = 1 ∨ k = 2) (hl : 0 < Q.length ∧ Q.length ≤ 54) (hsm : ∀ x ∈ Q, x.key.size ≤ 1048576 ∧ x.val.size ≤ 1048576) (h : 54 < sizeTo k Q Q.length) (w : World) (hB : B ≤ w.heap.size) (hv : PageAt w v B k Q) :
    Calls Try.prog 11 #[v] w fun e w' => e = .returned (.tuple #[.string ⟨#[]⟩, .bool false]) ∧ Below w.heap.size w w' := by
  obtain ⟨a, n, c, rfl, hQ⟩ := hv
  have hd : (decide ((1 : Int) ≤ k) && decide (k ≤ 2)) = true := by simp; omega
  have HI := hide (l01In_any k 1 2)
  rw [hd] at HI
  obtain rfl : n = Q.length := hQ.1.symm
  have HS := hide (fun w1 (hb : Below w.heap.size w w1) => specSum4_any k a Q.length c B Q (by omega) hsm w1 (by have := hb.size; omega) (hQ.below hb hB))
  have hz := sizeTo_bd k Q hsm Q.length (Nat.le_refl _)
  have hz2 : sizeTo k Q Q.length ≤ 200000000 := by omega
  generalize sizeTo k Q Q.length = z at HS h hz2
  generalize Q.length = n at HS hl
  have h0 : ((n : Int) == 0) = false := by simp; omega
  have h5 : ¬ (54 : Int) < (n : Int) := by omega
  have h6 : (54 : Int) < (z : Int) := by omega
  clear hQ hk hd hz hsm h hl
  have hb1 := below_new w (Obj.cells #[Value.int .i64 k, Value.slice a n c] 26)
  go_enter Try.func11, Try.ntmps11
  go_wp2_with fail
  refine (unhide HI _).mono ?_
  rintro e w0 ⟨rfl, rfl⟩
  go_wp2_with fail
  refine (unhide HS _ hb1).mono ?_
  rintro e w2 ⟨rfl, hb2⟩
  have hc2 : Below w.heap.size w w2 := hb1.trans (hb2.mono hb1.size)
  clear hb1 hb2
  go_wp2
  go_ret2
  exact ⟨rfl, hc2⟩
end Go.Proofs.Ytajajfmaekdphaa
