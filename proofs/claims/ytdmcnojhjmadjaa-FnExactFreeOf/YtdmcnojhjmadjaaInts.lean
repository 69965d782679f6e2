/-
  The contracts of laws.toIntS, eqIntS and markIntS.
-/
import Derived.Test.YtdmcnojhjmadjaaIntsAt
import Derived.Test.YtdmcnojhjmadjaaMarks
import Derived.Deep.RegionHeld3
namespace Go.Proofs.Ytdmcnojhjmadjaa
open Go.RowKit

theorem info3 : (Try.prog.info? 3).map (fun i => (i.zero, i.size, i.bytes)) = some (some (.int .i64 0), 1, 8) := by kernel_rfl

def intsV (K : List Int) : List Value := K.map (Value.int .i64)

theorem intsV_set (K : List Int) (i : Nat) (x : Int) : (intsV K).set i (.int .i64 x) = intsV (K.set i x) := by simp [intsV, List.map_set]

theorem made_ints (n : Nat) (M : Array Value) (hM : M = madeCells (Value.int .i64 0).cells (n * 1)) : M.toList = intsV (List.replicate n 0) ∧ M.size = n * 1 := by
  constructor
  · rw [hM]
    simp [madeCells, intsV, Value.cells]
    refine List.eq_replicate_iff.2 ⟨by simp, fun b hb => ?_⟩
    obtain ⟨x, _, rfl⟩ := List.mem_map.1 hb
    simp [Nat.mod_one]
  · rw [hM, size_madeCells]

set_option maxRecDepth 100000 in
set_option maxHeartbeats 1000000 in
theorem toInts_any (a : Option Addr) (len cap B : Nat) (L : List Int) (hlen : len ≤ 1048576) (w : World) (hB : B ≤ w.heap.size) (hs : IntsAt w a len B L) :
    Calls Try.prog 23 #[.slice a len cap] w fun e w' => (∃ v, e = .returned v ∧ w'.ownsRow w.heap.size 3 1 v len (intsV L)) ∧ Below w.heap.size w w' := by
  obtain ⟨hL, hc⟩ := hs
  obtain ⟨i0, hi, hz0, hz1, hz2⟩ := info_parts info3
  obtain ⟨M, hM⟩ : ∃ M, M = madeCells (Value.int .i64 0).cells (len * i0.size) := ⟨_, rfl⟩
  have hMM := made_ints len M (by rw [hM, hz1])
  have hmk : ∀ W : World, (Instr.makeSlice 44 (.int .i64 (len : Int)) (.int .i64 (len : Int))).run Try.prog W = .ok (.slice (some ⟨W.heap.size, 0, none⟩) len len) (W.alloc (.cells M 3)) := fun W => by
    have h := run_make (P := Try.prog) W 44 3 i0 (.int .i64 0) Try.underlying44 hi hz0 .i64 .i64 (len : Int) (len : Int) (by omega) (by omega) (by rw [hz2]; omega) (by omega)
    rw [Int.toNat_natCast, ← hM] at h
    simpa using h
  have hown0 : (w.alloc (.cells M 3)).ownsRow w.heap.size 3 1 (.slice (some ⟨w.heap.size, 0, none⟩) len len) len (intsV (part L 0 0)) :=
    ⟨by simp [intsV, part]; omega, .inr ⟨w.heap.size, len, M, rfl, Nat.le_refl _, heap_alloc_new w _, Nat.le_refl _, by unfold maxLen; omega, hMM.2, by rw [hMM.1, part_zero, hL, Nat.mul_one, List.take_of_length_le (by simp [intsV])]⟩⟩
  have HO0 := hide hown0
  have HC := hide hc
  have HL := hide hL
  clear hM hMM hown0 hc hL
  go_enter Try.func23, Try.ntmps23
  go_wp2_with fail
  go_loopw [4] (fun a4 wr => ∃ k : Nat, a4 = .int .i64 k ∧ k ≤ len ∧ wr.ownsRow w.heap.size 3 1 (.slice (some ⟨w.heap.size, 0, none⟩) len len) len (intsV (part L 0 k)) ∧ Below w.heap.size w wr) (fun a4 _ => len - (intOf a4).toNat)
  case atStart => exact ⟨0, rfl, Nat.zero_le _, unhide HO0, (Below.refl _ _).alloc (Nat.le_refl _) _⟩
  case round =>
    obtain ⟨k, rfl, hk, hown, hb⟩ := hrel
    by_cases hlt : k < len
    · have hkL : k < L.length := by have := unhide HL; omega
      obtain ⟨b, off, rfl, hbB, hcell⟩ := unhide HC k hkL
      rw [← hb.cell (p := ⟨b, off + k, none⟩) (by simp; omega)] at hcell
      have hfz := hown.frozenAt k
      obtain ⟨u, hce⟩ : ∃ u, wr.cell? ⟨w.heap.size, k, none⟩ = some (.int .i64 u) := by
        have hkp : k < (part L 0 k).length := by rw [part_length _ _ _ (by omega)]; omega
        exact ⟨(part L 0 k)[k], by rw [hown.cellAt k (by omega)]; simp [intsV, hkp]⟩
      have hst := (hown.stored k (.int .i64 L[k])).1
      rw [intsV_set, part_set L _ k hkL] at hst
      have HST := hide hst
      have hx0 : (0 : Int) ≤ (k : Int) := by omega
      have hx1 : (k : Int) < (len : Int) := by omega
      generalize L[k] = s at hcell HST
      clear hst hown
      go_wp2
      go_roundw
      case rel => exact ⟨k + 1, by go_num, by omega, unhide HST, hb.setCell (p := ⟨w.heap.size, k, none⟩) (Nat.le_refl _) _⟩
      case measure => simp [intOf]; omega
    · obtain rfl : k = len := by omega
      have HO := hide hown
      clear hown
      go_wp2
      go_ret
      refine ⟨⟨_, rfl, ?_⟩, hb⟩
      have h := unhide HO
      have e := unhide HL
      subst e
      rw [part_all] at h
      exact h

theorem IntsAt.of_own {w : World} {B : Nat} {v : Value} {n : Nat} {K : List Int} (h : w.ownsRow B 3 1 v n (intsV K)) : ∃ a c, v = .slice a n c ∧ IntsAt w a n w.heap.size K := by
  have hl : K.length = n := by have := h.1; simp [intsV] at this; omega
  rcases h.2 with ⟨rfl, h0⟩ | ⟨g, cap, cur, rfl, hg, hh, _⟩
  · subst h0
    exact ⟨none, 0, rfl, hl, fun j hj => by omega⟩
  · refine ⟨_, _, rfl, hl, fun j hj => ⟨g, 0, rfl, (h.lt g rfl).2, ?_⟩⟩
    rw [Nat.zero_add, h.cellAt j (by omega)]
    simp [intsV, hj]

set_option maxRecDepth 100000 in
set_option maxHeartbeats 1000000 in
theorem eqInts_same (a a' : Option Addr) (len c c' B B' : Nat) (L : List Int) (hlen : len ≤ 1048576) (w : World) (hB : B ≤ w.heap.size) (hB' : B' ≤ w.heap.size) (hs : IntsAt w a len B L) (hs' : IntsAt w a' len B' L) :
    Calls Try.prog 25 #[.slice a len c, .slice a' len c'] w fun e w' => e = .returned (.bool true) ∧ Below w.heap.size w w' := by
  obtain ⟨hL, hc⟩ := hs
  obtain ⟨_, hc'⟩ := hs'
  have HC := hide hc
  have HC' := hide hc'
  have HL := hide hL
  clear hc hc' hL
  go_enter Try.func25, Try.ntmps25
  go_wp2_with fail
  go_loopw [5] (fun i wr => ∃ k : Nat, i = .int .i64 k ∧ k ≤ len ∧ Below w.heap.size w wr) (fun i _ => len - (intOf i).toNat)
  case atStart => exact ⟨0, rfl, Nat.zero_le _, Below.refl _ _⟩
  case round =>
    obtain ⟨k, rfl, hk, hb⟩ := hrel
    by_cases hlt : k < len
    · have hkL : k < L.length := by have := unhide HL; omega
      obtain ⟨b, off, rfl, hbB, hcell⟩ := unhide HC k hkL
      obtain ⟨b', off', rfl, hbB', hcell'⟩ := unhide HC' k hkL
      rw [← hb.cell (p := ⟨b, off + k, none⟩) (by simp; omega)] at hcell
      rw [← hb.cell (p := ⟨b', off' + k, none⟩) (by simp; omega)] at hcell'
      have hx0 : (0 : Int) ≤ (k : Int) := by omega
      have hx1 : (k : Int) < (len : Int) := by omega
      generalize L[k] = s at hcell hcell'
      go_wp2_with fail
      go_quiet (fail)
      go_wp2
      go_roundw
      case rel => exact ⟨k + 1, by go_num, by omega, below_drewN hb _⟩
      case measure => simp [intOf]; omega
    · go_wp2
      go_ret
      exact ⟨rfl, hb⟩

set_option maxRecDepth 100000 in
set_option maxHeartbeats 1000000 in
theorem markInts_any (v : Value) (B n k : Nat) (K : List Int) (h1 : k + n ≤ 100000000) (w : World) (ho : w.ownsRow B 3 1 v n (intsV K)) :
    Calls Try.prog 28 #[v, .int .i64 (k : Int)] w fun e w' => e = .returned (.int .i64 ((k + n : Nat) : Int)) ∧ Kept (fun g => v.ownBlock = some g) w w' := by
  obtain ⟨A, cap, rfl, _⟩ := IntsAt.of_own ho
  have HO : Hid (∃ K, w.ownsRow B 3 1 (.slice A n cap) n (intsV K)) := ⟨K, ho⟩
  clear ho
  go_enter Try.func28, Try.ntmps28
  go_wp2_with fail
  go_loopw [1, 5] (fun a1 a5 wr => ∃ j y : Nat, a5 = .int .i64 j ∧ j ≤ n ∧ y = k + j ∧ a1 = .int .i64 (y : Int) ∧ (∃ K, wr.ownsRow B 3 1 (.slice A n cap) n (intsV K)) ∧ Kept (fun g => (Value.slice A n cap).ownBlock = some g) w wr) (fun _ a5 _ => n - (intOf a5).toNat)
  case atStart => exact ⟨0, k, rfl, Nat.zero_le _, rfl, rfl, unhide HO, Kept.refl _ _⟩
  case round =>
    obtain ⟨j, y, rfl, hj, hy, rfl, ⟨K1, hown⟩, hkp⟩ := hrel
    have HY := hide hy
    have hyl : (y : Int) ≤ 100000000 := by omega
    clear hy
    by_cases hlt : j < n
    · obtain ⟨g, cap', hA, hBg, hgl⟩ := hown.form (by omega)
      simp at hA
      obtain ⟨rfl, rfl⟩ := hA
      have hx0 : (0 : Int) ≤ (j : Int) := by omega
      have hx1 : (j : Int) < (n : Int) := by omega
      have hl : K1.length = n := by have := hown.1; simp [intsV] at this; omega
      have hjl : j < K1.length := by omega
      have hce := hown.cellAt j (by omega)
      have hce2 : (intsV K1)[j]? = some (.int .i64 K1[j]) := by simp [intsV, hjl]
      rw [hce2] at hce
      have hfz := hown.frozenAt j
      have hst := (hown.stored j (.int .i64 (y : Int))).1
      rw [intsV_set] at hst
      have HST : Hid (∃ K, World.ownsRow _ B 3 1 (.slice (some ⟨g, 0, none⟩) n cap) n (intsV K)) := ⟨_, hst⟩
      have HKP := hide (hkp.trans (Kept.set wr g j (.int .i64 (y : Int)) rfl))
      generalize K1[j] = z at hce
      clear hst hown hce2 hkp hl hjl
      go_wp2
      go_roundw
      case rel => exact ⟨j + 1, y + 1, by go_num, by omega, by have := unhide HY; omega, by go_num, unhide HST, unhide HKP⟩
      case measure => simp [intOf]; omega
    · obtain rfl : j = n := by omega
      clear hown
      go_wp2
      go_ret
      exact ⟨by rw [← unhide HY]; rfl, hkp⟩
end Go.Proofs.Ytdmcnojhjmadjaa
