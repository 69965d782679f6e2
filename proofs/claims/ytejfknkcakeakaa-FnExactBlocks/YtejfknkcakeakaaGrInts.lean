/-
  Rows of numbers: what the laws do with them (the texts of Ints, TrInts and IntsOpen, over the base of graphs).
-/
import Derived.Test.YtejfknkcakeakaaGrBase
import Derived.Test.YtejfknkcakeakaaIntsAt
import Derived.Deep.RegionHeld3
import Derived.Lib.SmallJoins
import Derived.SliceStrings
import Derived.ShutString
namespace Go.Proofs.Ytejfknkcakeakaa
namespace Gr
open Go.ChangeShapes Go.WideShapes Go.ChangeAt Go.RowKit

theorem info3 : (Try.prog.info? 3).map (fun i => (i.zero, i.size, i.bytes)) = some (some (.int .i64 0), 1, 8) := by kernel_rfl

def intsV (K : List Int) : List Value := K.map (Value.int .i64)

theorem intsV_set (K : List Int) (i : Nat) (x : Int) : (intsV K).set i (.int .i64 x) = intsV (K.set i x) := by simp [intsV, List.map_set]

theorem made_ints (n : Nat) (M : Array Value) (hM : M = madeCells (Value.int .i64 0).cells (n * 1)) : M.toList = intsV (List.replicate n 0) ∧ M.size = n * 1 := by
  constructor
  · rw [hM]
    simp [madeCells, intsV, Value.cells]
    refine List.eq_replicate_iff.2 ⟨by simp, fun b hb => ?_⟩
    obtain ⟨x, _, rfl⟩ := List.mem_map.1 hb
    simp [Nat.mod_one]
  · rw [hM, size_madeCells]

set_option maxRecDepth 100000 in
set_option maxHeartbeats 1000000 in
theorem toInts_any (a : Option Addr) (len cap B : Nat) (L : List Int) (hlen : len ≤ 1048576) (w : World) (hB : B ≤ w.heap.size) (hs : IntsAt w a len B L) :
    Calls Try.prog 20 #[.slice a len cap] w fun e w' => (∃ v, e = .returned v ∧ w'.ownsRow w.heap.size 3 1 v len (intsV L)) ∧ Below w.heap.size w w' := by
  obtain ⟨hL, hc⟩ := hs
  obtain ⟨i0, hi, hz0, hz1, hz2⟩ := info_parts info3
  obtain ⟨M, hM⟩ : ∃ M, M = madeCells (Value.int .i64 0).cells (len * i0.size) := ⟨_, rfl⟩
  have hMM := made_ints len M (by rw [hM, hz1])
  have hmk : ∀ W : World, (Instr.makeSlice 26 (.int .i64 (len : Int)) (.int .i64 (len : Int))).run Try.prog W = .ok (.slice (some ⟨W.heap.size, 0, none⟩) len len) (W.alloc (.cells M 3)) := fun W => by
    have h := run_make (P := Try.prog) W 26 3 i0 (.int .i64 0) Try.underlying26 hi hz0 .i64 .i64 (len : Int) (len : Int) (by omega) (by omega) (by rw [hz2]; omega) (by omega)
    rw [Int.toNat_natCast, ← hM] at h
    simpa using h
  have hown0 : (w.alloc (.cells M 3)).ownsRow w.heap.size 3 1 (.slice (some ⟨w.heap.size, 0, none⟩) len len) len (intsV (part L 0 0)) :=
    ⟨by simp [intsV, part]; omega, .inr ⟨w.heap.size, len, M, rfl, Nat.le_refl _, heap_alloc_new w _, Nat.le_refl _, by unfold maxLen; omega, hMM.2, by rw [hMM.1, part_zero, hL, Nat.mul_one, List.take_of_length_le (by simp [intsV])]⟩⟩
  have HO0 := hide hown0
  have HC := hide hc
  have HL := hide hL
  clear hM hMM hown0 hc hL
  go_enter Try.func20, Try.ntmps20
  go_wp2_with fail
  go_loopw [4] (fun a4 wr => ∃ k : Nat, a4 = .int .i64 k ∧ k ≤ len ∧ wr.ownsRow w.heap.size 3 1 (.slice (some ⟨w.heap.size, 0, none⟩) len len) len (intsV (part L 0 k)) ∧ Below w.heap.size w wr) (fun a4 _ => len - (intOf a4).toNat)
  case atStart => exact ⟨0, rfl, Nat.zero_le _, unhide HO0, (Below.refl _ _).alloc (Nat.le_refl _) _⟩
  case round =>
    obtain ⟨k, rfl, hk, hown, hb⟩ := hrel
    by_cases hlt : k < len
    · have hkL : k < L.length := by have := unhide HL; omega
      obtain ⟨b, off, rfl, hbB, hcell⟩ := unhide HC k hkL
      rw [← hb.cell (p := ⟨b, off + k, none⟩) (by simp; omega)] at hcell
      have hfz := hown.frozenAt k
      obtain ⟨u, hce⟩ : ∃ u, wr.cell? ⟨w.heap.size, k, none⟩ = some (.int .i64 u) := by
        have hkp : k < (part L 0 k).length := by rw [part_length _ _ _ (by omega)]; omega
        exact ⟨(part L 0 k)[k], by rw [hown.cellAt k (by omega)]; simp [intsV, hkp]⟩
      have hst := (hown.stored k (.int .i64 L[k])).1
      rw [intsV_set, part_set L _ k hkL] at hst
      have HST := hide hst
      have hx0 : (0 : Int) ≤ (k : Int) := by omega
      have hx1 : (k : Int) < (len : Int) := by omega
      generalize L[k] = s at hcell HST
      clear hst hown
      go_wp2
      go_roundw
      case rel => exact ⟨k + 1, by go_num, by omega, unhide HST, hb.setCell (p := ⟨w.heap.size, k, none⟩) (Nat.le_refl _) _⟩
      case measure => simp [intOf]; omega
    · obtain rfl : k = len := by omega
      have HO := hide hown
      clear hown
      go_wp2
      go_ret
      refine ⟨⟨_, rfl, ?_⟩, hb⟩
      have h := unhide HO
      have e := unhide HL
      subst e
      rw [part_all] at h
      exact h

theorem intsAt_of_own {w : World} {B : Nat} {v : Value} {n : Nat} {K : List Int} (h : w.ownsRow B 3 1 v n (intsV K)) : ∃ a c, v = .slice a n c ∧ IntsAt w a n w.heap.size K := by
  have hl : K.length = n := by have := h.1; simp [intsV] at this; omega
  rcases h.2 with ⟨rfl, h0⟩ | ⟨g, cap, cur, rfl, hg, hh, _⟩
  · subst h0
    exact ⟨none, 0, rfl, hl, fun j hj => by omega⟩
  · refine ⟨_, _, rfl, hl, fun j hj => ⟨g, 0, rfl, (h.lt g rfl).2, ?_⟩⟩
    rw [Nat.zero_add, h.cellAt j (by omega)]
    simp [intsV, hj]

set_option maxRecDepth 100000 in
set_option maxHeartbeats 1000000 in
theorem eqInts_same (a a' : Option Addr) (len c c' B B' : Nat) (L : List Int) (hlen : len ≤ 1048576) (w : World) (hB : B ≤ w.heap.size) (hB' : B' ≤ w.heap.size) (hs : IntsAt w a len B L) (hs' : IntsAt w a' len B' L) :
    Calls Try.prog 14 #[.slice a len c, .slice a' len c'] w fun e w' => e = .returned (.bool true) ∧ Below w.heap.size w w' := by
  obtain ⟨hL, hc⟩ := hs
  obtain ⟨_, hc'⟩ := hs'
  have HC := hide hc
  have HC' := hide hc'
  have HL := hide hL
  clear hc hc' hL
  go_enter Try.func14, Try.ntmps14
  go_wp2_with fail
  go_loopw [5] (fun i wr => ∃ k : Nat, i = .int .i64 k ∧ k ≤ len ∧ Below w.heap.size w wr) (fun i _ => len - (intOf i).toNat)
  case atStart => exact ⟨0, rfl, Nat.zero_le _, Below.refl _ _⟩
  case round =>
    obtain ⟨k, rfl, hk, hb⟩ := hrel
    by_cases hlt : k < len
    · have hkL : k < L.length := by have := unhide HL; omega
      obtain ⟨b, off, rfl, hbB, hcell⟩ := unhide HC k hkL
      obtain ⟨b', off', rfl, hbB', hcell'⟩ := unhide HC' k hkL
      rw [← hb.cell (p := ⟨b, off + k, none⟩) (by simp; omega)] at hcell
      rw [← hb.cell (p := ⟨b', off' + k, none⟩) (by simp; omega)] at hcell'
      have hx0 : (0 : Int) ≤ (k : Int) := by omega
      have hx1 : (k : Int) < (len : Int) := by omega
      generalize L[k] = s at hcell hcell'
      go_wp2_with fail
      go_quiet (fail)
      go_wp2
      go_roundw
      case rel => exact ⟨k + 1, by go_num, by omega, below_drewN hb _⟩
      case measure => simp [intOf]; omega
    · go_wp2
      go_ret
      exact ⟨rfl, hb⟩

set_option maxRecDepth 100000 in
set_option maxHeartbeats 1000000 in
theorem markInts_any (v : Value) (B n k : Nat) (K : List Int) (h1 : k + n ≤ 100000000) (w : World) (ho : w.ownsRow B 3 1 v n (intsV K)) :
    Calls Try.prog 17 #[v, .int .i64 (k : Int)] w fun e w' => e = .returned (.int .i64 ((k + n : Nat) : Int)) ∧ Kept (fun g => v.ownBlock = some g) w w' := by
  obtain ⟨A, cap, rfl, _⟩ := intsAt_of_own ho
  have HO : Hid (∃ K, w.ownsRow B 3 1 (.slice A n cap) n (intsV K)) := ⟨K, ho⟩
  clear ho
  go_enter Try.func17, Try.ntmps17
  go_wp2_with fail
  go_loopw [1, 5] (fun a1 a5 wr => ∃ j y : Nat, a5 = .int .i64 j ∧ j ≤ n ∧ y = k + j ∧ a1 = .int .i64 (y : Int) ∧ (∃ K, wr.ownsRow B 3 1 (.slice A n cap) n (intsV K)) ∧ Kept (fun g => (Value.slice A n cap).ownBlock = some g) w wr) (fun _ a5 _ => n - (intOf a5).toNat)
  case atStart => exact ⟨0, k, rfl, Nat.zero_le _, rfl, rfl, unhide HO, Kept.refl _ _⟩
  case round =>
    obtain ⟨j, y, rfl, hj, hy, rfl, ⟨K1, hown⟩, hkp⟩ := hrel
    have HY := hide hy
    have hyl : (y : Int) ≤ 100000000 := by omega
    clear hy
    by_cases hlt : j < n
    · obtain ⟨g, cap', hA, hBg, hgl⟩ := hown.form (by omega)
      simp at hA
      obtain ⟨rfl, rfl⟩ := hA
      have hx0 : (0 : Int) ≤ (j : Int) := by omega
      have hx1 : (j : Int) < (n : Int) := by omega
      have hl : K1.length = n := by have := hown.1; simp [intsV] at this; omega
      have hjl : j < K1.length := by omega
      have hce := hown.cellAt j (by omega)
      have hce2 : (intsV K1)[j]? = some (.int .i64 K1[j]) := by simp [intsV, hjl]
      rw [hce2] at hce
      have hfz := hown.frozenAt j
      have hst := (hown.stored j (.int .i64 (y : Int))).1
      rw [intsV_set] at hst
      have HST : Hid (∃ K, World.ownsRow _ B 3 1 (.slice (some ⟨g, 0, none⟩) n cap) n (intsV K)) := ⟨_, hst⟩
      have HKP := hide (hkp.trans (Kept.set wr g j (.int .i64 (y : Int)) rfl))
      generalize K1[j] = z at hce
      clear hst hown hce2 hkp hl hjl
      go_wp2
      go_roundw
      case rel => exact ⟨j + 1, y + 1, by go_num, by omega, by have := unhide HY; omega, by go_num, unhide HST, unhide HKP⟩
      case measure => simp [intOf]; omega
    · obtain rfl : j = n := by omega
      clear hown
      go_wp2
      go_ret
      exact ⟨by rw [← unhide HY]; rfl, hkp⟩

/-- The marks of n numbers from k on. -/
def marksN (k n : Nat) : List Int := (List.range n).map fun i => ((k + i : Nat) : Int)

theorem marksN_length (k n : Nat) : (marksN k n).length = n := by simp [marksN]
theorem marksN_at (k n i : Nat) (h : i < (marksN k n).length) : (marksN k n)[i] = ((k + i : Nat) : Int) := by simp [marksN]

set_option maxRecDepth 100000 in
set_option maxHeartbeats 1000000 in
theorem markInts_to (v : Value) (B n k : Nat) (K : List Int) (h1 : k + n ≤ 100000000) (w : World) (ho : w.ownsRow B 3 1 v n (intsV K)) :
    Calls Try.prog 17 #[v, .int .i64 (k : Int)] w fun e w' => e = .returned (.int .i64 ((k + n : Nat) : Int)) ∧ w'.ownsRow B 3 1 v n (intsV (marksN k n)) ∧ Kept (fun g => v.ownBlock = some g) w w' := by
  obtain ⟨A, cap, rfl, _⟩ := intsAt_of_own ho
  have hKl : K.length = n := by have := ho.1; simp [intsV] at this; omega
  have HO : Hid (w.ownsRow B 3 1 (.slice A n cap) n (intsV (over (marksN k n) K 0))) := by show World.ownsRow _ _ _ _ _ _ _; rw [over_zero]; exact ho
  have HKL := hide hKl
  clear ho hKl
  go_enter Try.func17, Try.ntmps17
  go_wp2_with fail
  go_loopw [1, 5] (fun a1 a5 wr => ∃ j y : Nat, a5 = .int .i64 j ∧ j ≤ n ∧ y = k + j ∧ a1 = .int .i64 (y : Int) ∧ wr.ownsRow B 3 1 (.slice A n cap) n (intsV (over (marksN k n) K j)) ∧ Kept (fun g => (Value.slice A n cap).ownBlock = some g) w wr) (fun _ a5 _ => n - (intOf a5).toNat)
  case atStart => exact ⟨0, k, rfl, Nat.zero_le _, rfl, rfl, unhide HO, Kept.refl _ _⟩
  case round =>
    obtain ⟨j, y, rfl, hj, hy, rfl, hown, hkp⟩ := hrel
    have HY := hide hy
    have hyl : (y : Int) ≤ 100000000 := by omega
    clear hy
    by_cases hlt : j < n
    · obtain ⟨g, cap', hA, hBg, hgl⟩ := hown.form (by omega)
      simp at hA
      obtain ⟨rfl, rfl⟩ := hA
      have hx0 : (0 : Int) ≤ (j : Int) := by omega
      have hx1 : (j : Int) < (n : Int) := by omega
      have hKl := unhide HKL
      have hlo : (over (marksN k n) K j).length = n := by rw [over_length _ _ _ (by rw [marksN_length]; omega) (by omega)]; omega
      have hce := hown.cellAt j (by omega)
      have hjl : j < (over (marksN k n) K j).length := by omega
      have hce2 : (intsV (over (marksN k n) K j))[j]? = some (.int .i64 (over (marksN k n) K j)[j]) := by simp [intsV, hjl]
      rw [hce2] at hce
      have hfz := hown.frozenAt j
      have hst := (hown.stored j (.int .i64 (y : Int))).1
      have hys : (y : Int) = (marksN k n)[j]'(by rw [marksN_length]; exact hlt) := by rw [marksN_at]; rw [unhide HY]
      have hov := over_set (marksN k n) K j (by rw [marksN_length]; omega) (by omega)
      rw [intsV_set, hys, hov, ← hys] at hst
      have HST := hide hst
      have HKP := hide (hkp.trans (Kept.set wr g j (.int .i64 (y : Int)) rfl))
      generalize (over (marksN k n) K j)[j] = z at hce
      clear hst hown hce2 hkp hlo hjl hys hov hKl
      go_wp2
      go_roundw
      case rel => exact ⟨j + 1, y + 1, by go_num, by omega, by have := unhide HY; omega, by go_num, unhide HST, unhide HKP⟩
      case measure => simp [intOf]; omega
    · obtain rfl : j = n := by omega
      have HOW := hide hown
      clear hown
      go_wp2
      go_ret
      refine ⟨by rw [← unhide HY]; rfl, ?_, hkp⟩
      have h := unhide HOW
      have e := over_all (marksN k j) K (by rw [marksN_length, unhide HKL])
      rw [unhide HKL] at e
      rw [e] at h
      exact h

set_option maxRecDepth 100000 in
set_option maxHeartbeats 1000000 in
theorem heldInts_any (A : Option Addr) (n cap B k : Nat) (h1 : k + n ≤ 100000000) (w : World) (hs : IntsAt w A n B (marksN k n)) :
    Calls Try.prog 18 #[.slice A n cap, .int .i64 (k : Int)] w fun e w' => e = .returned (.int .i64 ((k + n : Nat) : Int)) ∧ w' = w := by
  have HC := hide hs.2
  clear hs
  go_enter Try.func18, Try.ntmps18
  go_wp2_with fail
  go_loop [1, 5] (fun a1 a5 => ∃ j y : Nat, a5 = .int .i64 j ∧ j ≤ n ∧ Hid (y = k + j) ∧ y ≤ 100000000 ∧ a1 = .int .i64 (y : Int)) (fun _ a5 => n - (intOf a5).toNat)
  case atStart => exact ⟨0, k, rfl, Nat.zero_le _, rfl, by omega, rfl⟩
  case round =>
    obtain ⟨j, y, rfl, hj, HY, hyl, rfl⟩ := hrel
    by_cases hlt : j < n
    · have hjm : j < (marksN k n).length := by rw [marksN_length]; exact hlt
      obtain ⟨b, off, rfl, hbB, hcell⟩ := unhide HC j hjm
      rw [marksN_at k n j hjm, ← unhide HY] at hcell
      have hx0 : (0 : Int) ≤ (j : Int) := by omega
      have hx1 : (j : Int) < (n : Int) := by omega
      go_wp2
      go_round
      case rel => exact ⟨j + 1, y + 1, by go_num, by omega, by show _ = _; rw [unhide HY]; rfl, by have := unhide HY; omega, by go_num⟩
      case measure => simp [intOf]; omega
    · obtain rfl : j = n := by omega
      go_wp2
      go_ret
      refine ⟨?_, rfl⟩
      have e : (y : Int) = (k : Int) + (j : Int) := by rw [unhide HY]; simp
      rw [← e]
      rfl

theorem ints_open {H : Type} {enc : TypeId × Value → H} {W : World} {spare : Nat → Bool} {held : Bool} {fuel : Nat} {v : Value} {x : DataW H × List MemPlace} (hsp : ∀ b, spare b = true)
    (h : DataW.trod enc Try.prog W 0 spare held fuel 26 v.cells.toList = some x) :
    ∃ a n c K, v.cells.toList = [.slice a n c] ∧ IntsAt W a n W.heap.size K ∧ (∀ x ∈ K, (Lit.int .i64 x).wf = true) ∧ n ≤ 9223372036854775807 := by
  rcases open_ints Try.underlying26 Try.underlying3 cells_int h with ⟨hcs, _⟩ | ⟨a, len, cap, zs, hcs, _, hl, hm, hz, _, hcell, hwz⟩
  · exact ⟨none, 0, 0, [], hcs, ⟨rfl, fun j hj => by simp at hj⟩, by simp, by omega⟩
  · rw [if_pos (hsp _)] at hz
    refine ⟨some a, len, cap, zs.take len, hcs, ⟨by simp; omega, fun j hj => ?_⟩, fun x hx => hwz x (List.mem_of_mem_take hx), ?_⟩
    · have hj1 : j < len := by simp at hj; omega
      have hc := hcell j (by omega)
      obtain ⟨b, off, spot⟩ := a
      have hspot : spot = none := by simpa [Addr.add] using World.cell?_spot (hcell 0 (by omega))
      subst hspot
      rw [Addr.add_lit] at hc
      refine ⟨b, off, rfl, by simpa using World.block_lt_of_cell? W _ hc, ?_⟩
      rw [hc]
      have hjs : j < zs.length := by omega
      simp [hjs]
    · unfold maxLen at hm
      omega

end Gr
end Go.Proofs.Ytejfknkcakeakaa
