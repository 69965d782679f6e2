/-
  Rows of Couple (2 numbers each) in memory, and the contracts of what the laws do with them. Written by program (tools/introws.py).
-/
import Derived.Test.YtejfknkcakeakaaGrBase
import Derived.Deep.RegionHeld3
import Derived.Lib.SmallJoins
import Derived.Deep.Slices
namespace Go.Proofs.Ytejfknkcakeakaa
namespace Gr
open Go.ChangeShapes Go.WideShapes Go.ChangeAt Go.RowKit

structure CoupleI where
  A : Int
  B : Int
deriving DecidableEq

def CoupleI.v (x : CoupleI) : Value := .agg #[.int .i64 x.A, .int .i64 x.B]
def CoupleI.zero : CoupleI := ⟨0, 0⟩

/-- A row that can be read, below block B. -/
def couplesAt (w : World) (a : Option Addr) (len B : Nat) (Q : List CoupleI) : Prop :=
  Q.length = len ∧ ∀ j (h : j < Q.length), ∃ b off, a = some ⟨b, off, none⟩ ∧ b < B ∧ w.cell? ⟨b, off + j * 2, none⟩ = some (.int .i64 Q[j].A) ∧ w.cell? ⟨b, off + j * 2 + 1, none⟩ = some (.int .i64 Q[j].B)

theorem couplesAt.below {w w' : World} {a : Option Addr} {len B C : Nat} {Q : List CoupleI} (h : couplesAt w a len B Q) (hb : Below C w w') (hC : B ≤ C) : couplesAt w' a len B Q := by
  refine ⟨h.1, fun j hj => ?_⟩
  obtain ⟨b, off, e, hbB, c0, c1⟩ := h.2 j hj
  exact ⟨b, off, e, hbB, (by rw [hb.cell (p := ⟨b, off + j * 2, none⟩) (by simp; omega)]; exact c0), (by rw [hb.cell (p := ⟨b, off + j * 2 + 1, none⟩) (by simp; omega)]; exact c1)⟩

theorem couplesAt.mono {w : World} {a : Option Addr} {len B C : Nat} {Q : List CoupleI} (h : couplesAt w a len B Q) (hC : B ≤ C) : couplesAt w a len C Q := by
  refine ⟨h.1, fun j hj => ?_⟩
  obtain ⟨b, off, e, hbB, hc⟩ := h.2 j hj
  exact ⟨b, off, e, by omega, hc⟩

def couplesV (Q : List CoupleI) : List Value := Q.flatMap fun q => [.int .i64 q.A, .int .i64 q.B]

theorem couplesV_length (Q : List CoupleI) : (couplesV Q).length = Q.length * 2 := by
  induction Q with
  | nil => rfl
  | cons q Q ih => simp [couplesV] at ih ⊢; omega

theorem couplesV_at (Q : List CoupleI) (k : Nat) (h : k < Q.length) : (couplesV Q)[k * 2]? = some (.int .i64 Q[k].A) ∧ (couplesV Q)[k * 2 + 1]? = some (.int .i64 Q[k].B) := by
  induction Q generalizing k with
  | nil => simp at h
  | cons q Q ih =>
    cases k with
    | zero => simp [couplesV]
    | succ k =>
      have := ih k (by simpa using h)
      have e : (k + 1) * 2 = k * 2 + 2 := by omega
      simpa [couplesV, e] using this

theorem couplesV_set (Q : List CoupleI) (k : Nat) (h : k < Q.length) (x : CoupleI) : ((couplesV Q).set (k * 2) (.int .i64 x.A)).set (k * 2 + 1) (.int .i64 x.B) = couplesV (Q.set k x) := by
  induction Q generalizing k with
  | nil => simp at h
  | cons q Q ih =>
    cases k with
    | zero => simp [couplesV]
    | succ k =>
      have := ih k (by simpa using h)
      have e : (k + 1) * 2 = k * 2 + 2 := by omega
      simpa [couplesV, e] using this

theorem couplesV_snoc (Q : List CoupleI) (x : CoupleI) : couplesV (Q ++ [x]) = couplesV Q ++ [.int .i64 x.A, .int .i64 x.B] := by
  unfold couplesV; rw [List.flatMap_append]; rfl

theorem couplesAt.of_own {w : World} {B : Nat} {v : Value} {n : Nat} {Q : List CoupleI} (h : w.ownsRow B 88 2 v n (couplesV Q)) : ∃ a c, v = .slice a n c ∧ couplesAt w a n w.heap.size Q := by
  have hl : Q.length = n := by have := h.1; rw [couplesV_length] at this; omega
  rcases h.2 with ⟨rfl, h0⟩ | ⟨g, cap, cur, rfl, hg, hh, _⟩
  · subst h0
    exact ⟨none, 0, rfl, hl, fun j hj => by omega⟩
  · refine ⟨_, _, rfl, hl, fun j hj => ⟨g, 0, rfl, (h.lt g rfl).2, ?_, ?_⟩⟩
    · rw [Nat.zero_add, h.cellAt (j * 2) (by omega)]
      exact (couplesV_at Q j hj).1
    · rw [Nat.zero_add, h.cellAt (j * 2 + 1) (by omega)]
      exact (couplesV_at Q j hj).2

theorem infoCouple : (Try.prog.info? 88).map (fun i => (i.zero, i.size, i.bytes)) = some (some (.agg #[.int .i64 0, .int .i64 0]), 2, 16) := by kernel_rfl

theorem made_couples (n : Nat) (M : Array Value) (hM : M = madeCells (Value.agg #[.int .i64 0, .int .i64 0]).cells (n * 2)) : M.toList = couplesV (List.replicate n CoupleI.zero) ∧ M.size = n * 2 := by
  have hs : M.size = n * 2 := by rw [hM, size_madeCells]
  refine ⟨?_, hs⟩
  apply List.ext_getElem?
  intro j
  by_cases hj : j < n * 2
  · have e : M.toList[j]? = some (.int .i64 0) := by
      rw [hM]
      have h2 : j % 2 = 0 ∨ j % 2 = 1 := by omega
      rcases h2 with h2 | h2 <;> simp [madeCells, Value.cells, hj, h2]
    rw [e]
    have hp := couplesV_at (List.replicate n CoupleI.zero) (j / 2) (by simp; omega)
    have h2 : j % 2 = 0 ∨ j % 2 = 1 := by omega
    rcases h2 with h2 | h2
    · have ej : j / 2 * 2 = j := by omega
      rw [ej] at hp
      rw [hp.1]
      simp [CoupleI.zero]
    · have ej : j / 2 * 2 + 1 = j := by omega
      rw [ej] at hp
      rw [hp.2]
      simp [CoupleI.zero]
  · rw [List.getElem?_eq_none (by simp; omega), List.getElem?_eq_none (by rw [couplesV_length]; simp; omega)]

theorem toCouple_any (x : CoupleI) (w : World) :
    Calls Try.prog 63 #[x.v] w fun e w' => e = .returned x.v ∧ Below w.heap.size w w' := by
  unfold CoupleI.v
  go_enter Try.func63, Try.ntmps63
  go_wp2
  go_returns
  exact ⟨rfl, (((Below.refl _ _).alloc (Nat.le_refl _) _).alloc (by simp) _).alloc (by simp; omega) _⟩

set_option maxRecDepth 100000 in
set_option maxHeartbeats 1000000 in
theorem toCoupleS_any (a : Option Addr) (len cap B : Nat) (Q : List CoupleI) (hlen : len ≤ 1048576) (w : World) (hB : B ≤ w.heap.size) (hs : couplesAt w a len B Q) :
    Calls Try.prog 33 #[.slice a len cap] w fun e w' => (∃ v, e = .returned v ∧ w'.ownsRow w.heap.size 88 2 v len (couplesV Q)) ∧ Below w.heap.size w w' := by
  obtain ⟨hL, hc⟩ := hs
  obtain ⟨i0, hi, hz0, hz1, hz2⟩ := info_parts infoCouple
  obtain ⟨M, hM⟩ : ∃ M, M = madeCells (Value.agg #[.int .i64 0, .int .i64 0]).cells (len * i0.size) := ⟨_, rfl⟩
  have hmk : ∀ W : World, (Instr.makeSlice 50 (.int .i64 (len : Int)) (.int .i64 (len : Int))).run Try.prog W = .ok (.slice (some ⟨W.heap.size, 0, none⟩) len len) (W.alloc (.cells M 88)) := fun W => by
    have h := run_make (P := Try.prog) W 50 88 i0 (.agg #[.int .i64 0, .int .i64 0]) Try.underlying50 hi hz0 .i64 .i64 (len : Int) (len : Int) (by omega) (by omega) (by rw [hz2]; omega) (by omega)
    rw [Int.toNat_natCast, ← hM] at h
    simpa using h
  have hMM := made_couples len M (by rw [hM, hz1])
  have hown0 : (w.alloc (.cells M 88)).ownsRow w.heap.size 88 2 (.slice (some ⟨w.heap.size, 0, none⟩) len len) len (couplesV (part Q CoupleI.zero 0)) :=
    ⟨by rw [couplesV_length, part_length _ _ _ (by omega)]; omega, .inr ⟨w.heap.size, len, M, rfl, Nat.le_refl _, heap_alloc_new w _, Nat.le_refl _, by unfold maxLen; omega, hMM.2, by rw [hMM.1, part_zero, hL, List.take_of_length_le (by rw [couplesV_length]; simp)]⟩⟩
  have HO0 := hide hown0
  have HC := hide hc
  have HL := hide hL
  clear hc hL hM hMM hown0
  go_enter Try.func33, Try.ntmps33
  go_wp2_with fail
  go_loopw [4] (fun a4 wr => ∃ k : Nat, a4 = .int .i64 k ∧ k ≤ len ∧ wr.ownsRow w.heap.size 88 2 (.slice (some ⟨w.heap.size, 0, none⟩) len len) len (couplesV (part Q CoupleI.zero k)) ∧ Below w.heap.size w wr) (fun a4 _ => len - (intOf a4).toNat)
  case atStart => exact ⟨0, rfl, Nat.zero_le _, unhide HO0, (Below.refl _ _).alloc (Nat.le_refl _) _⟩
  case round =>
    obtain ⟨k, rfl, hk, hown, hb⟩ := hrel
    by_cases hlt : k < len
    · have hkL : k < Q.length := by have := unhide HL; omega
      obtain ⟨b, off, rfl, hbB, c0, c1⟩ := unhide HC k hkL
      rw [← hb.cell (p := ⟨b, off + k * 2, none⟩) (by simp; omega)] at c0
      rw [← hb.cell (p := ⟨b, off + k * 2 + 1, none⟩) (by simp; omega)] at c1
      have hx0 : (0 : Int) ≤ (k : Int) := by omega
      have hx1 : (k : Int) < (len : Int) := by omega
      have HO := hide hown
      clear hown
      have HP := hide (part_set Q CoupleI.zero k hkL)
      generalize Q[k] = q at c0 c1 HP
      have HTI := hide (fun w => toCouple_any q w)
      have HIS := hide (fun (h : k < (part Q CoupleI.zero k).length) => couplesV_set (part Q CoupleI.zero k) k h q)
      obtain ⟨x0, x1⟩ := q
      simp only [CoupleI.v] at c0 c1 HTI HIS
      go_wp2_with fail
      refine (unhide HTI _).mono ?_
      rintro e w1 ⟨rfl, hb1⟩
      have hown := own_below (unhide HO) hb1
      have hkp : k < (part Q CoupleI.zero k).length := by rw [part_length _ _ _ (by omega)]; omega
      have hat := couplesV_at _ k hkp
      have hce0 := hown.cellAt (k * 2) (by omega)
      rw [hat.1] at hce0
      have hf0 := hown.frozenAt (k * 2)
      have hce1 := hown.cellAt (k * 2 + 1) (by omega)
      rw [hat.2] at hce1
      have hf1 := hown.frozenAt (k * 2 + 1)
      have hst := ((hown.stored (k * 2) (.int .i64 x0)).1.stored (k * 2 + 1) (.int .i64 x1)).1
      rw [unhide HIS hkp, unhide HP] at hst
      have HST := hide hst
      have hbb := hb.trans (hb1.mono hb.size)
      clear hst hown hat hb hb1 c0 c1
      go_wp2
      go_roundw
      case rel => exact ⟨k + 1, by go_num, by omega, unhide HST, (hbb.setCell (p := ⟨w.heap.size, k * 2, none⟩) (Nat.le_refl _) _).setCell (p := ⟨w.heap.size, k * 2 + 1, none⟩) (Nat.le_refl _) _⟩
      case measure => simp [intOf]; omega
    · obtain rfl : k = len := by omega
      have HO := hide hown
      clear hown
      go_wp2
      go_ret
      refine ⟨⟨_, rfl, ?_⟩, hb⟩
      have h := unhide HO
      have e := unhide HL
      subst e
      rw [part_all] at h
      exact h

set_option maxRecDepth 100000 in
theorem eqCouple_same (x : CoupleI) (w : World) :
    Calls Try.prog 65 #[x.v, x.v] w fun e w' => e = .returned (.bool true) ∧ Below w.heap.size w w' := by
  unfold CoupleI.v
  go_enter Try.func65, Try.ntmps65
  go_wp2
  go_ret
  exact ⟨rfl, ((Below.refl _ _).alloc (Nat.le_refl _) _).alloc (by simp) _⟩

set_option maxRecDepth 100000 in
set_option maxHeartbeats 2000000 in
theorem eqCoupleS_same (a a' : Option Addr) (len c c' B B' : Nat) (Q : List CoupleI) (hlen : len ≤ 1048576) (w : World) (hB : B ≤ w.heap.size) (hB' : B' ≤ w.heap.size) (hs : couplesAt w a len B Q) (hs' : couplesAt w a' len B' Q) :
    Calls Try.prog 35 #[.slice a len c, .slice a' len c'] w fun e w' => e = .returned (.bool true) ∧ Below w.heap.size w w' := by
  obtain ⟨hL, hc⟩ := hs
  obtain ⟨_, hc'⟩ := hs'
  have HC := hide hc
  have HC' := hide hc'
  have HL := hide hL
  clear hc hc' hL
  go_enter Try.func35, Try.ntmps35
  go_wp2_with fail
  go_loopw [5] (fun i wr => ∃ k : Nat, i = .int .i64 k ∧ k ≤ len ∧ Below w.heap.size w wr) (fun i _ => len - (intOf i).toNat)
  case atStart => exact ⟨0, rfl, Nat.zero_le _, Below.refl _ _⟩
  case round =>
    obtain ⟨k, rfl, hk, hb⟩ := hrel
    by_cases hlt : k < len
    · have hkL : k < Q.length := by have := unhide HL; omega
      obtain ⟨b, off, rfl, hbB, c0, c1⟩ := unhide HC k hkL
      obtain ⟨b', off', rfl, hbB', d0, d1⟩ := unhide HC' k hkL
      rw [← hb.cell (p := ⟨b, off + k * 2, none⟩) (by simp; omega)] at c0
      rw [← hb.cell (p := ⟨b', off' + k * 2, none⟩) (by simp; omega)] at d0
      rw [← hb.cell (p := ⟨b, off + k * 2 + 1, none⟩) (by simp; omega)] at c1
      rw [← hb.cell (p := ⟨b', off' + k * 2 + 1, none⟩) (by simp; omega)] at d1
      have hx0 : (0 : Int) ≤ (k : Int) := by omega
      have hx1 : (k : Int) < (len : Int) := by omega
      generalize Q[k] = q at c0 d0 c1 d1
      have HP := hide (fun w => eqCouple_same q w)
      obtain ⟨x0, x1⟩ := q
      simp only [CoupleI.v] at c0 d0 c1 d1 HP
      have hl := hb.size
      have hkl : b < wr.heap.size := by omega
      have hkl' : b' < wr.heap.size := by omega
      go_wp2_with fail
      go_region_held3 (fun u => u.cell? ⟨b, off + k * 2, none⟩ = some (.int .i64 x0) ∧ u.cell? ⟨b, off + k * 2 + 1, none⟩ = some (.int .i64 x1) ∧ u.cell? ⟨b', off' + k * 2, none⟩ = some (.int .i64 x0) ∧ u.cell? ⟨b', off' + k * 2 + 1, none⟩ = some (.int .i64 x1))
        (first | go_keep | exact ⟨(hb2.cell (p := ⟨b, off + k * 2, none⟩) hkl).trans c0, (hb2.cell (p := ⟨b, off + k * 2 + 1, none⟩) hkl).trans c1, (hb2.cell (p := ⟨b', off' + k * 2, none⟩) hkl').trans d0, (hb2.cell (p := ⟨b', off' + k * 2 + 1, none⟩) hkl').trans d1⟩)
        ((go_at_call 65; refine (unhide HP _).mono ?_; rintro e w2 ⟨rfl, hb2⟩))
      have hbe := hb.drew.trans (hb2.mono hb.size)
      clear hb2
      go_wp2
      go_roundw
      case rel => exact ⟨k + 1, by go_num, by omega, hbe⟩
      case measure => simp [intOf]; omega
    · go_wp2
      go_ret
      exact ⟨rfl, hb⟩

set_option maxRecDepth 100000 in
theorem szCoupleS_any (a : Option Addr) (len cap : Nat) (left : Int) (h0 : 0 ≤ left) (h1 : left ≤ 1048576) (hlen : len ≤ 9223372036854775807) (w : World) :
    Calls Try.prog 31 #[.slice a len cap, .int .i64 left] w fun e w' => e = .returned (.int .i64 (if left - (len : Int) < 0 then -1 else left - (len : Int))) ∧ w' = w := by
  by_cases h : left - (len : Int) < 0
  · rw [if_pos h]
    go_enter Try.func31, Try.ntmps31
    go_wp2
    go_ret
    exact ⟨rfl, rfl⟩
  · rw [if_neg h]
    go_enter Try.func31, Try.ntmps31
    go_wp2
    go_ret
    exact ⟨rfl, rfl⟩

end Gr
end Go.Proofs.Ytejfknkcakeakaa
