/-
  Texts of this claim, one behind the other: GrCouple, GrCoupleM, GrCoupleO, GrKCoupleS, GrMatch, GrProof0.
-/
import Derived.Test.YtldbanpfhlmjmaaJ1
import Derived.Deep.RegionHeld3
import Derived.Lib.SmallJoins
import Derived.Deep.Slices
import Derived.Test.YtldbanpfhlmjmaaJ3
import Derived.Deep.AppendLies
import Derived.Deep.RegionWith
import Derived.BigQuiet

/-
  Rows of Couple (2 numbers each) in memory, and the contracts of what the laws do with them. Written by program (tools/introws.py).
-/
namespace Go.Proofs.Ytldbanpfhlmjmaa
namespace Gr
open Go.ChangeShapes Go.WideShapes Go.ChangeAt Go.RowKit

structure CoupleI where
  A : Int
  B : Int
deriving DecidableEq

def CoupleI.v (x : CoupleI) : Value := .agg #[.int .i64 x.A, .int .i64 x.B]
def CoupleI.zero : CoupleI := ⟨0, 0⟩

/-- A row that can be read, below block B. -/
def couplesAt (w : World) (a : Option Addr) (len B : Nat) (Q : List CoupleI) : Prop :=
  Q.length = len ∧ ∀ j (h : j < Q.length), ∃ b off, a = some ⟨b, off, none⟩ ∧ b < B ∧ w.cell? ⟨b, off + j * 2, none⟩ = some (.int .i64 Q[j].A) ∧ w.cell? ⟨b, off + j * 2 + 1, none⟩ = some (.int .i64 Q[j].B)

theorem couplesAt.below {w w' : World} {a : Option Addr} {len B C : Nat} {Q : List CoupleI} (h : couplesAt w a len B Q) (hb : Below C w w') (hC : B ≤ C) : couplesAt w' a len B Q := by
  refine ⟨h.1, fun j hj => ?_⟩
  obtain ⟨b, off, e, hbB, c0, c1⟩ := h.2 j hj
  exact ⟨b, off, e, hbB, (by rw [hb.cell (p := ⟨b, off + j * 2, none⟩) (by simp; omega)]; exact c0), (by rw [hb.cell (p := ⟨b, off + j * 2 + 1, none⟩) (by simp; omega)]; exact c1)⟩

theorem couplesAt.mono {w : World} {a : Option Addr} {len B C : Nat} {Q : List CoupleI} (h : couplesAt w a len B Q) (hC : B ≤ C) : couplesAt w a len C Q := by
  refine ⟨h.1, fun j hj => ?_⟩
  obtain ⟨b, off, e, hbB, hc⟩ := h.2 j hj
  exact ⟨b, off, e, by omega, hc⟩

def couplesV (Q : List CoupleI) : List Value := Q.flatMap fun q => [.int .i64 q.A, .int .i64 q.B]

theorem couplesV_length (Q : List CoupleI) : (couplesV Q).length = Q.length * 2 := by
  induction Q with
  | nil => rfl
  | cons q Q ih => simp [couplesV] at ih ⊢; omega

theorem couplesV_at (Q : List CoupleI) (k : Nat) (h : k < Q.length) : (couplesV Q)[k * 2]? = some (.int .i64 Q[k].A) ∧ (couplesV Q)[k * 2 + 1]? = some (.int .i64 Q[k].B) := by
  induction Q generalizing k with
  | nil => simp at h
  | cons q Q ih =>
    cases k with
    | zero => simp [couplesV]
    | succ k =>
      have := ih k (by simpa using h)
      have e : (k + 1) * 2 = k * 2 + 2 := by omega
      simpa [couplesV, e] using this

theorem couplesV_set (Q : List CoupleI) (k : Nat) (h : k < Q.length) (x : CoupleI) : ((couplesV Q).set (k * 2) (.int .i64 x.A)).set (k * 2 + 1) (.int .i64 x.B) = couplesV (Q.set k x) := by
  induction Q generalizing k with
  | nil => simp at h
  | cons q Q ih =>
    cases k with
    | zero => simp [couplesV]
    | succ k =>
      have := ih k (by simpa using h)
      have e : (k + 1) * 2 = k * 2 + 2 := by omega
      simpa [couplesV, e] using this

theorem couplesV_snoc (Q : List CoupleI) (x : CoupleI) : couplesV (Q ++ [x]) = couplesV Q ++ [.int .i64 x.A, .int .i64 x.B] := by
  unfold couplesV; rw [List.flatMap_append]; rfl

theorem couplesAt.of_own {w : World} {B : Nat} {v : Value} {n : Nat} {Q : List CoupleI} (h : w.ownsRow B 60 2 v n (couplesV Q)) : ∃ a c, v = .slice a n c ∧ couplesAt w a n w.heap.size Q := by
  have hl : Q.length = n := by have := h.1; rw [couplesV_length] at this; omega
  rcases h.2 with ⟨rfl, h0⟩ | ⟨g, cap, cur, rfl, hg, hh, _⟩
  · subst h0
    exact ⟨none, 0, rfl, hl, fun j hj => by omega⟩
  · refine ⟨_, _, rfl, hl, fun j hj => ⟨g, 0, rfl, (h.lt g rfl).2, ?_, ?_⟩⟩
    · rw [Nat.zero_add, h.cellAt (j * 2) (by omega)]
      exact (couplesV_at Q j hj).1
    · rw [Nat.zero_add, h.cellAt (j * 2 + 1) (by omega)]
      exact (couplesV_at Q j hj).2

theorem infoCouple : (Try.prog.info? 60).map (fun i => (i.zero, i.size, i.bytes)) = some (some (.agg #[.int .i64 0, .int .i64 0]), 2, 16) := by kernel_rfl

theorem made_couples (n : Nat) (M : Array Value) (hM : M = madeCells (Value.agg #[.int .i64 0, .int .i64 0]).cells (n * 2)) : M.toList = couplesV (List.replicate n CoupleI.zero) ∧ M.size = n * 2 := by
  have hs : M.size = n * 2 := by rw [hM, size_madeCells]
  refine ⟨?_, hs⟩
  apply List.ext_getElem?
  intro j
  by_cases hj : j < n * 2
  · have e : M.toList[j]? = some (.int .i64 0) := by
      rw [hM]
      have h2 : j % 2 = 0 ∨ j % 2 = 1 := by omega
      rcases h2 with h2 | h2 <;> simp [madeCells, Value.cells, hj, h2]
    rw [e]
    have hp := couplesV_at (List.replicate n CoupleI.zero) (j / 2) (by simp; omega)
    have h2 : j % 2 = 0 ∨ j % 2 = 1 := by omega
    rcases h2 with h2 | h2
    · have ej : j / 2 * 2 = j := by omega
      rw [ej] at hp
      rw [hp.1]
      simp [CoupleI.zero]
    · have ej : j / 2 * 2 + 1 = j := by omega
      rw [ej] at hp
      rw [hp.2]
      simp [CoupleI.zero]
  · rw [List.getElem?_eq_none (by simp; omega), List.getElem?_eq_none (by rw [couplesV_length]; simp; omega)]

theorem toCouple_any (x : CoupleI) (w : World) :
    Calls Try.prog 41 #[x.v] w fun e w' => e = .returned x.v ∧ Below w.heap.size w w' := by
  unfold CoupleI.v
  go_enter Try.func41, Try.ntmps41
  go_wp2
  go_returns
  exact ⟨rfl, (((Below.refl _ _).alloc (Nat.le_refl _) _).alloc (by simp) _).alloc (by simp; omega) _⟩

set_option maxRecDepth 100000 in
set_option maxHeartbeats 1000000 in
theorem toCoupleS_any (a : Option Addr) (len cap B : Nat) (Q : List CoupleI) (hlen : len ≤ 1048576) (w : World) (hB : B ≤ w.heap.size) (hs : couplesAt w a len B Q) :
    Calls Try.prog 21 #[.slice a len cap] w fun e w' => (∃ v, e = .returned v ∧ w'.ownsRow w.heap.size 60 2 v len (couplesV Q)) ∧ Below w.heap.size w w' := by
  obtain ⟨hL, hc⟩ := hs
  obtain ⟨i0, hi, hz0, hz1, hz2⟩ := info_parts infoCouple
  obtain ⟨M, hM⟩ : ∃ M, M = madeCells (Value.agg #[.int .i64 0, .int .i64 0]).cells (len * i0.size) := ⟨_, rfl⟩
  have hmk : ∀ W : World, (Instr.makeSlice 38 (.int .i64 (len : Int)) (.int .i64 (len : Int))).run Try.prog W = .ok (.slice (some ⟨W.heap.size, 0, none⟩) len len) (W.alloc (.cells M 60)) := fun W => by
    have h := run_make (P := Try.prog) W 38 60 i0 (.agg #[.int .i64 0, .int .i64 0]) Try.underlying38 hi hz0 .i64 .i64 (len : Int) (len : Int) (by omega) (by omega) (by rw [hz2]; omega) (by omega)
    rw [Int.toNat_natCast, ← hM] at h
    simpa using h
  have hMM := made_couples len M (by rw [hM, hz1])
  have hown0 : (w.alloc (.cells M 60)).ownsRow w.heap.size 60 2 (.slice (some ⟨w.heap.size, 0, none⟩) len len) len (couplesV (part Q CoupleI.zero 0)) :=
    ⟨by rw [couplesV_length, part_length _ _ _ (by omega)]; omega, .inr ⟨w.heap.size, len, M, rfl, Nat.le_refl _, heap_alloc_new w _, Nat.le_refl _, by unfold maxLen; omega, hMM.2, by rw [hMM.1, part_zero, hL, List.take_of_length_le (by rw [couplesV_length]; simp)]⟩⟩
  have HO0 := hide hown0
  have HC := hide hc
  have HL := hide hL
  clear hc hL hM hMM hown0
  go_enter Try.func21, Try.ntmps21
  go_wp2_with fail
  go_loopw [4] (fun a4 wr => ∃ k : Nat, a4 = .int .i64 k ∧ k ≤ len ∧ wr.ownsRow w.heap.size 60 2 (.slice (some ⟨w.heap.size, 0, none⟩) len len) len (couplesV (part Q CoupleI.zero k)) ∧ Below w.heap.size w wr) (fun a4 _ => len - (intOf a4).toNat)
  case atStart => exact ⟨0, rfl, Nat.zero_le _, unhide HO0, (Below.refl _ _).alloc (Nat.le_refl _) _⟩
  case round =>
    obtain ⟨k, rfl, hk, hown, hb⟩ := hrel
    by_cases hlt : k < len
    · have hkL : k < Q.length := by have := unhide HL; omega
      obtain ⟨b, off, rfl, hbB, c0, c1⟩ := unhide HC k hkL
      rw [← hb.cell (p := ⟨b, off + k * 2, none⟩) (by simp; omega)] at c0
      rw [← hb.cell (p := ⟨b, off + k * 2 + 1, none⟩) (by simp; omega)] at c1
      have hx0 : (0 : Int) ≤ (k : Int) := by omega
      have hx1 : (k : Int) < (len : Int) := by omega
      have HO := hide hown
      clear hown
      have HP := hide (part_set Q CoupleI.zero k hkL)
      generalize Q[k] = q at c0 c1 HP
      have HTI := hide (fun w => toCouple_any q w)
      have HIS := hide (fun (h : k < (part Q CoupleI.zero k).length) => couplesV_set (part Q CoupleI.zero k) k h q)
      obtain ⟨x0, x1⟩ := q
      simp only [CoupleI.v] at c0 c1 HTI HIS
      go_wp2_with fail
      refine (unhide HTI _).mono ?_
      rintro e w1 ⟨rfl, hb1⟩
      have hown := own_below (unhide HO) hb1
      have hkp : k < (part Q CoupleI.zero k).length := by rw [part_length _ _ _ (by omega)]; omega
      have hat := couplesV_at _ k hkp
      have hce0 := hown.cellAt (k * 2) (by omega)
      rw [hat.1] at hce0
      have hf0 := hown.frozenAt (k * 2)
      have hce1 := hown.cellAt (k * 2 + 1) (by omega)
      rw [hat.2] at hce1
      have hf1 := hown.frozenAt (k * 2 + 1)
      have hst := ((hown.stored (k * 2) (.int .i64 x0)).1.stored (k * 2 + 1) (.int .i64 x1)).1
      rw [unhide HIS hkp, unhide HP] at hst
      have HST := hide hst
      have hbb := hb.trans (hb1.mono hb.size)
      clear hst hown hat hb hb1 c0 c1
      go_wp2
      go_roundw
      case rel => exact ⟨k + 1, by go_num, by omega, unhide HST, (hbb.setCell (p := ⟨w.heap.size, k * 2, none⟩) (Nat.le_refl _) _).setCell (p := ⟨w.heap.size, k * 2 + 1, none⟩) (Nat.le_refl _) _⟩
      case measure => simp [intOf]; omega
    · obtain rfl : k = len := by omega
      have HO := hide hown
      clear hown
      go_wp2
      go_ret
      refine ⟨⟨_, rfl, ?_⟩, hb⟩
      have h := unhide HO
      have e := unhide HL
      subst e
      rw [part_all] at h
      exact h

set_option maxRecDepth 100000 in
theorem eqCouple_same (x : CoupleI) (w : World) :
    Calls Try.prog 50 #[x.v, x.v] w fun e w' => e = .returned (.bool true) ∧ Below w.heap.size w w' := by
  unfold CoupleI.v
  go_enter Try.func50, Try.ntmps50
  go_wp2
  go_ret
  exact ⟨rfl, ((Below.refl _ _).alloc (Nat.le_refl _) _).alloc (by simp) _⟩

set_option maxRecDepth 100000 in
set_option maxHeartbeats 2000000 in
theorem eqCoupleS_same (a a' : Option Addr) (len c c' B B' : Nat) (Q : List CoupleI) (hlen : len ≤ 1048576) (w : World) (hB : B ≤ w.heap.size) (hB' : B' ≤ w.heap.size) (hs : couplesAt w a len B Q) (hs' : couplesAt w a' len B' Q) :
    Calls Try.prog 29 #[.slice a len c, .slice a' len c'] w fun e w' => e = .returned (.bool true) ∧ Below w.heap.size w w' := by
  obtain ⟨hL, hc⟩ := hs
  obtain ⟨_, hc'⟩ := hs'
  have HC := hide hc
  have HC' := hide hc'
  have HL := hide hL
  clear hc hc' hL
  go_enter Try.func29, Try.ntmps29
  go_wp2_with fail
  go_loopw [5] (fun i wr => ∃ k : Nat, i = .int .i64 k ∧ k ≤ len ∧ Below w.heap.size w wr) (fun i _ => len - (intOf i).toNat)
  case atStart => exact ⟨0, rfl, Nat.zero_le _, Below.refl _ _⟩
  case round =>
    obtain ⟨k, rfl, hk, hb⟩ := hrel
    by_cases hlt : k < len
    · have hkL : k < Q.length := by have := unhide HL; omega
      obtain ⟨b, off, rfl, hbB, c0, c1⟩ := unhide HC k hkL
      obtain ⟨b', off', rfl, hbB', d0, d1⟩ := unhide HC' k hkL
      rw [← hb.cell (p := ⟨b, off + k * 2, none⟩) (by simp; omega)] at c0
      rw [← hb.cell (p := ⟨b', off' + k * 2, none⟩) (by simp; omega)] at d0
      rw [← hb.cell (p := ⟨b, off + k * 2 + 1, none⟩) (by simp; omega)] at c1
      rw [← hb.cell (p := ⟨b', off' + k * 2 + 1, none⟩) (by simp; omega)] at d1
      have hx0 : (0 : Int) ≤ (k : Int) := by omega
      have hx1 : (k : Int) < (len : Int) := by omega
      generalize Q[k] = q at c0 d0 c1 d1
      have HP := hide (fun w => eqCouple_same q w)
      obtain ⟨x0, x1⟩ := q
      simp only [CoupleI.v] at c0 d0 c1 d1 HP
      have hl := hb.size
      have hkl : b < wr.heap.size := by omega
      have hkl' : b' < wr.heap.size := by omega
      go_wp2_with fail
      go_region_held3 (fun u => u.cell? ⟨b, off + k * 2, none⟩ = some (.int .i64 x0) ∧ u.cell? ⟨b, off + k * 2 + 1, none⟩ = some (.int .i64 x1) ∧ u.cell? ⟨b', off' + k * 2, none⟩ = some (.int .i64 x0) ∧ u.cell? ⟨b', off' + k * 2 + 1, none⟩ = some (.int .i64 x1))
        (first | go_keep | exact ⟨(hb2.cell (p := ⟨b, off + k * 2, none⟩) hkl).trans c0, (hb2.cell (p := ⟨b, off + k * 2 + 1, none⟩) hkl).trans c1, (hb2.cell (p := ⟨b', off' + k * 2, none⟩) hkl').trans d0, (hb2.cell (p := ⟨b', off' + k * 2 + 1, none⟩) hkl').trans d1⟩)
        ((go_at_call 50; refine (unhide HP _).mono ?_; rintro e w2 ⟨rfl, hb2⟩))
      have hbe := hb.drew.trans (hb2.mono hb.size)
      clear hb2
      go_wp2
      go_roundw
      case rel => exact ⟨k + 1, by go_num, by omega, hbe⟩
      case measure => simp [intOf]; omega
    · go_wp2
      go_ret
      exact ⟨rfl, hb⟩

set_option maxRecDepth 100000 in
theorem szCoupleS_any (a : Option Addr) (len cap : Nat) (left : Int) (h0 : 0 ≤ left) (h1 : left ≤ 1048576) (hlen : len ≤ 9223372036854775807) (w : World) :
    Calls Try.prog 16 #[.slice a len cap, .int .i64 left] w fun e w' => e = .returned (.int .i64 (if left - (len : Int) < 0 then -1 else left - (len : Int))) ∧ w' = w := by
  by_cases h : left - (len : Int) < 0
  · rw [if_pos h]
    go_enter Try.func16, Try.ntmps16
    go_wp2
    go_ret
    exact ⟨rfl, rfl⟩
  · rw [if_neg h]
    go_enter Try.func16, Try.ntmps16
    go_wp2
    go_ret
    exact ⟨rfl, rfl⟩

end Gr
end Go.Proofs.Ytldbanpfhlmjmaa

/-
  Rows of Couple: what is marked is held. Written by program (tools/introws.py).
-/
namespace Go.Proofs.Ytldbanpfhlmjmaa
namespace Gr
open Go.ChangeShapes Go.WideShapes Go.ChangeAt Go.RowKit

/-- The marks of n rows from k on. -/
def marksCouple (k n : Nat) : List CoupleI := (List.range n).map fun i => ⟨((k + i * 2 : Nat) : Int), ((k + i * 2 + 1 : Nat) : Int)⟩

theorem marksCouple_length (k n : Nat) : (marksCouple k n).length = n := by simp [marksCouple]
theorem marksCouple_at (k n i : Nat) (h : i < (marksCouple k n).length) : (marksCouple k n)[i] = ⟨((k + i * 2 : Nat) : Int), ((k + i * 2 + 1 : Nat) : Int)⟩ := by simp [marksCouple]

end Gr
end Go.Proofs.Ytldbanpfhlmjmaa

/-
  Rows of Couple: a row that came in, read. Written by program (tools/introws.py).
-/
namespace Go.Proofs.Ytldbanpfhlmjmaa
namespace Gr
open Go.ChangeShapes Go.WideShapes Go.ChangeAt Go.RowKit

theorem cells_Couple : Try.prog.cellsOf 89 = 2 := by kernel_rfl

set_option maxRecDepth 100000 in
theorem couples_cells {H : Type} {enc : TypeId × Value → H} {W : World} {base : Nat} {spare : Nat → Bool} {held : Bool} {n : Nat} {cs : List Value} {x : DataW H × List MemPlace} (hl : cs.length = 2)
    (h : DataW.trod enc Try.prog W base spare held n 89 cs = some x) : ∃ y : CoupleI, cs = [.int .i64 y.A, .int .i64 y.B] := by
  obtain ⟨xs, k, hk, hxy, _, hxl, hf⟩ := DataW.trod_struct Try.underlying89 h
  match cs, hl with
  | [v0, v1], _ =>
    have hl3 : xs.length = 2 := by simpa using hxl
    match xs, hl3 with
    | [y0, y1], _ =>
      have g0 := hf 0 _ rfl
      have g1 := hf 1 _ rfl
      simp [cells_int] at g0 g1
      obtain ⟨z0, e0, _, _⟩ := DataW.trod_int Try.underlying3 g0
      obtain ⟨z1, e1, _, _⟩ := DataW.trod_int Try.underlying3 g1
      simp at e0 e1
      subst e0 e1
      exact ⟨⟨z0, z1⟩, rfl⟩

theorem couples_open {H : Type} {enc : TypeId × Value → H} {W : World} {spare : Nat → Bool} {held : Bool} {fuel : Nat} {v : Value} {x : DataW H × List MemPlace}
    (h : DataW.trod enc Try.prog W 0 spare held fuel 25 [v] = some x) :
    ∃ a n c Q, v = .slice a n c ∧ couplesAt W a n W.heap.size Q ∧ Q.length ≤ 9223372036854775807 := by
  rcases Deep.open_slice Try.underlying25 h with ⟨hcs, _⟩ | ⟨a, len, cap, m, n, D, Pl, hcs, hb, hl, hm, hmm, _, hx⟩
  · simp at hcs
    exact ⟨none, 0, 0, [], hcs, ⟨rfl, fun j hj => by simp at hj⟩, by simp⟩
  · simp at hcs
    have hlm : len ≤ m := by rw [hmm]; split <;> omega
    have hv : ∀ i, i < m → ∃ y : CoupleI, W.cell? (a.add (i * 2)) = some (.int .i64 y.A) ∧ W.cell? (a.add (i * 2 + 1)) = some (.int .i64 y.B) := by
      intro i hi
      obtain ⟨cs', h1, h2⟩ := hx i hi
      rw [cells_Couple] at h1
      obtain ⟨_, hlen, hcell⟩ := World.cells?_some h1
      obtain ⟨y, rfl⟩ := couples_cells hlen h2
      have e0 := hcell 0 (by omega)
      have e1 := hcell 1 (by omega)
      rw [Deep.add_add] at e0 e1
      exact ⟨y, by simpa using e0, by simpa using e1⟩
    let X : Nat → CoupleI := fun i => if hi : i < m then (hv i hi).choose else CoupleI.zero
    have hX : ∀ i, i < m → W.cell? (a.add (i * 2)) = some (.int .i64 (X i).A) ∧ W.cell? (a.add (i * 2 + 1)) = some (.int .i64 (X i).B) := by
      intro i hi
      have hsp2 := (hv i hi).choose_spec
      simp only [X, hi, dif_pos]
      exact hsp2
    refine ⟨some a, len, cap, (List.range len).map X, hcs, ⟨by simp, fun j hj => ?_⟩, by unfold maxLen at hm; simp; omega⟩
    have hj1 : j < len := by simpa using hj
    obtain ⟨b, off, spot⟩ := a
    have hspot : spot = none := by simpa [Addr.add] using World.cell?_spot (hX 0 (by omega)).1
    subst hspot
    obtain ⟨h0, h1⟩ := hX j (by omega)
    rw [Addr.add_lit] at h0 h1
    refine ⟨b, off, rfl, by simpa using World.block_lt_of_cell? W _ h0, ?_, ?_⟩
    · rw [h0]; simp
    · rw [← Nat.add_assoc] at h1
      rw [h1]; simp

set_option maxRecDepth 100000 in
/-- One that came in. -/
theorem couples_one {H : Type} {enc : TypeId × Value → H} {W : World} {r : Reach} {b0 : Nat} {spare : Nat → Bool} {held : Bool} {v : Value} {d : DataW H} {p : List MemPlace}
    (hv : Value.okWide Try.prog W r b0 89 v) (h : DataW.Trod enc Try.prog W 0 spare held 89 v d p) : ∃ x : CoupleI, v = x.v := by
  obtain ⟨cs, rfl, hsz⟩ := okWide_struct Try.underlying89 hv
  obtain ⟨fuel, hf⟩ := h
  have hl : (Value.agg cs).cells.toList.length = 2 := by simpa [Value.cells, cells_Couple] using hsz
  obtain ⟨y, e⟩ := couples_cells hl hf
  refine ⟨y, ?_⟩
  have e2 : cs.toList = [.int .i64 y.A, .int .i64 y.B] := by simpa [Value.cells] using e
  unfold CoupleI.v
  congr 1
  exact Array.toList_inj.1 e2

end Gr
end Go.Proofs.Ytldbanpfhlmjmaa

/-
  The kind of Couple, in the form that a law's walk asks for. Written by program (tools/kinds.py).
-/
namespace Go.Proofs.Ytldbanpfhlmjmaa
namespace Gr
open Go.ChangeShapes Go.WideShapes Go.ChangeAt Go.RowKit

def CoAt (w : World) (v : Value) (B : Nat) (K : List CoupleI) : Prop := ∃ a c, v = .slice a K.length c ∧ couplesAt w a K.length B K
def CoOwn (w : World) (B : Nat) (v : Value) (K : List CoupleI) : Prop := w.ownsRow B 60 2 v K.length (couplesV K)
def CoBlk (v : Value) (g : Nat) : Prop := v.ownBlock = some g

theorem CoAt.shape {w : World} {v : Value} {B : Nat} {K : List CoupleI} (h : CoAt w v B K) : ∃ a c, v = .slice a K.length c := by
  obtain ⟨a, c, rfl, _⟩ := h
  exact ⟨a, c, rfl⟩

theorem CoAt.below {w w' : World} {v : Value} {B C : Nat} {K : List CoupleI} (h : CoAt w v B K) (hb : Below C w w') (hC : B ≤ C) : CoAt w' v B K := by
  obtain ⟨a, c, rfl, hQ⟩ := h
  exact ⟨a, c, rfl, hQ.below hb hC⟩

theorem CoAt.mono {w : World} {v : Value} {B C : Nat} {K : List CoupleI} (h : CoAt w v B K) (hC : B ≤ C) : CoAt w v C K := by
  obtain ⟨a, c, rfl, hQ⟩ := h
  exact ⟨a, c, rfl, hQ.mono hC⟩

theorem CoOwn.at {w : World} {B : Nat} {v : Value} {K : List CoupleI} (h : CoOwn w B v K) : CoAt w v w.heap.size K := by
  obtain ⟨a, c, rfl, hQ⟩ := couplesAt.of_own h
  exact ⟨a, c, rfl, hQ⟩

theorem CoOwn.below {w w' : World} {B : Nat} {v : Value} {K : List CoupleI} (h : CoOwn w B v K) (hb : Below w.heap.size w w') : CoOwn w' B v K := own_below h hb

theorem CoOwn.lower {w : World} {B C : Nat} {v : Value} {K : List CoupleI} (h : CoOwn w B v K) (hC : C ≤ B) : CoOwn w C v K := own_lower hC h

theorem CoOwn.blk {w : World} {B : Nat} {v : Value} {K : List CoupleI} (h : CoOwn w B v K) : ∀ g, CoBlk v g → B ≤ g ∧ g < w.heap.size := fun g hg => World.ownsRow.lt h g hg

theorem CoOwn.kept {S : Nat → Prop} {w w' : World} {B : Nat} {v : Value} {K : List CoupleI} (h : CoOwn w B v K) (hk : Kept S w w') (hS : ∀ g, CoBlk v g → ¬ S g) : CoOwn w' B v K := hk.own h hS

theorem szCoupleS_gen (v : Value) (B : Nat) (K : List CoupleI) (left : Int) (h0 : 0 ≤ left) (h1 : left ≤ 1048576) (hQ : K.length ≤ 9223372036854775807) (w : World) (hv : CoAt w v B K) :
    Calls Try.prog 16 #[v, .int .i64 left] w fun e w' => (∃ x : Int, e = .returned (.int .i64 x) ∧ x ≤ left ∧ (0 ≤ x → (K.length : Int) + x ≤ left)) ∧ Below w.heap.size w w' := by
  obtain ⟨a, c, rfl, _⟩ := hv
  refine (szCoupleS_any a K.length c left h0 h1 hQ w).mono ?_
  rintro e w' ⟨rfl, rfl⟩
  refine ⟨⟨_, rfl, ?_, ?_⟩, Below.refl _ _⟩
  · split <;> omega
  · split <;> omega

theorem toCoupleS_gen (v : Value) (B : Nat) (K : List CoupleI) (h1 : K.length ≤ 1048576) (w : World) (hB : B ≤ w.heap.size) (hv : CoAt w v B K) :
    Calls Try.prog 21 #[v] w fun e w' => (∃ d, e = .returned d ∧ CoOwn w' w.heap.size d K) ∧ Below w.heap.size w w' := by
  obtain ⟨a, c, rfl, hQ⟩ := hv
  exact toCoupleS_any a K.length c B K h1 w hB hQ

theorem eqCoupleS_gen (v u : Value) (B B' : Nat) (K : List CoupleI) (h1 : K.length ≤ 1048576) (w : World) (hB : B ≤ w.heap.size) (hB' : B' ≤ w.heap.size) (hv : CoAt w v B K) (hu : CoAt w u B' K) :
    Calls Try.prog 29 #[v, u] w fun e w' => e = .returned (.bool true) ∧ Below w.heap.size w w' := by
  obtain ⟨a, c, rfl, hQ⟩ := hv
  obtain ⟨a', c', rfl, hQ'⟩ := hu
  exact eqCoupleS_same a a' K.length c c' B B' K h1 w hB hB' hQ hQ'

set_option maxRecDepth 100000 in
theorem couples_in {H : Type} {enc : TypeId × Value → H} {W : World} {r : Reach} {b0 : Nat} {v : Value} {d : DataW H} {p : List MemPlace}
    (hv : Value.okWide Try.prog W r b0 25 v) (h : DataW.Trod enc Try.prog W 0 (fun _ => true) true 25 v d p) : ∃ K, CoAt W v W.heap.size K ∧ K.length ≤ 9223372036854775807 := by
  obtain ⟨a, n, c, rfl⟩ := okWide_slice Try.underlying25 hv
  obtain ⟨fuel, hf⟩ := h
  obtain ⟨a', n', c', K, hcs, hK, hn⟩ := couples_open hf
  simp at hcs
  obtain ⟨rfl, rfl, rfl⟩ := hcs
  obtain rfl : n = K.length := hK.1.symm
  exact ⟨K, ⟨a, c, rfl, hK⟩, hn⟩

end Gr
end Go.Proofs.Ytldbanpfhlmjmaa

/-
  The contract of spec.MatchOk. (Written by program: tools/genmatch.py.)
-/
namespace Go.Proofs.Ytldbanpfhlmjmaa
namespace Gr
open Go.RowKit

theorem wrap_in (x : Int) (h : -9223372036854775808 ≤ x ∧ x ≤ 9223372036854775807) : IntKind.i64.wrap x = x := by
  have e : IntKind.i64.wrap x = if (9223372036854775808 : Int) ≤ x % 18446744073709551616 then x % 18446744073709551616 - 18446744073709551616 else x % 18446744073709551616 := by
    simp [IntKind.wrap, IntKind.signed, IntKind.bits]
  rw [e]
  split <;> omega

def aheadC (p : Option CoupleI) (x : CoupleI) : Bool := match p with | none => true | some q => decide (q.A < x.A)

/-- Whether couples may stand behind another one, where some vertices are used. -/
def mFrom (Q : List EdgeI) : Option CoupleI → List Int → List CoupleI → Bool
  | _, _, [] => true
  | p, U, x :: r => decide (x.A < x.B) && (aheadC p x && (decide (0 ≤ atFrom x.A x.B 0 Q) && (!inK U x.A && (!inK U x.B && mFrom Q (some x) (U ++ [x.A, x.B]) r))))

/-- Whether couples are a pairing of a graph. -/
def matchOk (s : Int) (Q : List EdgeI) (M : List CoupleI) : Bool := graphOk s Q && (decide (M.length ≤ 9) && mFrom Q none [] M)

def prevC (M : List CoupleI) (k : Nat) : Option CoupleI := if k = 0 then none else M[k - 1]?

theorem mFrom_step (Q : List EdgeI) (M : List CoupleI) (U : List Int) (k : Nat) (h : k < M.length) : mFrom Q (prevC M k) U (M.drop k) = (decide (M[k].A < M[k].B) && (aheadC (prevC M k) M[k] && (decide (0 ≤ atFrom M[k].A M[k].B 0 Q) && (!inK U M[k].A && (!inK U M[k].B && mFrom Q (prevC M (k + 1)) (U ++ [M[k].A, M[k].B]) (M.drop (k + 1))))))) := by
  rw [← List.getElem_cons_drop h]
  have e : prevC M (k + 1) = some M[k] := by unfold prevC; simp [h]
  rw [e]
  rfl

theorem two_int (x y : Int) : ∀ u ∈ [Value.int .i64 x, Value.int .i64 y], u.oneCell' = true := fun u hu => by simp at hu; rcases hu with rfl | rfl <;> rfl

theorem intsV_two (K : List Int) (x y : Int) : intsV (K ++ [x, y]) = intsV K ++ [.int .i64 x, .int .i64 y] := by simp [intsV]

theorem own_slice {w : World} {B e s n : Nat} {v : Value} {xs : List Value} (h : w.ownsRow B e s v n xs) : ∃ A c, v = .slice A n c := by
  rcases h.2 with ⟨rfl, rfl⟩ | ⟨g, cap, cur, rfl, _⟩
  · exact ⟨none, 0, rfl⟩
  · exact ⟨_, cap, rfl⟩

/-- What stands while couples are looked at: the vertices that are used. -/
def MD (w3 : World) (Q : List EdgeI) (M : List CoupleI) (r : Bool) (j : Nat) (used : Value) (wr : World) : Prop :=
  Below w3.heap.size w3 wr ∧ ∃ U : List Int, U.length = 2 * j ∧ r = mFrom Q (prevC M j) U (M.drop j) ∧ wr.ownsRow w3.heap.size 3 1 used U.length (intsV U)

set_option maxRecDepth 100000 in
set_option maxHeartbeats 4000000 in
theorem specMatch_any (v : Value) (B : Nat) (s : Int) (Q : List EdgeI) (a : Option Addr) (n c : Nat) (M : List CoupleI) (h1 : Q.length ≤ 1048576) (h2 : n ≤ 1048576) (w : World) (hB : B ≤ w.heap.size) (hv : GrAt w v B s Q) (hM : couplesAt w a n B M) :
    Calls Try.prog 37 #[v, .slice a n c] w fun e w' => e = .returned (.bool (matchOk s Q M)) ∧ Below w.heap.size w w' := by
  have OK := hide (fun w1 (hb : Below w.heap.size w w1) => specGraph_any v B s Q h1 w1 (by have := hb.size; omega) (hv.below hb hB))
  have AT := hide (fun x y w1 (hb : Below w.heap.size w w1) => specAt_any v B s x y Q h1 w1 (by have := hb.size; omega) (hv.below hb hB))
  obtain ⟨a0, n0, c0, rfl, _⟩ := hv
  obtain ⟨i0, hi, hz0, hz1, hz2⟩ := info_parts info3
  have hmk : matchOk s Q M = (graphOk s Q && (decide (M.length ≤ 9) && mFrom Q none [] M)) := rfl
  generalize graphOk s Q = gk at OK hmk
  obtain ⟨hL, hc⟩ := hM
  have HC := hide hc
  have HL := hide hL
  generalize hR : matchOk s Q M = R at hmk
  clear hR hc hL h1
  go_enter Try.func37, Try.ntmps37
  go_wp2_with fail
  obtain ⟨V1, hV1⟩ : ∃ W, W = w.alloc (Obj.cells #[Value.int .i64 s, Value.slice a0 n0 c0] 37) := ⟨_, rfl⟩
  rw [← hV1]
  have x1 : GBox V1 w.heap.size s (.slice a0 n0 c0) := by rw [hV1]; exact GBox.new _ _ _
  have b1 : Below w.heap.size w V1 := by rw [hV1]; exact below_new _ _
  clear hV1
  refine (unhide OK V1 b1).mono ?_
  rintro e w2 ⟨rfl, hb2⟩
  have x2 := x1.below hb2
  have b2 : Below w.heap.size w w2 := b1.trans (hb2.mono b1.size)
  have hx2 := x2.lt
  clear hb2 b1 x1
  cases gk
  · rw [Bool.false_and] at hmk
    subst hmk
    go_wp2
    go_ret
    exact ⟨rfl, b2⟩
  · rw [Bool.true_and] at hmk
    by_cases h9 : (9 : Int) < (n : Int)
    · rw [decide_eq_false (show ¬ M.length ≤ 9 by have := unhide HL; omega), Bool.false_and] at hmk
      subst hmk
      go_wp2
      go_ret
      exact ⟨rfl, b2⟩
    · rw [decide_eq_true (show M.length ≤ 9 by have := unhide HL; omega), Bool.true_and] at hmk
      have HST := hide (fun U k h => mFrom_step Q M U k h)
      have HEND : Hid (∀ U, mFrom Q (prevC M n) U (M.drop n) = true) := fun U => by rw [← unhide HL, List.drop_length]; cases prevC M M.length <;> rfl
      have H0 : Hid (R = mFrom Q (prevC M 0) [] (M.drop 0)) := hmk
      have HX2 := hide x2
      clear hmk x2
      go_wp2_with fail
      go_loopw [5, 6] (fun used i wr => ∃ j : Nat, i = .int .i64 (j : Int) ∧ j ≤ n ∧ MD w2 Q M R j used wr) (fun _ i _ => n - (intOf i).toNat)
      case atStart =>
        refine ⟨0, rfl, Nat.zero_le _, below_new w2 _, [], rfl, unhide H0, ?_⟩
        exact World.ownsRow_made w2 #[] 0 (by omega) (Nat.zero_le _) rfl
      case round =>
        obtain ⟨j, rfl, hj, hb3, U, hU, hR, own3⟩ := hrel
        have HR := hide hR
        have HU := hide hU
        clear hR hU
        have b3 : Below w.heap.size w wr := b2.trans (hb3.mono b2.size)
        by_cases hlt : j < n
        · obtain ⟨A5, C5, hu5⟩ := own_slice own3
          subst hu5
          have hjL : j < M.length := by have := unhide HL; omega
          obtain ⟨b, off, rfl, hbB, c1, c2⟩ := unhide HC j hjL
          rw [← b3.cell (p := ⟨b, off + j * 2, none⟩) (by simp; omega)] at c1
          rw [← b3.cell (p := ⟨b, off + j * 2 + 1, none⟩) (by simp; omega)] at c2
          have HPR : Hid (∀ q, prevC M j = some q → 0 < j ∧ wr.cell? ⟨b, off + (j - 1) * 2, none⟩ = some (.int .i64 q.A)) := fun q hq => by
            unfold prevC at hq
            split at hq
            · cases hq
            · have hj1 : j - 1 < M.length := by omega
              obtain ⟨b', off', e', _, k0, _⟩ := unhide HC (j - 1) hj1
              simp at e'
              obtain ⟨rfl, rfl⟩ := e'
              rw [List.getElem?_eq_getElem hj1] at hq
              obtain rfl := Option.some.inj hq
              exact ⟨by omega, by rw [b3.cell (p := ⟨b, off + (j - 1) * 2, none⟩) (by simp; omega)]; exact k0⟩
          have HPZ : Hid (prevC M j = none → j = 0) := fun h => by
            unfold prevC at h
            split at h
            · assumption
            · rw [List.getElem?_eq_getElem (show j - 1 < M.length by omega)] at h; cases h
          have hr := (unhide HR).trans (unhide HST U j hjL)
          generalize hpe : prevC M j = pe at hr HPR HPZ
          have HNX : Hid (∀ x : CoupleI, M[j] = x → mFrom Q (prevC M (j + 1)) (U ++ [M[j].A, M[j].B]) (M.drop (j + 1)) = mFrom Q (prevC M (j + 1)) (U ++ [x.A, x.B]) (M.drop (j + 1))) := fun x hx => by rw [hx]
          generalize hq : M[j] = q at c1 c2 hr HNX
          obtain ⟨y0, y1⟩ := q
          simp only at c1 c2 hr
          have HNX2 := unhide HNX ⟨y0, y1⟩ rfl
          simp only at HNX2
          generalize hrest : mFrom Q (prevC M (j + 1)) (U ++ [y0, y1]) (M.drop (j + 1)) = rest at hr
          have HREST := hide hrest
          have AT1 := hide (unhide AT y0 y1)
          generalize atFrom y0 y1 0 Q = at1 at AT1 hr
          have IN0 := hide (fun w' (hb : Below wr.heap.size wr w') => l03In_any A5 U.length C5 wr.heap.size U y0 (by have := unhide HU; omega) w' ((by obtain ⟨a', c', e', h'⟩ := intsAt_of_own own3; simp at e'; obtain ⟨rfl, rfl⟩ := e'; exact h' : IntsAt wr A5 U.length wr.heap.size U).below hb (Nat.le_refl _)))
          have IN1 := hide (fun w' (hb : Below wr.heap.size wr w') => l03In_any A5 U.length C5 wr.heap.size U y1 (by have := unhide HU; omega) w' ((by obtain ⟨a', c', e', h'⟩ := intsAt_of_own own3; simp at e'; obtain ⟨rfl, rfl⟩ := e'; exact h' : IntsAt wr A5 U.length wr.heap.size U).below hb (Nat.le_refl _)))
          generalize inK U y0 = k0 at IN0 hr
          generalize inK U y1 = k1 at IN1 hr
          have HOW := hide own3
          have HB3 := hide hb3
          have x4 := (unhide HX2).below hb3
          have hx0 : (0 : Int) ≤ (j : Int) := by omega
          have hx1 : (j : Int) < (n : Int) := by omega
          have hx9 : (n : Int) ≤ 9 := by omega
          have hz4 := hb3.size
          clear hpe hq hrest HNX HNX2 HR own3 hb3
          go_upto_region 8 with fail
          obtain ⟨W, hW⟩ : ∃ W, W = wr.alloc (Obj.cells #[Value.int .i64 y0, Value.int .i64 y1] 60) := ⟨_, rfl⟩
          rw [← hW]
          have bW : Below wr.heap.size wr W := by rw [hW]; exact below_new _ _
          have eW : W.heap[wr.heap.size]? = some (.cells #[Value.int .i64 y0, Value.int .i64 y1] 60 (0, 0)) := by rw [hW]; exact heap_alloc_new _ _
          obtain ⟨f0, f1, _⟩ := cells_of_two eW
          obtain ⟨p0, p1⟩ := (x4.below bW).cells
          have hfW : wr.heap.size < W.heap.size := by rw [hW]; simp
          have hgW : w.heap.size < W.heap.size := (x4.below bW).lt
          have hbW : b < W.heap.size := by omega
          have cW : Below w.heap.size w W := b3.trans (bW.mono b3.size)
          have HPR2 : Hid (∀ q, pe = some q → 0 < j ∧ W.cell? ⟨b, off + (j - 1) * 2, none⟩ = some (.int .i64 q.A)) := fun q hq => ⟨(unhide HPR q hq).1, (bW.cell (p := ⟨b, off + (j - 1) * 2, none⟩) (show b < wr.heap.size by omega)).trans (unhide HPR q hq).2⟩
          have HCW := hide cW
          have HGB : Hid (∀ d : Grown W.heap.size W, Below wr.heap.size wr d.w) := fun d => bW.trans (d.below.mono bW.size)
          have HGC : Hid (∀ d : Grown W.heap.size W, Below w.heap.size w d.w) := fun d => cW.trans (d.below.mono cW.size)
          clear hW eW x4 c1 c2 HPR
          by_cases t1 : y1 ≤ y0
          · rw [decide_eq_false (show ¬ y0 < y1 by omega), Bool.false_and] at hr
            subst hr
            clear HPR2
            go_quiet (fail)
            go_wp2
            go_ret
            exact ⟨rfl, below_drewN (unhide HCW) _⟩
          · rw [decide_eq_true (show y0 < y1 by omega), Bool.true_and] at hr
            have e1 : decide (y1 ≤ y0) = false := decide_eq_false t1
            cases pe with
            | none =>
              obtain rfl : j = 0 := unhide HPZ rfl
              change R = (true && _) at hr
              rw [Bool.true_and] at hr
              clear HPR2
              by_cases t3 : at1 < 0
              · rw [decide_eq_false (show ¬ 0 ≤ at1 by omega), Bool.false_and] at hr
                subst hr
                have gf0 : ∀ d : Grown W.heap.size W, d.w.cell? ⟨wr.heap.size, 0, none⟩ = some (.int .i64 y0) := fun d => d.cell hfW f0
                have gf1 : ∀ d : Grown W.heap.size W, d.w.cell? ⟨wr.heap.size, 1, none⟩ = some (.int .i64 y1) := fun d => d.cell hfW f1
                have gp0 : ∀ d : Grown W.heap.size W, d.w.cell? ⟨w.heap.size, 0, none⟩ = some (.int .i64 s) := fun d => d.cell hgW p0
                have gp1 : ∀ d : Grown W.heap.size W, d.w.cell? ⟨w.heap.size, 1, none⟩ = some (.slice a0 n0 c0) := fun d => d.cell hgW p1
                clear f0 f1 p0 p1
                refine wp_region_grown W.heap.size (by kernel_rfl) (by kernel_rfl) ?_
                repeat (go_big_quiet_step (first
                  | (go_at_call 59; exact Calls.grown (Nat.le_refl _) (unhide AT1 _ (unhide HGC _)))
                  | (go_at_call_of 60 (Value.int IntKind.i64 y0); exact Calls.grown_same (unhide IN0 _ (unhide HGB _)))
                  | (go_at_call_of 60 (Value.int IntKind.i64 y1); exact Calls.grown_same (unhide IN1 _ (unhide HGB _)))))
                refine wpQuiet_nil ?_
                rintro w5 ⟨d5, rfl⟩
                have bw5 := unhide HGB d5
                have zw5 := d5.below.size
                go_wp2
                go_ret
                exact ⟨rfl, b3.trans (bw5.mono b3.size)⟩
              · rw [decide_eq_true (show 0 ≤ at1 by omega), Bool.true_and] at hr
                have e3 : decide (at1 < 0) = false := decide_eq_false t3
                cases k0
                · rw [Bool.not_false, Bool.true_and] at hr
                  cases k1
                  · rw [Bool.not_false, Bool.true_and] at hr
                    have gf0 : ∀ d : Grown W.heap.size W, d.w.cell? ⟨wr.heap.size, 0, none⟩ = some (.int .i64 y0) := fun d => d.cell hfW f0
                    have gf1 : ∀ d : Grown W.heap.size W, d.w.cell? ⟨wr.heap.size, 1, none⟩ = some (.int .i64 y1) := fun d => d.cell hfW f1
                    have gp0 : ∀ d : Grown W.heap.size W, d.w.cell? ⟨w.heap.size, 0, none⟩ = some (.int .i64 s) := fun d => d.cell hgW p0
                    have gp1 : ∀ d : Grown W.heap.size W, d.w.cell? ⟨w.heap.size, 1, none⟩ = some (.slice a0 n0 c0) := fun d => d.cell hgW p1
                    clear f0 f1 p0 p1
                    refine wp_region_grown W.heap.size (by kernel_rfl) (by kernel_rfl) ?_
                    repeat (go_big_quiet_step (first
                      | (go_at_call 59; exact Calls.grown (Nat.le_refl _) (unhide AT1 _ (unhide HGC _)))
                      | (go_at_call_of 60 (Value.int IntKind.i64 y0); exact Calls.grown_same (unhide IN0 _ (unhide HGB _)))
                      | (go_at_call_of 60 (Value.int IntKind.i64 y1); exact Calls.grown_same (unhide IN1 _ (unhide HGB _)))))
                    refine wpQuiet_nil ?_
                    rintro w5 ⟨d5, rfl⟩
                    have bw5 := unhide HGB d5
                    have zw5 := d5.below.size
                    have own5 := own_below (unhide HOW) bw5
                    have cU : U.length ≤ 18 := by have := unhide HU; omega
                    go_wp2_with (at_builtin; refine wpList_append_own _ rfl _ _ 26 rfl w2.heap.size 3 i0 (.int .i64 0) 1 8 Try.underlying26 hi hz0 hz1 hz2 rfl (by decide) _ _ _ rfl (own5.alloc _) ⟨d5.w.heap.size, 0, none⟩ 2 2 [.int .i64 y0, .int .i64 y1] rfl rfl (World.news_of_block (heap_alloc_new _ _)) (two_int _ _) ?_ ?_ ?_ ?_)
                    · unfold maxLen; omega
                    · omega
                    · first | omega | (simp; omega)
                    intro v' w7 hown' hgrow _
                    have HMD : Hid (MD w2 Q M R (0 + 1) v' w7) := ⟨below_append ((unhide HB3).trans (bw5.mono (unhide HB3).size)) (Nat.le_refl _) own5 hgrow, U ++ [y0, y1], by rw [List.length_append, unhide HU]; first | rfl | omega | (simp; omega), hr.trans (unhide HREST).symm, by rw [List.length_append, intsV_two]; exact hown'⟩
                    clear hown' hgrow own5 cU
                    go_wp2
                    go_roundw
                    case rel => exact ⟨0 + 1, by go_num, by omega, unhide HMD⟩
                    case measure => simp [intOf]; omega
                  · rw [Bool.not_true, Bool.false_and] at hr
                    subst hr
                    have gf0 : ∀ d : Grown W.heap.size W, d.w.cell? ⟨wr.heap.size, 0, none⟩ = some (.int .i64 y0) := fun d => d.cell hfW f0
                    have gf1 : ∀ d : Grown W.heap.size W, d.w.cell? ⟨wr.heap.size, 1, none⟩ = some (.int .i64 y1) := fun d => d.cell hfW f1
                    have gp0 : ∀ d : Grown W.heap.size W, d.w.cell? ⟨w.heap.size, 0, none⟩ = some (.int .i64 s) := fun d => d.cell hgW p0
                    have gp1 : ∀ d : Grown W.heap.size W, d.w.cell? ⟨w.heap.size, 1, none⟩ = some (.slice a0 n0 c0) := fun d => d.cell hgW p1
                    clear f0 f1 p0 p1
                    refine wp_region_grown W.heap.size (by kernel_rfl) (by kernel_rfl) ?_
                    repeat (go_big_quiet_step (first
                      | (go_at_call 59; exact Calls.grown (Nat.le_refl _) (unhide AT1 _ (unhide HGC _)))
                      | (go_at_call_of 60 (Value.int IntKind.i64 y0); exact Calls.grown_same (unhide IN0 _ (unhide HGB _)))
                      | (go_at_call_of 60 (Value.int IntKind.i64 y1); exact Calls.grown_same (unhide IN1 _ (unhide HGB _)))))
                    refine wpQuiet_nil ?_
                    rintro w5 ⟨d5, rfl⟩
                    have bw5 := unhide HGB d5
                    have zw5 := d5.below.size
                    go_wp2
                    go_ret
                    exact ⟨rfl, b3.trans (bw5.mono b3.size)⟩
                · rw [Bool.not_true, Bool.false_and] at hr
                  subst hr
                  have gf0 : ∀ d : Grown W.heap.size W, d.w.cell? ⟨wr.heap.size, 0, none⟩ = some (.int .i64 y0) := fun d => d.cell hfW f0
                  have gf1 : ∀ d : Grown W.heap.size W, d.w.cell? ⟨wr.heap.size, 1, none⟩ = some (.int .i64 y1) := fun d => d.cell hfW f1
                  have gp0 : ∀ d : Grown W.heap.size W, d.w.cell? ⟨w.heap.size, 0, none⟩ = some (.int .i64 s) := fun d => d.cell hgW p0
                  have gp1 : ∀ d : Grown W.heap.size W, d.w.cell? ⟨w.heap.size, 1, none⟩ = some (.slice a0 n0 c0) := fun d => d.cell hgW p1
                  clear f0 f1 p0 p1
                  refine wp_region_grown W.heap.size (by kernel_rfl) (by kernel_rfl) ?_
                  repeat (go_big_quiet_step (first
                    | (go_at_call 59; exact Calls.grown (Nat.le_refl _) (unhide AT1 _ (unhide HGC _)))
                    | (go_at_call_of 60 (Value.int IntKind.i64 y0); exact Calls.grown_same (unhide IN0 _ (unhide HGB _)))
                    | (go_at_call_of 60 (Value.int IntKind.i64 y1); exact Calls.grown_same (unhide IN1 _ (unhide HGB _)))))
                  refine wpQuiet_nil ?_
                  rintro w5 ⟨d5, rfl⟩
                  have bw5 := unhide HGB d5
                  have zw5 := d5.below.size
                  go_wp2
                  go_ret
                  exact ⟨rfl, b3.trans (bw5.mono b3.size)⟩
            | some q =>
              obtain ⟨hj0, d0⟩ := unhide HPR2 q rfl
              obtain ⟨i, rfl⟩ : ∃ i, j = i + 1 := ⟨j - 1, by omega⟩
              rw [Nat.add_sub_cancel] at d0
              obtain ⟨q0, q1⟩ := q
              simp only at d0
              change R = (decide (q0 < y0) && _) at hr
              have hj1 : (0 : Int) < (i : Int) + 1 := by omega
              have hi0 : (0 : Int) ≤ (i : Int) := by omega
              have hi1 : (i : Int) < (n : Int) := by omega
              have hi2 : (i : Int) + 1 - 1 = (i : Int) := by omega
              have hi3 : IntKind.i64.wrap ((i : Int) + 1 - 1) = (i : Int) := by rw [hi2]; exact wrap_in _ (by omega)
              have hi4 : IntKind.i64.wrap (i : Int) = (i : Int) := wrap_in _ (by omega)
              have hi5 : IntKind.i64.wrap ((i : Int) + 1) = (i : Int) + 1 := wrap_in _ (by omega)
              clear HPR2
              by_cases t2 : y0 ≤ q0
              · rw [decide_eq_false (show ¬ q0 < y0 by omega), Bool.false_and] at hr
                subst hr
                go_quiet (fail)
                go_wp2
                go_ret
                exact ⟨rfl, below_drewN (unhide HCW) _⟩
              · rw [decide_eq_true (show q0 < y0 by omega), Bool.true_and] at hr
                have e2 : decide (y0 ≤ q0) = false := decide_eq_false t2
                by_cases t3 : at1 < 0
                · rw [decide_eq_false (show ¬ 0 ≤ at1 by omega), Bool.false_and] at hr
                  subst hr
                  have gf0 : ∀ d : Grown W.heap.size W, d.w.cell? ⟨wr.heap.size, 0, none⟩ = some (.int .i64 y0) := fun d => d.cell hfW f0
                  have gf1 : ∀ d : Grown W.heap.size W, d.w.cell? ⟨wr.heap.size, 1, none⟩ = some (.int .i64 y1) := fun d => d.cell hfW f1
                  have gp0 : ∀ d : Grown W.heap.size W, d.w.cell? ⟨w.heap.size, 0, none⟩ = some (.int .i64 s) := fun d => d.cell hgW p0
                  have gp1 : ∀ d : Grown W.heap.size W, d.w.cell? ⟨w.heap.size, 1, none⟩ = some (.slice a0 n0 c0) := fun d => d.cell hgW p1
                  have gd0 : ∀ d : Grown W.heap.size W, d.w.cell? ⟨b, off + i * 2, none⟩ = some (.int .i64 q0) := fun d => d.cell hbW d0
                  clear f0 f1 p0 p1 d0
                  refine wp_region_grown W.heap.size (by kernel_rfl) (by kernel_rfl) ?_
                  repeat (go_big_quiet_step (first
                    | (go_at_call 59; exact Calls.grown (Nat.le_refl _) (unhide AT1 _ (unhide HGC _)))
                    | (go_at_call_of 60 (Value.int IntKind.i64 y0); exact Calls.grown_same (unhide IN0 _ (unhide HGB _)))
                    | (go_at_call_of 60 (Value.int IntKind.i64 y1); exact Calls.grown_same (unhide IN1 _ (unhide HGB _)))))
                  refine wpQuiet_nil ?_
                  rintro w5 ⟨d5, rfl⟩
                  have bw5 := unhide HGB d5
                  have zw5 := d5.below.size
                  go_wp2
                  go_ret
                  exact ⟨rfl, b3.trans (bw5.mono b3.size)⟩
                · rw [decide_eq_true (show 0 ≤ at1 by omega), Bool.true_and] at hr
                  have e3 : decide (at1 < 0) = false := decide_eq_false t3
                  cases k0
                  · rw [Bool.not_false, Bool.true_and] at hr
                    cases k1
                    · rw [Bool.not_false, Bool.true_and] at hr
                      have gf0 : ∀ d : Grown W.heap.size W, d.w.cell? ⟨wr.heap.size, 0, none⟩ = some (.int .i64 y0) := fun d => d.cell hfW f0
                      have gf1 : ∀ d : Grown W.heap.size W, d.w.cell? ⟨wr.heap.size, 1, none⟩ = some (.int .i64 y1) := fun d => d.cell hfW f1
                      have gp0 : ∀ d : Grown W.heap.size W, d.w.cell? ⟨w.heap.size, 0, none⟩ = some (.int .i64 s) := fun d => d.cell hgW p0
                      have gp1 : ∀ d : Grown W.heap.size W, d.w.cell? ⟨w.heap.size, 1, none⟩ = some (.slice a0 n0 c0) := fun d => d.cell hgW p1
                      have gd0 : ∀ d : Grown W.heap.size W, d.w.cell? ⟨b, off + i * 2, none⟩ = some (.int .i64 q0) := fun d => d.cell hbW d0
                      clear f0 f1 p0 p1 d0
                      refine wp_region_grown W.heap.size (by kernel_rfl) (by kernel_rfl) ?_
                      repeat (go_big_quiet_step (first
                        | (go_at_call 59; exact Calls.grown (Nat.le_refl _) (unhide AT1 _ (unhide HGC _)))
                        | (go_at_call_of 60 (Value.int IntKind.i64 y0); exact Calls.grown_same (unhide IN0 _ (unhide HGB _)))
                        | (go_at_call_of 60 (Value.int IntKind.i64 y1); exact Calls.grown_same (unhide IN1 _ (unhide HGB _)))))
                      refine wpQuiet_nil ?_
                      rintro w5 ⟨d5, rfl⟩
                      have bw5 := unhide HGB d5
                      have zw5 := d5.below.size
                      have own5 := own_below (unhide HOW) bw5
                      have cU : U.length ≤ 18 := by have := unhide HU; omega
                      go_wp2_with (at_builtin; refine wpList_append_own _ rfl _ _ 26 rfl w2.heap.size 3 i0 (.int .i64 0) 1 8 Try.underlying26 hi hz0 hz1 hz2 rfl (by decide) _ _ _ rfl (own5.alloc _) ⟨d5.w.heap.size, 0, none⟩ 2 2 [.int .i64 y0, .int .i64 y1] rfl rfl (World.news_of_block (heap_alloc_new _ _)) (two_int _ _) ?_ ?_ ?_ ?_)
                      · unfold maxLen; omega
                      · omega
                      · first | omega | (simp; omega)
                      intro v' w7 hown' hgrow _
                      have HMD : Hid (MD w2 Q M R (i + 1 + 1) v' w7) := ⟨below_append ((unhide HB3).trans (bw5.mono (unhide HB3).size)) (Nat.le_refl _) own5 hgrow, U ++ [y0, y1], by rw [List.length_append, unhide HU]; first | rfl | omega | (simp; omega), hr.trans (unhide HREST).symm, by rw [List.length_append, intsV_two]; exact hown'⟩
                      clear hown' hgrow own5 cU
                      go_wp2
                      go_roundw
                      case rel => exact ⟨i + 1 + 1, by go_num, by omega, unhide HMD⟩
                      case measure => simp [intOf]; omega
                    · rw [Bool.not_true, Bool.false_and] at hr
                      subst hr
                      have gf0 : ∀ d : Grown W.heap.size W, d.w.cell? ⟨wr.heap.size, 0, none⟩ = some (.int .i64 y0) := fun d => d.cell hfW f0
                      have gf1 : ∀ d : Grown W.heap.size W, d.w.cell? ⟨wr.heap.size, 1, none⟩ = some (.int .i64 y1) := fun d => d.cell hfW f1
                      have gp0 : ∀ d : Grown W.heap.size W, d.w.cell? ⟨w.heap.size, 0, none⟩ = some (.int .i64 s) := fun d => d.cell hgW p0
                      have gp1 : ∀ d : Grown W.heap.size W, d.w.cell? ⟨w.heap.size, 1, none⟩ = some (.slice a0 n0 c0) := fun d => d.cell hgW p1
                      have gd0 : ∀ d : Grown W.heap.size W, d.w.cell? ⟨b, off + i * 2, none⟩ = some (.int .i64 q0) := fun d => d.cell hbW d0
                      clear f0 f1 p0 p1 d0
                      refine wp_region_grown W.heap.size (by kernel_rfl) (by kernel_rfl) ?_
                      repeat (go_big_quiet_step (first
                        | (go_at_call 59; exact Calls.grown (Nat.le_refl _) (unhide AT1 _ (unhide HGC _)))
                        | (go_at_call_of 60 (Value.int IntKind.i64 y0); exact Calls.grown_same (unhide IN0 _ (unhide HGB _)))
                        | (go_at_call_of 60 (Value.int IntKind.i64 y1); exact Calls.grown_same (unhide IN1 _ (unhide HGB _)))))
                      refine wpQuiet_nil ?_
                      rintro w5 ⟨d5, rfl⟩
                      have bw5 := unhide HGB d5
                      have zw5 := d5.below.size
                      go_wp2
                      go_ret
                      exact ⟨rfl, b3.trans (bw5.mono b3.size)⟩
                  · rw [Bool.not_true, Bool.false_and] at hr
                    subst hr
                    have gf0 : ∀ d : Grown W.heap.size W, d.w.cell? ⟨wr.heap.size, 0, none⟩ = some (.int .i64 y0) := fun d => d.cell hfW f0
                    have gf1 : ∀ d : Grown W.heap.size W, d.w.cell? ⟨wr.heap.size, 1, none⟩ = some (.int .i64 y1) := fun d => d.cell hfW f1
                    have gp0 : ∀ d : Grown W.heap.size W, d.w.cell? ⟨w.heap.size, 0, none⟩ = some (.int .i64 s) := fun d => d.cell hgW p0
                    have gp1 : ∀ d : Grown W.heap.size W, d.w.cell? ⟨w.heap.size, 1, none⟩ = some (.slice a0 n0 c0) := fun d => d.cell hgW p1
                    have gd0 : ∀ d : Grown W.heap.size W, d.w.cell? ⟨b, off + i * 2, none⟩ = some (.int .i64 q0) := fun d => d.cell hbW d0
                    clear f0 f1 p0 p1 d0
                    refine wp_region_grown W.heap.size (by kernel_rfl) (by kernel_rfl) ?_
                    repeat (go_big_quiet_step (first
                      | (go_at_call 59; exact Calls.grown (Nat.le_refl _) (unhide AT1 _ (unhide HGC _)))
                      | (go_at_call_of 60 (Value.int IntKind.i64 y0); exact Calls.grown_same (unhide IN0 _ (unhide HGB _)))
                      | (go_at_call_of 60 (Value.int IntKind.i64 y1); exact Calls.grown_same (unhide IN1 _ (unhide HGB _)))))
                    refine wpQuiet_nil ?_
                    rintro w5 ⟨d5, rfl⟩
                    have bw5 := unhide HGB d5
                    have zw5 := d5.below.size
                    go_wp2
                    go_ret
                    exact ⟨rfl, b3.trans (bw5.mono b3.size)⟩
        · obtain rfl : j = n := by omega
          obtain rfl := (unhide HR).trans (unhide HEND U)
          go_wp2
          go_ret
          exact ⟨rfl, b3⟩

end Gr
end Go.Proofs.Ytldbanpfhlmjmaa

/-
  Proofs, as mathematics: what is one, its slacks, its sum.
-/
namespace Go.Proofs.Ytldbanpfhlmjmaa
namespace Gr
open Go.RowKit

/-- z of all groups that have both ends of an edge, and what was there. -/
def slackG (e : EdgeI) : Int → List GrpI → Int
  | s, [] => s
  | s, q :: r => slackG e (if (inK q.M e.A && inK q.M e.B) = true then s + q.Z else s) r

/-- The x-th number. -/
def yAt (Y : List Int) (x : Int) : Int := Y.getD x.toNat 0

def slackI (Y : List Int) (G : List GrpI) (e : EdgeI) : Int := slackG e (yAt Y e.A + yAt Y e.B - 2 * scal e) G

/-- How many of some are among b, and n. -/
def cntIn (b : List Int) : Nat → List Int → Nat
  | n, [] => n
  | n, x :: r => cntIn b (if inK b x = true then n + 1 else n) r

/-- One has all of the other one, or they have none in common. -/
def nested (a b : List Int) : Bool := decide (cntIn b 0 a = 0) || (decide (cntIn b 0 a = a.length) || decide (cntIn b 0 a = b.length))

/-- Members behind p: ascending vertices. -/
def memOk (s : Int) : Option Int → List Int → Bool
  | _, [] => true
  | p, x :: r => (decide (0 ≤ x) && decide (x ≤ s - 1)) && ((match p with | none => true | some q => decide (q < x)) && memOk s (some x) r)

def grpHead (s : Int) (q : GrpI) : Bool := decide (3 ≤ q.M.length) && (decide (q.M.length % 2 = 1) && (decide ((q.M.length : Int) ≤ s) && (decide (1 ≤ q.Z) && decide (q.Z ≤ 1000000000))))

def nestAll (b : List Int) : List GrpI → Bool
  | [] => true
  | x :: r => nested x.M b && nestAll b r

/-- Groups behind others. -/
def grpsOk (s : Int) : List GrpI → List GrpI → Bool
  | _, [] => true
  | D, q :: r => grpHead s q && (memOk s none q.M && (nestAll q.M D && grpsOk s (D ++ [q]) r))

def yOk : List Int → Bool
  | [] => true
  | x :: r => (decide (0 ≤ x) && decide (x ≤ 1000000000)) && yOk r

def slacksOk (Y : List Int) (G : List GrpI) : List EdgeI → Bool
  | [] => true
  | e :: r => decide (0 ≤ slackI Y G e) && slacksOk Y G r

/-- What a proof is. -/
def proofOk (s : Int) (Q : List EdgeI) (Y : List Int) (G : List GrpI) : Bool :=
  graphOk s Q && (decide ((Y.length : Int) = s) && (decide (G.length ≤ 8) && (yOk Y && (grpsOk s [] G && slacksOk Y G Q))))

def ySum : Int → List Int → Int
  | n, [] => n
  | n, x :: r => ySum (n + x) r

def gSum : Int → List GrpI → Int
  | n, [] => n
  | n, q :: r => gSum (n + q.Z * ((q.M.length / 2 : Nat) : Int)) r

/-- What no pairing has more than, twice. -/
def sumI (Y : List Int) (G : List GrpI) : Int := gSum (ySum 0 Y) G

def boundR (s : Int) (Q : List EdgeI) (Y : List Int) (G : List GrpI) : Int := if proofOk s Q Y G = true then sumI Y G / 2 else 0

theorem drop_step {α : Type} (L : List α) (k : Nat) (h : k < L.length) : L.drop k = L[k] :: L.drop (k + 1) := List.drop_eq_getElem_cons h

theorem yOk_at : ∀ (Y : List Int), yOk Y = true → ∀ x ∈ Y, 0 ≤ x ∧ x ≤ 1000000000
  | [], _, x, hx => by simp at hx
  | y :: r, h, x, hx => by
    unfold yOk at h
    simp only [Bool.and_eq_true, decide_eq_true_eq] at h
    rcases List.mem_cons.1 hx with rfl | hx
    · exact h.1
    · exact yOk_at r h.2 x hx

theorem grpsOk_at (s : Int) : ∀ (G D : List GrpI), grpsOk s D G = true → ∀ q ∈ G, grpHead s q = true
  | [], _, _, q, hq => by simp at hq
  | x :: r, D, h, q, hq => by
    unfold grpsOk at h
    simp only [Bool.and_eq_true] at h
    rcases List.mem_cons.1 hq with rfl | hq
    · exact h.1
    · exact grpsOk_at s r (D ++ [x]) h.2.2.2 q hq

theorem grpHead_iff (s : Int) (q : GrpI) : grpHead s q = true ↔ 3 ≤ q.M.length ∧ q.M.length % 2 = 1 ∧ (q.M.length : Int) ≤ s ∧ 1 ≤ q.Z ∧ q.Z ≤ 1000000000 := by
  unfold grpHead
  simp

theorem ySum_bounds : ∀ (Y : List Int) (n : Int), (∀ x ∈ Y, 0 ≤ x ∧ x ≤ 1000000000) → n ≤ ySum n Y ∧ ySum n Y ≤ n + 1000000000 * (Y.length : Int)
  | [], n, _ => by unfold ySum; simp
  | x :: r, n, h => by
    have hx := h x List.mem_cons_self
    have := ySum_bounds r (n + x) (fun y hy => h y (List.mem_cons_of_mem _ hy))
    unfold ySum
    rw [List.length_cons]
    omega

theorem half_bounds {q : GrpI} {s : Int} (h : grpHead s q = true) (h9 : s ≤ 9) : 0 ≤ q.Z * ((q.M.length / 2 : Nat) : Int) ∧ q.Z * ((q.M.length / 2 : Nat) : Int) ≤ 4000000000 := by
  obtain ⟨h1, h2, h3, h4, h5⟩ := (grpHead_iff s q).1 h
  have hk : q.M.length / 2 ≤ 4 := by omega
  have : q.M.length / 2 = 0 ∨ q.M.length / 2 = 1 ∨ q.M.length / 2 = 2 ∨ q.M.length / 2 = 3 ∨ q.M.length / 2 = 4 := by omega
  rcases this with e | e | e | e | e <;> rw [e] <;> omega

theorem gSum_bounds {s : Int} (h9 : s ≤ 9) : ∀ (G : List GrpI) (n : Int), (∀ q ∈ G, grpHead s q = true) → n ≤ gSum n G ∧ gSum n G ≤ n + 4000000000 * (G.length : Int)
  | [], n, _ => by unfold gSum; simp
  | q :: r, n, h => by
    have hq := half_bounds (h q List.mem_cons_self) h9
    have := gSum_bounds h9 r (n + q.Z * ((q.M.length / 2 : Nat) : Int)) (fun y hy => h y (List.mem_cons_of_mem _ hy))
    unfold gSum
    rw [List.length_cons]
    omega

theorem slackG_bounds {s : Int} (e : EdgeI) : ∀ (G : List GrpI) (n : Int), (∀ q ∈ G, grpHead s q = true) → n ≤ slackG e n G ∧ slackG e n G ≤ n + 1000000000 * (G.length : Int)
  | [], n, _ => by unfold slackG; simp
  | q :: r, n, h => by
    obtain ⟨_, _, _, h4, h5⟩ := (grpHead_iff s q).1 (h q List.mem_cons_self)
    have i1 := slackG_bounds e r (n + q.Z) (fun y hy => h y (List.mem_cons_of_mem _ hy))
    have i2 := slackG_bounds e r n (fun y hy => h y (List.mem_cons_of_mem _ hy))
    unfold slackG
    rw [List.length_cons]
    split <;> omega

theorem scal_range {s : Int} {e : EdgeI} (he : edgeOk s e = true) : 0 ≤ scal e ∧ scal e ≤ 4515050 := by
  obtain ⟨_, _, _, h1, h2, h3⟩ := (edgeOk_iff s e).1 he
  have e1 : 0 ≤ e.W1 ∧ e.W1 ≤ 50 := by unfold worthOk at h1; simpa using h1
  have e2 : 0 ≤ e.W2 ∧ e.W2 ≤ 50 := by unfold worthOk at h2; simpa using h2
  have e3 : 0 ≤ e.W3 ∧ e.W3 ≤ 50 := by unfold worthOk at h3; simpa using h3
  have hs : scal e = 90000 * e.W1 + 300 * e.W2 + e.W3 := by
    unfold scal
    rw [wrap_mod]
    omega
  rw [hs]
  omega

theorem cntIn_le (b : List Int) : ∀ (a : List Int) (n : Nat), cntIn b n a ≤ n + a.length
  | [], n => by unfold cntIn; simp
  | x :: r, n => by
    unfold cntIn
    rw [List.length_cons]
    split
    · have := cntIn_le b r (n + 1); omega
    · have := cntIn_le b r n; omega
end Gr
end Go.Proofs.Ytldbanpfhlmjmaa
