/-
  The kind of []string: equal ones, marks, what is held.
-/
import Derived.Test.YtldbanpfhlmjmaaGrMark
import Derived.Test.YtldbanpfhlmjmaaGrKinds
import Derived.Test.YtldbanpfhlmjmaaGrGrown
namespace Go.Proofs.Ytldbanpfhlmjmaa
namespace Gr
open Go.RowKit

def textsV (L : List ByteArray) : List Value := L.map Value.string

theorem textsV_set (L : List ByteArray) (i : Nat) (x : ByteArray) : (textsV L).set i (.string x) = textsV (L.set i x) := by simp [textsV, List.map_set]

/-- A row of texts that can be read. -/
def textsAt (w : World) (a : Option Addr) (len B : Nat) (L : List ByteArray) : Prop :=
  L.length = len ∧ ∀ j (h : j < L.length), ∃ b off, a = some ⟨b, off, none⟩ ∧ b < B ∧ w.cell? ⟨b, off + j, none⟩ = some (.string L[j])

def StAt (w : World) (v : Value) (B : Nat) (L : List ByteArray) : Prop := ∃ a c, v = .slice a L.length c ∧ textsAt w a L.length B L
def StOwn (w : World) (B : Nat) (v : Value) (L : List ByteArray) : Prop := w.ownsRow B 9 1 v L.length (textsV L)
def StBlk (v : Value) (g : Nat) : Prop := v.ownBlock = some g

theorem textsAt.below {w w' : World} {a : Option Addr} {len B C : Nat} {L : List ByteArray} (h : textsAt w a len B L) (hb : Below C w w') (hC : B ≤ C) : textsAt w' a len B L := by
  refine ⟨h.1, fun j hj => ?_⟩
  obtain ⟨b, off, e, hbB, c0⟩ := h.2 j hj
  exact ⟨b, off, e, hbB, by rw [hb.cell (p := ⟨b, off + j, none⟩) (by simp; omega)]; exact c0⟩

theorem StAt.shape {w : World} {v : Value} {B : Nat} {L : List ByteArray} (h : StAt w v B L) : ∃ a c, v = .slice a L.length c := by
  obtain ⟨a, c, rfl, _⟩ := h
  exact ⟨a, c, rfl⟩

theorem StAt.below {w w' : World} {v : Value} {B C : Nat} {L : List ByteArray} (h : StAt w v B L) (hb : Below C w w') (hC : B ≤ C) : StAt w' v B L := by
  obtain ⟨a, c, rfl, hQ⟩ := h
  exact ⟨a, c, rfl, hQ.below hb hC⟩

theorem StAt.mono {w : World} {v : Value} {B C : Nat} {L : List ByteArray} (h : StAt w v B L) (hC : B ≤ C) : StAt w v C L := by
  obtain ⟨a, c, rfl, h1, h2⟩ := h
  refine ⟨a, c, rfl, h1, fun j hj => ?_⟩
  obtain ⟨b, off, e, hb, hc⟩ := h2 j hj
  exact ⟨b, off, e, by omega, hc⟩

theorem StOwn.at {w : World} {B : Nat} {v : Value} {L : List ByteArray} (h : StOwn w B v L) : StAt w v w.heap.size L := by
  rcases h.2 with ⟨rfl, h0⟩ | ⟨g, cap, cur, rfl, hg, hh, _⟩
  · have hl : L = [] := by cases L with | nil => rfl | cons x r => simp at h0
    subst hl
    exact ⟨none, 0, rfl, rfl, fun j hj => by simp at hj⟩
  · refine ⟨some ⟨g, 0, none⟩, cap, rfl, rfl, fun j hj => ?_⟩
    have hlt : g < w.heap.size := by
      rcases Nat.lt_or_ge g w.heap.size with h1 | h1
      · exact h1
      · rw [Array.getElem?_eq_none h1] at hh; cases hh
    refine ⟨g, 0, rfl, hlt, ?_⟩
    have := World.ownsRow.cellAt h j (by omega)
    rw [Nat.zero_add]
    rw [this]
    simp [textsV, hj]

theorem StOwn.below {w w' : World} {B : Nat} {v : Value} {L : List ByteArray} (h : StOwn w B v L) (hb : Below w.heap.size w w') : StOwn w' B v L := own_below h hb
theorem StOwn.lower {w : World} {B C : Nat} {v : Value} {L : List ByteArray} (h : StOwn w B v L) (hC : C ≤ B) : StOwn w C v L := own_lower hC h
theorem StOwn.blk {w : World} {B : Nat} {v : Value} {L : List ByteArray} (h : StOwn w B v L) : ∀ g, StBlk v g → B ≤ g ∧ g < w.heap.size := fun g hg => World.ownsRow.lt h g hg
theorem StOwn.kept {S : Nat → Prop} {w w' : World} {B : Nat} {v : Value} {L : List ByteArray} (h : StOwn w B v L) (hk : Kept S w w') (hS : ∀ g, StBlk v g → ¬ S g) : StOwn w' B v L := hk.own h hS

set_option maxRecDepth 100000 in
set_option maxHeartbeats 1000000 in
theorem eqStrS_gen (v u : Value) (B B' : Nat) (L : List ByteArray) (h1 : L.length ≤ 1048576) (w : World) (hB : B ≤ w.heap.size) (hB' : B' ≤ w.heap.size) (hv : StAt w v B L) (hu : StAt w u B' L) :
    Calls Try.prog 12 #[v, u] w fun e w' => e = .returned (.bool true) ∧ Below w.heap.size w w' := by
  obtain ⟨a, c, rfl, hc⟩ := hv.mono hB
  obtain ⟨a', c', rfl, hc'⟩ := hu.mono hB'
  have HC := hide hc.2
  have HC' := hide hc'.2
  obtain ⟨n, hn⟩ : ∃ n, n = L.length := ⟨_, rfl⟩
  have HN := hide hn
  rw [← hn] at h1 ⊢
  clear hc hc' hv hu hn
  go_enter Try.func12, Try.ntmps12
  go_wp2_with fail
  go_loopw [5] (fun i wr => ∃ k : Nat, i = .int .i64 (k : Int) ∧ k ≤ n ∧ Below w.heap.size w wr) (fun i _ => n - (intOf i).toNat)
  case atStart => exact ⟨0, rfl, Nat.zero_le _, Below.refl _ _⟩
  case round =>
    obtain ⟨k, rfl, hk, hb⟩ := hrel
    by_cases hlt : k < n
    · have hkL : k < L.length := by have := unhide HN; omega
      obtain ⟨b, off, rfl, hbB, d0⟩ := unhide HC k hkL
      obtain ⟨b', off', rfl, hbB', e0⟩ := unhide HC' k hkL
      generalize L[k] = x at d0 e0
      have hkn : (k : Int) < (n : Int) := by omega
      have hz := hb.size
      have D0 : ∀ d : Grown wr.heap.size wr, d.w.cell? ⟨b, off + k, none⟩ = some (.string x) := fun d => d.cell (by omega) ((hb.cell (p := ⟨b, off + k, none⟩) (by simp; omega)).trans d0)
      have E0 : ∀ d : Grown wr.heap.size wr, d.w.cell? ⟨b', off' + k, none⟩ = some (.string x) := fun d => d.cell (by omega) ((hb.cell (p := ⟨b', off' + k, none⟩) (by simp; omega)).trans e0)
      clear d0 e0
      go_wp2_with fail
      refine wp_region_grown wr.heap.size (by kernel_rfl) (by kernel_rfl) ?_
      repeat (go_big_quiet_step (first | fail))
      refine wpQuiet_nil ?_
      rintro w5 ⟨d5, rfl⟩
      go_wp2_with fail
      exact ⟨⟨k + 1, by go_num, by omega, hb.trans (d5.below.mono hb.size)⟩, by simp [intOf]; omega⟩
    · go_wp2_with fail
      go_ret
      exact ⟨rfl, hb⟩

/-- The mark of a number. -/
def mtx (k : Nat) : ByteArray := if k = 0 then ⟨#[109, 48]⟩ else markT k

theorem mark_text (k : Nat) (h1 : k ≤ 1000000000) (w : World) : Calls Try.prog 32 #[.int .i64 (k : Int)] w fun e w' => e = .returned (.string (mtx k)) ∧ Below w.heap.size w w' := by
  rcases Nat.eq_zero_or_pos k with h | h
  · subst h
    go_enter Try.func32, Try.ntmps32
    go_wp2
    go_ret
    exact ⟨rfl, Below.refl _ _⟩
  · have : mtx k = markT k := if_neg (by omega)
    rw [this]
    exact markText_any k h h1 w

def marksT (k n : Nat) : List ByteArray := (List.range n).map fun j => mtx (k + j)

theorem marksT_length (k n : Nat) : (marksT k n).length = n := by simp [marksT]
theorem marksT_at (k n i : Nat) (h : i < (marksT k n).length) : (marksT k n)[i] = mtx (k + i) := by simp [marksT]

set_option maxRecDepth 100000 in
set_option maxHeartbeats 1000000 in
theorem heldStrS_gen (v : Value) (B k n : Nat) (h1 : k + n ≤ 100000000) (w : World) (hB : B ≤ w.heap.size) (hv : StAt w v B (marksT k n)) :
    Calls Try.prog 14 #[v, .int .i64 (k : Int)] w fun e w' => e = .returned (.int .i64 ((k + n : Nat) : Int)) ∧ Below w.heap.size w w' := by
  obtain ⟨a, c, rfl, hc⟩ := hv
  rw [marksT_length] at hc ⊢
  have HC := hide hc.2
  have MT := hide (fun y (hy : y ≤ 1000000000) w => mark_text y hy w)
  clear hc
  go_enter Try.func14, Try.ntmps14
  go_wp2_with fail
  go_loopw [1, 5] (fun a1 i wr => ∃ j y : Nat, i = .int .i64 (j : Int) ∧ j ≤ n ∧ Hid (y = k + j) ∧ a1 = .int .i64 (y : Int) ∧ y ≤ 100000000 ∧ Below w.heap.size w wr) (fun _ i _ => n - (intOf i).toNat)
  case atStart => exact ⟨0, k, rfl, Nat.zero_le _, rfl, rfl, by omega, Below.refl _ _⟩
  case round =>
    obtain ⟨j, y, rfl, hj, HY, rfl, hy, hb⟩ := hrel
    by_cases hlt : j < n
    · have hjL : j < (marksT k n).length := by rw [marksT_length]; exact hlt
      obtain ⟨b, off, rfl, hbB, d0⟩ := unhide HC j hjL
      rw [marksT_at, ← unhide HY] at d0
      have MY := hide (unhide MT y (by omega))
      have hy1 : y + 1 ≤ 100000000 := by have := unhide HY; omega
      generalize mtx y = x at d0 MY
      have hjn : (j : Int) < (n : Int) := by omega
      have hz := hb.size
      have D0 : ∀ d : Grown wr.heap.size wr, d.w.cell? ⟨b, off + j, none⟩ = some (.string x) := fun d => d.cell (by omega) ((hb.cell (p := ⟨b, off + j, none⟩) (by simp; omega)).trans d0)
      clear d0
      go_wp2_with fail
      refine wp_region_grown wr.heap.size (by kernel_rfl) (by kernel_rfl) ?_
      repeat (go_big_quiet_step (first | (go_at_call 32; exact Calls.grown (Nat.le_refl _) (unhide MY _))))
      refine wpQuiet_nil ?_
      rintro w5 ⟨d5, rfl⟩
      go_wp2_with fail
      exact ⟨⟨j + 1, y + 1, by go_num, by omega, (by show _ = _; have := unhide HY; omega), by go_num, hy1, hb.trans (d5.below.mono hb.size)⟩, by simp [intOf]; omega⟩
    · obtain rfl : j = n := by omega
      go_wp2_with fail
      go_ret
      exact ⟨by rw [← unhide HY]; rfl, hb⟩
end Gr
end Go.Proofs.Ytldbanpfhlmjmaa
