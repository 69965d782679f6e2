/-
  The contracts of laws.markDevice and heldDevice: what is marked is held; nothing but the device's own rows is written.
-/
import Derived.Test.YtobdmjoonjblpaaGreatDoorHeld
namespace Go.Proofs.YtobdmjoonjblpaaGreatDoor
open Go.RowKit

/-- The blocks of a device's rows. -/
def DevBlk (v : Value) (g : Nat) : Prop := ∃ v0 v1, v = .agg #[v0, v1] ∧ (v0.ownBlock = some g ∨ v1.ownBlock = some g)

theorem DevOwn.blk {w : World} {B : Nat} {v : Value} {L : List ByteArray} {Q : List (Int × ByteArray)} (h : DevOwn w B v L Q) : ∀ g, DevBlk v g → B ≤ g ∧ g < w.heap.size := by
  obtain ⟨v0, v1, rfl, h0, h1, _⟩ := h
  rintro g ⟨u0, u1, e, hg⟩
  simp at e
  obtain ⟨rfl, rfl⟩ := e
  rcases hg with hg | hg
  · exact h0.lt g hg
  · exact h1.lt g hg

theorem DevOwn.kept {S : Nat → Prop} {w w' : World} {B : Nat} {v : Value} {L : List ByteArray} {Q : List (Int × ByteArray)} (h : DevOwn w B v L Q) (hk : Kept S w w') (hS : ∀ g, DevBlk v g → ¬ S g) : DevOwn w' B v L Q := by
  obtain ⟨v0, v1, rfl, h0, h1, h2⟩ := h
  exact ⟨v0, v1, rfl, hk.own h0 (fun g hg => hS g ⟨v0, v1, rfl, .inl hg⟩), hk.own h1 (fun g hg => hS g ⟨v0, v1, rfl, .inr hg⟩), h2⟩

/-- A device's variable in memory: its two fields in block g. -/
def Box (w : World) (g : Nat) (a b : Value) : Prop := w.heap[g]? = some (.cells #[a, b] 25 (0, 0))

theorem Box.lt {w : World} {g : Nat} {a b : Value} (h : Box w g a b) : g < w.heap.size := by
  rcases Nat.lt_or_ge g w.heap.size with h1 | h1
  · exact h1
  · unfold Box at h; rw [Array.getElem?_eq_none h1] at h; cases h

theorem Box.below {w w' : World} {g : Nat} {a b : Value} (h : Box w g a b) (hb : Below w.heap.size w w') : Box w' g a b := by
  unfold Box; rw [hb.block g h.lt]; exact h

theorem Box.kept {S : Nat → Prop} {w w' : World} {g : Nat} {a b : Value} (h : Box w g a b) (hk : Kept S w w') (hS : ¬ S g) : Box w' g a b := by
  unfold Box; rw [hk.2.2.2.2 g h.lt hS]; exact h

theorem Box.new (w : World) (a b : Value) : Box (w.alloc (Obj.cells #[a, b] 25)) w.heap.size a b := heap_alloc_new w _

theorem Box.cells {w : World} {g : Nat} {a b : Value} (h : Box w g a b) : w.cell? ⟨g, 0, none⟩ = some a ∧ w.cell? ⟨g, 1, none⟩ = some b :=
  ⟨(cells_of_two h).1, (cells_of_two h).2.1⟩

theorem below_new (w : World) (o : Obj) : Below w.heap.size w (w.alloc o) := (Below.refl _ _).alloc (Nat.le_refl _) _

set_option maxRecDepth 100000 in
set_option maxHeartbeats 1000000 in
theorem markDevice_any (v : Value) (B k : Nat) (L : List ByteArray) (Q : List (Int × ByteArray)) (h0 : 0 < k) (h1 : k + L.length + Q.length * 2 ≤ 100000000) (w : World) (ho : DevOwn w B v L Q) :
    Calls Tryz.prog 19 #[v, .int .i64 (k : Int)] w fun e w' => e = .returned (.int .i64 ((k + L.length + Q.length * 2 : Nat) : Int)) ∧ DevOwn w' B v (marks k L.length) (marksQ (k + L.length) Q.length) ∧ Kept (DevBlk v) w w' := by
  have hblk := ho.blk
  obtain ⟨v0, v1, rfl, hs, hq, hne⟩ := ho
  obtain ⟨A0, C0, rfl, _⟩ := StrsAt.of_own hs
  obtain ⟨A1, C1, rfl, _⟩ := PutsAt.of_own hq
  have HS := hide hs
  have HQ := hide hq
  have HBL := hide hblk
  have H1 := hide (fun w1 (ho : w1.ownsRow B 9 1 (.slice A0 L.length C0) L.length (strsV L)) => markStrs_any _ B L.length k L h0 (by omega) w1 ho)
  have H2 := hide (fun w1 (ho : w1.ownsRow B 134 2 (.slice A1 Q.length C1) Q.length (putsV Q)) => markPuts_any _ B Q.length (k + L.length) Q (by omega) (by omega) w1 ho)
  clear hs hq hblk
  obtain ⟨n, hn⟩ : ∃ n, n = L.length := ⟨_, rfl⟩
  obtain ⟨n', hn'⟩ : ∃ n, n = Q.length := ⟨_, rfl⟩
  rw [← hn] at H1 H2 h1 HS HBL hne ⊢
  rw [← hn'] at H2 h1 HQ HBL hne ⊢
  clear hn hn'
  go_enter Tryz.func19, Tryz.ntmps19
  go_wp2_with fail
  obtain ⟨W1, hW1⟩ : ∃ W, W = w.alloc (Obj.cells #[Value.slice A0 n C0, Value.slice A1 n' C1] 25) := ⟨_, rfl⟩
  rw [← hW1]
  have hs1 : W1.heap.size = w.heap.size + 1 := by rw [hW1]; simp
  have b0 : W1.heap[w.heap.size]? = some (.cells #[Value.slice A0 n C0, Value.slice A1 n' C1] 25 (0, 0)) := by rw [hW1]; exact heap_alloc_new w _
  have hb1 : Below w.heap.size w W1 := by rw [hW1]; exact (Below.refl _ _).alloc (Nat.le_refl _) _
  clear hW1
  refine (unhide H1 W1 (own_below (unhide HS) hb1)).mono ?_
  rintro e w2 ⟨rfl, hs2, hk2⟩
  have hbox : ¬ (Value.slice A0 n C0).ownBlock = some w.heap.size := fun e => by have := unhide HBL w.heap.size ⟨_, _, rfl, .inl e⟩; omega
  have b2 : w2.heap[w.heap.size]? = some (.cells #[Value.slice A0 n C0, Value.slice A1 n' C1] 25 (0, 0)) := by rw [hk2.2.2.2.2 _ (by omega) hbox]; exact b0
  have hq2 := hk2.own (own_below (unhide HQ) hb1) (fun g hg e => by
    rcases hne with hne | hne
    · exact hne (e.trans hg.symm)
    · rw [hne] at e; cases e)
  obtain ⟨_, p1, _⟩ := cells_of_two b2
  have HS2 := hide hs2
  have HK2 := hide hk2
  have H3 := hide (unhide H2 w2 hq2)
  have hsz2 := hk2.2.2.2.1
  have hk1 := hk2
  clear hs2 hk2 hq2 b0 b2
  go_wp2_with fail
  rw [← Int.natCast_add k n]
  refine (unhide H3).mono ?_
  rintro e w3 ⟨rfl, hq3, hk3⟩
  have HS3 := hide (hk3.own (unhide HS2) (fun g hg e => by
    rcases hne with hne | hne
    · exact hne (hg.trans e.symm)
    · rw [hne] at hg; cases hg))
  have HQ3 := hide hq3
  have HK3 := hide hk3
  clear hq3 hk3 p1
  go_wp2
  go_ret
  refine ⟨rfl, ⟨_, _, rfl, ?_, ?_, hne⟩, ?_⟩
  · rw [marks_length]; exact unhide HS3
  · rw [marksQ_length]; exact unhide HQ3
  · exact ((Kept.of_below hb1).trans ((unhide HK2).weak (fun g hg => ⟨_, _, rfl, .inl hg⟩))).trans ((unhide HK3).weak (fun g hg => ⟨_, _, rfl, .inr hg⟩))

set_option maxRecDepth 100000 in
set_option maxHeartbeats 1000000 in
theorem heldDevice_any (v : Value) (B k n n' : Nat) (h0 : 0 < k) (h1 : k + n + n' * 2 ≤ 100000000) (w : World) (hB : B ≤ w.heap.size) (hv : DevAt w v B (marks k n) (marksQ (k + n) n')) :
    Calls Tryz.prog 48 #[v, .int .i64 (k : Int)] w fun e w' => e = .returned (.int .i64 ((k + n + n' * 2 : Nat) : Int)) ∧ Below w.heap.size w w' := by
  obtain ⟨a, m, c, a', m', c', rfl, hL, hQ⟩ := hv
  obtain rfl : m = n := by have := hL.1; rw [marks_length] at this; exact this.symm
  obtain rfl : m' = n' := by have := hQ.1; rw [marksQ_length] at this; exact this.symm
  have H1 := hide (fun w1 (hb : Below w.heap.size w w1) => heldStrs_any a m c B k h0 (by omega) w1 (by have := hb.size; omega) (hL.below hb hB))
  have H2 := hide (fun w1 (hb : Below w.heap.size w w1) => heldPuts_any a' m' c' B (k + m) (by omega) (by omega) w1 (by have := hb.size; omega) (hQ.below hb hB))
  clear hL hQ
  go_enter Tryz.func48, Tryz.ntmps48
  go_wp2_with fail
  obtain ⟨W1, hW1⟩ : ∃ W, W = w.alloc (Obj.cells #[Value.slice a m c, Value.slice a' m' c'] 25) := ⟨_, rfl⟩
  rw [← hW1]
  have hs1 : W1.heap.size = w.heap.size + 1 := by rw [hW1]; simp
  have b0 : W1.heap[w.heap.size]? = some (.cells #[Value.slice a m c, Value.slice a' m' c'] 25 (0, 0)) := by rw [hW1]; exact heap_alloc_new w _
  have hb1 : Below w.heap.size w W1 := by rw [hW1]; exact (Below.refl _ _).alloc (Nat.le_refl _) _
  clear hW1
  refine (unhide H1 W1 hb1).mono ?_
  rintro e w2 ⟨rfl, hb2⟩
  rw [← hb2.block _ (by omega)] at b0
  obtain ⟨_, p1, _⟩ := cells_of_two b0
  have hw2 := hb1.trans (hb2.mono hb1.size)
  clear b0 hb2
  go_wp2_with fail
  rw [← Int.natCast_add k m]
  refine (unhide H2 w2 hw2).mono ?_
  rintro e w3 ⟨rfl, hb3⟩
  have hw3 := hw2.trans (hb3.mono hw2.size)
  clear hb3 p1
  go_wp2
  go_ret
  exact ⟨rfl, hw3⟩
end Go.Proofs.YtobdmjoonjblpaaGreatDoor
