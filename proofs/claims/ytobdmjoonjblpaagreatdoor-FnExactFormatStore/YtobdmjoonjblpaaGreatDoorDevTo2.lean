/-
  The contracts of laws.toPut, toPutS and toDevice.
-/
import Derived.Test.YtobdmjoonjblpaaGreatDoorDevTo
import Derived.Handy
namespace Go.Proofs.YtobdmjoonjblpaaGreatDoor
open Go.RowKit

theorem toPut_any (x : Int) (s : ByteArray) (w : World) :
    Calls Tryz.prog 104 #[.agg #[.int .i64 x, .string s]] w fun e w' => e = .returned (.agg #[.int .i64 x, .string s]) ∧ Below w.heap.size w w' := by
  go_enter Tryz.func104, Tryz.ntmps104
  go_wp2
  go_returns
  exact ⟨rfl, (((Below.refl _ _).alloc (Nat.le_refl _) _).alloc (by simp) _).alloc (by simp; omega) _⟩

theorem infoPut : (Tryz.prog.info? 134).map (fun i => (i.zero, i.size, i.bytes)) = some (some (.agg #[.int .i64 0, .string ⟨#[]⟩]), 2, 24) := by kernel_rfl

theorem own_below {B : Nat} {e : TypeId} {k : Nat} {v : Value} {n : Nat} {xs : List Value} {w w' : World} (h : w.ownsRow B e k v n xs) (hb : Below w.heap.size w w') : w'.ownsRow B e k v n xs :=
  h.kept (row := none) ⟨hb.os, hb.tape, hb.output, hb.size, fun j hj _ => hb.block j hj⟩ (by cases hv : v.ownBlock <;> simp)

def putsV (Q : List (Int × ByteArray)) : List Value := Q.flatMap fun q => [.int .i64 q.1, .string q.2]

theorem putsV_length (Q : List (Int × ByteArray)) : (putsV Q).length = Q.length * 2 := by
  induction Q with
  | nil => rfl
  | cons q Q ih => simp [putsV] at ih ⊢; omega

theorem putsV_at (Q : List (Int × ByteArray)) (k : Nat) (h : k < Q.length) : (putsV Q)[k * 2]? = some (.int .i64 Q[k].1) ∧ (putsV Q)[k * 2 + 1]? = some (.string Q[k].2) := by
  induction Q generalizing k with
  | nil => simp at h
  | cons q Q ih =>
    cases k with
    | zero => simp [putsV]
    | succ k =>
      have := ih k (by simpa using h)
      have e : (k + 1) * 2 = k * 2 + 2 := by omega
      simpa [putsV, e] using this

theorem putsV_set (Q : List (Int × ByteArray)) (k : Nat) (h : k < Q.length) (x : Int) (s : ByteArray) : ((putsV Q).set (k * 2) (.int .i64 x)).set (k * 2 + 1) (.string s) = putsV (Q.set k (x, s)) := by
  induction Q generalizing k with
  | nil => simp at h
  | cons q Q ih =>
    cases k with
    | zero => simp [putsV]
    | succ k =>
      have := ih k (by simpa using h)
      have e : (k + 1) * 2 = k * 2 + 2 := by omega
      simpa [putsV, e] using this

theorem made_puts (n : Nat) (M : Array Value) (hM : M = madeCells (Value.agg #[.int .i64 0, .string ⟨#[]⟩]).cells (n * 2)) : M.toList = putsV (List.replicate n (0, ⟨#[]⟩)) ∧ M.size = n * 2 := by
  have hs : M.size = n * 2 := by rw [hM, size_madeCells]
  refine ⟨?_, hs⟩
  apply List.ext_getElem?
  intro j
  by_cases hj : j < n * 2
  · have e : M.toList[j]? = some (if j % 2 = 0 then .int .i64 0 else .string ⟨#[]⟩) := by
      rw [hM]
      have h2 : j % 2 = 0 ∨ j % 2 = 1 := by omega
      rcases h2 with h2 | h2 <;> simp [madeCells, Value.cells, hj, h2]
    rw [e]
    have hp := putsV_at (List.replicate n ((0 : Int), (⟨#[]⟩ : ByteArray))) (j / 2) (by simp; omega)
    by_cases h2 : j % 2 = 0
    · have ej : j / 2 * 2 = j := by omega
      rw [ej] at hp
      rw [if_pos h2, hp.1]
      simp
    · have ej : j / 2 * 2 + 1 = j := by omega
      rw [ej] at hp
      rw [if_neg h2, hp.2]
      simp
  · rw [List.getElem?_eq_none (by simp; omega), List.getElem?_eq_none (by rw [putsV_length]; simp; omega)]

set_option maxRecDepth 100000 in
set_option maxHeartbeats 1000000 in
theorem toPuts_any (a : Option Addr) (len cap B : Nat) (Q : List (Int × ByteArray)) (hlen : len ≤ 1048576) (w : World) (hB : B ≤ w.heap.size) (hs : PutsAt w a len B Q) :
    Calls Tryz.prog 56 #[.slice a len cap] w fun e w' => (∃ v, e = .returned v ∧ w'.ownsRow w.heap.size 134 2 v len (putsV Q)) ∧ Below w.heap.size w w' := by
  obtain ⟨hL, hc⟩ := hs
  obtain ⟨i0, hi, hz0, hz1, hz2⟩ := info_parts infoPut
  obtain ⟨M, hM⟩ : ∃ M, M = madeCells (Value.agg #[.int .i64 0, .string ⟨#[]⟩]).cells (len * i0.size) := ⟨_, rfl⟩
  have hmk : ∀ W : World, (Instr.makeSlice 23 (.int .i64 (len : Int)) (.int .i64 (len : Int))).run Tryz.prog W = .ok (.slice (some ⟨W.heap.size, 0, none⟩) len len) (W.alloc (.cells M 134)) := fun W => by
    have h := run_make (P := Tryz.prog) W 23 134 i0 (.agg #[.int .i64 0, .string ⟨#[]⟩]) Tryz.underlying23 hi hz0 .i64 .i64 (len : Int) (len : Int) (by omega) (by omega) (by rw [hz2]; omega) (by omega)
    rw [Int.toNat_natCast, ← hM] at h
    simpa using h
  have hMM := made_puts len M (by rw [hM, hz1])
  have hown0 : (w.alloc (.cells M 134)).ownsRow w.heap.size 134 2 (.slice (some ⟨w.heap.size, 0, none⟩) len len) len (putsV (part Q (0, ⟨#[]⟩) 0)) :=
    ⟨by rw [putsV_length, part_length _ _ _ (by omega)]; omega, .inr ⟨w.heap.size, len, M, rfl, Nat.le_refl _, heap_alloc_new w _, Nat.le_refl _, by unfold maxLen; omega, hMM.2, by rw [hMM.1, part_zero, hL, List.take_of_length_le (by rw [putsV_length]; simp)]⟩⟩
  have HO0 := hide hown0
  have HC := hide hc
  have HL := hide hL
  clear hc hL hM hMM hown0
  go_enter Tryz.func56, Tryz.ntmps56
  go_wp2_with fail
  go_loopw [4] (fun a4 wr => ∃ k : Nat, a4 = .int .i64 k ∧ k ≤ len ∧ wr.ownsRow w.heap.size 134 2 (.slice (some ⟨w.heap.size, 0, none⟩) len len) len (putsV (part Q (0, ⟨#[]⟩) k)) ∧ Below w.heap.size w wr) (fun a4 _ => len - (intOf a4).toNat)
  case atStart => exact ⟨0, rfl, Nat.zero_le _, unhide HO0, (Below.refl _ _).alloc (Nat.le_refl _) _⟩
  case round =>
    obtain ⟨k, rfl, hk, hown, hb⟩ := hrel
    by_cases hlt : k < len
    · have hkL : k < Q.length := by have := unhide HL; omega
      obtain ⟨b, off, rfl, hbB, hcell, hcell1⟩ := unhide HC k hkL
      rw [← hb.cell (p := ⟨b, off + k * 2, none⟩) (by simp; omega)] at hcell
      rw [← hb.cell (p := ⟨b, off + k * 2 + 1, none⟩) (by simp; omega)] at hcell1
      have hx0 : (0 : Int) ≤ (k : Int) := by omega
      have hx1 : (k : Int) < (len : Int) := by omega
      have HO := hide hown
      clear hown
      have HP := hide (part_set Q (0, ⟨#[]⟩) k hkL)
      generalize Q[k] = q at hcell hcell1 HP
      obtain ⟨x, s⟩ := q
      simp only at hcell hcell1
      go_wp2_with fail
      refine (toPut_any _ _ _).mono ?_
      rintro e w1 ⟨rfl, hb1⟩
      have hown := own_below (unhide HO) hb1
      have hkp : k < (part Q (0, ⟨#[]⟩) k).length := by rw [part_length _ _ _ (by omega)]; omega
      have hat := putsV_at _ k hkp
      have hce0 := hown.cellAt (k * 2) (by omega)
      have hce1 := hown.cellAt (k * 2 + 1) (by omega)
      rw [hat.1] at hce0
      rw [hat.2] at hce1
      have hf0 := hown.frozenAt (k * 2)
      have hf1 := hown.frozenAt (k * 2 + 1)
      have hst := ((hown.stored (k * 2) (.int .i64 x)).1.stored (k * 2 + 1) (.string s)).1
      rw [putsV_set _ k hkp, unhide HP] at hst
      have HST := hide hst
      have hbb := hb.trans (hb1.mono hb.size)
      clear hst hown hat hb hb1 hcell hcell1
      go_wp2
      go_roundw
      case rel => exact ⟨k + 1, by go_num, by omega, unhide HST, (hbb.setCell (p := ⟨w.heap.size, k * 2, none⟩) (Nat.le_refl _) _).setCell (p := ⟨w.heap.size, k * 2 + 1, none⟩) (Nat.le_refl _) _⟩
      case measure => simp [intOf]; omega
    · obtain rfl : k = len := by omega
      have HO := hide hown
      clear hown
      go_wp2
      go_ret
      refine ⟨⟨_, rfl, ?_⟩, hb⟩
      have h := unhide HO
      have e := unhide HL
      subst e
      rw [part_all] at h
      exact h

theorem StrsAt.of_own {w : World} {B : Nat} {v : Value} {n : Nat} {L : List ByteArray} (h : w.ownsRow B 9 1 v n (strsV L)) : ∃ a c, v = .slice a n c ∧ StrsAt w a n w.heap.size L := by
  have hl : L.length = n := by have := h.1; simp [strsV] at this; omega
  rcases h.2 with ⟨rfl, h0⟩ | ⟨g, cap, cur, rfl, hg, hh, _⟩
  · subst h0
    exact ⟨none, 0, rfl, hl, fun j hj => by omega⟩
  · refine ⟨_, _, rfl, hl, fun j hj => ⟨g, 0, rfl, (h.lt g rfl).2, ?_⟩⟩
    rw [Nat.zero_add, h.cellAt j (by omega)]
    simp [strsV, hj]

theorem PutsAt.of_own {w : World} {B : Nat} {v : Value} {n : Nat} {Q : List (Int × ByteArray)} (h : w.ownsRow B 134 2 v n (putsV Q)) : ∃ a c, v = .slice a n c ∧ PutsAt w a n w.heap.size Q := by
  have hl : Q.length = n := by have := h.1; rw [putsV_length] at this; omega
  rcases h.2 with ⟨rfl, h0⟩ | ⟨g, cap, cur, rfl, hg, hh, _⟩
  · subst h0
    exact ⟨none, 0, rfl, hl, fun j hj => by omega⟩
  · refine ⟨_, _, rfl, hl, fun j hj => ⟨g, 0, rfl, (h.lt g rfl).2, ?_, ?_⟩⟩
    · rw [Nat.zero_add, h.cellAt (j * 2) (by omega)]
      exact (putsV_at Q j hj).1
    · rw [Nat.zero_add, h.cellAt (j * 2 + 1) (by omega)]
      exact (putsV_at Q j hj).2

theorem own_lower {w : World} {B C e size n : Nat} {v : Value} {xs : List Value} (hB : C ≤ B) (h : w.ownsRow B e size v n xs) : w.ownsRow C e size v n xs := by
  obtain ⟨h1, h2⟩ := h
  refine ⟨h1, ?_⟩
  rcases h2 with h2 | ⟨g, cap, cur, a1, a2, a3⟩
  · exact .inl h2
  · exact .inr ⟨g, cap, cur, a1, Nat.le_trans hB a2, a3⟩

/-- A device that this call has made: both rows its own. -/
def DevOwn (w : World) (B : Nat) (v : Value) (L : List ByteArray) (Q : List (Int × ByteArray)) : Prop :=
  ∃ v0 v1, v = .agg #[v0, v1] ∧ w.ownsRow B 9 1 v0 L.length (strsV L) ∧ w.ownsRow B 134 2 v1 Q.length (putsV Q) ∧ (v0.ownBlock ≠ v1.ownBlock ∨ v0.ownBlock = none)

theorem DevOwn.at {w : World} {B : Nat} {v : Value} {L : List ByteArray} {Q : List (Int × ByteArray)} (h : DevOwn w B v L Q) : DevAt w v w.heap.size L Q := by
  obtain ⟨v0, v1, rfl, h0, h1, _⟩ := h
  obtain ⟨a, c, rfl, hL⟩ := StrsAt.of_own h0
  obtain ⟨a', c', rfl, hQ⟩ := PutsAt.of_own h1
  exact ⟨a, _, c, a', _, c', rfl, hL, hQ⟩

theorem DevOwn.below {w w' : World} {B : Nat} {v : Value} {L : List ByteArray} {Q : List (Int × ByteArray)} (h : DevOwn w B v L Q) (hb : Below w.heap.size w w') : DevOwn w' B v L Q := by
  obtain ⟨v0, v1, rfl, h0, h1, h2⟩ := h
  exact ⟨v0, v1, rfl, own_below h0 hb, own_below h1 hb, h2⟩

theorem DevAt.below {w w' : World} {v : Value} {B C : Nat} {L : List ByteArray} {Q : List (Int × ByteArray)} (h : DevAt w v B L Q) (hb : Below C w w') (hC : B ≤ C) : DevAt w' v B L Q := by
  obtain ⟨a, n, c, a', n', c', rfl, hL, hQ⟩ := h
  exact ⟨a, n, c, a', n', c', rfl, hL.below hb hC, hQ.below hb hC⟩

theorem DevAt.mono {w : World} {v : Value} {B C : Nat} {L : List ByteArray} {Q : List (Int × ByteArray)} (h : DevAt w v B L Q) (hC : B ≤ C) : DevAt w v C L Q := by
  obtain ⟨a, n, c, a', n', c', rfl, hL, hQ⟩ := h
  exact ⟨a, n, c, a', n', c', rfl, hL.mono hC, hQ.mono hC⟩

theorem cells_of_two {w : World} {g : Nat} {x y : Value} {t : TypeId} (h : w.heap[g]? = some (.cells #[x, y] t (0, 0))) :
    w.cell? ⟨g, 0, none⟩ = some x ∧ w.cell? ⟨g, 1, none⟩ = some y ∧ ∀ j, w.frozen? ⟨g, j, none⟩ = false := by
  refine ⟨?_, ?_, fun j => ?_⟩
  · rw [cell_of_row w g 0 _ t (0, 0) h]; rfl
  · rw [cell_of_row w g 1 _ t (0, 0) h]; rfl
  · exact frozen_of_row w g j _ t h

theorem two_zero {w : World} {g : Nat} {x y : Value} {t : TypeId} (h : w.heap[g]? = some (.cells #[x, y] t (0, 0))) (u : Value) :
    (w.setCell ⟨g, 0, none⟩ u).heap[g]? = some (.cells #[u, y] t (0, 0)) := heap_setCell_same w g 0 _ t u h

theorem two_one {w : World} {g : Nat} {x y : Value} {t : TypeId} (h : w.heap[g]? = some (.cells #[x, y] t (0, 0))) (u : Value) :
    (w.setCell ⟨g, 1, none⟩ u).heap[g]? = some (.cells #[x, u] t (0, 0)) := heap_setCell_same w g 1 _ t u h

set_option maxRecDepth 100000 in
set_option maxHeartbeats 1000000 in
theorem toDevice_any (v : Value) (B : Nat) (L : List ByteArray) (Q : List (Int × ByteArray)) (h1 : L.length ≤ 1048576) (h2 : Q.length ≤ 1048576) (w : World) (hB : B ≤ w.heap.size) (hv : DevAt w v B L Q) :
    Calls Tryz.prog 16 #[v] w fun e w' => (∃ d, e = .returned d ∧ DevOwn w' w.heap.size d L Q) ∧ Below w.heap.size w w' := by
  obtain ⟨a, n, c, a', n', c', rfl, hL, hQ⟩ := hv
  have e1 := hL.1
  have e2 := hQ.1
  subst e1 e2
  have H1 := hide (fun w1 (hb : Below w.heap.size w w1) => toStrs_any a _ c B L h1 w1 (by have := hb.size; omega) (hL.below hb hB))
  have H2 := hide (fun w1 (hb : Below w.heap.size w w1) => toPuts_any a' _ c' B Q h2 w1 (by have := hb.size; omega) (hQ.below hb hB))
  clear hL hQ h1 h2
  go_enter Tryz.func16, Tryz.ntmps16
  go_wp2_with fail
  obtain ⟨W3, hW3⟩ : ∃ W, W = ((w.alloc (Obj.cells #[Value.slice a L.length c, Value.slice a' Q.length c'] 38)).alloc (Obj.cells #[Value.slice none 0 0, Value.slice none 0 0] 25)).alloc (Obj.cells #[Value.slice none 0 0, Value.slice none 0 0] 25) := ⟨_, rfl⟩
  rw [← hW3]
  have hs3 : W3.heap.size = w.heap.size + 3 := by rw [hW3]; simp
  have b0 : W3.heap[w.heap.size]? = some (.cells #[Value.slice a L.length c, Value.slice a' Q.length c'] 38 (0, 0)) := by
    rw [hW3, heap_alloc_old _ _ (by simp; omega), heap_alloc_old _ _ (by simp), heap_alloc_new]
  have b1 : W3.heap[w.heap.size + 1]? = some (.cells #[Value.slice none 0 0, Value.slice none 0 0] 25 (0, 0)) := by
    rw [hW3, heap_alloc_old _ _ (by simp)]
    have := heap_alloc_new (w.alloc (Obj.cells #[Value.slice a L.length c, Value.slice a' Q.length c'] 38)) (Obj.cells #[Value.slice none 0 0, Value.slice none 0 0] 25)
    simpa using this
  have b2 : W3.heap[w.heap.size + 1 + 1]? = some (.cells #[Value.slice none 0 0, Value.slice none 0 0] 25 (0, 0)) := by
    rw [hW3]
    have := heap_alloc_new ((w.alloc (Obj.cells #[Value.slice a L.length c, Value.slice a' Q.length c'] 38)).alloc (Obj.cells #[Value.slice none 0 0, Value.slice none 0 0] 25)) (Obj.cells #[Value.slice none 0 0, Value.slice none 0 0] 25)
    simpa using this
  have hb3 : Below w.heap.size w W3 := by
    rw [hW3]
    exact (((Below.refl _ _).alloc (Nat.le_refl _) _).alloc (by simp) _).alloc (by simp; omega) _
  clear hW3
  refine (unhide H1 W3 hb3).mono ?_
  rintro e w1 ⟨⟨v0, rfl, ho0⟩, hb1⟩
  obtain ⟨A0, C0, rfl, _⟩ := StrsAt.of_own ho0
  have hs1 := hb1.size
  rw [← hb1.block _ (by omega)] at b0 b1 b2
  have hw1 : Below w.heap.size w w1 := hb3.trans (hb1.mono (by omega))
  have hlt0 := ho0.lt
  obtain ⟨_, p1, _⟩ := cells_of_two b0
  obtain ⟨q0, q1, qf⟩ := cells_of_two b2
  have qf0 := qf 0
  have B0 := hide b0
  have B1 := hide b1
  have B2 := hide b2
  have HO0 := hide ho0
  have HLT := hide hlt0
  clear b0 b1 b2 ho0 hlt0 qf hb1 hb3
  go_wp2_with fail
  obtain ⟨W5, hW5⟩ : ∃ W, W = w1.setCell ⟨w.heap.size + 1 + 1, 0, none⟩ (.slice A0 L.length C0) := ⟨_, rfl⟩
  rw [← hW5]
  have hs5 : W5.heap.size = w1.heap.size := by rw [hW5]; simp
  have b1 : W5.heap[w.heap.size + 1]? = some (.cells #[Value.slice none 0 0, Value.slice none 0 0] 25 (0, 0)) := by
    rw [hW5, heap_setCell_other _ _ _ _ (by simp)]; exact unhide B1
  have b2 : W5.heap[w.heap.size + 1 + 1]? = some (.cells #[Value.slice A0 L.length C0, Value.slice none 0 0] 25 (0, 0)) := by
    rw [hW5]; exact two_zero (unhide B2) _
  have ho0 : W5.ownsRow W3.heap.size 9 1 (.slice A0 L.length C0) L.length (strsV L) := by
    rw [hW5]
    refine ownsRow_setCell_other (unhide HO0) (fun e => ?_) _
    have := unhide HLT _ e
    simp at this
    omega
  have hb5 : Below w.heap.size w W5 := by rw [hW5]; exact hw1.setCell (p := ⟨w.heap.size + 1 + 1, 0, none⟩) (by simp; omega) _
  clear hW5 p1 q0 q1 qf0
  refine (unhide H2 W5 hb5).mono ?_
  rintro e w2 ⟨⟨v1, rfl, ho1⟩, hb2⟩
  obtain ⟨A1, C1, rfl, _⟩ := PutsAt.of_own ho1
  have hs2 := hb2.size
  rw [← hb2.block _ (by omega)] at b1 b2
  have ho0' := own_below ho0 hb2
  have hlt1 := ho1.lt
  have hw2 : Below w.heap.size w w2 := hb5.trans (hb2.mono (by omega))
  obtain ⟨r0, r1, rf⟩ := cells_of_two b1
  obtain ⟨q0, q1, qf⟩ := cells_of_two b2
  have qf1 := qf 1
  have rf0 := rf 0
  have rf1 := rf 1
  have HO1 := hide ho1
  have HO0' := hide ho0'
  have HLT1 := hide hlt1
  have BB := hide b1
  clear b1 b2 ho0 ho0' ho1 hlt1 qf rf hb2 hb5
  go_wp2
  (try simp only [Exit.inBlock, Exit.then])
  have hblk : (((w2.setCell ⟨w.heap.size + 1 + 1, 1, none⟩ (.slice A1 Q.length C1)).setCell ⟨w.heap.size + 1, 0, none⟩ (.slice A0 L.length C0)).setCell ⟨w.heap.size + 1, 1, none⟩ (.slice A1 Q.length C1)).heap[w.heap.size + 1]? = some (.cells #[.slice A0 L.length C0, .slice A1 Q.length C1] 25 (0, 0)) := by
    refine two_one (two_zero (x := Value.slice none 0 0) (y := Value.slice none 0 0) ?_ _) _
    rw [heap_setCell_other _ _ _ _ (by simp)]
    exact unhide BB
  refine bodyPost_ret (results_cell_row Tryz.results16 _ _ (w.heap.size + 1) _ _ _ _ rfl hblk Tryz.underlying25 rfl (by kernel_rfl)) rfl ?_
  have far0 : ∀ k, (Value.slice A0 L.length C0).ownBlock = some k → w.heap.size + 3 ≤ k ∧ k < w1.heap.size := fun k hk => by have := unhide HLT k hk; omega
  have far1 : ∀ k, (Value.slice A1 Q.length C1).ownBlock = some k → w1.heap.size ≤ k := fun k hk => by have := unhide HLT1 k hk; omega
  have ne0 : ∀ g, g < w.heap.size + 3 → (Value.slice A0 L.length C0).ownBlock ≠ some g := fun g hg e => by have := far0 g e; omega
  have ne1 : ∀ g, g < w.heap.size + 3 → (Value.slice A1 Q.length C1).ownBlock ≠ some g := fun g hg e => by have := far1 g e; omega
  refine ⟨⟨_, rfl, _, _, rfl, ?_, ?_, ?_⟩, ?_⟩
  · exact own_lower (by omega) (ownsRow_setCell_other (ownsRow_setCell_other (ownsRow_setCell_other (unhide HO0') (ne0 (w.heap.size + 1 + 1) (by omega)) _) (ne0 (w.heap.size + 1) (by omega)) _) (ne0 (w.heap.size + 1) (by omega)) _)
  · exact own_lower (by omega) (ownsRow_setCell_other (ownsRow_setCell_other (ownsRow_setCell_other (unhide HO1) (ne1 (w.heap.size + 1 + 1) (by omega)) _) (ne1 (w.heap.size + 1) (by omega)) _) (ne1 (w.heap.size + 1) (by omega)) _)
  · by_cases hn : (Value.slice A0 L.length C0).ownBlock = none
    · exact .inr hn
    · refine .inl fun e => ?_
      obtain ⟨k, hk⟩ := Option.ne_none_iff_exists'.1 hn
      have h0 := far0 k hk
      have h1 := far1 k (e ▸ hk)
      omega
  · exact ((hw2.setCell (p := ⟨w.heap.size + 1 + 1, 1, none⟩) (by simp; omega) _).setCell (p := ⟨w.heap.size + 1, 0, none⟩) (by simp) _).setCell (p := ⟨w.heap.size + 1, 1, none⟩) (by simp) _
end Go.Proofs.YtobdmjoonjblpaaGreatDoor
