/-
  The contracts of spec.DrawVarText and spec.DrawHex: some int; some text of at most 8001 bytes; nothing old is written.
-/
import Derived.Test.YtbcefikjacjplaaDoorImpl
namespace Go.Proofs.YtbcefikjacjplaaDoor
open Go.RowKit

theorem Code.below {a : Option Addr} {len B C : Nat} {w w' : World} (h : Code a len B w) (hb : Below C w w') (hC : B ≤ C) : Code a len B w' := by
  intro j hj
  obtain ⟨b, off, z, e, hbB, hc, h0, h1⟩ := h j hj
  exact ⟨b, off, z, e, hbB, by rw [hb.cell (p := ⟨b, off + j, none⟩) (by simp; omega)]; exact hc, h0, h1⟩

theorem Code.row {a : Option Addr} {len B : Nat} {w w' : World} {row : Option Nat} (h : Code a len B w) (hr : ∀ k, row = some k → B ≤ k) (hg : w.grownBy w' row) : Code a len B w' := by
  intro j hj
  obtain ⟨b, off, z, e, hb, hc, h0, h1⟩ := h j hj
  exact ⟨b, off, z, e, hb, hg.cell hc (fun e => by have := hr b e.symm; omega), h0, h1⟩

theorem Cur.lt {a : Option Addr} {len cap g : Nat} {w : World} (h : Cur a len cap g w) : g < w.heap.size := by
  obtain ⟨i, x, _, hg⟩ := h
  rcases Nat.lt_or_ge g w.heap.size with h | h
  · exact h
  · rw [Array.getElem?_eq_none h] at hg; cases hg

theorem Cur.row {a : Option Addr} {len cap g : Nat} {w w' : World} {row : Option Nat} (h : Cur a len cap g w) (hr : row ≠ some g) (hg : w.grownBy w' row) : Cur a len cap g w' := by
  have hlt := h.lt
  obtain ⟨i, x, hi, hh⟩ := h
  exact ⟨i, x, hi, by rw [hg.block g hlt (fun e => hr e.symm)]; exact hh⟩

theorem Cur.alloc {a : Option Addr} {len cap g : Nat} {w : World} (h : Cur a len cap g w) (o : Obj) : Cur a len cap g (w.alloc o) :=
  h.row (row := none) (by simp) (World.grownBy_alloc w o none)

theorem Code.alloc {a : Option Addr} {len B : Nat} {w : World} (h : Code a len B w) (o : Obj) : Code a len B (w.alloc o) :=
  h.row (row := none) (by simp) (World.grownBy_alloc w o none)

set_option maxRecDepth 100000 in
theorem pick_any (a : Option Addr) (len cap g B q n : Nat) (hl : len ≤ 1048576) (hB : B ≤ g) (h0 : 0 < n) (hn : n ≤ 100) (hqg : q ≠ g) (w : World) (hc : Cur a len cap g w) (hd : Code a len B w)
    (hq : ∀ j, j < n → ∃ z, w.cell? ⟨q, j, none⟩ = some (.int .i64 z)) :
    Calls Tryd.prog 25 #[.pointer (some ⟨g, 0, none⟩), .slice (some ⟨q, 0, none⟩) n n] w fun e w' => (∃ x : Int, e = .returned (.int .i64 x)) ∧ w.grownBy w' (some g) := by
  have H := hide (below_any a len cap g B (n : Int) hl hB (by omega) w hc hd)
  have HQ := hide hq
  clear hc hd hq
  go_enter Tryd.func25, Tryd.ntmps25
  go_wp2_with fail
  refine (unhide H).mono ?_
  rintro e w1 ⟨x, rfl, hx0, hx1, hc1, hg1⟩
  obtain ⟨i, rfl⟩ := Int.eq_ofNat_of_zero_le hx0
  obtain ⟨z, hz⟩ := unhide HQ i (by omega)
  have hz1 : w1.cell? ⟨q, i, none⟩ = some (.int .i64 z) := hg1.cell hz (fun e => hqg (by simpa using Option.some.inj e))
  have HG := hide hg1
  clear hc1 hg1 hz
  go_wp2
  go_ret
  exact ⟨⟨z, rfl⟩, unhide HG⟩

set_option maxRecDepth 100000 in
theorem number_any (a : Option Addr) (len cap g B : Nat) (hl : len ≤ 1048576) (hB : B ≤ g) (w : World) (hc : Cur a len cap g w) (hd : Code a len B w) :
    Calls Tryd.prog 15 #[.pointer (some ⟨g, 0, none⟩)] w fun e w' => (∃ x : Int, e = .returned (.int .i64 x)) ∧ w.grownBy w' (some g) := by
  have H := hide (below_any a len cap g B 4 hl hB (by omega) w hc hd)
  have HD := hide hd
  clear hc hd
  go_enter Tryd.func15, Tryd.ntmps15
  go_wp2_with fail
  refine (unhide H).mono ?_
  rintro e w1 ⟨x, rfl, hx0, hx1, hc1, hg1⟩
  have HC1 := hide hc1
  have HG1 := hide hg1
  have HD1 := hide ((unhide HD).grown hB hg1)
  have hlt := hc1.lt
  clear hc1 hg1
  by_cases e0 : x = 0
  · subst e0
    go_wp2_with fail
    refine (pick_any a len cap g B w1.heap.size 10 hl hB (by omega) (by omega) (by omega) _ ((unhide HC1).alloc _) ((unhide HD1).alloc _) ?_).mono ?_
    · intro j hj
      rw [cell_of_row _ _ j _ 3 (0, 0) (heap_alloc_new w1 _)]
      have hc : j = 0 ∨ j = 1 ∨ j = 2 ∨ j = 3 ∨ j = 4 ∨ j = 5 ∨ j = 6 ∨ j = 7 ∨ j = 8 ∨ j = 9 := by omega
      rcases hc with rfl | rfl | rfl | rfl | rfl | rfl | rfl | rfl | rfl | rfl <;> exact ⟨_, rfl⟩
    · rintro e w2 ⟨⟨y, rfl⟩, hg2⟩
      have HG2 := hide (grown_trans (unhide HG1) (grown_trans (World.grownBy_alloc w1 _ _) hg2))
      clear hg2
      go_wp2
      go_ret
      exact ⟨⟨y, rfl⟩, unhide HG2⟩
  · have e0b : (x == 0) = false := beq_eq_false_iff_ne.2 e0
    by_cases e1 : x = 1
    · subst e1
      have H1 := hide (below_any a len cap g B 1000000000 hl hB (by omega) w1 (unhide HC1) (unhide HD1))
      go_wp2_with fail
      refine (unhide H1).mono ?_
      rintro e w2 ⟨y, rfl, hy0, hy1, hc2, hg2⟩
      have HG2 := hide (grown_trans (unhide HG1) hg2)
      clear hc2 hg2
      go_wp2
      go_ret
      exact ⟨⟨y, rfl⟩, unhide HG2⟩
    · have e1b : (x == 1) = false := beq_eq_false_iff_ne.2 e1
      have H1 := hide (below_any a len cap g B 400 hl hB (by omega) w1 (unhide HC1) (unhide HD1))
      go_wp2_with fail
      refine (unhide H1).mono ?_
      rintro e w2 ⟨y, rfl, hy0, hy1, hc2, hg2⟩
      have HG2 := hide (grown_trans (unhide HG1) hg2)
      clear hc2 hg2
      go_wp2
      go_ret
      exact ⟨⟨y, rfl⟩, unhide HG2⟩

set_option maxRecDepth 100000 in
theorem drawVar_any (a : Option Addr) (len cap : Nat) (hl : len ≤ 1048576) (w : World) (hd : Code a len w.heap.size w) :
    Calls Tryd.prog 5 #[.slice a len cap] w fun e w' => (∃ x : Int, e = .returned (.int .i64 x)) ∧ Below w.heap.size w w' := by
  have H := hide (new_any a len cap hl w hd)
  have HD := hide hd
  clear hd
  go_enter Tryd.func5, Tryd.ntmps5
  go_wp2_with fail
  refine (unhide H).mono ?_
  rintro e w1 ⟨rfl, hc1, hb1⟩
  have H1 := hide (number_any a len cap w.heap.size w.heap.size hl (Nat.le_refl _) w1 hc1 ((unhide HD).below hb1 (Nat.le_refl _)))
  have hs1 := hb1.size
  clear hc1
  go_wp2_with fail
  refine (unhide H1).mono ?_
  rintro e w2 ⟨⟨y, rfl⟩, hg2⟩
  have hb2 : Below w.heap.size w w2 := hb1.grown hg2 hs1 (fun k hk => by have := Option.some.inj hk; omega)
  clear hg2
  go_wp2
  go_ret
  exact ⟨⟨y, rfl⟩, hb2⟩

theorem set_bytes (l : List UInt8) (i : Nat) (c : UInt8) : (bytesV l).set i (.int .u8 (c.toNat : Int)) = bytesV (l.set i c) := by
  simp [bytesV, List.map_set]

set_option maxRecDepth 100000 in
set_option maxHeartbeats 1000000 in
theorem long_any (n : Nat) (hn : n ≤ 100000) (w : World) :
    Calls Tryd.prog 21 #[.int .i64 (n : Int), .int .u8 200] w fun e w' => (∃ s : ByteArray, e = .returned (.string s) ∧ s.size = n) ∧ Below w.heap.size w w' := by
  obtain ⟨i0, hi, hz0, hz1, hz2⟩ := info_parts info5
  obtain ⟨M, hM⟩ : ∃ M, M = madeCells (Value.int .u8 0).cells (n * i0.size) := ⟨_, rfl⟩
  have hMs : M.size = n * 1 := by rw [hM, size_madeCells, hz1]
  have hMl : M.toList = bytesV (List.replicate n 0) := by
    rw [hM, hz1]
    simp [madeCells, bytesV, Value.cells]
    refine List.eq_replicate_iff.2 ⟨by simp, fun b hb => ?_⟩
    obtain ⟨x, _, rfl⟩ := List.mem_map.1 hb
    simp [Nat.mod_one]
  have hmk : ∀ W : World, (Instr.makeSlice 22 (.int .i64 (n : Int)) (.int .i64 (n : Int))).run Tryd.prog W = .ok (.slice (some ⟨W.heap.size, 0, none⟩) n n) (W.alloc (.cells M 5)) := fun W => by
    have h := run_make (P := Tryd.prog) W 22 5 i0 (.int .u8 0) Tryd.underlying22 hi hz0 .i64 .i64 (n : Int) (n : Int) (by omega) (by omega) (by rw [hz2]; omega) (by omega)
    rw [Int.toNat_natCast, ← hM] at h
    simpa using h
  have hown0 : (w.alloc (.cells M 5)).ownsRow w.heap.size 5 1 (.slice (some ⟨w.heap.size, 0, none⟩) n n) n (bytesV (List.replicate n 0)) :=
    ⟨by simp [bytesV], .inr ⟨w.heap.size, n, M, rfl, Nat.le_refl _, heap_alloc_new w _, Nat.le_refl _, by unfold maxLen; omega, hMs, by rw [hMl, Nat.mul_one, List.take_of_length_le (by simp [bytesV])]⟩⟩
  have HO0 := hide hown0
  clear hM hMs hMl hown0
  go_enter Tryd.func21, Tryd.ntmps21
  go_wp2_with fail
  go_loopw [6] (fun a6 wr => ∃ (i : Nat) (l : List UInt8), a6 = .int .i64 i ∧ i ≤ n ∧ l.length = n ∧ wr.ownsRow w.heap.size 5 1 (.slice (some ⟨w.heap.size, 0, none⟩) n n) n (bytesV l) ∧ Below w.heap.size w wr) (fun a6 _ => n - (intOf a6).toNat)
  case atStart => exact ⟨0, List.replicate n 0, rfl, Nat.zero_le _, by simp, unhide HO0, (Below.refl _ _).alloc (Nat.le_refl _) _⟩
  case round =>
    obtain ⟨i, l, rfl, hi2, hll, hown, hb⟩ := hrel
    by_cases hlt : i < n
    · have hx0 : (0 : Int) ≤ (i : Int) := by omega
      have hx1 : (i : Int) < (n : Int) := by omega
      have hfz := hown.frozenAt i
      obtain ⟨u, hce⟩ : ∃ u, wr.cell? ⟨w.heap.size, i, none⟩ = some (.int .u8 u) := by
        have hil : i < l.length := by omega
        exact ⟨((l[i]'hil).toNat : Int), by rw [hown.cellAt i (by omega)]; simp [bytesV, hil]⟩
      have hst := (hown.stored i (.int .u8 ((200 : UInt8).toNat : Int))).1
      rw [set_bytes] at hst
      have HST := hide hst
      have HL := hide hll
      clear hst hown hll
      go_wp2
      go_roundw
      case rel => exact ⟨i + 1, l.set i 200, by go_num, by omega, by simp; exact unhide HL, unhide HST, hb.setCell (p := ⟨w.heap.size, i, none⟩) (Nat.le_refl _) _⟩
      case measure => simp [intOf]; omega
    · have hown2 : wr.ownsRow w.heap.size 5 1 (.slice (some ⟨w.heap.size, 0, none⟩) n n) l.length (bytesV l) := by rw [hll]; exact hown
      have hcv := convert_own wr 22 9 5 w.heap.size (.slice (some ⟨w.heap.size, 0, none⟩) n n) l Tryd.underlying22 Tryd.underlying5 Tryd.underlying9 hown2
      have HL := hide hll
      clear hown hown2 hll
      go_wp2
      go_ret
      exact ⟨⟨⟨l.toArray⟩, rfl, by simp [ByteArray.size]; exact unhide HL⟩, hb⟩

set_option maxRecDepth 100000 in
set_option maxHeartbeats 1000000 in
theorem text_any (a : Option Addr) (len cap g B n : Nat) (hl : len ≤ 1048576) (hB : B ≤ g) (hn : n ≤ 5000) (w : World) (hgl : g < w.heap.size) (hc : Cur a len cap g w) (hd : Code a len B w) :
    Calls Tryd.prog 23 #[.pointer (some ⟨g, 0, none⟩), .int .i64 (n : Int)] w fun e w' => (∃ s : ByteArray, e = .returned (.string s) ∧ s.size = n) ∧ Below g w w' := by
  obtain ⟨i0, hi, hz0, hz1, hz2⟩ := info_parts info5
  have HC := hide hc
  have HD := hide hd
  clear hc hd
  have hn5 : ¬ (5000 : Int) < (n : Int) := by omega
  go_enter Tryd.func23, Tryd.ntmps23
  go_wp2_with fail
  go_loopw [5, 6] (fun out a6 wr => ∃ (i : Nat) (l : List UInt8), a6 = .int .i64 i ∧ i ≤ n ∧ l.length = i ∧ wr.ownsRow w.heap.size 5 1 out l.length (bytesV l) ∧ Cur a len cap g wr ∧ Code a len B wr ∧ Below g w wr) (fun _ a6 _ => n - (intOf a6).toNat)
  case atStart =>
    refine ⟨0, [], rfl, Nat.zero_le _, rfl, ?_, (unhide HC).alloc _, (unhide HD).alloc _, (Below.refl _ _).alloc (by omega) _⟩
    exact World.ownsRow_made w #[] 0 (Nat.le_refl _) (Nat.zero_le _) rfl
  case round =>
    obtain ⟨i, l, rfl, hi2, hll, hown, hcu, hco, hb⟩ := hrel
    have hbs := hb.size
    by_cases hlt : i < n
    · have H := hide (byte_any a len cap g B hl hB wr hcu hco)
      have HCO := hide hco
      have hk : ∀ k, u5.ownBlock = some k → w.heap.size ≤ k := fun k hk => (hown.lt k hk).1
      have HK := hide hk
      have HO := hide (fun (w2 : World) (hg : wr.grownBy w2 (some g)) => hown.kept hg (Or.inr (fun e => by have := hk g e; omega)))
      have HL := hide hll
      have hl2 : l.length ≤ 5000 := by omega
      clear hcu hco hown hk hll
      go_wp2_with fail
      refine (unhide H).mono ?_
      rintro e w2 ⟨⟨x, rfl, hx0, hx1⟩, hcu2, hg2⟩
      have hown2 := unhide HO w2 hg2
      have hs2 := hg2.size
      have HCU2 := hide hcu2
      have HCO2 := hide ((unhide HCO).grown hB hg2)
      have hb2 : Below g w w2 := hb.grown hg2 (by omega) (fun k hk => by have := Option.some.inj hk; omega)
      clear hcu2 hg2
      go_wp2_with (at_builtin; refine wpList_append_own _ rfl _ _ 22 rfl w.heap.size 5 i0 (.int .u8 0) 1 1 Tryd.underlying22 hi hz0 hz1 hz2 rfl (by decide) _ _ _ rfl (hown2.alloc _) ⟨w2.heap.size, 0, none⟩ 1 1 [.int .u8 x] rfl rfl (cell_one_new _ _ _) (one_byte _) ?_ ?_ ?_ ?_)
      · unfold maxLen; omega
      · omega
      · first | omega | (simp; omega)
      intro v' w3 hown' hgrow _
      have hgk : ∀ k, u5.ownBlock = some k → g ≤ k := fun k hk => by have := unhide HK k hk; omega
      have hb3 : Below g w w3 := (hb2.alloc (by omega) _).grown hgrow (by simp; omega) hgk
      have HCU3 := hide (((unhide HCU2).alloc _).row (fun e => by have := unhide HK g e; omega) hgrow)
      have HCO3 := hide (((unhide HCO2).alloc _).row (fun k hk => by have := unhide HK k hk; omega) hgrow)
      have hown3 := own_snoc (c := UInt8.ofNat x.toNat) (by rw [toNat_ofNat_small _ (by omega)]; omega) hown'
      have HO3 := hide hown3
      clear hown' hgrow hown2 hown3
      go_wp2
      go_roundw
      case rel => exact ⟨i + 1, l ++ [UInt8.ofNat x.toNat], by go_num, by omega, by simp; exact unhide HL, unhide HO3, unhide HCU3, unhide HCO3, hb3⟩
      case measure => simp [intOf]; omega
    · obtain rfl : i = n := by omega
      have hcv := convert_own wr 22 9 5 w.heap.size u5 l Tryd.underlying22 Tryd.underlying5 Tryd.underlying9 hown
      have HL := hide hll
      clear hown hcu hco hll
      go_wp2
      go_ret
      exact ⟨⟨⟨l.toArray⟩, rfl, by simp [ByteArray.size]; exact unhide HL⟩, hb⟩

set_option maxRecDepth 100000 in
theorem drawHex_any (a : Option Addr) (len cap : Nat) (hl : len ≤ 1048576) (w : World) (hd : Code a len w.heap.size w) :
    Calls Tryd.prog 10 #[.slice a len cap] w fun e w' => (∃ s : ByteArray, e = .returned (.string s) ∧ s.size ≤ 8001) ∧ Below w.heap.size w w' := by
  have H := hide (new_any a len cap hl w hd)
  have HD := hide hd
  clear hd
  go_enter Tryd.func10, Tryd.ntmps10
  go_wp2_with fail
  refine (unhide H).mono ?_
  rintro e w1 ⟨rfl, hc1, hb1⟩
  have HD1 := hide ((unhide HD).below hb1 (Nat.le_refl _))
  have H1 := hide (once_any a len cap w.heap.size w.heap.size 60 hl (Nat.le_refl _) (by omega) w1 hc1 (unhide HD1))
  have hs1 := hb1.size
  clear hc1
  go_wp2_with fail
  refine (unhide H1).mono ?_
  rintro e w2 ⟨⟨b, rfl⟩, hc2, hg2⟩
  have hb2 : Below w.heap.size w w2 := hb1.grown hg2 hs1 (fun k hk => by have := Option.some.inj hk; omega)
  have HD2 := hide ((unhide HD1).grown (Nat.le_refl _) hg2)
  have HC2 := hide hc2
  have hs2 := hb2.size
  clear hc2 hg2
  cases b
  · have H2 := hide (below_any a len cap w.heap.size w.heap.size 30 hl (Nat.le_refl _) (by omega) w2 (unhide HC2) (unhide HD2))
    go_wp2_with fail
    refine (unhide H2).mono ?_
    rintro e w3 ⟨x, rfl, hx0, hx1, hc3, hg3⟩
    obtain ⟨n, rfl⟩ := Int.eq_ofNat_of_zero_le hx0
    have hb3 : Below w.heap.size w w3 := hb2.grown hg3 hs2 (fun k hk => by have := Option.some.inj hk; omega)
    have H3 := hide (text_any a len cap w.heap.size w.heap.size n hl (Nat.le_refl _) (by omega) w3 hc3.lt hc3 ((unhide HD2).grown (Nat.le_refl _) hg3))
    clear hc3 hg3
    go_wp2_with fail
    refine (unhide H3).mono ?_
    rintro e w4 ⟨⟨s, rfl, hs⟩, hb4⟩
    have HS := hide hs
    clear hs
    go_wp2
    go_ret
    exact ⟨⟨s, rfl, by have := unhide HS; omega⟩, hb3.trans hb4⟩
  · have H2 := hide (below_any a len cap w.heap.size w.heap.size 2 hl (Nat.le_refl _) (by omega) w2 (unhide HC2) (unhide HD2))
    go_wp2_with fail
    refine (unhide H2).mono ?_
    rintro e w3 ⟨x, rfl, hx0, hx1, hc3, hg3⟩
    obtain ⟨n, rfl⟩ := Int.eq_ofNat_of_zero_le hx0
    have hb3 : Below w.heap.size w w3 := hb2.grown hg3 hs2 (fun k hk => by have := Option.some.inj hk; omega)
    have h3 := long_any (8000 + n) (by omega) w3
    rw [Int.natCast_add] at h3
    have H3 := hide h3
    have hs3 := hb3.size
    clear hc3 hg3 h3
    go_wp2_with fail
    refine (unhide H3).mono ?_
    rintro e w4 ⟨⟨s, rfl, hs⟩, hb4⟩
    have HS := hide hs
    clear hs
    go_wp2
    go_ret
    exact ⟨⟨s, rfl, by have := unhide HS; omega⟩, hb3.trans (hb4.mono hs3)⟩
end Go.Proofs.YtbcefikjacjplaaDoor
