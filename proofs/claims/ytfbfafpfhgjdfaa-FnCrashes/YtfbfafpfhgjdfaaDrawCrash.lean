/-
  The contracts of laws.sameTexts, spec.l01PickInt, spec.l03Keep and spec.DrawKept.
-/
import Derived.Test.YtfbfafpfhgjdfaaDrawKept
import Derived.Test.YtfbfafpfhgjdfaaDrawPlaces
import Derived.Test.YtfbfafpfhgjdfaaDevEq
namespace Go.Proofs.Ytfbfafpfhgjdfaa
open Go.RowKit

set_option maxRecDepth 100000 in
set_option maxHeartbeats 1000000 in
theorem sameTexts_same (a a' : Option Addr) (len c c' B B' : Nat) (L : List ByteArray) (hlen : len ≤ 1048576) (w : World) (hB : B ≤ w.heap.size) (hB' : B' ≤ w.heap.size) (hs : StrsAt w a len B L) (hs' : StrsAt w a' len B' L) :
    Calls Try.prog 24 #[.slice a len c, .slice a' len c'] w fun e w' => e = .returned (.bool true) ∧ Below w.heap.size w w' := by
  obtain ⟨hL, hc⟩ := hs
  obtain ⟨_, hc'⟩ := hs'
  have HC := hide hc
  have HC' := hide hc'
  have HL := hide hL
  clear hc hc' hL
  go_enter Try.func24, Try.ntmps24
  go_wp2_with fail
  go_loopw [5] (fun i wr => ∃ k : Nat, i = .int .i64 k ∧ k ≤ len ∧ Below w.heap.size w wr) (fun i _ => len - (intOf i).toNat)
  case atStart => exact ⟨0, rfl, Nat.zero_le _, Below.refl _ _⟩
  case round =>
    obtain ⟨k, rfl, hk, hb⟩ := hrel
    by_cases hlt : k < len
    · have hkL : k < L.length := by have := unhide HL; omega
      obtain ⟨b, off, rfl, hbB, hcell⟩ := unhide HC k hkL
      obtain ⟨b', off', rfl, hbB', hcell'⟩ := unhide HC' k hkL
      rw [← hb.cell (p := ⟨b, off + k, none⟩) (by simp; omega)] at hcell
      rw [← hb.cell (p := ⟨b', off' + k, none⟩) (by simp; omega)] at hcell'
      have hx0 : (0 : Int) ≤ (k : Int) := by omega
      have hx1 : (k : Int) < (len : Int) := by omega
      generalize L[k] = s at hcell hcell'
      go_wp2_with fail
      go_quiet (fail)
      go_wp2
      go_roundw
      case rel => exact ⟨k + 1, by go_num, by omega, below_drewN hb _⟩
      case measure => simp [intOf]; omega
    · go_wp2
      go_ret
      exact ⟨rfl, hb⟩

def Near (x : Int) : Prop := -1 ≤ x ∧ x ≤ 9

set_option maxRecDepth 100000 in
theorem pick_any (a : Option Addr) (len cap g B b : Nat) (x0 x1 x2 : Int) (hl : len ≤ 1048576) (hB : B ≤ g) (hb : b ≠ g) (w : World) (hc : Cur a len cap g w) (hd : Code a len B w) (hx : w.heap[b]? = some (.cells #[.int .i64 x0, .int .i64 x1, .int .i64 x2] 3 (0, 0))) (h0 : Near x0) (h1 : Near x1) (h2 : Near x2) :
    Calls Try.prog 82 #[.pointer (some ⟨g, 0, none⟩), .slice (some ⟨b, 0, none⟩) 3 3] w fun e w' => (∃ x, e = .returned (.int .i64 x) ∧ Near x) ∧ Cur a len cap g w' ∧ w.grownBy w' (some g) := by
  have H := hide (below_any a len cap g B 3 hl hB (by omega) w hc hd)
  have HX := hide hx
  have hbl : b < w.heap.size := by
    rcases Nat.lt_or_ge b w.heap.size with h | h
    · exact h
    · rw [Array.getElem?_eq_none h] at hx; cases hx
  clear hc hd hx
  go_enter Try.func82, Try.ntmps82
  go_wp2_with fail
  refine (unhide H).mono ?_
  rintro e w1 ⟨x, rfl, hx0, hx1, hc1, hg1⟩
  obtain ⟨c0, c1, c2, _⟩ := cell_of_three (show w1.heap[b]? = some (.cells #[.int .i64 x0, .int .i64 x1, .int .i64 x2] 3 (0, 0)) by rw [hg1.block b hbl (by simp; exact hb)]; exact unhide HX)
  have HC := hide hc1
  have HG := hide hg1
  clear hc1 hg1
  have hcase : x = 0 ∨ x = 1 ∨ x = 2 := by omega
  rcases hcase with rfl | rfl | rfl
  · go_wp2
    go_ret
    exact ⟨⟨x0, rfl, h0⟩, unhide HC, unhide HG⟩
  · go_wp2
    go_ret
    exact ⟨⟨x1, rfl, h1⟩, unhide HC, unhide HG⟩
  · go_wp2
    go_ret
    exact ⟨⟨x2, rfl, h2⟩, unhide HC, unhide HG⟩

set_option maxRecDepth 100000 in
set_option maxHeartbeats 1000000 in
theorem keep_any (a : Option Addr) (len cap g B : Nat) (hl : len ≤ 1048576) (hB : B ≤ g) (w : World) (hc : Cur a len cap g w) (hd : Code a len B w) :
    Calls Try.prog 58 #[.pointer (some ⟨g, 0, none⟩), .int .i64 9] w fun e w' => (∃ v n K, e = .returned v ∧ n ≤ 10 ∧ w'.ownsRow w.heap.size 3 1 v n (intsV K) ∧ ∀ x ∈ K, Near x) ∧ Cur a len cap g w' ∧ Kept (fun k => k = g) w w' := by
  obtain ⟨i0, hi, hz0, hz1, hz2⟩ := info_parts info3
  have HC := hide hc
  have HD := hide hd
  have hgl := hc.lt
  have ON := hide (fun (n : Int) (h0 : 0 < n) (w2 : World) (h1 : Cur a len cap g w2) (h2 : Code a len B w2) => once_any a len cap g B n hl hB h0 w2 h1 h2)
  clear hc hd
  go_enter Try.func58, Try.ntmps58
  go_wp2_with fail
  go_loopw [5, 6] (fun out a6 wr => ∃ (i n : Nat) (K : List Int), a6 = .int .i64 i ∧ i ≤ 9 ∧ n ≤ i ∧ (∀ x ∈ K, Near x) ∧ wr.ownsRow w.heap.size 3 1 out n (intsV K) ∧ Cur a len cap g wr ∧ Code a len B wr ∧ Kept (fun k => k = g ∨ w.heap.size ≤ k) w wr) (fun _ a6 _ => 9 - (intOf a6).toNat)
  case atStart =>
    refine ⟨0, 0, [], rfl, Nat.zero_le _, Nat.le_refl _, by simp, ?_, (unhide HC).alloc _, (unhide HD).alloc _, Kept.of_below (below_new _ _)⟩
    exact World.ownsRow_made w #[] 0 (Nat.le_refl _) (Nat.zero_le _) rfl
  case round =>
    obtain ⟨i, n, K, rfl, hi9, hni, hKs, hown, hcu, hco, hkp⟩ := hrel
    have hkz := hkp.2.2.2.1
    have hrow : ∀ k, u5.ownBlock = some k → w.heap.size ≤ k := fun k hk => (hown.lt k hk).1
    have HROW := hide hrow
    have HKs := hide hKs
    have HOW := hide hown
    have HCO := hide hco
    have HKP := hide hkp
    by_cases hlt : i < 9
    · have HO2 := hide (unhide ON 2 (by omega) wr hcu hco)
      clear hown hcu hco hKs hkp hrow
      go_wp2_with fail
      refine (unhide HO2).mono ?_
      rintro e w1 ⟨⟨bb, rfl⟩, hcu1, hg1⟩
      have hk1 := grown_kept hg1
      have hown1 := hk1.own (unhide HOW) (fun k hk e => by have := unhide HROW k hk; omega)
      have HCU1 := hide hcu1
      have HCO1 := hide ((unhide HCO).grown hB hg1)
      have hkp1 := (unhide HKP).trans (hk1.weak (T := fun k => k = g ∨ w.heap.size ≤ k) (fun k hk => .inl hk))
      have HKP1 := hide hkp1
      have hz1' := hg1.size
      clear hcu1 hg1 hk1 HO2 hkp1
      cases bb
      · have HO1 := hide hown1
        clear hown1
        go_wp2
        go_roundw
        case rel => exact ⟨i + 1, n, K, by go_num, by omega, by omega, unhide HKs, unhide HO1, unhide HCU1, unhide HCO1, unhide HKP1⟩
        case measure => simp [intOf]; omega
      · go_wp2_with (at_builtin; refine wpList_append_own _ rfl _ _ 29 rfl w.heap.size 3 i0 (.int .i64 0) 1 8 Try.underlying29 hi hz0 hz1 hz2 rfl (by decide) _ _ _ rfl (hown1.alloc _) ⟨w1.heap.size, 0, none⟩ 1 1 [.int .i64 (i : Int)] rfl rfl (cell_one_new _ _ _) (one_int _) ?_ ?_ ?_ ?_)
        · unfold maxLen; omega
        · omega
        · first | omega | (simp; omega)
        intro v' w4 hown' hgrow _
        have hkr : ∀ k, u5.ownBlock = some k → w.heap.size ≤ k := unhide HROW
        have HCU4 := hide (((unhide HCU1).alloc _).row (fun e => by have := hkr _ e; omega) hgrow)
        have HCO4 := hide (((unhide HCO1).alloc _).row (fun k hk => by have := hkr k hk; omega) hgrow)
        have HKP4 := hide (((unhide HKP1).trans (Kept.of_below (below_new w1 _))).trans ((Kept.of_grown hgrow).weak (T := fun k => k = g ∨ w.heap.size ≤ k) (fun k hk => .inr (hkr k hk))))
        rw [← intsV_snoc] at hown'
        have HO4 := hide hown'
        have HKs4 : Hid (∀ y ∈ K ++ [(i : Int)], Near y) := fun y hy => by
          rcases List.mem_append.1 hy with h | h
          · exact unhide HKs y h
          · simp at h; rw [h]; exact ⟨by omega, by omega⟩
        clear hown' hgrow hown1 hkr
        go_wp2
        go_roundw
        case rel => exact ⟨i + 1, n + 1, K ++ [(i : Int)], by go_num, by omega, by omega, unhide HKs4, unhide HO4, unhide HCU4, unhide HCO4, unhide HKP4⟩
        case measure => simp [intOf]; omega
    · have HO15 := hide (unhide ON 15 (by omega) wr hcu hco)
      clear hown hcu hco hKs hkp hrow
      go_wp2_with fail
      refine (unhide HO15).mono ?_
      rintro e w1 ⟨⟨bb, rfl⟩, hcu1, hg1⟩
      have hk1 := grown_kept hg1
      have hown1 := hk1.own (unhide HOW) (fun k hk e => by have := unhide HROW k hk; omega)
      have HCU1 := hide hcu1
      have hco1 := (unhide HCO).grown hB hg1
      have hkp1 := (unhide HKP).trans (hk1.weak (T := fun k => k = g ∨ w.heap.size ≤ k) (fun k hk => .inl hk))
      have HKP1 := hide hkp1
      have hz1' := hg1.size
      cases bb
      · have HO1 := hide hown1
        clear hown1 hcu1 hg1 hk1 HO15 hkp1 hco1
        go_wp2
        go_ret
        exact ⟨⟨_, n, K, rfl, by omega, unhide HO1, unhide HKs⟩, unhide HCU1, (unhide HKP1).strip⟩
      · have HPK := hide (pick_any a len cap g B w1.heap.size (-1) 9 0 hl hB (by have := hcu1.lt; omega) (w1.alloc (Obj.cells #[Value.int .i64 (-1), Value.int .i64 9, Value.int .i64 0] 3)) (hcu1.alloc _) (hco1.alloc _) (heap_alloc_new w1 _) ⟨by omega, by omega⟩ ⟨by omega, by omega⟩ ⟨by omega, by omega⟩)
        have HO1 := hide (hown1.alloc (Obj.cells #[Value.int .i64 (-1), Value.int .i64 9, Value.int .i64 0] 3))
        have HKP2 := hide ((unhide HKP1).trans (Kept.of_below (below_new w1 (Obj.cells #[Value.int .i64 (-1), Value.int .i64 9, Value.int .i64 0] 3))))
        clear hown1 hcu1 hg1 hk1 HO15 hkp1 hco1
        go_wp2_with fail
        refine (unhide HPK).mono ?_
        rintro e w2 ⟨⟨x, rfl, hx⟩, hcu2, hg2⟩
        have hk2 := grown_kept hg2
        have hown2 := hk2.own (unhide HO1) (fun k hk e => by have := unhide HROW k hk; omega)
        have HCU2 := hide hcu2
        have HKP3 := hide ((unhide HKP2).trans (hk2.weak (T := fun k => k = g ∨ w.heap.size ≤ k) (fun k hk => .inl hk)))
        have hz2' := hg2.size
        simp only [World.size_alloc] at hz2'
        clear hcu2 hg2 hk2 HPK
        go_wp2_with (at_builtin; refine wpList_append_own _ rfl _ _ 29 rfl w.heap.size 3 i0 (.int .i64 0) 1 8 Try.underlying29 hi hz0 hz1 hz2 rfl (by decide) _ _ _ rfl (hown2.alloc _) ⟨w2.heap.size, 0, none⟩ 1 1 [.int .i64 x] rfl rfl (cell_one_new _ _ _) (one_int _) ?_ ?_ ?_ ?_)
        · unfold maxLen; omega
        · omega
        · first | omega | (simp; omega)
        intro v' w4 hown' hgrow _
        have hkr : ∀ k, u5.ownBlock = some k → w.heap.size ≤ k := unhide HROW
        have HCU4 := hide (((unhide HCU2).alloc _).row (fun e => by have := hkr _ e; omega) hgrow)
        have HKP4 := hide (((unhide HKP3).trans (Kept.of_below (below_new w2 _))).trans ((Kept.of_grown hgrow).weak (T := fun k => k = g ∨ w.heap.size ≤ k) (fun k hk => .inr (hkr k hk))))
        rw [← intsV_snoc] at hown'
        have HO4 := hide hown'
        have HKs4 : Hid (∀ y ∈ K ++ [x], Near y) := fun y hy => by
          rcases List.mem_append.1 hy with h | h
          · exact unhide HKs y h
          · simp at h; rw [h]; exact hx
        clear hown' hgrow hown2 hkr
        go_wp2
        go_ret
        exact ⟨⟨_, n + 1, _, rfl, by omega, unhide HO4, unhide HKs4⟩, unhide HCU4, (unhide HKP4).strip⟩
end Go.Proofs.Ytfbfafpfhgjdfaa
