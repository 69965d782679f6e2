/-
  The contracts of spec.l01PickInt of four numbers, spec.l06Root and spec.DrawRootText: some root, new.
-/
import Derived.Test.YtnflilaldamddaaRtLImpl
import Derived.Test.YtnflilaldamddaaDrawPlaces
namespace Go.Proofs.Ytnflilaldamddaa
namespace Rt
open Go.RowKit

theorem cell_of_four {w : World} {g : Nat} {x y z u : Value} {t : TypeId} (h : w.heap[g]? = some (.cells #[x, y, z, u] t (0, 0))) :
    w.cell? ⟨g, 0, none⟩ = some x ∧ w.cell? ⟨g, 1, none⟩ = some y ∧ w.cell? ⟨g, 2, none⟩ = some z ∧ w.cell? ⟨g, 3, none⟩ = some u := by
  refine ⟨?_, ?_, ?_, ?_⟩
  · rw [cell_of_row w g 0 _ t (0, 0) h]; rfl
  · rw [cell_of_row w g 1 _ t (0, 0) h]; rfl
  · rw [cell_of_row w g 2 _ t (0, 0) h]; rfl
  · rw [cell_of_row w g 3 _ t (0, 0) h]; rfl

set_option maxRecDepth 100000 in
theorem pick4_any (a : Option Addr) (len cap g B b : Nat) (x0 x1 x2 x3 : Int) (hl : len ≤ 1048576) (hB : B ≤ g) (hb : b ≠ g) (w : World) (hc : Cur a len cap g w) (hd : Code a len B w) (hx : w.heap[b]? = some (.cells #[.int .i64 x0, .int .i64 x1, .int .i64 x2, .int .i64 x3] 3 (0, 0))) :
    Calls Try.prog 42 #[.pointer (some ⟨g, 0, none⟩), .slice (some ⟨b, 0, none⟩) 4 4] w fun e w' => (∃ x, e = .returned (.int .i64 x)) ∧ w.grownBy w' (some g) := by
  have H := hide (below_any a len cap g B 4 hl hB (by omega) w hc hd)
  have HX := hide hx
  have hbl : b < w.heap.size := by
    rcases Nat.lt_or_ge b w.heap.size with h | h
    · exact h
    · rw [Array.getElem?_eq_none h] at hx; cases hx
  clear hc hd hx
  go_enter Try.func42, Try.ntmps42
  go_wp2_with fail
  refine (unhide H).mono ?_
  rintro e w1 ⟨x, rfl, hx0, hx1, hc1, hg1⟩
  obtain ⟨c0, c1, c2, c3⟩ := cell_of_four (show w1.heap[b]? = some (.cells #[.int .i64 x0, .int .i64 x1, .int .i64 x2, .int .i64 x3] 3 (0, 0)) by rw [hg1.block b hbl (by simp; exact hb)]; exact unhide HX)
  have HG := hide hg1
  clear hc1 hg1
  have hcase : x = 0 ∨ x = 1 ∨ x = 2 ∨ x = 3 := by omega
  rcases hcase with rfl | rfl | rfl | rfl
  · go_wp2
    go_ret
    exact ⟨⟨x0, rfl⟩, unhide HG⟩
  · go_wp2
    go_ret
    exact ⟨⟨x1, rfl⟩, unhide HG⟩
  · go_wp2
    go_ret
    exact ⟨⟨x2, rfl⟩, unhide HG⟩
  · go_wp2
    go_ret
    exact ⟨⟨x3, rfl⟩, unhide HG⟩

theorem RBox.lt {w : World} {g : Nat} {s t : Int} (h : RBox w g s t) : g < w.heap.size := by
  rcases Nat.lt_or_ge g w.heap.size with h2 | h2
  · exact h2
  · unfold RBox at h
    rw [Array.getElem?_eq_none h2] at h
    cases h

theorem RBox.grown {w w' : World} {g k : Nat} {s t : Int} (h : RBox w k s t) (hg : w.grownBy w' (some g)) (hk : k ≠ g) : RBox w' k s t :=
  (hg.block k h.lt (by simp; exact hk)).trans h

theorem RBox.new (w : World) (s t : Int) : RBox (w.alloc (Obj.cells #[.int .i64 s, .int .i64 t] 25)) w.heap.size s t := heap_alloc_new w _

theorem RBox.alloc {w : World} {k : Nat} {s t : Int} (h : RBox w k s t) (o : Obj) : RBox (w.alloc o) k s t := ((below_new1 w o).block _ h.lt).trans h

theorem RBox.below {w w' : World} {k : Nat} {s t : Int} (h : RBox w k s t) (hb : Below w.heap.size w w') : RBox w' k s t := (hb.block _ h.lt).trans h

set_option maxRecDepth 100000 in
set_option maxHeartbeats 1000000 in
theorem root_drawn (a : Option Addr) (len cap g B : Nat) (hl : len ≤ 1048576) (hB : B ≤ g) (w : World) (hc : Cur a len cap g w) (hd : Code a len B w) :
    Calls Try.prog 21 #[.pointer (some ⟨g, 0, none⟩)] w fun e w' => (∃ s t, e = .returned (.agg #[.int .i64 s, .int .i64 t])) ∧ Kept (fun k => k = g ∨ w.heap.size ≤ k) w w' := by
  have BX := hide (fun (n : Int) (h0 : 0 < n) (w2 : World) (h1 : Cur a len cap g w2) (h2 : Code a len B w2) => below_any a len cap g B n hl hB h0 w2 h1 h2)
  have hgl := hc.lt
  have HC := hide hc
  have HD := hide hd
  clear hc hd
  go_enter Try.func21, Try.ntmps21
  go_wp2_with fail
  obtain ⟨W1, hW1⟩ : ∃ W, W = w.alloc (Obj.cells #[Value.int .i64 0, Value.int .i64 0] 25) := ⟨_, rfl⟩
  have HR1 : Hid (RBox W1 w.heap.size 0 0) := by show RBox _ _ _ _; rw [hW1]; exact RBox.new w 0 0
  have HC1 : Hid (Cur a len cap g W1) := by show Cur _ _ _ _ _; rw [hW1]; exact (unhide HC).alloc _
  have HD1 : Hid (Code a len B W1) := by show Code _ _ _ _; rw [hW1]; exact (unhide HD).alloc _
  have hk1 : Kept (fun k => k = g ∨ w.heap.size ≤ k) w W1 := by rw [hW1]; exact Kept.of_below (below_new1 _ _)
  rw [← hW1]
  clear hW1 HC HD
  refine (unhide BX 400 (by omega) W1 (unhide HC1) (unhide HD1)).mono ?_
  rintro e w2 ⟨s, rfl, hs0, hs1, hcu2, hg2⟩
  have HR2 := hide ((unhide HR1).grown hg2 (by omega))
  have HC2 := hide hcu2
  have HD2 := hide ((unhide HD1).grown hB hg2)
  have hk2 := hk1.trans ((grown_kept hg2).weak (T := fun k => k = g ∨ w.heap.size ≤ k) (fun k hk => .inl hk))
  clear hcu2 hg2 hk1 HC1 HD1 HR1
  go_wp2_with fail
  refine (unhide BX 300 (by omega) w2 (unhide HC2) (unhide HD2)).mono ?_
  rintro e w3 ⟨t, rfl, ht0, ht1, hcu3, hg3⟩
  obtain ⟨W3, hW3⟩ : ∃ W, W = w3.alloc (Obj.cells #[Value.int .i64 s, Value.int .i64 (t - 1)] 25) := ⟨_, rfl⟩
  have hr3 := (unhide HR2).grown hg3 (by omega)
  have hs3 := hr3.lt
  have HR3 : Hid (RBox W3 w.heap.size 0 0) := by show RBox _ _ _ _; rw [hW3]; exact hr3.alloc _
  have HX3 : Hid (RBox W3 w3.heap.size s (t - 1)) := by show RBox _ _ _ _; rw [hW3]; exact RBox.new w3 _ _
  have HC3 : Hid (Cur a len cap g W3) := by show Cur _ _ _ _ _; rw [hW3]; exact hcu3.alloc _
  have HD3 : Hid (Code a len B W3) := by show Code _ _ _ _; rw [hW3]; exact ((unhide HD2).grown hB hg3).alloc _
  have hk3 : Kept (fun k => k = g ∨ w.heap.size ≤ k) w W3 := by rw [hW3]; exact (hk2.trans ((grown_kept hg3).weak (T := fun k => k = g ∨ w.heap.size ≤ k) (fun k hk => .inl hk))).trans (Kept.of_below (below_new1 _ _))
  clear hcu3 hg3 hk2 HC2 HD2 HR2 hr3
  go_upto_region 2 with fail
  rw [← hW3]
  clear hW3
  generalize t - 1 = t1 at HX3 ⊢
  go_wp2_with fail
  refine (unhide BX 20 (by omega) W3 (unhide HC3) (unhide HD3)).mono ?_
  rintro e w4 ⟨q, rfl, hq0, hq1, hcu4, hg4⟩
  have hr4 := (unhide HR3).grown hg4 (by omega)
  have hx4 := (unhide HX3).grown hg4 (by omega)
  have HR4 := hide hr4
  have HX4 := hide hx4
  have HC4 := hide hcu4
  have HD4 := hide ((unhide HD3).grown hB hg4)
  have hk4 := hk3.trans ((grown_kept hg4).weak (T := fun k => k = g ∨ w.heap.size ≤ k) (fun k hk => .inl hk))
  have hs4 := hx4.lt
  clear hcu4 hg4 hk3 HC3 HD3 HR3 HX3 BX hr4 hx4
  by_cases h0 : q = 0
  · subst h0
    go_wp2_with fail
    obtain ⟨W4, hW4⟩ : ∃ W, W = w4.alloc (Obj.cells #[Value.int .i64 (-1), Value.int .i64 1000000000, Value.int .i64 1000000001, Value.int .i64 65536] 3) := ⟨_, rfl⟩
    have hb4 : W4.heap[w4.heap.size]? = some (.cells #[Value.int .i64 (-1), Value.int .i64 1000000000, Value.int .i64 1000000001, Value.int .i64 65536] 3 (0, 0)) := by rw [hW4]; exact heap_alloc_new w4 _
    have HR5 : Hid (RBox W4 w.heap.size 0 0) := by show RBox _ _ _ _; rw [hW4]; exact (unhide HR4).alloc _
    have HX5 : Hid (RBox W4 w3.heap.size s t1) := by show RBox _ _ _ _; rw [hW4]; exact (unhide HX4).alloc _
    have HPK : Hid (Calls Try.prog 42 #[.pointer (some ⟨g, 0, none⟩), .slice (some ⟨w4.heap.size, 0, none⟩) 4 4] W4 fun e w' => (∃ x, e = .returned (.int .i64 x)) ∧ W4.grownBy w' (some g)) :=
      pick4_any a len cap g B w4.heap.size _ _ _ _ hl hB (by omega) W4 (by rw [hW4]; exact (unhide HC4).alloc _) (by rw [hW4]; exact (unhide HD4).alloc _) hb4
    have hk5 : Kept (fun k => k = g ∨ w.heap.size ≤ k) w W4 := by rw [hW4]; exact hk4.trans (Kept.of_below (below_new1 _ _))
    rw [← hW4]
    clear hW4 hb4 hk4 HR4 HX4 HC4 HD4
    refine (unhide HPK).mono ?_
    rintro e w5 ⟨⟨y, rfl⟩, hg5⟩
    have hr6 := (unhide HR5).grown hg5 (by omega)
    have hx6 := (unhide HX5).grown hg5 (by omega)
    have hk6 := hk5.trans ((grown_kept hg5).weak (T := fun k => k = g ∨ w.heap.size ≤ k) (fun k hk => .inl hk))
    obtain ⟨c0, c1, cf⟩ := cells_of_two hx6
    have cf0 := cf 0
    obtain ⟨V, hV⟩ : ∃ V, V = w5.setCell ⟨w3.heap.size, 0, none⟩ (.int .i64 y) := ⟨_, rfl⟩
    have x7 : RBox V w3.heap.size y t1 := by rw [hV]; exact two_zero hx6 _
    have r7 : RBox V w.heap.size 0 0 := by rw [hV]; exact (Below.heap_setCell _ _ _ _ (by show w.heap.size ≠ w3.heap.size; omega)).trans hr6
    have hk7 : Kept (fun k => k = g ∨ w.heap.size ≤ k) w V := by rw [hV]; exact hk6.trans (Kept.set _ w3.heap.size 0 _ (.inr (by omega)))
    clear cf hr6 hx6 hk6 hg5 hk5 HR5 HX5
    go_upto_region 7 with fail
    rw [← hV]
    clear hV c0 c1 cf0
    obtain ⟨c0, c1, _⟩ := cells_of_two x7
    obtain ⟨r0, r1, rf⟩ := cells_of_two r7
    have rf0 := rf 0
    have rf1 := rf 1
    have HR7 := hide r7
    have HK7 := hide hk7
    clear r7 x7 rf hk7
    go_wp2
    (try simp only [Exit.inBlock, Exit.then])
    refine bodyPost_ret (results_root1 Try.results21 _ _ w.heap.size _ _ rfl ((unhide HR7).two _ _)) rfl ?_
    exact ⟨⟨_, _, rfl⟩, ((unhide HK7).trans (Kept.set _ w.heap.size 0 _ (.inr (Nat.le_refl _)))).trans (Kept.set _ w.heap.size 1 _ (.inr (Nat.le_refl _)))⟩
  by_cases h1 : q = 1
  · subst h1
    go_wp2_with fail
    obtain ⟨W4, hW4⟩ : ∃ W, W = w4.alloc (Obj.cells #[Value.int .i64 (-2), Value.int .i64 (-1), Value.int .i64 399, Value.int .i64 400] 3) := ⟨_, rfl⟩
    have hb4 : W4.heap[w4.heap.size]? = some (.cells #[Value.int .i64 (-2), Value.int .i64 (-1), Value.int .i64 399, Value.int .i64 400] 3 (0, 0)) := by rw [hW4]; exact heap_alloc_new w4 _
    have HR5 : Hid (RBox W4 w.heap.size 0 0) := by show RBox _ _ _ _; rw [hW4]; exact (unhide HR4).alloc _
    have HX5 : Hid (RBox W4 w3.heap.size s t1) := by show RBox _ _ _ _; rw [hW4]; exact (unhide HX4).alloc _
    have HPK : Hid (Calls Try.prog 42 #[.pointer (some ⟨g, 0, none⟩), .slice (some ⟨w4.heap.size, 0, none⟩) 4 4] W4 fun e w' => (∃ x, e = .returned (.int .i64 x)) ∧ W4.grownBy w' (some g)) :=
      pick4_any a len cap g B w4.heap.size _ _ _ _ hl hB (by omega) W4 (by rw [hW4]; exact (unhide HC4).alloc _) (by rw [hW4]; exact (unhide HD4).alloc _) hb4
    have hk5 : Kept (fun k => k = g ∨ w.heap.size ≤ k) w W4 := by rw [hW4]; exact hk4.trans (Kept.of_below (below_new1 _ _))
    rw [← hW4]
    clear hW4 hb4 hk4 HR4 HX4 HC4 HD4
    refine (unhide HPK).mono ?_
    rintro e w5 ⟨⟨y, rfl⟩, hg5⟩
    have hr6 := (unhide HR5).grown hg5 (by omega)
    have hx6 := (unhide HX5).grown hg5 (by omega)
    have hk6 := hk5.trans ((grown_kept hg5).weak (T := fun k => k = g ∨ w.heap.size ≤ k) (fun k hk => .inl hk))
    obtain ⟨c0, c1, cf⟩ := cells_of_two hx6
    have cf0 := cf 1
    obtain ⟨V, hV⟩ : ∃ V, V = w5.setCell ⟨w3.heap.size, 1, none⟩ (.int .i64 y) := ⟨_, rfl⟩
    have x7 : RBox V w3.heap.size s y := by rw [hV]; exact two_one hx6 _
    have r7 : RBox V w.heap.size 0 0 := by rw [hV]; exact (Below.heap_setCell _ _ _ _ (by show w.heap.size ≠ w3.heap.size; omega)).trans hr6
    have hk7 : Kept (fun k => k = g ∨ w.heap.size ≤ k) w V := by rw [hV]; exact hk6.trans (Kept.set _ w3.heap.size 1 _ (.inr (by omega)))
    clear cf hr6 hx6 hk6 hg5 hk5 HR5 HX5
    go_upto_region 7 with fail
    rw [← hV]
    clear hV c0 c1 cf0
    obtain ⟨c0, c1, _⟩ := cells_of_two x7
    obtain ⟨r0, r1, rf⟩ := cells_of_two r7
    have rf0 := rf 0
    have rf1 := rf 1
    have HR7 := hide r7
    have HK7 := hide hk7
    clear r7 x7 rf hk7
    go_wp2
    (try simp only [Exit.inBlock, Exit.then])
    refine bodyPost_ret (results_root1 Try.results21 _ _ w.heap.size _ _ rfl ((unhide HR7).two _ _)) rfl ?_
    exact ⟨⟨_, _, rfl⟩, ((unhide HK7).trans (Kept.set _ w.heap.size 0 _ (.inr (Nat.le_refl _)))).trans (Kept.set _ w.heap.size 1 _ (.inr (Nat.le_refl _)))⟩
  have x7 := unhide HX4
  have r7 := unhide HR4
  have hk7 := hk4
  clear hk4
  obtain ⟨c0, c1, _⟩ := cells_of_two x7
  obtain ⟨r0, r1, rf⟩ := cells_of_two r7
  have rf0 := rf 0
  have rf1 := rf 1
  have HR7 := hide r7
  have HK7 := hide hk7
  clear r7 x7 rf hk7
  go_wp2
  (try simp only [Exit.inBlock, Exit.then])
  refine bodyPost_ret (results_root1 Try.results21 _ _ w.heap.size _ _ rfl ((unhide HR7).two _ _)) rfl ?_
  exact ⟨⟨_, _, rfl⟩, ((unhide HK7).trans (Kept.set _ w.heap.size 0 _ (.inr (Nat.le_refl _)))).trans (Kept.set _ w.heap.size 1 _ (.inr (Nat.le_refl _)))⟩

theorem code_mono {a : Option Addr} {len B C : Nat} {w : World} (h : Code a len B w) (hC : B ≤ C) : Code a len C w := fun j hj => by
  obtain ⟨b, off, z, h1, h2, h3, h4, h5⟩ := h j hj
  exact ⟨b, off, z, h1, by omega, h3, h4, h5⟩

set_option maxRecDepth 100000 in
theorem drawRoot_any (a : Option Addr) (len cap : Nat) (hl : len ≤ 1048576) (w : World) (hd : Code a len w.heap.size w) :
    Calls Try.prog 8 #[.slice a len cap] w fun e w' => (∃ s t, e = .returned (.agg #[.int .i64 s, .int .i64 t])) ∧ Below w.heap.size w w' := by
  have HN := hide (fun (w2 : World) (h : Below w.heap.size w w2) => new_any a len cap hl w2 (code_mono (hd.below h (Nat.le_refl _)) h.size))
  have HD := hide hd
  clear hd
  go_enter Try.func8, Try.ntmps8
  go_wp2_with fail
  obtain ⟨W1, hW1⟩ : ∃ W, W = w.alloc (Obj.cells #[Value.int .i64 0, Value.int .i64 0] 25) := ⟨_, rfl⟩
  have HR1 : Hid (RBox W1 w.heap.size 0 0) := by show RBox _ _ _ _; rw [hW1]; exact RBox.new w 0 0
  have hb1 : Below w.heap.size w W1 := by rw [hW1]; exact below_new1 _ _
  have hs1 : w.heap.size < W1.heap.size := by rw [hW1]; simp
  rw [← hW1]
  clear hW1
  refine (unhide HN W1 hb1).mono ?_
  rintro e w2 ⟨rfl, hcu, hb2⟩
  have hr2 := (unhide HR1).below hb2
  have hc2 := hb1.trans (hb2.mono hb1.size)
  have hz2 := hb2.size
  have HC := hide (root_drawn a len cap W1.heap.size w.heap.size hl (Nat.le_of_lt hs1) w2 hcu ((unhide HD).below hc2 (Nat.le_refl _)))
  have HR2 := hide hr2
  clear hcu hb2 HN HD HR1 hr2
  go_wp2_with fail
  refine (unhide HC).mono ?_
  rintro e w3 ⟨⟨s, t, rfl⟩, hk⟩
  have hb3 : Below W1.heap.size w2 w3 := hk.below hz2 (fun i hi => by rcases hi with h | h <;> omega)
  have r7 : RBox w3 w.heap.size 0 0 := (hb3.block _ hs1).trans (unhide HR2)
  have hc3 := hc2.trans (hb3.mono hb1.size)
  obtain ⟨r0, r1, rf⟩ := cells_of_two r7
  have rf0 := rf 0
  have rf1 := rf 1
  have HR7 := hide r7
  clear r7 rf hb3 hk HC HR2
  go_wp2
  (try simp only [Exit.inBlock, Exit.then])
  refine bodyPost_ret (results_root1 Try.results8 _ _ w.heap.size _ _ rfl ((unhide HR7).two _ _)) rfl ?_
  exact ⟨⟨_, _, rfl⟩, (hc3.setCell (p := ⟨w.heap.size, 0, none⟩) (Nat.le_refl _) _).setCell (p := ⟨w.heap.size, 1, none⟩) (Nat.le_refl _) _⟩
end Rt
end Go.Proofs.Ytnflilaldamddaa
