/-
  The contracts of the program's reader of one item.
-/
import Derived.Test.YtajajfmaekdphaaPgRead2
import Derived.Test.YtajajfmaekdphaaPgThree
namespace Go.Proofs.Ytajajfmaekdphaa
open Go.RowKit

theorem Kept.set_new {S : Nat → Prop} {w w1 : World} (h : Kept S w w1) {X : Nat} (hX : w.heap.size ≤ X) (j : Nat) (v : Value) : Kept S w (w1.setCell ⟨X, j, none⟩ v) :=
  ⟨h.1, h.2.1, h.2.2.1, by simpa [World.setCell] using h.2.2.2.1, fun i hi hn => (Below.heap_setCell _ _ _ _ (by simp; omega)).trans (h.2.2.2.2 i hi hn)⟩

theorem Kept.alloc {S : Nat → Prop} {w w1 : World} (h : Kept S w w1) (o : Obj) : Kept S w (w1.alloc o) := h.trans (Kept.of_below (below_new w1 o))

theorem Kept.blk {S : Nat → Prop} {w w' : World} (h : Kept S w w') {X : Nat} {o : Obj} (hX : w.heap[X]? = some o) (hS : ¬ S X) : w'.heap[X]? = some o := by
  rw [h.2.2.2.2 X ?_ hS]
  · exact hX
  · rcases Nat.lt_or_ge X w.heap.size with h1 | h1
    · exact h1
    · rw [Array.getElem?_eq_none h1] at hX; cases hX

theorem blk_lt {w : World} {X : Nat} {o : Obj} (hX : w.heap[X]? = some o) : X < w.heap.size := by
  rcases Nat.lt_or_ge X w.heap.size with h1 | h1
  · exact h1
  · rw [Array.getElem?_eq_none h1] at hX; cases hX

theorem ta_leaf (w : World) : (Instr.typeAssert (.iface 87 (.agg #[])) 54 87 true).run Try.prog w = .ok (.tuple #[.agg #[], .bool true]) w := by kernel_rfl
theorem ta_other (w : World) : (Instr.typeAssert (.iface 88 (.agg #[])) 54 87 true).run Try.prog w = .ok (.tuple #[.agg #[], .bool false]) w := by kernel_rfl
theorem ta_inner (w : World) : (Instr.typeAssert (.iface 88 (.agg #[])) 54 88 true).run Try.prog w = .ok (.tuple #[.agg #[], .bool true]) w := by kernel_rfl

set_option maxRecDepth 100000 in
set_option maxHeartbeats 1000000 in
theorem item_yes_one (g : Nat) (s : ByteArray) (a : Nat) (t : ByteArray) (b : Nat) (u : ByteArray) (c : Nat) (hs : s.size ≤ 8000) (h1 : rsA s a = some (t, b)) (h2 : rsA s b = some (u, c)) (w : World) (hr : RdAt w g s a) :
    Calls Try.prog 76 #[.pointer (some ⟨g, 0, none⟩), .iface 87 (.agg #[])] w fun e w' => e = .returned (itV ⟨t, u, 0⟩) ∧ RdTo g s c w w' := by
  have HR1 := hide (fun w h => short_yes g s a t b hs h1 w h)
  have HR2 := hide (fun w h => short_yes g s b u c hs h2 w h)
  have hgl := hr.lt
  have HRD := hide hr
  have hta := ta_leaf
  have htb := ta_other
  have htc := ta_inner
  clear h1 h2 hr
  go_enter Try.func76, Try.ntmps76
  go_wp2_with fail
  obtain ⟨W1, hW1⟩ : ∃ W, W = w.alloc (Obj.cells #[Value.string ⟨#[]⟩, Value.string ⟨#[]⟩, Value.int .i64 0] 33) := ⟨_, rfl⟩
  rw [← hW1]
  have hk1 : Kept (fun k => k = g) w W1 := by rw [hW1]; exact (Kept.refl _ _).alloc _
  have HR1b : Hid (W1.heap[w.heap.size]? = some (.cells #[Value.string ⟨#[]⟩, Value.string ⟨#[]⟩, Value.int .i64 0] 33 (0, 0))) := by show _ = _; rw [hW1]; exact heap_alloc_new _ _
  have HRD1 : Hid (RdAt W1 g s a) := by show RdAt _ _ _ _; rw [hW1]; exact (unhide HRD).below (below_new _ _) hgl
  clear hW1 HRD
  refine (unhide HR1 _ (unhide HRD1)).mono ?_
  rintro e w2 ⟨rfl, hrd2, hk2⟩
  have HRD2 := hide hrd2
  have HR2b := hide (hk2.blk (unhide HR1b) (by omega))
  have HK2 := hide (hk1.trans hk2)
  clear hrd2 hk2 hk1 HR1b HRD1
  go_wp2_with fail
  obtain ⟨W3, hW3⟩ : ∃ W, W = w2.alloc (Obj.cells #[Value.string t, Value.string ⟨#[]⟩, Value.int .i64 0] 33) := ⟨_, rfl⟩
  rw [← hW3]
  have HX3 : Hid (W3.heap[w2.heap.size]? = some (.cells #[Value.string t, Value.string ⟨#[]⟩, Value.int .i64 0] 33 (0, 0))) := by show _ = _; rw [hW3]; exact heap_alloc_new _ _
  have hb3 : Below w2.heap.size w2 W3 := by rw [hW3]; exact below_new _ _
  have HRD3 := hide ((unhide HRD2).below hb3 (unhide HRD2).lt)
  have HR3b := hide ((hb3.block _ (blk_lt (unhide HR2b))).trans (unhide HR2b))
  have HK3 := hide ((unhide HK2).trans (Kept.of_below hb3))
  have hXR : w.heap.size < w2.heap.size := blk_lt (unhide HR2b)
  obtain ⟨X, hX⟩ : ∃ X, X = w2.heap.size := ⟨_, rfl⟩
  rw [← hX] at HX3 hXR ⊢
  clear hW3 hb3 HRD2 HR2b HK2 hX
  refine (unhide HR2 _ (unhide HRD3)).mono ?_
  rintro e w4 ⟨rfl, hrd4, hk4⟩
  have HRD4 := hide hrd4
  have HX4 := hide (hk4.blk (unhide HX3) (by omega))
  have HR4b := hide (hk4.blk (unhide HR3b) (by omega))
  have HK4 := hide ((unhide HK3).trans hk4)
  clear hrd4 hk4 HX3 HR3b HK3 HRD3
  obtain ⟨x0, x1, x2, xf⟩ := cells_of_three (unhide HX4)
  have xf1 := xf 1
  obtain ⟨r0, r1, r2, rf⟩ := cells_of_three (unhide HR4b)
  have rf0 := rf 0
  have rf1 := rf 1
  have rf2 := rf 2
  have hn1 : ¬ X = w.heap.size := by omega
  have hn2 : ¬ w.heap.size = X := by omega
  clear xf rf
  go_wp2
  (try simp only [Exit.inBlock, Exit.then])
  have hblk : ((((w4.setCell ⟨X, 1, none⟩ (.string u)).setCell ⟨w.heap.size, 0, none⟩ (.string t)).setCell ⟨w.heap.size, 1, none⟩ (.string u)).setCell ⟨w.heap.size, 2, none⟩ (.int .i64 0)).heap[w.heap.size]? = some (.cells #[.string t, .string u, .int .i64 0] 33 (0, 0)) := by
    refine three_two (three_one (three_zero (y := Value.string ⟨#[]⟩) (z := Value.int .i64 0) (x := Value.string ⟨#[]⟩) ?_ _) _) _
    rw [heap_setCell_other _ _ _ _ (by simp; omega)]
    exact unhide HR4b
  refine bodyPost_ret (results_cell_row Try.results76 _ _ w.heap.size _ _ _ _ rfl hblk Try.underlying33 rfl (by kernel_rfl)) rfl ?_
  refine ⟨rfl, ?_, ?_⟩
  · unfold RdAt
    rw [heap_setCell_other _ _ _ _ (by simp; omega), heap_setCell_other _ _ _ _ (by simp; omega), heap_setCell_other _ _ _ _ (by simp; omega), heap_setCell_other _ _ _ _ (by simp; omega)]
    exact unhide HRD4
  · exact ((((unhide HK4).set_new (by omega) _ _).set_new (Nat.le_refl _) _ _).set_new (Nat.le_refl _) _ _).set_new (Nat.le_refl _) _ _

set_option maxRecDepth 100000 in
set_option maxHeartbeats 1000000 in
theorem item_rest_one (g : Nat) (s : ByteArray) (a : Nat) (t : ByteArray) (b : Nat) (hs : s.size ≤ 8000) (h1 : rsA s a = some (t, b)) (h2 : rsA s b = none) (w : World) (hr : RdAt w g s a) :
    Calls Try.prog 76 #[.pointer (some ⟨g, 0, none⟩), .iface 87 (.agg #[])] w fun e w' => e = noPg ∧ Kept (fun k => k = g) w w' := by
  have HR1 := hide (fun w h => short_yes g s a t b hs h1 w h)
  have HR2 := hide (fun w h => short_no g s b hs h2 w h)
  have hgl := hr.lt
  have HRD := hide hr
  have hta := ta_leaf
  have htb := ta_other
  have htc := ta_inner
  clear h1 h2 hr
  go_enter Try.func76, Try.ntmps76
  go_wp2_with fail
  obtain ⟨W1, hW1⟩ : ∃ W, W = w.alloc (Obj.cells #[Value.string ⟨#[]⟩, Value.string ⟨#[]⟩, Value.int .i64 0] 33) := ⟨_, rfl⟩
  rw [← hW1]
  have hk1 : Kept (fun k => k = g) w W1 := by rw [hW1]; exact (Kept.refl _ _).alloc _
  have HR1b : Hid (W1.heap[w.heap.size]? = some (.cells #[Value.string ⟨#[]⟩, Value.string ⟨#[]⟩, Value.int .i64 0] 33 (0, 0))) := by show _ = _; rw [hW1]; exact heap_alloc_new _ _
  have HRD1 : Hid (RdAt W1 g s a) := by show RdAt _ _ _ _; rw [hW1]; exact (unhide HRD).below (below_new _ _) hgl
  clear hW1 HRD
  refine (unhide HR1 _ (unhide HRD1)).mono ?_
  rintro e w2 ⟨rfl, hrd2, hk2⟩
  have HRD2 := hide hrd2
  have HR2b := hide (hk2.blk (unhide HR1b) (by omega))
  have HK2 := hide (hk1.trans hk2)
  clear hrd2 hk2 hk1 HR1b HRD1
  go_wp2_with fail
  obtain ⟨W3, hW3⟩ : ∃ W, W = w2.alloc (Obj.cells #[Value.string t, Value.string ⟨#[]⟩, Value.int .i64 0] 33) := ⟨_, rfl⟩
  rw [← hW3]
  have HX3 : Hid (W3.heap[w2.heap.size]? = some (.cells #[Value.string t, Value.string ⟨#[]⟩, Value.int .i64 0] 33 (0, 0))) := by show _ = _; rw [hW3]; exact heap_alloc_new _ _
  have hb3 : Below w2.heap.size w2 W3 := by rw [hW3]; exact below_new _ _
  have HRD3 := hide ((unhide HRD2).below hb3 (unhide HRD2).lt)
  have HR3b := hide ((hb3.block _ (blk_lt (unhide HR2b))).trans (unhide HR2b))
  have HK3 := hide ((unhide HK2).trans (Kept.of_below hb3))
  have hXR : w.heap.size < w2.heap.size := blk_lt (unhide HR2b)
  obtain ⟨X, hX⟩ : ∃ X, X = w2.heap.size := ⟨_, rfl⟩
  rw [← hX] at HX3 hXR ⊢
  clear hW3 hb3 HRD2 HR2b HK2 hX
  refine (unhide HR2 _ (unhide HRD3)).mono ?_
  rintro e w4 ⟨rfl, hk4⟩
  exact ⟨rfl, rfl, (unhide HK3).trans hk4⟩

set_option maxRecDepth 100000 in
theorem item_key_one (g : Nat) (s : ByteArray) (a : Nat) (hs : s.size ≤ 8000) (h1 : rsA s a = none) (w : World) (hr : RdAt w g s a) :
    Calls Try.prog 76 #[.pointer (some ⟨g, 0, none⟩), .iface 87 (.agg #[])] w fun e w' => e = noPg ∧ Kept (fun k => k = g) w w' := by
  have HR1 := hide (fun w h => short_no g s a hs h1 w h)
  have hgl := hr.lt
  have HRD := hide hr
  clear h1 hr
  go_enter Try.func76, Try.ntmps76
  go_wp2_with fail
  refine (unhide HR1 _ ((unhide HRD).below (below_new _ _) hgl)).mono ?_
  rintro e w2 ⟨rfl, hk2⟩
  exact ⟨rfl, rfl, ((Kept.refl _ _).alloc _).trans hk2⟩

set_option maxRecDepth 100000 in
set_option maxHeartbeats 1000000 in
theorem item_yes_two (g : Nat) (s : ByteArray) (a : Nat) (t : ByteArray) (b : Nat) (u c : Nat) (hs : s.size ≤ 8000) (h1 : rsA s a = some (t, b)) (h2 : readA s (b : Int) = some (u, c)) (w : World) (hr : RdAt w g s a) :
    Calls Try.prog 76 #[.pointer (some ⟨g, 0, none⟩), .iface 88 (.agg #[])] w fun e w' => e = .returned (itV ⟨t, ⟨#[]⟩, (u : Int)⟩) ∧ RdTo g s c w w' := by
  have HR1 := hide (fun w h => short_yes g s a t b hs h1 w h)
  have HR2 := hide (fun w h => number_yes g s b u c hs h2 w h)
  have hgl := hr.lt
  have HRD := hide hr
  have hta := ta_leaf
  have htb := ta_other
  have htc := ta_inner
  clear h1 h2 hr
  go_enter Try.func76, Try.ntmps76
  go_wp2_with fail
  obtain ⟨W1, hW1⟩ : ∃ W, W = w.alloc (Obj.cells #[Value.string ⟨#[]⟩, Value.string ⟨#[]⟩, Value.int .i64 0] 33) := ⟨_, rfl⟩
  rw [← hW1]
  have hk1 : Kept (fun k => k = g) w W1 := by rw [hW1]; exact (Kept.refl _ _).alloc _
  have HR1b : Hid (W1.heap[w.heap.size]? = some (.cells #[Value.string ⟨#[]⟩, Value.string ⟨#[]⟩, Value.int .i64 0] 33 (0, 0))) := by show _ = _; rw [hW1]; exact heap_alloc_new _ _
  have HRD1 : Hid (RdAt W1 g s a) := by show RdAt _ _ _ _; rw [hW1]; exact (unhide HRD).below (below_new _ _) hgl
  clear hW1 HRD
  refine (unhide HR1 _ (unhide HRD1)).mono ?_
  rintro e w2 ⟨rfl, hrd2, hk2⟩
  have HRD2 := hide hrd2
  have HR2b := hide (hk2.blk (unhide HR1b) (by omega))
  have HK2 := hide (hk1.trans hk2)
  clear hrd2 hk2 hk1 HR1b HRD1
  go_wp2_with fail
  obtain ⟨W3, hW3⟩ : ∃ W, W = w2.alloc (Obj.cells #[Value.string t, Value.string ⟨#[]⟩, Value.int .i64 0] 33) := ⟨_, rfl⟩
  rw [← hW3]
  have HX3 : Hid (W3.heap[w2.heap.size]? = some (.cells #[Value.string t, Value.string ⟨#[]⟩, Value.int .i64 0] 33 (0, 0))) := by show _ = _; rw [hW3]; exact heap_alloc_new _ _
  have hb3 : Below w2.heap.size w2 W3 := by rw [hW3]; exact below_new _ _
  have HRD3 := hide ((unhide HRD2).below hb3 (unhide HRD2).lt)
  have HR3b := hide ((hb3.block _ (blk_lt (unhide HR2b))).trans (unhide HR2b))
  have HK3 := hide ((unhide HK2).trans (Kept.of_below hb3))
  have hXR : w.heap.size < w2.heap.size := blk_lt (unhide HR2b)
  obtain ⟨X, hX⟩ : ∃ X, X = w2.heap.size := ⟨_, rfl⟩
  rw [← hX] at HX3 hXR ⊢
  clear hW3 hb3 HRD2 HR2b HK2 hX
  refine (unhide HR2 _ (unhide HRD3)).mono ?_
  rintro e w4 ⟨rfl, hrd4, hk4⟩
  have HRD4 := hide hrd4
  have HX4 := hide (hk4.blk (unhide HX3) (by omega))
  have HR4b := hide (hk4.blk (unhide HR3b) (by omega))
  have HK4 := hide ((unhide HK3).trans hk4)
  clear hrd4 hk4 HX3 HR3b HK3 HRD3
  obtain ⟨x0, x1, x2, xf⟩ := cells_of_three (unhide HX4)
  have xf1 := xf 2
  obtain ⟨r0, r1, r2, rf⟩ := cells_of_three (unhide HR4b)
  have rf0 := rf 0
  have rf1 := rf 1
  have rf2 := rf 2
  have hn1 : ¬ X = w.heap.size := by omega
  have hn2 : ¬ w.heap.size = X := by omega
  clear xf rf
  go_wp2
  (try simp only [Exit.inBlock, Exit.then])
  have hblk : ((((w4.setCell ⟨X, 2, none⟩ (.int .i64 (u : Int))).setCell ⟨w.heap.size, 0, none⟩ (.string t)).setCell ⟨w.heap.size, 1, none⟩ (.string ⟨#[]⟩)).setCell ⟨w.heap.size, 2, none⟩ (.int .i64 (u : Int))).heap[w.heap.size]? = some (.cells #[.string t, .string ⟨#[]⟩, .int .i64 (u : Int)] 33 (0, 0)) := by
    refine three_two (three_one (three_zero (y := Value.string ⟨#[]⟩) (z := Value.int .i64 0) (x := Value.string ⟨#[]⟩) ?_ _) _) _
    rw [heap_setCell_other _ _ _ _ (by simp; omega)]
    exact unhide HR4b
  refine bodyPost_ret (results_cell_row Try.results76 _ _ w.heap.size _ _ _ _ rfl hblk Try.underlying33 rfl (by kernel_rfl)) rfl ?_
  refine ⟨rfl, ?_, ?_⟩
  · unfold RdAt
    rw [heap_setCell_other _ _ _ _ (by simp; omega), heap_setCell_other _ _ _ _ (by simp; omega), heap_setCell_other _ _ _ _ (by simp; omega), heap_setCell_other _ _ _ _ (by simp; omega)]
    exact unhide HRD4
  · exact ((((unhide HK4).set_new (by omega) _ _).set_new (Nat.le_refl _) _ _).set_new (Nat.le_refl _) _ _).set_new (Nat.le_refl _) _ _

set_option maxRecDepth 100000 in
set_option maxHeartbeats 1000000 in
theorem item_rest_two (g : Nat) (s : ByteArray) (a : Nat) (t : ByteArray) (b : Nat) (hs : s.size ≤ 8000) (h1 : rsA s a = some (t, b)) (h2 : readA s (b : Int) = none) (w : World) (hr : RdAt w g s a) :
    Calls Try.prog 76 #[.pointer (some ⟨g, 0, none⟩), .iface 88 (.agg #[])] w fun e w' => e = noPg ∧ Kept (fun k => k = g) w w' := by
  have HR1 := hide (fun w h => short_yes g s a t b hs h1 w h)
  have HR2 := hide (fun w h => number_no g s b hs h2 w h)
  have hgl := hr.lt
  have HRD := hide hr
  have hta := ta_leaf
  have htb := ta_other
  have htc := ta_inner
  clear h1 h2 hr
  go_enter Try.func76, Try.ntmps76
  go_wp2_with fail
  obtain ⟨W1, hW1⟩ : ∃ W, W = w.alloc (Obj.cells #[Value.string ⟨#[]⟩, Value.string ⟨#[]⟩, Value.int .i64 0] 33) := ⟨_, rfl⟩
  rw [← hW1]
  have hk1 : Kept (fun k => k = g) w W1 := by rw [hW1]; exact (Kept.refl _ _).alloc _
  have HR1b : Hid (W1.heap[w.heap.size]? = some (.cells #[Value.string ⟨#[]⟩, Value.string ⟨#[]⟩, Value.int .i64 0] 33 (0, 0))) := by show _ = _; rw [hW1]; exact heap_alloc_new _ _
  have HRD1 : Hid (RdAt W1 g s a) := by show RdAt _ _ _ _; rw [hW1]; exact (unhide HRD).below (below_new _ _) hgl
  clear hW1 HRD
  refine (unhide HR1 _ (unhide HRD1)).mono ?_
  rintro e w2 ⟨rfl, hrd2, hk2⟩
  have HRD2 := hide hrd2
  have HR2b := hide (hk2.blk (unhide HR1b) (by omega))
  have HK2 := hide (hk1.trans hk2)
  clear hrd2 hk2 hk1 HR1b HRD1
  go_wp2_with fail
  obtain ⟨W3, hW3⟩ : ∃ W, W = w2.alloc (Obj.cells #[Value.string t, Value.string ⟨#[]⟩, Value.int .i64 0] 33) := ⟨_, rfl⟩
  rw [← hW3]
  have HX3 : Hid (W3.heap[w2.heap.size]? = some (.cells #[Value.string t, Value.string ⟨#[]⟩, Value.int .i64 0] 33 (0, 0))) := by show _ = _; rw [hW3]; exact heap_alloc_new _ _
  have hb3 : Below w2.heap.size w2 W3 := by rw [hW3]; exact below_new _ _
  have HRD3 := hide ((unhide HRD2).below hb3 (unhide HRD2).lt)
  have HR3b := hide ((hb3.block _ (blk_lt (unhide HR2b))).trans (unhide HR2b))
  have HK3 := hide ((unhide HK2).trans (Kept.of_below hb3))
  have hXR : w.heap.size < w2.heap.size := blk_lt (unhide HR2b)
  obtain ⟨X, hX⟩ : ∃ X, X = w2.heap.size := ⟨_, rfl⟩
  rw [← hX] at HX3 hXR ⊢
  clear hW3 hb3 HRD2 HR2b HK2 hX
  refine (unhide HR2 _ (unhide HRD3)).mono ?_
  rintro e w4 ⟨rfl, hk4⟩
  exact ⟨rfl, rfl, (unhide HK3).trans hk4⟩

set_option maxRecDepth 100000 in
theorem item_key_two (g : Nat) (s : ByteArray) (a : Nat) (hs : s.size ≤ 8000) (h1 : rsA s a = none) (w : World) (hr : RdAt w g s a) :
    Calls Try.prog 76 #[.pointer (some ⟨g, 0, none⟩), .iface 88 (.agg #[])] w fun e w' => e = noPg ∧ Kept (fun k => k = g) w w' := by
  have HR1 := hide (fun w h => short_no g s a hs h1 w h)
  have hgl := hr.lt
  have HRD := hide hr
  clear h1 hr
  go_enter Try.func76, Try.ntmps76
  go_wp2_with fail
  refine (unhide HR1 _ ((unhide HRD).below (below_new _ _) hgl)).mono ?_
  rintro e w2 ⟨rfl, hk2⟩
  exact ⟨rfl, rfl, ((Kept.refl _ _).alloc _).trans hk2⟩

end Go.Proofs.Ytajajfmaekdphaa
