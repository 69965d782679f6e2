/-
  The contract of impl.pageIn.
-/
import Derived.Test.YtajajfmaekdphaaPgCatch
import Derived.Test.YtajajfmaekdphaaPgPage2
namespace Go.Proofs.Ytajajfmaekdphaa
open Go.RowKit

set_option maxRecDepth 100000 in
set_option maxHeartbeats 2000000 in
theorem pageIn_any (s : ByteArray) (hs : s.size ≤ 8000) (w : World) :
    Calls Try.prog 39 #[.string s] w fun e w' => PagePost w (pgI s) e w' := by
  have hmf : ∀ (fn : Fn) (first cap : Array Value) (w : World), (Instr.makeFunc fn first cap).run Try.prog w = .ok (.func fn first cap) w := fun _ _ _ _ => rfl
  have HPG := hide (fun w h => page_any (w.heap.size) s hs w h)
  go_enter_defers Try.func39, Try.ntmps39
  go_wp2_with fail
  obtain ⟨W3, hW3⟩ : ∃ W, W = ((w.alloc (Obj.cells #[Value.int .i64 0, Value.slice none 0 0] 26)).alloc (Obj.cells #[Value.bool false] 4)).alloc (Obj.cells #[Value.string s, Value.int .i64 0] 97) := ⟨_, rfl⟩
  rw [← hW3]
  have hs3 : W3.heap.size = w.heap.size + 3 := by rw [hW3]; simp
  have hb3 : Below w.heap.size w W3 := by rw [hW3]; exact (((Below.refl _ _).alloc (Nat.le_refl _) _).alloc (by simp) _).alloc (by simp; omega) _
  have HP3 : Hid (Box W3 w.heap.size (.int .i64 0) (.slice none 0 0)) := by show Box _ _ _ _; rw [hW3]; exact ((Box.new _ _ _).below (below_new _ _)).below (below_new _ _)
  have HQ3 : Hid (W3.heap[w.heap.size + 1]? = some (.cells #[Value.bool false] 4 (0, 0))) := by
    show _ = _
    rw [hW3, (below_new _ _).block _ (by simp)]
    have := heap_alloc_new (w.alloc (Obj.cells #[Value.int .i64 0, Value.slice none 0 0] 26)) (Obj.cells #[Value.bool false] 4)
    simpa using this
  have HRD : Hid (RdAt W3 (w.heap.size + 1 + 1) s 0) := by
    show RdAt _ _ _ _
    unfold RdAt
    rw [hW3]
    have := heap_alloc_new ((w.alloc (Obj.cells #[Value.int .i64 0, Value.slice none 0 0] 26)).alloc (Obj.cells #[Value.bool false] 4)) (Obj.cells #[Value.string s, Value.int .i64 0] 97)
    simpa using this
  clear hW3
  refine (page_any (w.heap.size + 1 + 1) s hs W3 (unhide HRD)).mono ?_
  rintro e w4 ⟨hy, hn, hk4⟩
  have HP4 := hide ((unhide HP3).kept hk4 (by omega))
  have HQ4 := hide (hk4.blk (unhide HQ3) (by omega))
  have HB4 := hide (hb3.trans (hk4.below (B := w.heap.size) (by omega) (fun i hi => by omega)))
  clear HP3 HQ3 HRD hk4 hb3
  cases ho : pgI s with
  | none =>
    obtain rfl := hn ho
    clear hy hn
    refine leaves_cons (f := 65) (args := #[.pointer (some ⟨w.heap.size, 0, none⟩), .pointer (some ⟨w.heap.size + 1, 0, none⟩)]) (by simp) (by simp [go_sem]) ?_
    refine (catch_panic w.heap.size (w.heap.size + 1) _ _ _ [] w4 (unhide HP4) (unhide HQ4) (by omega)).mono ?_
    rintro e u' w5 ⟨rfl, rfl, hw5⟩
    have hbox : Box w5 w.heap.size (.int .i64 0) (.slice none 0 0) := by
      rw [hw5]
      exact (((unhide HP4).below (below_new _ _)).two _ _).kept (S := fun k => k = w.heap.size + 1) (Kept.set _ _ _ _ rfl) (by omega)
    have hok : w5.heap[w.heap.size + 1]? = some (.cells #[Value.bool false] 4 (0, 0)) := by
      rw [hw5]
      refine heap_setCell_same _ (w.heap.size + 1) 0 #[Value.bool false] 4 _ ?_
      rw [heap_setCell_other _ _ _ _ (by simp), heap_setCell_other _ _ _ _ (by simp), (below_new w4 _).block _ (blk_lt (unhide HQ4))]
      exact unhide HQ4
    have hB5 : Below w.heap.size w w5 := by
      rw [hw5]
      exact ((((unhide HB4).alloc (unhide HB4).size _).setCell (p := ⟨w.heap.size, 0, none⟩) (by simp) _).setCell (p := ⟨w.heap.size, 1, none⟩) (by simp) _).setCell (p := ⟨w.heap.size + 1, 0, none⟩) (by simp) _
    have hpost : PagePost w (pgI s) (.returned (.tuple #[.agg #[.int .i64 0, .slice none 0 0], .bool false])) w5 := by
      rw [ho]
      exact ⟨⟨_, rfl, pageNil _ _⟩, hB5⟩
    obtain ⟨c0, c1⟩ := hbox.cells
    have q0 : w5.cell? ⟨w.heap.size + 1, 0, none⟩ = some (.bool false) := by rw [cell_of_row w5 (w.heap.size + 1) 0 _ 4 (0, 0) hok]; rfl
    clear hw5
    simp [Leaves, settle, results, Try.results39, go_sem, c0, c1, q0]
    exact hpost
  | some kq =>
    obtain ⟨k, Q⟩ := kq
    obtain ⟨d, rfl, v1, rfl, hown⟩ := hy k Q ho
    obtain ⟨A, C, rfl, _⟩ := ItemsAt.of_own hown
    have HOW := hide hown
    obtain ⟨p0, p1⟩ := (unhide HP4).cells
    have pf0 := (unhide HP4).froz 0
    have pf1 := (unhide HP4).froz 1
    have q0 : w4.cell? ⟨w.heap.size + 1, 0, none⟩ = some (.bool false) := by rw [cell_of_row w4 (w.heap.size + 1) 0 _ 4 (0, 0) (unhide HQ4)]; rfl
    have qf := frozen_of_row w4 (w.heap.size + 1) 0 _ 4 (unhide HQ4)
    clear hy hn hown
    go_wp2
    refine leaves_cons (f := 65) (args := #[.pointer (some ⟨w.heap.size, 0, none⟩), .pointer (some ⟨w.heap.size + 1, 0, none⟩)]) (by simp) (by simp [go_sem]) ?_
    obtain ⟨W8, hW8⟩ : ∃ W, W = ((w4.setCell ⟨w.heap.size, 0, none⟩ (.int .i64 k)).setCell ⟨w.heap.size, 1, none⟩ (.slice A Q.length C)).setCell ⟨w.heap.size + 1, 0, none⟩ (.bool true) := ⟨_, rfl⟩
    rw [← hW8]
    have hbox : Box W8 w.heap.size (.int .i64 k) (.slice A Q.length C) := by
      rw [hW8]
      exact ((unhide HP4).two _ _).kept (S := fun k => k = w.heap.size + 1) (Kept.set _ _ _ _ rfl) (by omega)
    have hok : W8.heap[w.heap.size + 1]? = some (.cells #[Value.bool true] 4 (0, 0)) := by
      rw [hW8]
      refine heap_setCell_same _ (w.heap.size + 1) 0 #[Value.bool false] 4 _ ?_
      rw [heap_setCell_other _ _ _ _ (by simp), heap_setCell_other _ _ _ _ (by simp)]
      exact unhide HQ4
    have hB8 : Below w.heap.size w W8 := by
      rw [hW8]
      exact (((unhide HB4).setCell (p := ⟨w.heap.size, 0, none⟩) (by simp) _).setCell (p := ⟨w.heap.size, 1, none⟩) (by simp) _).setCell (p := ⟨w.heap.size + 1, 0, none⟩) (by simp) _
    have hO8 : W8.ownsRow W3.heap.size 33 3 (.slice A Q.length C) Q.length (itsV Q) := by
      rw [hW8]
      exact ownsRow_setCell_other (a := ⟨w.heap.size + 1, 0, none⟩) (ownsRow_setCell_other (a := ⟨w.heap.size, 1, none⟩) (ownsRow_setCell_other (a := ⟨w.heap.size, 0, none⟩) (unhide HOW) (fun e => by have := (unhide HOW).lt _ e; simp at this <;> omega) _) (fun e => by have := (unhide HOW).lt _ e; simp at this <;> omega) _) (fun e => by have := (unhide HOW).lt _ e; simp at this <;> omega) _
    clear hW8 p0 p1 pf0 pf1 q0 qf HP4 HQ4 HB4 HOW
    refine (catch_idle _ _ _).mono ?_
    rintro e u' w5 ⟨rfl, rfl, hb5⟩
    have hbox5 := hbox.below hb5
    have hok5 := (hb5.block _ (blk_lt hok)).trans hok
    have hpost : PagePost w (pgI s) (.returned (.tuple #[.agg #[.int .i64 k, .slice A Q.length C], .bool true])) w5 := by
      rw [ho]
      exact ⟨⟨_, rfl, _, rfl, own_lower (by omega) (own_below hO8 hb5)⟩, hB8.trans (hb5.mono hB8.size)⟩
    obtain ⟨c0, c1⟩ := hbox5.cells
    have q0 : w5.cell? ⟨w.heap.size + 1, 0, none⟩ = some (.bool true) := by rw [cell_of_row w5 (w.heap.size + 1) 0 _ 4 (0, 0) hok5]; rfl
    simp [Leaves, settle, results, Try.results39, go_sem, c0, c1, q0]
    exact hpost
end Go.Proofs.Ytajajfmaekdphaa
