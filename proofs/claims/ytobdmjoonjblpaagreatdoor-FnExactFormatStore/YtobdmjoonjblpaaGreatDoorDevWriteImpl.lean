/-
  The contract of impl.WriteSector.
-/
import Derived.Test.YtobdmjoonjblpaaGreatDoorDevCopyImpl
namespace Go.Proofs.YtobdmjoonjblpaaGreatDoor
open Go.RowKit

/-- Whether a write is right. -/
def wrOk (L : List ByteArray) (Q : List (Int × ByteArray)) (x : Int) (t : ByteArray) : Bool := devOk L Q && (putOk L.length x t && !decide (Q.length = 400))
def wrL (L : List ByteArray) (Q : List (Int × ByteArray)) (x : Int) (t : ByteArray) : List ByteArray := if wrOk L Q x t = true then L else []
def wrQ (L : List ByteArray) (Q : List (Int × ByteArray)) (x : Int) (t : ByteArray) : List (Int × ByteArray) := if wrOk L Q x t = true then Q ++ [(x, t)] else []

theorem putsV_snoc (Q : List (Int × ByteArray)) (x : Int) (t : ByteArray) : putsV (Q ++ [(x, t)]) = putsV Q ++ [.int .i64 x, .string t] := by
  unfold putsV; rw [List.flatMap_append]; rfl

theorem wr_lengths (L : List ByteArray) (Q : List (Int × ByteArray)) (x : Int) (t : ByteArray) (h1 : L.length ≤ 1048576) : (wrL L Q x t).length ≤ 1048576 ∧ (wrQ L Q x t).length ≤ 1048576 := by
  unfold wrL wrQ
  split
  · rename_i h
    have hd : devOk L Q = true := by unfold wrOk at h; simp at h; exact h.1
    have := devOk_sec hd
    exact ⟨h1, by simp; omega⟩
  · simp

set_option maxRecDepth 100000 in
set_option maxHeartbeats 2000000 in
theorem implWrite_no (v : Value) (B : Nat) (L : List ByteArray) (Q : List (Int × ByteArray)) (x : Int) (t : ByteArray) (hno : wrOk L Q x t = false) (h1 : L.length ≤ 1048576) (h2 : Q.length ≤ 1048576) (hm : ∀ s ∈ L, s.size ≤ 9223372036854775807) (w : World) (hB : B ≤ w.heap.size) (hv : DevAt w v B L Q) :
    Calls Tryz.prog 45 #[v, .int .i64 x, .string t] w fun e w' => DevPost w [] [] false e w' := by
  have OK := hide (fun w1 (hb : Below w.heap.size w w1) => implDev_any v B L Q h1 h2 hm w1 (by have := hb.size; omega) (hv.below hb hB))
  have PT := hide (fun w => isPutTo_any L.length x t w)
  obtain ⟨a, n, c, a', n', c', rfl, hL, hQ⟩ := hv
  obtain rfl : n = L.length := hL.1.symm
  obtain rfl : n' = Q.length := hQ.1.symm
  clear hL hQ hm
  have hcase : devOk L Q = false ∨ (devOk L Q = true ∧ ((Q.length : Int) == 400) = true) ∨ (devOk L Q = true ∧ ((Q.length : Int) == 400) = false ∧ putOk L.length x t = false) := by
    unfold wrOk at hno
    cases hd : devOk L Q
    · exact .inl rfl
    · rw [hd] at hno
      by_cases h4 : Q.length = 400
      · exact .inr (.inl ⟨rfl, by simp [h4]⟩)
      · refine .inr (.inr ⟨rfl, by simp; omega, ?_⟩)
        simpa [h4] using hno
  clear hno
  generalize devOk L Q = dk at OK hcase
  generalize putOk L.length x t = pk at PT hcase
  generalize L.length = n at OK PT h1
  generalize Q.length = n' at OK h2 hcase
  go_enter Tryz.func45, Tryz.ntmps45
  go_wp2_with fail
  obtain ⟨W3, hW3⟩ : ∃ W, W = ((w.alloc (Obj.cells #[Value.slice a n c, Value.slice a' n' c'] 25)).alloc (Obj.cells #[Value.slice none 0 0, Value.slice none 0 0] 25)).alloc (Obj.cells #[Value.int .i64 x, Value.string t] 134) := ⟨_, rfl⟩
  rw [← hW3]
  have hb3 : Below w.heap.size w W3 := by rw [hW3]; exact (((Below.refl _ _).alloc (Nat.le_refl _) _).alloc (by simp) _).alloc (by simp; omega) _
  have hs3 : W3.heap.size = w.heap.size + 3 := by rw [hW3]; simp
  have HX3 : Hid (Box W3 w.heap.size (Value.slice a n c) (Value.slice a' n' c')) := by show Box _ _ _ _; rw [hW3]; exact ((Box.new _ _ _).below (below_new _ _)).below (below_new _ _)
  have HR3 : Hid (Box W3 (w.heap.size + 1) (Value.slice none 0 0) (Value.slice none 0 0)) := by
    show Box _ _ _ _
    have h := (Box.new (w.alloc (Obj.cells #[Value.slice a n c, Value.slice a' n' c'] 25)) (Value.slice none 0 0) (Value.slice none 0 0)).below (below_new _ (Obj.cells #[Value.int .i64 x, Value.string t] 134))
    rw [hW3]
    simpa using h
  have HP3 : Hid (W3.heap[w.heap.size + 1 + 1]? = some (.cells #[Value.int .i64 x, Value.string t] 134 (0, 0))) := by
    show _ = _
    have h := heap_alloc_new ((w.alloc (Obj.cells #[Value.slice a n c, Value.slice a' n' c'] 25)).alloc (Obj.cells #[Value.slice none 0 0, Value.slice none 0 0] 25)) (Obj.cells #[Value.int .i64 x, Value.string t] 134)
    rw [hW3]
    simpa using h
  clear hW3
  refine (unhide OK W3 hb3).mono ?_
  rintro e w4 ⟨rfl, hb4⟩
  have hx4 := (unhide HX3).below hb4
  have HR4 := hide ((unhide HR3).below hb4)
  have HP4 : Hid (w4.heap[w.heap.size + 1 + 1]? = some (.cells #[Value.int .i64 x, Value.string t] 134 (0, 0))) := by show _ = _; rw [hb4.block _ (by omega)]; exact unhide HP3
  have hc4 : Below w.heap.size w w4 := hb3.trans (hb4.mono hb3.size)
  have hs4 := hb4.size
  obtain ⟨p0, p1⟩ := hx4.cells
  clear hb4 hb3 hx4 HX3 HR3 HP3
  rcases hcase with rfl | ⟨rfl, h4⟩ | ⟨rfl, h4, rfl⟩
  · obtain ⟨q0, q1⟩ := (unhide HR4).cells
    have f0 := (unhide HR4).froz 0
    have f1 := (unhide HR4).froz 1
    go_wp2
    (try simp only [Exit.inBlock, Exit.then])
    refine bodyPost_ret (results_box Tryz.results45 _ _ (w.heap.size + 1) _ _ rfl ((unhide HR4).two _ _)) rfl ?_
    exact ⟨⟨_, rfl, devNil _ _⟩, (hc4.setCell (p := ⟨w.heap.size + 1, 0, none⟩) (by simp) _).setCell (p := ⟨w.heap.size + 1, 1, none⟩) (by simp) _⟩
  · obtain ⟨q0, q1⟩ := (unhide HR4).cells
    have f0 := (unhide HR4).froz 0
    have f1 := (unhide HR4).froz 1
    go_wp2
    (try simp only [Exit.inBlock, Exit.then])
    refine bodyPost_ret (results_box Tryz.results45 _ _ (w.heap.size + 1) _ _ rfl ((unhide HR4).two _ _)) rfl ?_
    exact ⟨⟨_, rfl, devNil _ _⟩, (hc4.setCell (p := ⟨w.heap.size + 1, 0, none⟩) (by simp) _).setCell (p := ⟨w.heap.size + 1, 1, none⟩) (by simp) _⟩
  · obtain ⟨r0, r1, _⟩ := cells_of_two (unhide HP4)
    go_wp2_with fail
    refine (unhide PT _).mono ?_
    rintro e w5 ⟨rfl, hb5⟩
    have HR5 := hide ((unhide HR4).below hb5)
    obtain ⟨q0, q1⟩ := (unhide HR5).cells
    have f0 := (unhide HR5).froz 0
    have f1 := (unhide HR5).froz 1
    have hc5 : Below w.heap.size w w5 := hc4.trans (hb5.mono hc4.size)
    clear hb5 r0 r1 p0 p1
    go_wp2
    (try simp only [Exit.inBlock, Exit.then])
    refine bodyPost_ret (results_box Tryz.results45 _ _ (w.heap.size + 1) _ _ rfl ((unhide HR5).two _ _)) rfl ?_
    exact ⟨⟨_, rfl, devNil _ _⟩, (hc5.setCell (p := ⟨w.heap.size + 1, 0, none⟩) (by simp) _).setCell (p := ⟨w.heap.size + 1, 1, none⟩) (by simp) _⟩
end Go.Proofs.YtobdmjoonjblpaaGreatDoor
