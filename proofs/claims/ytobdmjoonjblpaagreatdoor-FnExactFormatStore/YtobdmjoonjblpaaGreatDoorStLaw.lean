/-
  What the law of FormatStore does with stores without pairs.
-/
import Derived.Test.YtobdmjoonjblpaaGreatDoorStYes
namespace Go.Proofs.YtobdmjoonjblpaaGreatDoor
open Go.RowKit Rt

set_option maxRecDepth 100000 in
theorem eqPairs_nil (w : World) :
    Calls Tryz.prog 27 #[.slice none 0 0, .slice none 0 0] w fun e w' => e = .returned (.bool true) ∧ w' = w := by
  go_enter Tryz.func27, Tryz.ntmps27
  go_wp2_with fail
  refine wp_loop_rounds 1 ?_
  rw [rounds_succ]
  go_wp2
  go_ret
  exact ⟨rfl, rfl⟩

set_option maxRecDepth 100000 in
theorem markPairs_nil (k : Nat) (w : World) :
    Calls Tryz.prog 28 #[.slice none 0 0, .int .i64 (k : Int)] w fun e w' => e = .returned (.int .i64 (k : Int)) ∧ w' = w := by
  go_enter Tryz.func28, Tryz.ntmps28
  go_wp2_with fail
  refine wp_loop_rounds 1 ?_
  rw [rounds_succ]
  go_wp2
  go_ret
  exact ⟨rfl, rfl⟩

set_option maxRecDepth 100000 in
theorem heldPairs_nil (k : Nat) (w : World) :
    Calls Tryz.prog 49 #[.slice none 0 0, .int .i64 (k : Int)] w fun e w' => e = .returned (.int .i64 (k : Int)) ∧ w' = w := by
  go_enter Tryz.func49, Tryz.ntmps49
  go_wp2_with fail
  refine wp_loop_rounds 1 ?_
  rw [rounds_succ]
  go_wp2
  go_ret
  exact ⟨rfl, rfl⟩

set_option maxRecDepth 100000 in
theorem eqRoot_st (s t : Int) (w : World) :
    Calls Tryz.prog 47 #[.agg #[.int .i64 s, .int .i64 t], .agg #[.int .i64 s, .int .i64 t]] w fun e w' => e = .returned (.bool true) ∧ Below w.heap.size w w' := by
  go_enter Tryz.func47, Tryz.ntmps47
  go_wp2
  go_ret
  exact ⟨rfl, ((Below.refl _ _).alloc (Nat.le_refl _) _).alloc (by simp) _⟩

set_option maxRecDepth 100000 in
set_option maxHeartbeats 2000000 in
theorem eqStore_same (v0 v1 u0 u1 : Value) (L : List ByteArray) (t : Int) (h1 : L.length ≤ 1048576) (w : World) (hv : DevAt w (.agg #[v0, v1]) w.heap.size L []) (hu : DevAt w (.agg #[u0, u1]) w.heap.size L []) :
    Calls Tryz.prog 11 #[.agg #[v0, v1, .slice none 0 0, .int .i64 0, .int .i64 t], .agg #[u0, u1, .slice none 0 0, .int .i64 0, .int .i64 t]] w fun e w' => e = .returned (.bool true) ∧ Below w.heap.size w w' := by
  have EQ := hide (fun w1 (hb : Below w.heap.size w w1) => eqDevice_same (.agg #[v0, v1]) (.agg #[u0, u1]) w.heap.size w.heap.size L [] h1 (by simp) w1 hb.size hb.size (hv.below hb (Nat.le_refl _)) (hu.below hb (Nat.le_refl _)))
  obtain ⟨a0, n0, c0, a1, n1, c1, e, _, _⟩ := hv
  simp at e
  obtain ⟨rfl, rfl⟩ := e
  obtain ⟨b0, m0, d0, b1, m1, d1, e, _, _⟩ := hu
  simp at e
  obtain ⟨rfl, rfl⟩ := e
  clear h1
  go_enter Tryz.func11, Tryz.ntmps11
  go_wp2_with fail
  obtain ⟨V1, hV1⟩ : ∃ W, W = w.alloc (Obj.cells #[Value.slice a0 n0 c0, Value.slice a1 n1 c1, Value.slice none 0 0, Value.int .i64 0, Value.int .i64 t] 30) := ⟨_, rfl⟩
  obtain ⟨V2, hV2⟩ : ∃ W, W = V1.alloc (Obj.cells #[Value.slice b0 m0 d0, Value.slice b1 m1 d1, Value.slice none 0 0, Value.int .i64 0, Value.int .i64 t] 30) := ⟨_, rfl⟩
  rw [← hV1, ← hV2]
  have z1 : V1.heap.size = w.heap.size + 1 := by rw [hV1]; simp
  have x1 : SBox V1 w.heap.size (Value.slice a0 n0 c0) (Value.slice a1 n1 c1) t := by rw [hV1]; exact heap_alloc_new w _
  have x2 : SBox V2 w.heap.size (Value.slice a0 n0 c0) (Value.slice a1 n1 c1) t := by rw [hV2]; exact x1.below (below_new _ _)
  have y2 : SBox V2 (w.heap.size + 1) (Value.slice b0 m0 d0) (Value.slice b1 m1 d1) t := by rw [hV2, ← z1]; exact heap_alloc_new V1 _
  have hb1 : Below w.heap.size w V1 := by rw [hV1]; exact below_new _ _
  have hb2 : Below w.heap.size w V2 := by rw [hV2]; exact hb1.alloc hb1.size _
  clear hV1 hV2 hb1 x1 z1
  refine (unhide EQ V2 hb2).mono ?_
  rintro e w3 ⟨rfl, hb3⟩
  have x3 := x2.below hb3
  have y3 := y2.below hb3
  have hw3 := hb2.trans (hb3.mono hb2.size)
  obtain ⟨p0, p1, p2, p3, p4⟩ := x3.cells
  obtain ⟨q0, q1, q2, q3, q4⟩ := y3.cells
  clear hb2 hb3 x2 y2 x3 y3
  go_wp2_with fail
  refine (eqPairs_nil w3).mono ?_
  rintro e w4 ⟨rfl, rfl⟩
  go_wp2_with fail
  refine (eqRoot_st 0 t w4).mono ?_
  rintro e w5 ⟨rfl, hb5⟩
  have hw5 := hw3.trans (hb5.mono hw3.size)
  clear hb5 p0 p1 p2 p3 p4 q0 q1 q2 q3 q4
  go_wp2
  go_ret
  exact ⟨rfl, hw5⟩

set_option maxRecDepth 100000 in
set_option maxHeartbeats 2000000 in
theorem markStore_any (v0 v1 : Value) (B : Nat) (L : List ByteArray) (t : Int) (h1 : L.length ≤ 1000000) (w : World) (ho : DevOwn w B (.agg #[v0, v1]) L []) :
    Calls Tryz.prog 12 #[.agg #[v0, v1, .slice none 0 0, .int .i64 0, .int .i64 t], .int .i64 1] w fun e w' => e = .returned (.int .i64 ((1 + L.length : Nat) : Int)) ∧ DevOwn w' B (.agg #[v0, v1]) (marks 1 L.length) [] ∧ Kept (DevBlk (.agg #[v0, v1])) w w' := by
  have MK := hide (fun w1 (h : DevOwn w1 B (.agg #[v0, v1]) L []) => markDevice_any (.agg #[v0, v1]) B 1 L [] (by omega) (by simp; omega) w1 h)
  simp only [List.length_nil, Nat.zero_mul, Nat.add_zero] at MK
  have hmq : marksQ (1 + L.length) 0 = [] := rfl
  rw [hmq] at MK
  have hblk := ho.blk
  have HO := hide ho
  obtain ⟨a0, n0, c0, a1, n1, c1, e, _, _⟩ := ho.at
  simp at e
  obtain ⟨rfl, rfl⟩ := e
  have HB := hide hblk
  clear ho hblk hmq
  generalize L.length = n at MK h1 ⊢
  go_enter Tryz.func12, Tryz.ntmps12
  go_wp2_with fail
  obtain ⟨V1, hV1⟩ : ∃ W, W = w.alloc (Obj.cells #[Value.slice a0 n0 c0, Value.slice a1 n1 c1, Value.slice none 0 0, Value.int .i64 0, Value.int .i64 t] 30) := ⟨_, rfl⟩
  rw [← hV1]
  have x1 : SBox V1 w.heap.size (Value.slice a0 n0 c0) (Value.slice a1 n1 c1) t := by rw [hV1]; exact heap_alloc_new w _
  have hb1 : Below w.heap.size w V1 := by rw [hV1]; exact below_new _ _
  clear hV1
  refine (unhide MK V1 ((unhide HO).below hb1)).mono ?_
  rintro e w2 ⟨rfl, ho2, hk2⟩
  have x2 := x1.kept hk2 (fun h => by have := unhide HB _ h; omega)
  obtain ⟨p0, p1, p2, p3, p4⟩ := x2.cells
  have HO2 := hide ho2
  have HK2 := hide ((Kept.of_below hb1).trans hk2)
  clear ho2 hk2 x1 x2 hb1
  go_wp2_with fail
  refine (markPairs_nil (1 + n) w2).mono ?_
  rintro e w3 ⟨rfl, rfl⟩
  clear p0 p1 p2 p3 p4
  go_wp2
  go_ret
  exact ⟨rfl, unhide HO2, unhide HK2⟩

set_option maxRecDepth 100000 in
set_option maxHeartbeats 2000000 in
theorem heldStore_any (v0 v1 : Value) (n : Nat) (t : Int) (h1 : n ≤ 1000000) (w : World) (hv : DevAt w (.agg #[v0, v1]) w.heap.size (marks 1 n) []) :
    Calls Tryz.prog 13 #[.agg #[v0, v1, .slice none 0 0, .int .i64 0, .int .i64 t], .int .i64 1] w fun e w' => e = .returned (.int .i64 ((1 + n : Nat) : Int)) ∧ Below w.heap.size w w' := by
  have HE := hide (fun w1 (hb : Below w.heap.size w w1) => heldDevice_any (.agg #[v0, v1]) w.heap.size 1 n 0 (by omega) (by omega) w1 hb.size (hv.below hb (Nat.le_refl _)))
  simp only [Nat.zero_mul, Nat.add_zero] at HE
  obtain ⟨a0, n0, c0, a1, n1, c1, e, _, _⟩ := hv
  simp at e
  obtain ⟨rfl, rfl⟩ := e
  go_enter Tryz.func13, Tryz.ntmps13
  go_wp2_with fail
  obtain ⟨V1, hV1⟩ : ∃ W, W = w.alloc (Obj.cells #[Value.slice a0 n0 c0, Value.slice a1 n1 c1, Value.slice none 0 0, Value.int .i64 0, Value.int .i64 t] 30) := ⟨_, rfl⟩
  rw [← hV1]
  have x1 : SBox V1 w.heap.size (Value.slice a0 n0 c0) (Value.slice a1 n1 c1) t := by rw [hV1]; exact heap_alloc_new w _
  have hb1 : Below w.heap.size w V1 := by rw [hV1]; exact below_new _ _
  clear hV1
  refine (unhide HE V1 hb1).mono ?_
  rintro e w2 ⟨rfl, hb2⟩
  have x2 := x1.below hb2
  have hw2 := hb1.trans (hb2.mono hb1.size)
  obtain ⟨p0, p1, p2, p3, p4⟩ := x2.cells
  clear x1 x2 hb1 hb2
  go_wp2_with fail
  refine (heldPairs_nil (1 + n) w2).mono ?_
  rintro e w3 ⟨rfl, rfl⟩
  clear p0 p1 p2 p3 p4
  go_wp2
  go_ret
  exact ⟨rfl, hw2⟩
end Go.Proofs.YtobdmjoonjblpaaGreatDoor
