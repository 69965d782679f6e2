/-
  impl.OpenStore of a new store's device.
-/
import Derived.Test.YtobdmjoonjblpaaGreatDoorStTake
import Derived.Defers
namespace Go.Proofs.YtobdmjoonjblpaaGreatDoor
open Go.RowKit Rt

/-- A store's variable in memory. -/
def SBox (w : World) (g : Nat) (v0 v1 : Value) (t : Int) : Prop :=
  w.heap[g]? = some (.cells #[v0, v1, .slice none 0 0, .int .i64 0, .int .i64 t] 30 (0, 0))

theorem SBox.lt {w : World} {g : Nat} {t : Int} {v0 v1 : Value} (h : SBox w g v0 v1 t) : g < w.heap.size := by
  rcases Nat.lt_or_ge g w.heap.size with h1 | h1
  · exact h1
  · unfold SBox at h; rw [Array.getElem?_eq_none h1] at h; cases h

theorem SBox.below {w w' : World} {g : Nat} {t : Int} {v0 v1 : Value} (h : SBox w g v0 v1 t) (hb : Below w.heap.size w w') : SBox w' g v0 v1 t := by
  unfold SBox; rw [hb.block g h.lt]; exact h

theorem SBox.kept {S : Nat → Prop} {w w' : World} {g : Nat} {t : Int} {v0 v1 : Value} (h : SBox w g v0 v1 t) (hk : Kept S w w') (hS : ¬ S g) : SBox w' g v0 v1 t := by
  unfold SBox; rw [hk.2.2.2.2 g h.lt hS]; exact h

theorem SBox.cells {w : World} {g : Nat} {t : Int} {v0 v1 : Value} (h : SBox w g v0 v1 t) :
    w.cell? ⟨g, 0, none⟩ = some v0 ∧ w.cell? ⟨g, 1, none⟩ = some v1 ∧ w.cell? ⟨g, 2, none⟩ = some (.slice none 0 0) ∧ w.cell? ⟨g, 3, none⟩ = some (.int .i64 0) ∧ w.cell? ⟨g, 4, none⟩ = some (.int .i64 t) := by
  refine ⟨?_, ?_, ?_, ?_, ?_⟩
  · rw [cell_of_row w g 0 _ 30 (0, 0) h]; rfl
  · rw [cell_of_row w g 1 _ 30 (0, 0) h]; rfl
  · rw [cell_of_row w g 2 _ 30 (0, 0) h]; rfl
  · rw [cell_of_row w g 3 _ 30 (0, 0) h]; rfl
  · rw [cell_of_row w g 4 _ 30 (0, 0) h]; rfl

theorem SBox.froz {w : World} {g : Nat} {t : Int} {v0 v1 : Value} (h : SBox w g v0 v1 t) (j : Nat) : w.frozen? ⟨g, j, none⟩ = false := frozen_of_row w g j _ 30 h

theorem five_0 {w : World} {g : Nat} {t : TypeId} {x0 x1 x2 x3 x4 : Value} (h : w.heap[g]? = some (.cells #[x0, x1, x2, x3, x4] t (0, 0))) (u : Value) : (w.setCell ⟨g, 0, none⟩ u).heap[g]? = some (.cells #[u, x1, x2, x3, x4] t (0, 0)) := heap_setCell_same w g 0 _ t u h
theorem five_1 {w : World} {g : Nat} {t : TypeId} {x0 x1 x2 x3 x4 : Value} (h : w.heap[g]? = some (.cells #[x0, x1, x2, x3, x4] t (0, 0))) (u : Value) : (w.setCell ⟨g, 1, none⟩ u).heap[g]? = some (.cells #[x0, u, x2, x3, x4] t (0, 0)) := heap_setCell_same w g 1 _ t u h
theorem five_2 {w : World} {g : Nat} {t : TypeId} {x0 x1 x2 x3 x4 : Value} (h : w.heap[g]? = some (.cells #[x0, x1, x2, x3, x4] t (0, 0))) (u : Value) : (w.setCell ⟨g, 2, none⟩ u).heap[g]? = some (.cells #[x0, x1, u, x3, x4] t (0, 0)) := heap_setCell_same w g 2 _ t u h
theorem five_3 {w : World} {g : Nat} {t : TypeId} {x0 x1 x2 x3 x4 : Value} (h : w.heap[g]? = some (.cells #[x0, x1, x2, x3, x4] t (0, 0))) (u : Value) : (w.setCell ⟨g, 3, none⟩ u).heap[g]? = some (.cells #[x0, x1, x2, u, x4] t (0, 0)) := heap_setCell_same w g 3 _ t u h
theorem five_4 {w : World} {g : Nat} {t : TypeId} {x0 x1 x2 x3 x4 : Value} (h : w.heap[g]? = some (.cells #[x0, x1, x2, x3, x4] t (0, 0))) (u : Value) : (w.setCell ⟨g, 4, none⟩ u).heap[g]? = some (.cells #[x0, x1, x2, x3, u] t (0, 0)) := heap_setCell_same w g 4 _ t u h

/-- A store, written whole. -/
def set5 (w : World) (g : Nat) (u0 u1 : Value) (t : Int) : World :=
  ((((w.setCell ⟨g, 0, none⟩ u0).setCell ⟨g, 1, none⟩ u1).setCell ⟨g, 2, none⟩ (.slice none 0 0)).setCell ⟨g, 3, none⟩ (.int .i64 0)).setCell ⟨g, 4, none⟩ (.int .i64 t)

theorem SBox.all {w : World} {g : Nat} {t : Int} {v0 v1 : Value} (h : SBox w g v0 v1 t) (u0 u1 : Value) (t' : Int) : SBox (set5 w g u0 u1 t') g u0 u1 t' :=
  five_4 (five_3 (five_2 (five_1 (five_0 h _) _) _) _) _

theorem set5_kept (w : World) (g : Nat) (u0 u1 : Value) (t : Int) : Kept (fun k => k = g) w (set5 w g u0 u1 t) :=
  ((((Kept.set (S := fun k => k = g) _ g _ _ rfl).trans (Kept.set (S := fun k => k = g) _ g _ _ rfl)).trans (Kept.set (S := fun k => k = g) _ g _ _ rfl)).trans (Kept.set (S := fun k => k = g) _ g _ _ rfl)).trans (Kept.set (S := fun k => k = g) _ g _ _ rfl)

theorem results_store {fn : Func} {p u : Tmp} (h : fn.results = #[.cell p 30, .tmp u]) (tmps : Array Value) (w : World) (g : Nat) (v0 v1 : Value) (t : Int) (hp : tmps.getD p undef = .pointer (some ⟨g, 0, none⟩)) (hg : SBox w g v0 v1 t) :
    (results fn tmps).run Tryz.prog w = .ok (.tuple #[.agg #[v0, v1, .slice none 0 0, .int .i64 0, .int .i64 t], tmps.getD u undef]) w := by
  obtain ⟨c0, c1, c2, c3, c4⟩ := hg.cells
  have hp' : tmps[p]?.getD undef = .pointer (some ⟨g, 0, none⟩) := by simpa using hp
  simp [results, h, hp', go_sem, c0, c1, c2, c3, c4]

set_option maxRecDepth 100000 in
set_option maxHeartbeats 4000000 in
theorem open_any (g : Nat) (v : Value) (B : Nat) (L : List ByteArray) (hok : devOk L [] = true) (h1 : L.length ≤ 1048576) (hm : ∀ s ∈ L, s.size ≤ 64)
    (hlast : lastV (readA L [] 0).1 (readA L [] 1).1 = .tuple #[.agg #[.int .i64 0, .int .i64 (-1)], .int .i64 0, .bool true]) (w : World) (hB : B ≤ w.heap.size) (hv : DevAt w v B L []) (hBg : B ≤ g) (hk : KBox w g 0 (.slice none 0 0) (.slice none 0 0) 0) :
    Calls Tryz.prog 57 #[.pointer (some ⟨g, 0, none⟩), v] w fun e w' =>
      (∃ v0 v1, e = .returned (.tuple #[.agg #[v0, v1, .slice none 0 0, .int .i64 0, .int .i64 (-1)], .nilIface]) ∧ DevOwn w' w.heap.size (.agg #[v0, v1]) L []) ∧ Kept (fun k => k = g) w w' := by
  have TK := hide (fun w1 (hs : w.heap.size ≤ w1.heap.size) (hb : DevAt w1 v B L []) (hk1 : KBox w1 g 1 (.slice none 0 0) (.slice none 0 0) 0) => take_any g v B L hok h1 hm hlast w1 (by omega) hb hk1)
  have HV := hide hv
  obtain ⟨a, n, c, a', n', c', rfl, hL, hQ⟩ := hv
  have HK := hide hk
  have hgl := hk.lt
  clear hL hQ hm h1 hlast hok hk
  go_enter_defers Tryz.func57, Tryz.ntmps57
  go_wp2_with fail
  obtain ⟨W2, hW2⟩ : ∃ W, W = (w.alloc (Obj.cells #[Value.slice a n c, Value.slice a' n' c'] 25)).alloc (Obj.cells #[Value.slice none 0 0, Value.slice none 0 0, Value.slice none 0 0, Value.int .i64 0, Value.int .i64 0] 30) := ⟨_, rfl⟩
  rw [← hW2]
  have hb2 : Below w.heap.size w W2 := by rw [hW2]; exact ((Below.refl _ _).alloc (Nat.le_refl _) _).alloc (by simp) _
  have x2 : Box W2 w.heap.size (Value.slice a n c) (Value.slice a' n' c') := by rw [hW2]; exact (Box.new w _ _).below (below_new _ _)
  have s2 : SBox W2 (w.heap.size + 1) (.slice none 0 0) (.slice none 0 0) 0 := by
    rw [hW2]
    have h := heap_alloc_new (w.alloc (Obj.cells #[Value.slice a n c, Value.slice a' n' c'] 25)) (Obj.cells #[Value.slice none 0 0, Value.slice none 0 0, Value.slice none 0 0, Value.int .i64 0, Value.int .i64 0] 30)
    rw [World.size_alloc] at h
    exact h
  have k2 := (unhide HK).below hb2
  clear hW2
  refine (MuLone.lock_free muLib ⟨g, 0, none⟩ W2 k2.cells.1 (k2.froz 0)).mono ?_
  rintro e w3 ⟨rfl, hw3⟩
  have hk3 : Kept (fun k => k = g) W2 w3 := by rw [hw3]; exact Kept.set (S := fun k => k = g) _ g _ _ rfl
  have k3 : KBox w3 g 1 (.slice none 0 0) (.slice none 0 0) 0 := by rw [hw3]; exact k2.state 1
  have x3 := x2.kept hk3 (by omega)
  have s3 := s2.kept hk3 (by omega)
  have hkw : Kept (fun k => k = g) w w3 := (Kept.of_below hb2).trans hk3
  have hv3 : DevAt w3 (.agg #[.slice a n c, .slice a' n' c']) B L [] := (unhide HV).below (hkw.below (B := B) hB (fun i hi => by omega)) (Nat.le_refl _)
  clear hw3 hk3 x2 s2 k2 hb2
  obtain ⟨p0, p1⟩ := x3.cells
  go_wp2_with fail
  have hsz := hkw.2.2.2.1
  have hs3 := s3.lt
  refine (unhide TK w3 hsz hv3 k3).mono ?_
  rintro e w4 ⟨rfl, v0, v1, k4, d4, hk4⟩
  have s4 := s3.kept hk4 (by omega)
  have hkw4 := hkw.trans hk4
  obtain ⟨A0, C0, e0⟩ : ∃ A C, v0 = .slice A L.length C := by
    obtain ⟨u0, u1, e, h0, _, _⟩ := d4
    simp at e
    obtain ⟨A, C, e', _⟩ := StrsAt.of_own h0
    exact ⟨A, C, e.1.trans e'⟩
  obtain ⟨A1, C1, e1⟩ : ∃ A C, v1 = .slice A 0 C := by
    obtain ⟨u0, u1, e, _, h1, _⟩ := d4
    simp at e
    obtain ⟨A, C, e', _⟩ := PutsAt.of_own h1
    exact ⟨A, C, e.2.trans e'⟩
  subst e0 e1
  have HK4 := hide k4
  have HS4 := hide s4
  have HD4 := hide d4
  have HKW := hide hkw4
  obtain ⟨c0, c1, c2, c3, c4, c5, c6, c7, c8⟩ := k4.cells
  obtain ⟨z0, z1, z2, z3, z4⟩ := s4.cells
  have zf := s4.froz
  clear k4 s4 d4 hkw4 hk4 hkw x3 s3 k3 hv3 p0 p1
  go_wp2_with fail
  obtain ⟨W5, hW5⟩ : ∃ W, W = set5 w4 (w.heap.size + 1) (.slice A0 L.length C0) (.slice A1 0 C1) (-1) := ⟨_, rfl⟩
  have hk5 : Kept (fun k => k = w.heap.size + 1) w4 W5 := by rw [hW5]; exact set5_kept _ _ _ _ _
  have s5 : SBox W5 (w.heap.size + 1) (.slice A0 L.length C0) (.slice A1 0 C1) (-1) := by rw [hW5]; exact (unhide HS4).all _ _ _
  have k5 : KBox W5 g 1 (.slice A0 L.length C0) (.slice A1 0 C1) (-1) := by unfold KBox; rw [hk5.2.2.2.2 g (unhide HK4).lt (by omega)]; exact unhide HK4
  have hd5 : DevOwn W5 w3.heap.size (.agg #[.slice A0 L.length C0, .slice A1 0 C1]) L [] := (unhide HD4).kept hk5 (fun k hk => by have := ((unhide HD4).blk k hk).1; omega)
  have hkw5 : Kept (fun k => k = g) w W5 := ⟨hk5.1.trans (unhide HKW).1, hk5.2.1.trans (unhide HKW).2.1, hk5.2.2.1.trans (unhide HKW).2.2.1, Nat.le_trans (unhide HKW).2.2.2.1 hk5.2.2.2.1, fun i hi hn => (hk5.2.2.2.2 i (Nat.lt_of_lt_of_le hi (unhide HKW).2.2.2.1) (by omega)).trans ((unhide HKW).2.2.2.2 i hi hn)⟩
  unfold set5 at hW5
  rw [← hW5]
  clear hW5 c0 c1 c2 c3 c4 c5 c6 c7 c8 z0 z1 z2 z3 z4 zf
  refine leaves_cons (f := 106) (args := #[.pointer (some ⟨g, 0, none⟩)]) (by simp) (by simp [go_sem]) ?_
  refine (MuLone.unlock_deferred muLib ⟨g, 0, none⟩ .returning W5 k5.cells.1 (k5.froz 0)).mono ?_
  rintro e u' w6 ⟨rfl, rfl, hw6⟩
  have hk6 : Kept (fun k => k = g) W5 w6 := by rw [hw6]; exact Kept.set (S := fun k => k = g) _ g _ _ rfl
  have s6 := s5.kept hk6 (by omega)
  refine ⟨_, results_store Tryz.results57 _ _ (w.heap.size + 1) _ _ _ rfl s6, ?_⟩
  refine ⟨⟨_, _, rfl, ?_⟩, hkw5.trans hk6⟩
  have hd6 := hd5.kept hk6 (fun k hk => by have := (hd5.blk k hk).1; omega)
  obtain ⟨u0, u1, e, h0, h1', hn⟩ := hd6
  exact ⟨u0, u1, e, own_lower hsz h0, own_lower hsz h1', hn⟩

set_option maxRecDepth 100000 in
set_option maxHeartbeats 4000000 in
theorem openStore_any (v : Value) (B : Nat) (L : List ByteArray) (hok : devOk L [] = true) (h1 : L.length ≤ 1048576) (hm : ∀ s ∈ L, s.size ≤ 64)
    (hlast : lastV (readA L [] 0).1 (readA L [] 1).1 = .tuple #[.agg #[.int .i64 0, .int .i64 (-1)], .int .i64 0, .bool true]) (w : World) (hB : B ≤ w.heap.size) (hv : DevAt w v B L []) :
    Calls Tryz.prog 17 #[v] w fun e w' => StPost w L (-1) true e w' := by
  have OP := hide (fun g w1 (hs : w.heap.size ≤ w1.heap.size) (hg : w.heap.size ≤ g) (hb : DevAt w1 v B L []) (hk1 : KBox w1 g 0 (.slice none 0 0) (.slice none 0 0) 0) => open_any g v B L hok h1 hm hlast w1 (by omega) hb (by omega) hk1)
  have HV := hide hv
  obtain ⟨a, n, c, a', n', c', rfl, hL, hQ⟩ := hv
  clear hL hQ hm h1 hlast hok
  go_enter Tryz.func17, Tryz.ntmps17
  go_wp2_with fail
  obtain ⟨V1, hV1⟩ : ∃ W, W = w.alloc (Obj.cells #[Value.slice a n c, Value.slice a' n' c'] 25) := ⟨_, rfl⟩
  obtain ⟨V2, hV2⟩ : ∃ W, W = V1.alloc (Obj.cells #[Value.slice none 0 0, Value.slice none 0 0, Value.slice none 0 0, Value.int .i64 0, Value.int .i64 0] 30) := ⟨_, rfl⟩
  obtain ⟨V3, hV3⟩ : ∃ W, W = V2.alloc (Obj.cells #[Value.int .i32 0, Value.int .u32 0, Value.slice none 0 0, Value.slice none 0 0, Value.slice none 0 0, Value.int .i64 0, Value.int .i64 0, Value.int .i64 0, Value.slice none 0 0] 98) := ⟨_, rfl⟩
  rw [← hV1, ← hV2, ← hV3]
  have z1 : V1.heap.size = w.heap.size + 1 := by rw [hV1]; simp
  have z2 : V2.heap.size = w.heap.size + 1 + 1 := by rw [hV2]; simp [z1]
  have z3 : V3.heap.size = w.heap.size + 1 + 1 + 1 := by rw [hV3]; simp [z2]
  have b1 : Below w.heap.size w V1 := by rw [hV1]; exact below_new _ _
  have b2 : Below w.heap.size w V2 := by rw [hV2]; exact b1.alloc b1.size _
  have b3 : Below w.heap.size w V3 := by rw [hV3]; exact b2.alloc b2.size _
  have s2 : SBox V2 (w.heap.size + 1) (.slice none 0 0) (.slice none 0 0) 0 := by rw [hV2, ← z1]; exact heap_alloc_new V1 _
  have s3 : SBox V3 (w.heap.size + 1) (.slice none 0 0) (.slice none 0 0) 0 := by rw [hV3]; exact s2.below (below_new _ _)
  have k3 : KBox V3 (w.heap.size + 1 + 1) 0 (.slice none 0 0) (.slice none 0 0) 0 := by rw [hV3, ← z2]; exact heap_alloc_new V2 _
  clear hV1 hV2 hV3 s2 b1 b2 z1 z2
  refine (unhide OP (w.heap.size + 1 + 1) V3 b3.size (by omega) ((unhide HV).below b3 hB) k3).mono ?_
  rintro e w4 ⟨⟨v0, v1, rfl, d4⟩, hk4⟩
  have s4 := s3.kept hk4 (by omega)
  have hb4 : Below w.heap.size w w4 := b3.trans (hk4.below (B := w.heap.size) (by omega) (fun i hi => by omega))
  have hs4 := hk4.2.2.2.1
  obtain ⟨A0, C0, e0⟩ : ∃ A C, v0 = .slice A L.length C := by
    obtain ⟨u0, u1, e, h0, _, _⟩ := d4
    simp at e
    obtain ⟨A, C, e', _⟩ := StrsAt.of_own h0
    exact ⟨A, C, e.1.trans e'⟩
  obtain ⟨A1, C1, e1⟩ : ∃ A C, v1 = .slice A 0 C := by
    obtain ⟨u0, u1, e, _, h1, _⟩ := d4
    simp at e
    obtain ⟨A, C, e', _⟩ := PutsAt.of_own h1
    exact ⟨A, C, e.2.trans e'⟩
  subst e0 e1
  clear hk4 s3 k3 b3
  go_wp2_with fail
  obtain ⟨V5, hV5⟩ : ∃ W, W = w4.alloc (Obj.cells #[Value.slice A0 L.length C0, Value.slice A1 0 C1, Value.slice none 0 0, Value.int .i64 0, Value.int .i64 (-1)] 30) := ⟨_, rfl⟩
  rw [← hV5]
  have b5 : Below w4.heap.size w4 V5 := by rw [hV5]; exact below_new _ _
  have s5 := s4.below b5
  have d5 := d4.below b5
  have y5 : SBox V5 w4.heap.size (.slice A0 L.length C0) (.slice A1 0 C1) (-1) := by rw [hV5]; exact heap_alloc_new w4 _
  clear hV5 s4 d4
  refine (faultCode_nil V5).mono ?_
  rintro e w6 ⟨rfl, hb6⟩
  have y6 := y5.below hb6
  have s6 := s5.below hb6
  have d6 := d5.below hb6
  have hb7 : Below w.heap.size w w6 := (hb4.trans (b5.mono hb4.size)).trans (hb6.mono (Nat.le_trans hb4.size b5.size))
  have HS6 := hide s6
  have HD6 := hide d6
  obtain ⟨c0, c1, c2, c3, c4⟩ := y6.cells
  obtain ⟨t0, t1, t2, t3, t4⟩ := s6.cells
  have tf := s6.froz
  clear s5 y5 d5 b5 hb6 y6 s6 d6 hb4
  go_wp2
  (try simp only [Exit.inBlock, Exit.then])
  have hkk := set5_kept w6 (w.heap.size + 1) (.slice A0 L.length C0) (.slice A1 0 C1) (-1)
  refine bodyPost_ret (results_store Tryz.results17 _ _ (w.heap.size + 1) _ _ _ rfl ((unhide HS6).all (.slice A0 L.length C0) (.slice A1 0 C1) (-1))) rfl ?_
  have d8 := (unhide HD6).kept hkk (fun k hk => by have := ((unhide HD6).blk k hk).1; omega)
  obtain ⟨u0, u1, e, h0, h1', hn⟩ := d8
  exact ⟨⟨_, _, rfl, u0, u1, e, own_lower (by omega) h0, own_lower (by omega) h1', hn⟩, hb7.trans (hkk.below hb7.size (fun i hi => by omega))⟩
end Go.Proofs.YtobdmjoonjblpaaGreatDoor
