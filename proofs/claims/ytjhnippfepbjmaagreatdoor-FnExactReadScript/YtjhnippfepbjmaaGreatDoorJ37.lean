/-
  Texts of this claim, one behind the other: StOpen, StSpec, StYes.
-/
import Derived.Test.YtjhnippfepbjmaaGreatDoorJ36
import Derived.Defers
import Derived.Test.YtjhnippfepbjmaaGreatDoorJ6
import Derived.Test.YtjhnippfepbjmaaGreatDoorJ23
import Derived.Test.YtjhnippfepbjmaaGreatDoorJ22
import Derived.Test.YtjhnippfepbjmaaGreatDoorJ32

/-
  impl.OpenStore of a new store's device.
-/
namespace Go.Proofs.YtjhnippfepbjmaaGreatDoor
open Go.RowKit Rt

/-- A store's variable in memory. -/
def SBox (w : World) (g : Nat) (v0 v1 : Value) (t : Int) : Prop :=
  w.heap[g]? = some (.cells #[v0, v1, .slice none 0 0, .int .i64 0, .int .i64 t] 41 (0, 0))

theorem SBox.lt {w : World} {g : Nat} {t : Int} {v0 v1 : Value} (h : SBox w g v0 v1 t) : g < w.heap.size := by
  rcases Nat.lt_or_ge g w.heap.size with h1 | h1
  · exact h1
  · unfold SBox at h; rw [Array.getElem?_eq_none h1] at h; cases h

theorem SBox.below {w w' : World} {g : Nat} {t : Int} {v0 v1 : Value} (h : SBox w g v0 v1 t) (hb : Below w.heap.size w w') : SBox w' g v0 v1 t := by
  unfold SBox; rw [hb.block g h.lt]; exact h

theorem SBox.kept {S : Nat → Prop} {w w' : World} {g : Nat} {t : Int} {v0 v1 : Value} (h : SBox w g v0 v1 t) (hk : Kept S w w') (hS : ¬ S g) : SBox w' g v0 v1 t := by
  unfold SBox; rw [hk.2.2.2.2 g h.lt hS]; exact h

theorem SBox.cells {w : World} {g : Nat} {t : Int} {v0 v1 : Value} (h : SBox w g v0 v1 t) :
    w.cell? ⟨g, 0, none⟩ = some v0 ∧ w.cell? ⟨g, 1, none⟩ = some v1 ∧ w.cell? ⟨g, 2, none⟩ = some (.slice none 0 0) ∧ w.cell? ⟨g, 3, none⟩ = some (.int .i64 0) ∧ w.cell? ⟨g, 4, none⟩ = some (.int .i64 t) := by
  refine ⟨?_, ?_, ?_, ?_, ?_⟩
  · rw [cell_of_row w g 0 _ 41 (0, 0) h]; rfl
  · rw [cell_of_row w g 1 _ 41 (0, 0) h]; rfl
  · rw [cell_of_row w g 2 _ 41 (0, 0) h]; rfl
  · rw [cell_of_row w g 3 _ 41 (0, 0) h]; rfl
  · rw [cell_of_row w g 4 _ 41 (0, 0) h]; rfl

theorem SBox.froz {w : World} {g : Nat} {t : Int} {v0 v1 : Value} (h : SBox w g v0 v1 t) (j : Nat) : w.frozen? ⟨g, j, none⟩ = false := frozen_of_row w g j _ 41 h

theorem five_0 {w : World} {g : Nat} {t : TypeId} {x0 x1 x2 x3 x4 : Value} (h : w.heap[g]? = some (.cells #[x0, x1, x2, x3, x4] t (0, 0))) (u : Value) : (w.setCell ⟨g, 0, none⟩ u).heap[g]? = some (.cells #[u, x1, x2, x3, x4] t (0, 0)) := heap_setCell_same w g 0 _ t u h
theorem five_1 {w : World} {g : Nat} {t : TypeId} {x0 x1 x2 x3 x4 : Value} (h : w.heap[g]? = some (.cells #[x0, x1, x2, x3, x4] t (0, 0))) (u : Value) : (w.setCell ⟨g, 1, none⟩ u).heap[g]? = some (.cells #[x0, u, x2, x3, x4] t (0, 0)) := heap_setCell_same w g 1 _ t u h
theorem five_2 {w : World} {g : Nat} {t : TypeId} {x0 x1 x2 x3 x4 : Value} (h : w.heap[g]? = some (.cells #[x0, x1, x2, x3, x4] t (0, 0))) (u : Value) : (w.setCell ⟨g, 2, none⟩ u).heap[g]? = some (.cells #[x0, x1, u, x3, x4] t (0, 0)) := heap_setCell_same w g 2 _ t u h
theorem five_3 {w : World} {g : Nat} {t : TypeId} {x0 x1 x2 x3 x4 : Value} (h : w.heap[g]? = some (.cells #[x0, x1, x2, x3, x4] t (0, 0))) (u : Value) : (w.setCell ⟨g, 3, none⟩ u).heap[g]? = some (.cells #[x0, x1, x2, u, x4] t (0, 0)) := heap_setCell_same w g 3 _ t u h
theorem five_4 {w : World} {g : Nat} {t : TypeId} {x0 x1 x2 x3 x4 : Value} (h : w.heap[g]? = some (.cells #[x0, x1, x2, x3, x4] t (0, 0))) (u : Value) : (w.setCell ⟨g, 4, none⟩ u).heap[g]? = some (.cells #[x0, x1, x2, x3, u] t (0, 0)) := heap_setCell_same w g 4 _ t u h

/-- A store, written whole. -/
def set5 (w : World) (g : Nat) (u0 u1 : Value) (t : Int) : World :=
  ((((w.setCell ⟨g, 0, none⟩ u0).setCell ⟨g, 1, none⟩ u1).setCell ⟨g, 2, none⟩ (.slice none 0 0)).setCell ⟨g, 3, none⟩ (.int .i64 0)).setCell ⟨g, 4, none⟩ (.int .i64 t)

theorem SBox.all {w : World} {g : Nat} {t : Int} {v0 v1 : Value} (h : SBox w g v0 v1 t) (u0 u1 : Value) (t' : Int) : SBox (set5 w g u0 u1 t') g u0 u1 t' :=
  five_4 (five_3 (five_2 (five_1 (five_0 h _) _) _) _) _

theorem set5_kept (w : World) (g : Nat) (u0 u1 : Value) (t : Int) : Kept (fun k => k = g) w (set5 w g u0 u1 t) :=
  ((((Kept.set (S := fun k => k = g) _ g _ _ rfl).trans (Kept.set (S := fun k => k = g) _ g _ _ rfl)).trans (Kept.set (S := fun k => k = g) _ g _ _ rfl)).trans (Kept.set (S := fun k => k = g) _ g _ _ rfl)).trans (Kept.set (S := fun k => k = g) _ g _ _ rfl)

theorem results_store {fn : Func} {p u : Tmp} (h : fn.results = #[.cell p 41, .tmp u]) (tmps : Array Value) (w : World) (g : Nat) (v0 v1 : Value) (t : Int) (hp : tmps.getD p undef = .pointer (some ⟨g, 0, none⟩)) (hg : SBox w g v0 v1 t) :
    (results fn tmps).run Tryz.prog w = .ok (.tuple #[.agg #[v0, v1, .slice none 0 0, .int .i64 0, .int .i64 t], tmps.getD u undef]) w := by
  obtain ⟨c0, c1, c2, c3, c4⟩ := hg.cells
  have hp' : tmps[p]?.getD undef = .pointer (some ⟨g, 0, none⟩) := by simpa using hp
  simp [results, h, hp', go_sem, c0, c1, c2, c3, c4]

set_option maxRecDepth 100000 in
set_option maxHeartbeats 4000000 in
theorem open_any (g : Nat) (v : Value) (B : Nat) (L : List ByteArray) (hok : devOk L [] = true) (h1 : L.length ≤ 1048576) (hm : ∀ s ∈ L, s.size ≤ 64)
    (hlast : lastV (readDv L [] 0).1 (readDv L [] 1).1 = .tuple #[.agg #[.int .i64 0, .int .i64 (-1)], .int .i64 0, .bool true]) (w : World) (hB : B ≤ w.heap.size) (hv : DevAt w v B L []) (hBg : B ≤ g) (hk : KBox w g 0 (.slice none 0 0) (.slice none 0 0) 0) :
    Calls Tryz.prog 83 #[.pointer (some ⟨g, 0, none⟩), v] w fun e w' =>
      (∃ v0 v1, e = .returned (.tuple #[.agg #[v0, v1, .slice none 0 0, .int .i64 0, .int .i64 (-1)], .nilIface]) ∧ DevOwn w' w.heap.size (.agg #[v0, v1]) L []) ∧ Kept (fun k => k = g) w w' := by
  have TK := hide (fun w1 (hs : w.heap.size ≤ w1.heap.size) (hb : DevAt w1 v B L []) (hk1 : KBox w1 g 1 (.slice none 0 0) (.slice none 0 0) 0) => take_any g v B L hok h1 hm hlast w1 (by omega) hb hk1)
  have HV := hide hv
  obtain ⟨a, n, c, a', n', c', rfl, hL, hQ⟩ := hv
  have HK := hide hk
  have hgl := hk.lt
  clear hL hQ hm h1 hlast hok hk
  go_enter_defers Tryz.func83, Tryz.ntmps83
  go_wp2_with fail
  obtain ⟨W2, hW2⟩ : ∃ W, W = (w.alloc (Obj.cells #[Value.slice a n c, Value.slice a' n' c'] 36)).alloc (Obj.cells #[Value.slice none 0 0, Value.slice none 0 0, Value.slice none 0 0, Value.int .i64 0, Value.int .i64 0] 41) := ⟨_, rfl⟩
  rw [← hW2]
  have hb2 : Below w.heap.size w W2 := by rw [hW2]; exact ((Below.refl _ _).alloc (Nat.le_refl _) _).alloc (by simp) _
  have x2 : Box W2 w.heap.size (Value.slice a n c) (Value.slice a' n' c') := by rw [hW2]; exact (Box.new w _ _).below (below_new _ _)
  have s2 : SBox W2 (w.heap.size + 1) (.slice none 0 0) (.slice none 0 0) 0 := by
    rw [hW2]
    have h := heap_alloc_new (w.alloc (Obj.cells #[Value.slice a n c, Value.slice a' n' c'] 36)) (Obj.cells #[Value.slice none 0 0, Value.slice none 0 0, Value.slice none 0 0, Value.int .i64 0, Value.int .i64 0] 41)
    rw [World.size_alloc] at h
    exact h
  have k2 := (unhide HK).below hb2
  clear hW2
  refine (MuLone.lock_free muLib ⟨g, 0, none⟩ W2 k2.cells.1 (k2.froz 0)).mono ?_
  rintro e w3 ⟨rfl, hw3⟩
  have hk3 : Kept (fun k => k = g) W2 w3 := by rw [hw3]; exact Kept.set (S := fun k => k = g) _ g _ _ rfl
  have k3 : KBox w3 g 1 (.slice none 0 0) (.slice none 0 0) 0 := by rw [hw3]; exact k2.state 1
  have x3 := x2.kept hk3 (by omega)
  have s3 := s2.kept hk3 (by omega)
  have hkw : Kept (fun k => k = g) w w3 := (Kept.of_below hb2).trans hk3
  have hv3 : DevAt w3 (.agg #[.slice a n c, .slice a' n' c']) B L [] := (unhide HV).below (hkw.below (B := B) hB (fun i hi => by omega)) (Nat.le_refl _)
  clear hw3 hk3 x2 s2 k2 hb2
  obtain ⟨p0, p1⟩ := x3.cells
  go_wp2_with fail
  have hsz := hkw.2.2.2.1
  have hs3 := s3.lt
  refine (unhide TK w3 hsz hv3 k3).mono ?_
  rintro e w4 ⟨rfl, v0, v1, k4, d4, hk4⟩
  have s4 := s3.kept hk4 (by omega)
  have hkw4 := hkw.trans hk4
  obtain ⟨A0, C0, e0⟩ : ∃ A C, v0 = .slice A L.length C := by
    obtain ⟨u0, u1, e, h0, _, _⟩ := d4
    simp at e
    obtain ⟨A, C, e', _⟩ := StrsAt.of_own h0
    exact ⟨A, C, e.1.trans e'⟩
  obtain ⟨A1, C1, e1⟩ : ∃ A C, v1 = .slice A 0 C := by
    obtain ⟨u0, u1, e, _, h1, _⟩ := d4
    simp at e
    obtain ⟨A, C, e', _⟩ := PutsAt.of_own h1
    exact ⟨A, C, e.2.trans e'⟩
  subst e0 e1
  have HK4 := hide k4
  have HS4 := hide s4
  have HD4 := hide d4
  have HKW := hide hkw4
  obtain ⟨c0, c1, c2, c3, c4, c5, c6, c7, c8⟩ := k4.cells
  obtain ⟨z0, z1, z2, z3, z4⟩ := s4.cells
  have zf := s4.froz
  clear k4 s4 d4 hkw4 hk4 hkw x3 s3 k3 hv3 p0 p1
  go_wp2_with fail
  obtain ⟨W5, hW5⟩ : ∃ W, W = set5 w4 (w.heap.size + 1) (.slice A0 L.length C0) (.slice A1 0 C1) (-1) := ⟨_, rfl⟩
  have hk5 : Kept (fun k => k = w.heap.size + 1) w4 W5 := by rw [hW5]; exact set5_kept _ _ _ _ _
  have s5 : SBox W5 (w.heap.size + 1) (.slice A0 L.length C0) (.slice A1 0 C1) (-1) := by rw [hW5]; exact (unhide HS4).all _ _ _
  have k5 : KBox W5 g 1 (.slice A0 L.length C0) (.slice A1 0 C1) (-1) := by unfold KBox; rw [hk5.2.2.2.2 g (unhide HK4).lt (by omega)]; exact unhide HK4
  have hd5 : DevOwn W5 w3.heap.size (.agg #[.slice A0 L.length C0, .slice A1 0 C1]) L [] := (unhide HD4).kept hk5 (fun k hk => by have := ((unhide HD4).blk k hk).1; omega)
  have hkw5 : Kept (fun k => k = g) w W5 := ⟨hk5.1.trans (unhide HKW).1, hk5.2.1.trans (unhide HKW).2.1, hk5.2.2.1.trans (unhide HKW).2.2.1, Nat.le_trans (unhide HKW).2.2.2.1 hk5.2.2.2.1, fun i hi hn => (hk5.2.2.2.2 i (Nat.lt_of_lt_of_le hi (unhide HKW).2.2.2.1) (by omega)).trans ((unhide HKW).2.2.2.2 i hi hn)⟩
  unfold set5 at hW5
  rw [← hW5]
  clear hW5 c0 c1 c2 c3 c4 c5 c6 c7 c8 z0 z1 z2 z3 z4 zf
  refine leaves_cons (f := 93) (args := #[.pointer (some ⟨g, 0, none⟩)]) (by simp) (by simp [go_sem]) ?_
  refine (MuLone.unlock_deferred muLib ⟨g, 0, none⟩ .returning W5 k5.cells.1 (k5.froz 0)).mono ?_
  rintro e u' w6 ⟨rfl, rfl, hw6⟩
  have hk6 : Kept (fun k => k = g) W5 w6 := by rw [hw6]; exact Kept.set (S := fun k => k = g) _ g _ _ rfl
  have s6 := s5.kept hk6 (by omega)
  refine ⟨_, results_store Tryz.results83 _ _ (w.heap.size + 1) _ _ _ rfl s6, ?_⟩
  refine ⟨⟨_, _, rfl, ?_⟩, hkw5.trans hk6⟩
  have hd6 := hd5.kept hk6 (fun k hk => by have := (hd5.blk k hk).1; omega)
  obtain ⟨u0, u1, e, h0, h1', hn⟩ := hd6
  exact ⟨u0, u1, e, own_lower hsz h0, own_lower hsz h1', hn⟩

set_option maxRecDepth 100000 in
set_option maxHeartbeats 4000000 in
theorem openStore_any (v : Value) (B : Nat) (L : List ByteArray) (hok : devOk L [] = true) (h1 : L.length ≤ 1048576) (hm : ∀ s ∈ L, s.size ≤ 64)
    (hlast : lastV (readDv L [] 0).1 (readDv L [] 1).1 = .tuple #[.agg #[.int .i64 0, .int .i64 (-1)], .int .i64 0, .bool true]) (w : World) (hB : B ≤ w.heap.size) (hv : DevAt w v B L []) :
    Calls Tryz.prog 64 #[v] w fun e w' => StPost w L (-1) true e w' := by
  have OP := hide (fun g w1 (hs : w.heap.size ≤ w1.heap.size) (hg : w.heap.size ≤ g) (hb : DevAt w1 v B L []) (hk1 : KBox w1 g 0 (.slice none 0 0) (.slice none 0 0) 0) => open_any g v B L hok h1 hm hlast w1 (by omega) hb (by omega) hk1)
  have HV := hide hv
  obtain ⟨a, n, c, a', n', c', rfl, hL, hQ⟩ := hv
  clear hL hQ hm h1 hlast hok
  go_enter Tryz.func64, Tryz.ntmps64
  go_wp2_with fail
  obtain ⟨V1, hV1⟩ : ∃ W, W = w.alloc (Obj.cells #[Value.slice a n c, Value.slice a' n' c'] 36) := ⟨_, rfl⟩
  obtain ⟨V2, hV2⟩ : ∃ W, W = V1.alloc (Obj.cells #[Value.slice none 0 0, Value.slice none 0 0, Value.slice none 0 0, Value.int .i64 0, Value.int .i64 0] 41) := ⟨_, rfl⟩
  obtain ⟨V3, hV3⟩ : ∃ W, W = V2.alloc (Obj.cells #[Value.int .i32 0, Value.int .u32 0, Value.slice none 0 0, Value.slice none 0 0, Value.slice none 0 0, Value.int .i64 0, Value.int .i64 0, Value.int .i64 0, Value.slice none 0 0] 138) := ⟨_, rfl⟩
  rw [← hV1, ← hV2, ← hV3]
  have z1 : V1.heap.size = w.heap.size + 1 := by rw [hV1]; simp
  have z2 : V2.heap.size = w.heap.size + 1 + 1 := by rw [hV2]; simp [z1]
  have z3 : V3.heap.size = w.heap.size + 1 + 1 + 1 := by rw [hV3]; simp [z2]
  have b1 : Below w.heap.size w V1 := by rw [hV1]; exact below_new _ _
  have b2 : Below w.heap.size w V2 := by rw [hV2]; exact b1.alloc b1.size _
  have b3 : Below w.heap.size w V3 := by rw [hV3]; exact b2.alloc b2.size _
  have s2 : SBox V2 (w.heap.size + 1) (.slice none 0 0) (.slice none 0 0) 0 := by rw [hV2, ← z1]; exact heap_alloc_new V1 _
  have s3 : SBox V3 (w.heap.size + 1) (.slice none 0 0) (.slice none 0 0) 0 := by rw [hV3]; exact s2.below (below_new _ _)
  have k3 : KBox V3 (w.heap.size + 1 + 1) 0 (.slice none 0 0) (.slice none 0 0) 0 := by rw [hV3, ← z2]; exact heap_alloc_new V2 _
  clear hV1 hV2 hV3 s2 b1 b2 z1 z2
  refine (unhide OP (w.heap.size + 1 + 1) V3 b3.size (by omega) ((unhide HV).below b3 hB) k3).mono ?_
  rintro e w4 ⟨⟨v0, v1, rfl, d4⟩, hk4⟩
  have s4 := s3.kept hk4 (by omega)
  have hb4 : Below w.heap.size w w4 := b3.trans (hk4.below (B := w.heap.size) (by omega) (fun i hi => by omega))
  have hs4 := hk4.2.2.2.1
  obtain ⟨A0, C0, e0⟩ : ∃ A C, v0 = .slice A L.length C := by
    obtain ⟨u0, u1, e, h0, _, _⟩ := d4
    simp at e
    obtain ⟨A, C, e', _⟩ := StrsAt.of_own h0
    exact ⟨A, C, e.1.trans e'⟩
  obtain ⟨A1, C1, e1⟩ : ∃ A C, v1 = .slice A 0 C := by
    obtain ⟨u0, u1, e, _, h1, _⟩ := d4
    simp at e
    obtain ⟨A, C, e', _⟩ := PutsAt.of_own h1
    exact ⟨A, C, e.2.trans e'⟩
  subst e0 e1
  clear hk4 s3 k3 b3
  go_wp2_with fail
  obtain ⟨V5, hV5⟩ : ∃ W, W = w4.alloc (Obj.cells #[Value.slice A0 L.length C0, Value.slice A1 0 C1, Value.slice none 0 0, Value.int .i64 0, Value.int .i64 (-1)] 41) := ⟨_, rfl⟩
  rw [← hV5]
  have b5 : Below w4.heap.size w4 V5 := by rw [hV5]; exact below_new _ _
  have s5 := s4.below b5
  have d5 := d4.below b5
  have y5 : SBox V5 w4.heap.size (.slice A0 L.length C0) (.slice A1 0 C1) (-1) := by rw [hV5]; exact heap_alloc_new w4 _
  clear hV5 s4 d4
  refine (faultCode_nil V5).mono ?_
  rintro e w6 ⟨rfl, hb6⟩
  have y6 := y5.below hb6
  have s6 := s5.below hb6
  have d6 := d5.below hb6
  have hb7 : Below w.heap.size w w6 := (hb4.trans (b5.mono hb4.size)).trans (hb6.mono (Nat.le_trans hb4.size b5.size))
  have HS6 := hide s6
  have HD6 := hide d6
  obtain ⟨c0, c1, c2, c3, c4⟩ := y6.cells
  obtain ⟨t0, t1, t2, t3, t4⟩ := s6.cells
  have tf := s6.froz
  clear s5 y5 d5 b5 hb6 y6 s6 d6 hb4
  go_wp2
  (try simp only [Exit.inBlock, Exit.then])
  have hkk := set5_kept w6 (w.heap.size + 1) (.slice A0 L.length C0) (.slice A1 0 C1) (-1)
  refine bodyPost_ret (results_store Tryz.results64 _ _ (w.heap.size + 1) _ _ _ rfl ((unhide HS6).all (.slice A0 L.length C0) (.slice A1 0 C1) (-1))) rfl ?_
  have d8 := (unhide HD6).kept hkk (fun k hk => by have := ((unhide HD6).blk k hk).1; omega)
  obtain ⟨u0, u1, e, h0, h1', hn⟩ := d8
  exact ⟨⟨_, _, rfl, u0, u1, e, own_lower (by omega) h0, own_lower (by omega) h1', hn⟩, hb7.trans (hkk.below hb7.size (fun i hi => by omega))⟩
end Go.Proofs.YtjhnippfepbjmaaGreatDoor

/-
  spec.FormatStore and impl.FormatStore.
-/
namespace Go.Proofs.YtjhnippfepbjmaaGreatDoor
open Go.RowKit Rt

theorem fmt_no {x : Int} (h : ¬ (4 ≤ x ∧ x ≤ 400)) : fmtL x = [] ∧ fmtT x = 0 ∧ fmtOk x = false := by
  refine ⟨if_neg h, if_neg h, ?_⟩
  unfold fmtOk
  simp only [h, decide_false]

theorem fmt_yes {n : Nat} (h : 4 ≤ n) (h' : n ≤ 400) : fmtL (n : Int) = fmtN n ∧ fmtT (n : Int) = -1 ∧ fmtOk (n : Int) = true := by
  have h0 : 4 ≤ (n : Int) ∧ (n : Int) ≤ 400 := by omega
  refine ⟨?_, if_pos h0, ?_⟩
  · unfold fmtL
    rw [if_pos h0]
    simp
  · unfold fmtOk
    simp only [h0, and_self, decide_true]

theorem stNil (w : World) (B : Nat) : DevOwn w B (.agg #[.slice none 0 0, .slice none 0 0]) [] [] := devNil w B

set_option maxRecDepth 100000 in
set_option maxHeartbeats 2000000 in
theorem specFmt_no (x : Int) (h : ¬ (4 ≤ x ∧ x ≤ 400)) (w : World) :
    Calls Tryz.prog 12 #[.int .i64 x] w fun e w' => StPost w [] 0 false e w' := by
  have S1 := hide (fun w => specNew_any x w)
  by_cases h1 : 1 ≤ x ∧ x ≤ 400
  · have ho : newOk x = true := by unfold newOk; simp only [h1, and_self, decide_true]
    have hx : x < 4 := by omega
    rw [ho] at S1
    generalize newL x = L at S1
    clear h h1 ho
    go_enter Tryz.func12, Tryz.ntmps12
    go_wp2_with fail
    obtain ⟨V1, hV1⟩ : ∃ W, W = w.alloc (Obj.cells #[Value.slice none 0 0, Value.slice none 0 0, Value.slice none 0 0, Value.int .i64 0, Value.int .i64 0] 41) := ⟨_, rfl⟩
    rw [← hV1]
    have b1 : Below w.heap.size w V1 := by rw [hV1]; exact below_new _ _
    have s1 : SBox V1 w.heap.size (.slice none 0 0) (.slice none 0 0) 0 := by rw [hV1]; exact heap_alloc_new w _
    clear hV1
    refine (unhide S1 V1).mono ?_
    rintro e w2 ⟨⟨d, rfl, hd⟩, hb2⟩
    obtain ⟨a, n, c, a', n', c', rfl, _, _⟩ := hd.at
    have s2 := s1.below hb2
    have hb3 : Below w.heap.size w w2 := b1.trans (hb2.mono b1.size)
    have s3 := s2.below (below_new w2 (Obj.cells #[Value.slice a n c, Value.slice a' n' c'] 36))
    have HS3 := hide s3
    obtain ⟨t0, t1, t2, t3, t4⟩ := s3.cells
    have tf := s3.froz
    clear hd s1 s2 s3 b1 hb2
    go_wp2
    (try simp only [Exit.inBlock, Exit.then])
    refine bodyPost_ret (results_store Tryz.results12 _ _ w.heap.size _ _ _ rfl ((unhide HS3).all (.slice none 0 0) (.slice none 0 0) 0)) rfl ?_
    have hkk := set5_kept (w2.alloc (Obj.cells #[Value.slice a n c, Value.slice a' n' c'] 36)) w.heap.size (.slice none 0 0) (.slice none 0 0) 0
    have hb4 := hb3.alloc hb3.size (Obj.cells #[Value.slice a n c, Value.slice a' n' c'] 36)
    exact ⟨⟨_, _, rfl, stNil _ _⟩, hb4.trans (hkk.below hb4.size (fun i hi => by omega))⟩
  · have ho : newOk x = false := by unfold newOk; simp only [h1, decide_false]
    rw [ho] at S1
    generalize newL x = L at S1
    clear h h1 ho
    go_enter Tryz.func12, Tryz.ntmps12
    go_wp2_with fail
    obtain ⟨V1, hV1⟩ : ∃ W, W = w.alloc (Obj.cells #[Value.slice none 0 0, Value.slice none 0 0, Value.slice none 0 0, Value.int .i64 0, Value.int .i64 0] 41) := ⟨_, rfl⟩
    rw [← hV1]
    have b1 : Below w.heap.size w V1 := by rw [hV1]; exact below_new _ _
    have s1 : SBox V1 w.heap.size (.slice none 0 0) (.slice none 0 0) 0 := by rw [hV1]; exact heap_alloc_new w _
    clear hV1
    refine (unhide S1 V1).mono ?_
    rintro e w2 ⟨⟨d, rfl, hd⟩, hb2⟩
    obtain ⟨a, n, c, a', n', c', rfl, _, _⟩ := hd.at
    have s2 := s1.below hb2
    have hb3 : Below w.heap.size w w2 := b1.trans (hb2.mono b1.size)
    have s3 := s2.below (below_new w2 (Obj.cells #[Value.slice a n c, Value.slice a' n' c'] 36))
    have HS3 := hide s3
    obtain ⟨t0, t1, t2, t3, t4⟩ := s3.cells
    have tf := s3.froz
    clear hd s1 s2 s3 b1 hb2
    go_wp2
    (try simp only [Exit.inBlock, Exit.then])
    refine bodyPost_ret (results_store Tryz.results12 _ _ w.heap.size _ _ _ rfl ((unhide HS3).all (.slice none 0 0) (.slice none 0 0) 0)) rfl ?_
    have hkk := set5_kept (w2.alloc (Obj.cells #[Value.slice a n c, Value.slice a' n' c'] 36)) w.heap.size (.slice none 0 0) (.slice none 0 0) 0
    have hb4 := hb3.alloc hb3.size (Obj.cells #[Value.slice a n c, Value.slice a' n' c'] 36)
    exact ⟨⟨_, _, rfl, stNil _ _⟩, hb4.trans (hkk.below hb4.size (fun i hi => by omega))⟩

set_option maxRecDepth 100000 in
set_option maxHeartbeats 2000000 in
theorem implFmt_no (x : Int) (h : ¬ (4 ≤ x ∧ x ≤ 400)) (w : World) :
    Calls Tryz.prog 53 #[.int .i64 x] w fun e w' => StPost w [] 0 false e w' := by
  have S1 := hide (fun w => implNew_any x w)
  by_cases h1 : 1 ≤ x ∧ x ≤ 400
  · have ho : newOk x = true := by unfold newOk; simp only [h1, and_self, decide_true]
    have hx : x < 4 := by omega
    rw [ho] at S1
    generalize newL x = L at S1
    clear h h1 ho
    go_enter Tryz.func53, Tryz.ntmps53
    go_wp2_with fail
    obtain ⟨V1, hV1⟩ : ∃ W, W = w.alloc (Obj.cells #[Value.slice none 0 0, Value.slice none 0 0, Value.slice none 0 0, Value.int .i64 0, Value.int .i64 0] 41) := ⟨_, rfl⟩
    rw [← hV1]
    have b1 : Below w.heap.size w V1 := by rw [hV1]; exact below_new _ _
    have s1 : SBox V1 w.heap.size (.slice none 0 0) (.slice none 0 0) 0 := by rw [hV1]; exact heap_alloc_new w _
    clear hV1
    refine (unhide S1 V1).mono ?_
    rintro e w2 ⟨⟨d, rfl, hd⟩, hb2⟩
    obtain ⟨a, n, c, a', n', c', rfl, _, _⟩ := hd.at
    have s2 := s1.below hb2
    have hb3 : Below w.heap.size w w2 := b1.trans (hb2.mono b1.size)
    have s3 := s2.below (below_new w2 (Obj.cells #[Value.slice a n c, Value.slice a' n' c'] 36))
    have HS3 := hide s3
    obtain ⟨t0, t1, t2, t3, t4⟩ := s3.cells
    have tf := s3.froz
    clear hd s1 s2 s3 b1 hb2
    go_wp2
    (try simp only [Exit.inBlock, Exit.then])
    refine bodyPost_ret (results_store Tryz.results53 _ _ w.heap.size _ _ _ rfl ((unhide HS3).all (.slice none 0 0) (.slice none 0 0) 0)) rfl ?_
    have hkk := set5_kept (w2.alloc (Obj.cells #[Value.slice a n c, Value.slice a' n' c'] 36)) w.heap.size (.slice none 0 0) (.slice none 0 0) 0
    have hb4 := hb3.alloc hb3.size (Obj.cells #[Value.slice a n c, Value.slice a' n' c'] 36)
    exact ⟨⟨_, _, rfl, stNil _ _⟩, hb4.trans (hkk.below hb4.size (fun i hi => by omega))⟩
  · have ho : newOk x = false := by unfold newOk; simp only [h1, decide_false]
    rw [ho] at S1
    generalize newL x = L at S1
    clear h h1 ho
    go_enter Tryz.func53, Tryz.ntmps53
    go_wp2_with fail
    obtain ⟨V1, hV1⟩ : ∃ W, W = w.alloc (Obj.cells #[Value.slice none 0 0, Value.slice none 0 0, Value.slice none 0 0, Value.int .i64 0, Value.int .i64 0] 41) := ⟨_, rfl⟩
    rw [← hV1]
    have b1 : Below w.heap.size w V1 := by rw [hV1]; exact below_new _ _
    have s1 : SBox V1 w.heap.size (.slice none 0 0) (.slice none 0 0) 0 := by rw [hV1]; exact heap_alloc_new w _
    clear hV1
    refine (unhide S1 V1).mono ?_
    rintro e w2 ⟨⟨d, rfl, hd⟩, hb2⟩
    obtain ⟨a, n, c, a', n', c', rfl, _, _⟩ := hd.at
    have s2 := s1.below hb2
    have hb3 : Below w.heap.size w w2 := b1.trans (hb2.mono b1.size)
    have s3 := s2.below (below_new w2 (Obj.cells #[Value.slice a n c, Value.slice a' n' c'] 36))
    have HS3 := hide s3
    obtain ⟨t0, t1, t2, t3, t4⟩ := s3.cells
    have tf := s3.froz
    clear hd s1 s2 s3 b1 hb2
    go_wp2
    (try simp only [Exit.inBlock, Exit.then])
    refine bodyPost_ret (results_store Tryz.results53 _ _ w.heap.size _ _ _ rfl ((unhide HS3).all (.slice none 0 0) (.slice none 0 0) 0)) rfl ?_
    have hkk := set5_kept (w2.alloc (Obj.cells #[Value.slice a n c, Value.slice a' n' c'] 36)) w.heap.size (.slice none 0 0) (.slice none 0 0) 0
    have hb4 := hb3.alloc hb3.size (Obj.cells #[Value.slice a n c, Value.slice a' n' c'] 36)
    exact ⟨⟨_, _, rfl, stNil _ _⟩, hb4.trans (hkk.below hb4.size (fun i hi => by omega))⟩

end Go.Proofs.YtjhnippfepbjmaaGreatDoor

/-
  spec.FormatStore and impl.FormatStore, where there is a store.
-/
namespace Go.Proofs.YtjhnippfepbjmaaGreatDoor
open Go.RowKit Rt

set_option maxRecDepth 100000 in
set_option maxHeartbeats 2000000 in
theorem specFmt_yes (n : Nat) (h4 : 4 ≤ n) (h5 : n ≤ 400) (w : World) :
    Calls Tryz.prog 12 #[.int .i64 (n : Int)] w fun e w' => StPost w (fmtN n) (-1) true e w' := by
  have S1 := hide (fun w => specNew_any (n : Int) w)
  have ho : newOk (n : Int) = true := by unfold newOk; simp only [decide_eq_true_eq]; omega
  have hl : newL (n : Int) = List.replicate n ⟨#[]⟩ := by unfold newL; rw [if_pos (by omega), Int.toNat_natCast]
  rw [ho, hl] at S1
  have RT := hide (fun w => specRoot_any 0 (-1) w)
  rw [rootT_zero] at RT
  have HSET := hide (fmtN_set n (by omega))
  have HLEN := hide (fmtN_length n (by omega))
  generalize root0 = R at RT HSET
  clear ho hl
  have hx : ¬ (n : Int) < 4 := by omega
  go_enter Tryz.func12, Tryz.ntmps12
  go_wp2_with fail
  obtain ⟨V1, hV1⟩ : ∃ W, W = w.alloc (Obj.cells #[Value.slice none 0 0, Value.slice none 0 0, Value.slice none 0 0, Value.int .i64 0, Value.int .i64 0] 41) := ⟨_, rfl⟩
  rw [← hV1]
  have b1 : Below w.heap.size w V1 := by rw [hV1]; exact below_new _ _
  have s1 : SBox V1 w.heap.size (.slice none 0 0) (.slice none 0 0) 0 := by rw [hV1]; exact heap_alloc_new w _
  clear hV1
  refine (unhide S1 V1).mono ?_
  rintro e w2 ⟨⟨d, rfl, hd⟩, hb2⟩
  obtain ⟨v0, v1, rfl, hd0, hd1, hdn⟩ := hd
  obtain ⟨A0, C0, rfl, _⟩ := StrsAt.of_own hd0
  obtain ⟨A1, C1, rfl, _⟩ := PutsAt.of_own hd1
  simp only [List.length_replicate, List.length_nil] at hd0 hd1 hdn
  obtain ⟨V3, hV3⟩ : ∃ W, W = w2.alloc (Obj.cells #[Value.slice A0 n C0, Value.slice A1 0 C1] 36) := ⟨_, rfl⟩
  have s3 : SBox V3 w.heap.size (.slice none 0 0) (.slice none 0 0) 0 := by rw [hV3]; exact (s1.below hb2).below (below_new _ _)
  have x3 : Box V3 w2.heap.size (.slice A0 n C0) (.slice A1 0 C1) := by rw [hV3]; exact Box.new _ _ _
  have b3 : Below w.heap.size w V3 := by rw [hV3]; have := b1.trans (hb2.mono b1.size); exact this.alloc this.size _
  have o30 := own_below hd0 (hb := (by rw [hV3]; exact below_new _ _ : Below w2.heap.size w2 V3))
  have o31 := own_below hd1 (hb := (by rw [hV3]; exact below_new _ _ : Below w2.heap.size w2 V3))
  have hs2 : V1.heap.size ≤ w2.heap.size := hb2.size
  have hs1 : w.heap.size < V1.heap.size := s1.lt
  have hlt0 := hide hd0.lt
  clear hd0 hd1 s1 b1 hb2
  go_wp2_with fail
  rw [← hV3]
  clear hV3
  refine (unhide RT V3).mono ?_
  rintro e w4 ⟨rfl, hb4⟩
  have s4 := s3.below hb4
  have x4 := x3.below hb4
  have o40 := own_below o30 hb4
  have o41 := own_below o31 hb4
  have b4 : Below w.heap.size w w4 := b3.trans (hb4.mono b3.size)
  clear s3 x3 o30 o31 b3 hb4
  obtain ⟨g, cap', hA, hBg, hgl⟩ := o40.form (by omega)
  simp at hA
  obtain ⟨rfl, rfl⟩ := hA
  have hce := o40.cellAt 0 (by omega)
  have hce2 : (strsV (List.replicate n (⟨#[]⟩ : ByteArray)))[0]? = some (.string ⟨#[]⟩) := by
    obtain ⟨m, rfl⟩ : ∃ m, n = m + 1 := ⟨n - 1, by omega⟩
    simp [strsV, List.replicate_succ]
  rw [hce2] at hce
  have hfz := o40.frozenAt 0
  have hst := (o40.stored 0 (.string R)).1
  rw [strsV_set, unhide HSET] at hst
  have hne : (Value.slice (some ⟨g, 0, none⟩) n C0).ownBlock = some g := rfl
  have hst1 : (w4.setCell ⟨g, 0, none⟩ (.string R)).ownsRow V1.heap.size 121 2 (.slice A1 0 C1) 0 (putsV []) := ownsRow_setCell_other (a := ⟨g, 0, none⟩) o41 (fun e => by
    rcases hdn with h | h
    · exact h (by rw [e]; simp [Value.ownBlock])
    · simp [Value.ownBlock] at h) _
  have hkg : Kept (fun k => k = g) w4 (w4.setCell ⟨g, 0, none⟩ (.string R)) := Kept.set (S := fun k => k = g) _ g _ _ rfl
  have hg2 := unhide hlt0 g rfl
  have s5 := s4.kept hkg (by omega)
  have x5 := x4.kept hkg (by omega)
  obtain ⟨p0, p1⟩ := x4.cells
  obtain ⟨q0, q1⟩ := x5.cells
  obtain ⟨t0, t1, t2, t3, t4⟩ := s5.cells
  have tf := s5.froz
  have HS5 := hide s5
  have HST := hide hst
  have HST1 := hide hst1
  have hb5 : Below w.heap.size w (w4.setCell ⟨g, 0, none⟩ (.string R)) := b4.setCell (p := ⟨g, 0, none⟩) (by simp; omega) _
  clear s4 s5 x4 x5 o40 o41 hst hst1 b4 hce2
  go_wp2
  (try simp only [Exit.inBlock, Exit.then])
  refine bodyPost_ret (results_store Tryz.results12 _ _ w.heap.size _ _ _ rfl ((unhide HS5).all (.slice (some ⟨g, 0, none⟩) n C0) (.slice A1 0 C1) (-1))) rfl ?_
  have hkk := set5_kept (w4.setCell ⟨g, 0, none⟩ (.string R)) w.heap.size (.slice (some ⟨g, 0, none⟩) n C0) (.slice A1 0 C1) (-1)
  have hdev : DevOwn (w4.setCell ⟨g, 0, none⟩ (.string R)) w.heap.size (.agg #[.slice (some ⟨g, 0, none⟩) n C0, .slice A1 0 C1]) (fmtN n) [] :=
    ⟨_, _, rfl, by rw [unhide HLEN]; exact own_lower (by omega) (unhide HST), own_lower (by omega) (unhide HST1), hdn⟩
  refine ⟨⟨_, _, rfl, hdev.kept hkk (fun k hk => ?_)⟩, hb5.trans (hkk.below hb5.size (fun i hi => by omega))⟩
  obtain ⟨u0, u1, e, he⟩ := hk
  simp at e
  obtain ⟨rfl, rfl⟩ := e
  rcases he with he | he
  · have := (unhide HST).lt k he
    omega
  · have := (unhide HST1).lt k he
    omega

set_option maxRecDepth 100000 in
set_option maxHeartbeats 2000000 in
theorem implFmt_yes (n : Nat) (h4 : 4 ≤ n) (h5 : n ≤ 400) (w : World) :
    Calls Tryz.prog 53 #[.int .i64 (n : Int)] w fun e w' => StPost w (fmtN n) (-1) true e w' := by
  have S1 := hide (fun w => implNew_any (n : Int) w)
  have ho : newOk (n : Int) = true := by unfold newOk; simp only [decide_eq_true_eq]; omega
  have hl : newL (n : Int) = List.replicate n ⟨#[]⟩ := by unfold newL; rw [if_pos (by omega), Int.toNat_natCast]
  rw [ho, hl] at S1
  have RT := hide (fun w => implRoot_any 0 (-1) w)
  rw [rootT_zero] at RT
  have hwo := wrOk_new n (by omega) h5
  have WR := hide (fun v B w hB (hv : DevAt w v B (List.replicate n ⟨#[]⟩) []) => implWrite_any v B (List.replicate n ⟨#[]⟩) [] 0 root0 (by simp; omega) (by simp) (fun s hs => by rw [List.eq_of_mem_replicate hs]; decide) w hB hv)
  unfold wrL wrQ at WR
  rw [hwo] at WR
  simp only [if_pos, List.nil_append] at WR
  have hdp := devOk_put n (by omega) h5
  have FL := hide (fun v B w hB (hv : DevAt w v B (List.replicate n ⟨#[]⟩) [(0, root0)]) => implFlush_any v B (List.replicate n ⟨#[]⟩) [(0, root0)] (by simp; omega) (by simp) (fun s hs => by rw [List.eq_of_mem_replicate hs]; decide) w hB hv)
  unfold flushA at FL
  rw [hdp] at FL
  simp only [if_pos, flush_put n (show 1 ≤ n by omega)] at FL
  have OP := hide (fun v B w hB (hv : DevAt w v B (fmtN n) []) => openStore_any v B (fmtN n) (devOk_fmt n (by omega) h5) (by rw [fmtN_length n (by omega)]; omega) (fmtN_sec n) (last_fmt n h4 h5) w hB hv)
  generalize fmtN n = LF at OP FL ⊢
  generalize root0 = R at RT WR FL
  clear ho hl hwo hdp
  have hx : ¬ (n : Int) < 4 := by omega
  go_enter Tryz.func53, Tryz.ntmps53
  go_wp2_with fail
  obtain ⟨V1, hV1⟩ : ∃ W, W = w.alloc (Obj.cells #[Value.slice none 0 0, Value.slice none 0 0, Value.slice none 0 0, Value.int .i64 0, Value.int .i64 0] 41) := ⟨_, rfl⟩
  rw [← hV1]
  have b1 : Below w.heap.size w V1 := by rw [hV1]; exact below_new _ _
  have s1 : SBox V1 w.heap.size (.slice none 0 0) (.slice none 0 0) 0 := by rw [hV1]; exact heap_alloc_new w _
  clear hV1
  have hs1 : w.heap.size < V1.heap.size := s1.lt
  refine (unhide S1 V1).mono ?_
  rintro e w2 ⟨⟨d, rfl, hd⟩, hb2⟩
  obtain ⟨A0, n0, C0, A1, n1, C1, rfl, _, _⟩ := hd.at
  obtain ⟨V3, hV3⟩ : ∃ W, W = w2.alloc (Obj.cells #[Value.slice A0 n0 C0, Value.slice A1 n1 C1] 36) := ⟨_, rfl⟩
  have b23 : Below w2.heap.size w2 V3 := by rw [hV3]; exact below_new _ _
  have s3 : SBox V3 w.heap.size (.slice none 0 0) (.slice none 0 0) 0 := (s1.below hb2).below b23
  have x3 : Box V3 w2.heap.size (.slice A0 n0 C0) (.slice A1 n1 C1) := by rw [hV3]; exact Box.new _ _ _
  have b3 : Below w.heap.size w V3 := (b1.trans (hb2.mono b1.size)).trans (b23.mono (Nat.le_trans b1.size hb2.size))
  have d3 := hd.below b23
  have hs2 : V1.heap.size ≤ w2.heap.size := hb2.size
  have hs3 := x3.lt
  clear hd s1 b1 hb2 b23
  go_wp2_with fail
  rw [← hV3]
  clear hV3
  refine (unhide RT V3).mono ?_
  rintro e w4 ⟨rfl, hb4⟩
  have s4 := s3.below hb4
  have x4 := x3.below hb4
  have d4 := d3.below hb4
  have b4 : Below w.heap.size w w4 := b3.trans (hb4.mono b3.size)
  have hs4 := hb4.size
  clear s3 x3 d3 b3 hb4
  obtain ⟨p0, p1⟩ := x4.cells
  go_wp2_with fail
  refine (unhide WR _ _ w4 (Nat.le_refl _) d4.at).mono ?_
  rintro e w5 ⟨⟨d, rfl, hd5⟩, hb5⟩
  obtain ⟨E0, m0, F0, E1, m1, F1, rfl, _, _⟩ := hd5.at
  have s5 := s4.below hb5
  have x5 := x4.below hb5
  have b5 : Below w.heap.size w w5 := b4.trans (hb5.mono b4.size)
  have hs5 := hb5.size
  obtain ⟨y0, y1⟩ := x5.cells
  have yf0 := x5.froz 0
  have yf1 := x5.froz 1
  clear p0 p1 s4 x4 d4 b4 hb5
  have hk6 := (Kept.set (S := fun k => k = w2.heap.size) w5 w2.heap.size 0 (Value.slice E0 m0 F0) rfl).trans (Kept.set (S := fun k => k = w2.heap.size) _ w2.heap.size 1 (Value.slice E1 m1 F1) rfl)
  have x6 := x5.two (Value.slice E0 m0 F0) (Value.slice E1 m1 F1)
  obtain ⟨V6, hV6⟩ : ∃ W, W = (w5.setCell ⟨w2.heap.size, 0, none⟩ (Value.slice E0 m0 F0)).setCell ⟨w2.heap.size, 1, none⟩ (Value.slice E1 m1 F1) := ⟨_, rfl⟩
  rw [← hV6] at hk6 x6
  have s6 := s5.kept hk6 (by omega)
  have d6 := hd5.kept hk6 (fun k hk => by have := (hd5.blk k hk).1; omega)
  have b6 : Below w.heap.size w V6 := b5.trans (hk6.below b5.size (fun i hi => by omega))
  have hs6 := hk6.2.2.2.1
  obtain ⟨p0, p1⟩ := x6.cells
  rw [hV6] at p0 p1
  clear s5 x5 b5 hd5 hk6
  go_wp2_with fail
  rw [← hV6]
  refine (unhide FL _ _ V6 (Nat.le_refl _) d6.at).mono ?_
  rintro e w7 ⟨⟨d, rfl, hd7⟩, hb7⟩
  obtain ⟨G0, i0, H0, G1, i1, H1, rfl, _, _⟩ := hd7.at
  clear p0 p1 y0 y1 yf0 yf1 hV6
  have s7 := s6.below hb7
  have x7 := x6.below hb7
  have b7 : Below w.heap.size w w7 := b6.trans (hb7.mono b6.size)
  have hs7 := hb7.size
  obtain ⟨y0, y1⟩ := x7.cells
  have yf0 := x7.froz 0
  have yf1 := x7.froz 1
  clear s6 x6 d6 b6 hb7
  have hk8 := (Kept.set (S := fun k => k = w2.heap.size) w7 w2.heap.size 0 (Value.slice G0 i0 H0) rfl).trans (Kept.set (S := fun k => k = w2.heap.size) _ w2.heap.size 1 (Value.slice G1 i1 H1) rfl)
  have x8 := x7.two (Value.slice G0 i0 H0) (Value.slice G1 i1 H1)
  obtain ⟨V8, hV8⟩ : ∃ W, W = (w7.setCell ⟨w2.heap.size, 0, none⟩ (Value.slice G0 i0 H0)).setCell ⟨w2.heap.size, 1, none⟩ (Value.slice G1 i1 H1) := ⟨_, rfl⟩
  rw [← hV8] at hk8 x8
  have s8 := s7.kept hk8 (by omega)
  have d8 := hd7.kept hk8 (fun k hk => by have := (hd7.blk k hk).1; omega)
  have b8 : Below w.heap.size w V8 := b7.trans (hk8.below b7.size (fun i hi => by omega))
  obtain ⟨p0, p1⟩ := x8.cells
  rw [hV8] at p0 p1
  clear s7 x7 b7 hd7 hk8 x8
  go_wp2_with fail
  rw [← hV8]
  refine (unhide OP _ _ V8 (Nat.le_refl _) d8.at).mono ?_
  rintro e w9 ⟨⟨v0, v1, rfl, hd9⟩, hb9⟩
  clear p0 p1 y0 y1 yf0 yf1 hV8
  have s9 := s8.below hb9
  have b9 : Below w.heap.size w w9 := b8.trans (hb9.mono b8.size)
  have HS9 := hide s9
  have HD9 := hide hd9
  have hs9 := b8.size
  obtain ⟨J0, j0, K0, J1, j1, K1, e9, _, _⟩ := hd9.at
  simp at e9
  obtain ⟨rfl, rfl⟩ := e9
  obtain ⟨t0, t1, t2, t3, t4⟩ := s9.cells
  have tf := s9.froz
  have hs8 := s8.lt
  clear s8 s9 d8 b8 hd9 hb9
  go_wp2
  (try simp only [Exit.inBlock, Exit.then])
  refine bodyPost_ret (results_store Tryz.results53 _ _ w.heap.size _ _ _ rfl ((unhide HS9).all (.slice J0 j0 K0) (.slice J1 j1 K1) (-1))) rfl ?_
  have hkk := set5_kept w9 w.heap.size (.slice J0 j0 K0) (.slice J1 j1 K1) (-1)
  have d10 := (unhide HD9).kept hkk (fun k hk => by have := ((unhide HD9).blk k hk).1; omega)
  obtain ⟨u0, u1, e, h0, h1', hn⟩ := d10
  exact ⟨⟨_, _, rfl, u0, u1, e, own_lower (by omega) h0, own_lower (by omega) h1', hn⟩, b9.trans (hkk.below b9.size (fun i hi => by omega))⟩

theorem specFmt_any (x : Int) (w : World) : Calls Tryz.prog 12 #[.int .i64 x] w fun e w' => StPost w (fmtL x) (fmtT x) (fmtOk x) e w' := by
  by_cases h : 4 ≤ x ∧ x ≤ 400
  · obtain ⟨n, rfl⟩ := Int.eq_ofNat_of_zero_le (show 0 ≤ x by omega)
    obtain ⟨e1, e2, e3⟩ := fmt_yes (n := n) (by omega) (by omega)
    rw [e1, e2, e3]
    exact specFmt_yes n (by omega) (by omega) w
  · obtain ⟨e1, e2, e3⟩ := fmt_no h
    rw [e1, e2, e3]
    exact specFmt_no x h w

theorem implFmt_any (x : Int) (w : World) : Calls Tryz.prog 53 #[.int .i64 x] w fun e w' => StPost w (fmtL x) (fmtT x) (fmtOk x) e w' := by
  by_cases h : 4 ≤ x ∧ x ≤ 400
  · obtain ⟨n, rfl⟩ := Int.eq_ofNat_of_zero_le (show 0 ≤ x by omega)
    obtain ⟨e1, e2, e3⟩ := fmt_yes (n := n) (by omega) (by omega)
    rw [e1, e2, e3]
    exact implFmt_yes n (by omega) (by omega) w
  · obtain ⟨e1, e2, e3⟩ := fmt_no h
    rw [e1, e2, e3]
    exact implFmt_no x h w
end Go.Proofs.YtjhnippfepbjmaaGreatDoor
