/-
  Texts of this claim, one behind the other: StTake.
-/
import Derived.Test.YtjhnippfepbjmaaGreatDoorJ30
import Derived.Test.YtjhnippfepbjmaaGreatDoorJ31
import Derived.Test.YtjhnippfepbjmaaGreatDoorJ35
import Derived.Test.YtjhnippfepbjmaaGreatDoorJ23
import Derived.Deep.RegionHeld3
import Derived.Deep.RegionWith

/-
  impl.ReadTree of the empty tree, and the keeper's take of a device whose last root is that of a new store.
-/
namespace Go.Proofs.YtjhnippfepbjmaaGreatDoor
open Go.RowKit Rt

set_option maxRecDepth 100000 in
theorem implReadNil (v : Value) (B : Nat) (L : List ByteArray) (Q : List (Int × ByteArray)) (hok : devOk L Q = true) (h1 : L.length ≤ 1048576) (h2 : Q.length ≤ 1048576) (hm : ∀ s ∈ L, s.size ≤ 9223372036854775807) (w : World) (hB : B ≤ w.heap.size) (hv : DevAt w v B L Q) :
    Calls Tryz.prog 109 #[v, .int .i64 (-1)] w fun e w' => e = .returned (.tuple #[.slice none 0 0, .slice none 0 0, .bool true]) ∧ Below w.heap.size w w' := by
  have OK := hide (fun w1 (hb : Below w.heap.size w w1) => implDev_any v B L Q h1 h2 hm w1 (by have := hb.size; omega) (hv.below hb hB))
  rw [hok] at OK
  obtain ⟨a, n, c, a', n', c', rfl, hL, hQ⟩ := hv
  clear hL hQ hm h1 h2
  go_enter Tryz.func109, Tryz.ntmps109
  go_wp2_with fail
  obtain ⟨W2, hW2⟩ : ∃ W, W = w.alloc (Obj.cells #[Value.slice a n c, Value.slice a' n' c'] 36) := ⟨_, rfl⟩
  rw [← hW2]
  have hb2 : Below w.heap.size w W2 := by rw [hW2]; exact below_new _ _
  clear hW2
  refine (unhide OK W2 hb2).mono ?_
  rintro e w3 ⟨rfl, hb3⟩
  have hcw : Below w.heap.size w w3 := hb2.trans (hb3.mono hb2.size)
  clear hb3 hb2
  go_wp2
  go_ret3
  exact ⟨rfl, hcw⟩

/-- A keeper's variable in memory: its lock's state, the store's device, its Tree. -/
def KBox (w : World) (g : Nat) (st : Int) (v0 v1 : Value) (t : Int) : Prop :=
  w.heap[g]? = some (.cells #[.int .i32 st, .int .u32 0, v0, v1, .slice none 0 0, .int .i64 0, .int .i64 t, .int .i64 0, .slice none 0 0] 138 (0, 0))

theorem KBox.lt {w : World} {g : Nat} {st t : Int} {v0 v1 : Value} (h : KBox w g st v0 v1 t) : g < w.heap.size := by
  rcases Nat.lt_or_ge g w.heap.size with h1 | h1
  · exact h1
  · unfold KBox at h; rw [Array.getElem?_eq_none h1] at h; cases h

theorem KBox.below {w w' : World} {g : Nat} {st t : Int} {v0 v1 : Value} (h : KBox w g st v0 v1 t) (hb : Below w.heap.size w w') : KBox w' g st v0 v1 t := by
  unfold KBox; rw [hb.block g h.lt]; exact h

theorem KBox.cells {w : World} {g : Nat} {st t : Int} {v0 v1 : Value} (h : KBox w g st v0 v1 t) :
    w.cell? ⟨g, 0, none⟩ = some (.int .i32 st) ∧ w.cell? ⟨g, 1, none⟩ = some (.int .u32 0) ∧ w.cell? ⟨g, 2, none⟩ = some v0 ∧ w.cell? ⟨g, 3, none⟩ = some v1 ∧ w.cell? ⟨g, 4, none⟩ = some (.slice none 0 0) ∧ w.cell? ⟨g, 5, none⟩ = some (.int .i64 0) ∧ w.cell? ⟨g, 6, none⟩ = some (.int .i64 t) ∧ w.cell? ⟨g, 7, none⟩ = some (.int .i64 0) ∧ w.cell? ⟨g, 8, none⟩ = some (.slice none 0 0) := by
  refine ⟨?_, ?_, ?_, ?_, ?_, ?_, ?_, ?_, ?_⟩
  · rw [cell_of_row w g 0 _ 138 (0, 0) h]; rfl
  · rw [cell_of_row w g 1 _ 138 (0, 0) h]; rfl
  · rw [cell_of_row w g 2 _ 138 (0, 0) h]; rfl
  · rw [cell_of_row w g 3 _ 138 (0, 0) h]; rfl
  · rw [cell_of_row w g 4 _ 138 (0, 0) h]; rfl
  · rw [cell_of_row w g 5 _ 138 (0, 0) h]; rfl
  · rw [cell_of_row w g 6 _ 138 (0, 0) h]; rfl
  · rw [cell_of_row w g 7 _ 138 (0, 0) h]; rfl
  · rw [cell_of_row w g 8 _ 138 (0, 0) h]; rfl

theorem KBox.froz {w : World} {g : Nat} {st t : Int} {v0 v1 : Value} (h : KBox w g st v0 v1 t) (j : Nat) : w.frozen? ⟨g, j, none⟩ = false := frozen_of_row w g j _ 138 h

theorem KBox.state {w : World} {g : Nat} {st t : Int} {v0 v1 : Value} (h : KBox w g st v0 v1 t) (st' : Int) : KBox (w.setCell ⟨g, 0, none⟩ (.int .i32 st')) g st' v0 v1 t :=
  heap_setCell_same w g 0 _ 138 _ h

theorem nine_2 {w : World} {g : Nat} {t : TypeId} {x0 x1 x2 x3 x4 x5 x6 x7 x8 : Value} (h : w.heap[g]? = some (.cells #[x0, x1, x2, x3, x4, x5, x6, x7, x8] t (0, 0))) (u : Value) : (w.setCell ⟨g, 2, none⟩ u).heap[g]? = some (.cells #[x0, x1, u, x3, x4, x5, x6, x7, x8] t (0, 0)) := heap_setCell_same w g 2 _ t u h
theorem nine_3 {w : World} {g : Nat} {t : TypeId} {x0 x1 x2 x3 x4 x5 x6 x7 x8 : Value} (h : w.heap[g]? = some (.cells #[x0, x1, x2, x3, x4, x5, x6, x7, x8] t (0, 0))) (u : Value) : (w.setCell ⟨g, 3, none⟩ u).heap[g]? = some (.cells #[x0, x1, x2, u, x4, x5, x6, x7, x8] t (0, 0)) := heap_setCell_same w g 3 _ t u h
theorem nine_4 {w : World} {g : Nat} {t : TypeId} {x0 x1 x2 x3 x4 x5 x6 x7 x8 : Value} (h : w.heap[g]? = some (.cells #[x0, x1, x2, x3, x4, x5, x6, x7, x8] t (0, 0))) (u : Value) : (w.setCell ⟨g, 4, none⟩ u).heap[g]? = some (.cells #[x0, x1, x2, x3, u, x5, x6, x7, x8] t (0, 0)) := heap_setCell_same w g 4 _ t u h
theorem nine_5 {w : World} {g : Nat} {t : TypeId} {x0 x1 x2 x3 x4 x5 x6 x7 x8 : Value} (h : w.heap[g]? = some (.cells #[x0, x1, x2, x3, x4, x5, x6, x7, x8] t (0, 0))) (u : Value) : (w.setCell ⟨g, 5, none⟩ u).heap[g]? = some (.cells #[x0, x1, x2, x3, x4, u, x6, x7, x8] t (0, 0)) := heap_setCell_same w g 5 _ t u h
theorem nine_6 {w : World} {g : Nat} {t : TypeId} {x0 x1 x2 x3 x4 x5 x6 x7 x8 : Value} (h : w.heap[g]? = some (.cells #[x0, x1, x2, x3, x4, x5, x6, x7, x8] t (0, 0))) (u : Value) : (w.setCell ⟨g, 6, none⟩ u).heap[g]? = some (.cells #[x0, x1, x2, x3, x4, x5, u, x7, x8] t (0, 0)) := heap_setCell_same w g 6 _ t u h
theorem nine_7 {w : World} {g : Nat} {t : TypeId} {x0 x1 x2 x3 x4 x5 x6 x7 x8 : Value} (h : w.heap[g]? = some (.cells #[x0, x1, x2, x3, x4, x5, x6, x7, x8] t (0, 0))) (u : Value) : (w.setCell ⟨g, 7, none⟩ u).heap[g]? = some (.cells #[x0, x1, x2, x3, x4, x5, x6, u, x8] t (0, 0)) := heap_setCell_same w g 7 _ t u h
theorem nine_8 {w : World} {g : Nat} {t : TypeId} {x0 x1 x2 x3 x4 x5 x6 x7 x8 : Value} (h : w.heap[g]? = some (.cells #[x0, x1, x2, x3, x4, x5, x6, x7, x8] t (0, 0))) (u : Value) : (w.setCell ⟨g, 8, none⟩ u).heap[g]? = some (.cells #[x0, x1, x2, x3, x4, x5, x6, x7, u] t (0, 0)) := heap_setCell_same w g 8 _ t u h

/-- All of a keeper's store, written. -/
theorem KBox.all {w : World} {g : Nat} {st t : Int} {v0 v1 : Value} (h : KBox w g st v0 v1 t) (u0 u1 : Value) (t' : Int) :
    KBox (((((((w.setCell ⟨g, 2, none⟩ u0).setCell ⟨g, 3, none⟩ u1).setCell ⟨g, 4, none⟩ (.slice none 0 0)).setCell ⟨g, 5, none⟩ (.int .i64 0)).setCell ⟨g, 6, none⟩ (.int .i64 t')).setCell ⟨g, 7, none⟩ (.int .i64 0)).setCell ⟨g, 8, none⟩ (.slice none 0 0)) g st u0 u1 t' := by
  exact nine_8 (nine_7 (nine_6 (nine_5 (nine_4 (nine_3 (nine_2 h _) _) _) _) _) _) _

theorem KBox.keptAll (w : World) (g : Nat) (u0 u1 : Value) (t' : Int) :
    Kept (fun k => k = g) w (((((((w.setCell ⟨g, 2, none⟩ u0).setCell ⟨g, 3, none⟩ u1).setCell ⟨g, 4, none⟩ (.slice none 0 0)).setCell ⟨g, 5, none⟩ (.int .i64 0)).setCell ⟨g, 6, none⟩ (.int .i64 t')).setCell ⟨g, 7, none⟩ (.int .i64 0)).setCell ⟨g, 8, none⟩ (.slice none 0 0)) :=
  ((((((Kept.set (S := fun k => k = g) _ g _ _ rfl).trans (Kept.set (S := fun k => k = g) _ g _ _ rfl)).trans (Kept.set (S := fun k => k = g) _ g _ _ rfl)).trans (Kept.set (S := fun k => k = g) _ g _ _ rfl)).trans (Kept.set (S := fun k => k = g) _ g _ _ rfl)).trans (Kept.set (S := fun k => k = g) _ g _ _ rfl)).trans (Kept.set (S := fun k => k = g) _ g _ _ rfl)

/-- What take leaves. -/
def TakePost (w : World) (g B : Nat) (L : List ByteArray) (e : Ending) (w' : World) : Prop :=
  e = .returned .nilIface ∧ ∃ v0 v1, KBox w' g 1 v0 v1 (-1) ∧ DevOwn w' B (.agg #[v0, v1]) L [] ∧ Kept (fun k => k = g) w w'

set_option maxRecDepth 100000 in
set_option maxHeartbeats 4000000 in
theorem take_any (g : Nat) (v : Value) (B : Nat) (L : List ByteArray) (hok : devOk L [] = true) (h1 : L.length ≤ 1048576) (hm : ∀ s ∈ L, s.size ≤ 64)
    (hlast : lastV (readDv L [] 0).1 (readDv L [] 1).1 = .tuple #[.agg #[.int .i64 0, .int .i64 (-1)], .int .i64 0, .bool true]) (w : World) (hB : B ≤ w.heap.size) (hv : DevAt w v B L []) (hk : KBox w g 1 (.slice none 0 0) (.slice none 0 0) 0) :
    Calls Tryz.prog 94 #[.pointer (some ⟨g, 0, none⟩), v] w fun e w' => TakePost w g w.heap.size L e w' := by
  have hm2 : ∀ s ∈ L, s.size ≤ 9223372036854775807 := fun s hs => by have := hm s hs; omega
  have hm3 : ∀ s ∈ L, s.size ≤ 1048576 := fun s hs => by have := hm s hs; omega
  have LA := hide (fun w1 (hb : Below w.heap.size w w1) => implLast_any v B L [] h1 (by simp) hm2 w1 (by have := hb.size; omega) (hv.below hb hB))
  rw [hlast] at LA
  have RN := hide (fun w1 (hb : Below w.heap.size w w1) => implReadNil v B L [] hok h1 (by simp) hm2 w1 (by have := hb.size; omega) (hv.below hb hB))
  have CP := hide (fun w1 (hb : Below w.heap.size w w1) => copyDev_any v B L [] h1 (by simp) hm3 (by simp) w1 (by have := hb.size; omega) (hv.below hb hB))
  obtain ⟨a, n, c, a', n', c', rfl, hL, hQ⟩ := hv
  obtain rfl : 0 = n' := hQ.1
  have HK := hide hk
  have hgl := hk.lt
  clear hL hQ hm h1 hm2 hm3 hlast hok hk
  go_enter Tryz.func94, Tryz.ntmps94
  go_wp2_with fail
  obtain ⟨W2, hW2⟩ : ∃ W, W = w.alloc (Obj.cells #[Value.slice a n c, Value.slice a' 0 c'] 36) := ⟨_, rfl⟩
  rw [← hW2]
  have hb2 : Below w.heap.size w W2 := by rw [hW2]; exact below_new _ _
  have x2 : Box W2 w.heap.size (Value.slice a n c) (Value.slice a' 0 c') := by rw [hW2]; exact Box.new _ _ _
  have hs2 : W2.heap.size = w.heap.size + 1 := by rw [hW2]; simp
  clear hW2
  refine (unhide LA W2 hb2).mono ?_
  rintro e w3 ⟨rfl, hb3⟩
  have x3 := x2.below hb3
  have hcw : Below w.heap.size w w3 := hb2.trans (hb3.mono hb2.size)
  have hs3 : w.heap.size < w3.heap.size := by have := hb3.size; omega
  clear hb3 hb2 x2 hs2
  obtain ⟨W4, hW4⟩ : ∃ W, W = w3.alloc (Obj.cells #[Value.int .i64 0, Value.int .i64 (-1)] 39) := ⟨_, rfl⟩
  have hb4 : Below w3.heap.size w3 W4 := by rw [hW4]; exact below_new _ _
  have x4 := x3.below hb4
  have r4 : RBox W4 w3.heap.size 0 (-1) := by rw [hW4]; exact heap_alloc_new _ _
  have hc4 : Below w.heap.size w W4 := hcw.trans (hb4.mono hcw.size)
  obtain ⟨p0, p1⟩ := x4.cells
  obtain ⟨q0, q1, _⟩ := cells_of_two r4
  rw [hW4] at p0 p1 q0 q1
  go_wp2_with fail
  rw [← hW4]
  refine (unhide RN W4 hc4).mono ?_
  rintro e w5 ⟨rfl, hb5⟩
  have x5 := x4.below hb5
  have r5 : RBox w5 w3.heap.size 0 (-1) := (hb5.block _ (by rw [hW4]; simp)).trans r4
  have hc5 : Below w.heap.size w w5 := hc4.trans (hb5.mono hc4.size)
  have hs5 : w3.heap.size < w5.heap.size := by have := hb5.size; rw [hW4] at this; simp at this; omega
  clear p0 p1 q0 q1 hb5 hc4 hcw hb4 x3 x4 r4 hW4
  obtain ⟨p0, p1⟩ := x5.cells
  obtain ⟨q0, q1, _⟩ := cells_of_two r5
  have HK5 : Hid (KBox w5 g 1 (.slice none 0 0) (.slice none 0 0) 0) := (unhide HK).below hc5
  obtain ⟨k0, k1, k2, k3, k4, k5, k6, k7, k8⟩ := (unhide HK5).cells
  have kf := (unhide HK5).froz
  have hbd : Below w.heap.size w w5.drew := hc5.drew
  have HR5 := hide r5
  clear x5 r5
  go_wp2_with fail
  have hw5 : w.heap.size < w5.heap.size := by omega
  have hg0 : w.heap.size ≠ g := by omega
  have hg1 : w3.heap.size ≠ g := by omega
  go_region_with
    (first | (go_at_call 78; refine (unhide CP _ hbd).mono ?_; rintro e w6 ⟨⟨d, rfl, hd⟩, hb6⟩; obtain ⟨v0, v1, rfl, hd0, hd1, hdn⟩ := hd; obtain ⟨A0, C0, rfl, _⟩ := StrsAt.of_own hd0; obtain ⟨A1, C1, rfl, _⟩ := PutsAt.of_own hd1; have HK6 : Hid (KBox w6 g 1 (.slice none 0 0) (.slice none 0 0) 0) := KBox.below (w := w5.drew) (unhide HK5) hb6; obtain ⟨j0, j1, j2, j3, j4, j5, j6, j7, j8⟩ := (unhide HK6).cells; have jf := (unhide HK6).froz; have HR6 : Hid (RBox w6 w3.heap.size 0 (-1)) := (hb6.block _ hs5).trans (unhide HR5); obtain ⟨t0, t1, _⟩ := cells_of_two (unhide HR6)))
  all_goals
    have hw6 : Below w.heap.size w w6 := hc5.drew.trans (hb6.mono hc5.size)
    have HD0 := hide hd0
    have HD1 := hide hd1
    have HW6 := hide hw6
    have hle : w.heap.size ≤ w5.drew.heap.size := hc5.size
    clear hd0 hd1 hw6 hb6 j0 j1 j2 j3 j4 j5 j6 j7 j8 jf t0 t1
    go_wp2
    go_ret
    have hkp := KBox.keptAll w6 g (.slice A0 L.length C0) (.slice A1 0 C1) (-1)
    have hdev : DevOwn w6 w.heap.size (.agg #[.slice A0 L.length C0, .slice A1 0 C1]) L [] := ⟨_, _, rfl, own_lower hle (unhide HD0), own_lower hle (unhide HD1), hdn⟩
    refine ⟨rfl, _, _, (unhide HK6).all _ _ _, hdev.kept hkp (fun k hk => ?_), (Kept.of_below (unhide HW6)).trans hkp⟩
    have := (hdev.blk k hk).1
    omega
end Go.Proofs.YtjhnippfepbjmaaGreatDoor
