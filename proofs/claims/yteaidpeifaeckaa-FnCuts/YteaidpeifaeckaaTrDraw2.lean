/-
  The contract of spec.l05AnyMap: some row of at most 121 small pairs, new; nothing old but the cursor is written.
-/
import Derived.Test.YteaidpeifaeckaaTrDraw1
namespace Go.Proofs.Yteaidpeifaeckaa
namespace Tr
open Go.RowKit
open Go.Proofs.Yteaidpeifaeckaa.Pg hiding part part_zero part_all part_length part_set

/-- What stands while a row of pairs is drawn. -/
structure MD (a : Option Addr) (len cap g B : Nat) (w : World) (ov : Value) (L : PL) (wr : World) : Prop where
  own : wr.ownsRow w.heap.size 38 2 ov L.length (pairsV L)
  cur : Cur a len cap g wr
  code : Pg.Code a len B wr
  kept : Kept (fun k => k = g ∨ w.heap.size ≤ k) w wr

theorem MD.drawn {a : Option Addr} {len cap g B : Nat} {w : World} {ov : Value} {L : PL} {wr w' : World} (h : MD a len cap g B w ov L wr) (hg : g < w.heap.size) (hB : B ≤ g) (hc : Cur a len cap g w') (hk : Kept (fun k => k = g) wr w') : MD a len cap g B w ov L w' :=
  ⟨hk.own h.own (fun k hk' e => by have := (h.own.lt k hk').1; omega), hc, codeK h.code hB h.cur.lt hk, h.kept.trans (hk.weak (fun k hk' => .inl hk'))⟩

theorem MD.grown {a : Option Addr} {len cap g B : Nat} {w : World} {ov : Value} {L : PL} {wr w' : World} (h : MD a len cap g B w ov L wr) (hg : g < w.heap.size) (hB : B ≤ g) (hc : Cur a len cap g w') (hk : wr.grownBy w' (some g)) : MD a len cap g B w ov L w' :=
  h.drawn hg hB hc (grown_kept hk)

theorem MD.below {a : Option Addr} {len cap g B : Nat} {w : World} {ov : Value} {L : PL} {wr w' : World} (h : MD a len cap g B w ov L wr) (hB : B ≤ g) (hb : Below wr.heap.size wr w') : MD a len cap g B w ov L w' :=
  ⟨own_below h.own hb, h.cur.kept (S := fun _ => False) (Kept.of_below hb) (by simp), h.code.below hb (by have := h.cur.lt; omega), h.kept.trans (Kept.of_below hb)⟩

/-- What stands, without the row. -/
theorem MD.empty {a : Option Addr} {len cap g B : Nat} {w : World} {ov : Value} {L : PL} {wr : World} (h : MD a len cap g B w ov L wr) (hB : B ≤ g) : MD a len cap g B w (.slice (some ⟨wr.heap.size, 0, none⟩) 0 0) [] (wr.alloc (.cells #[] 38)) := by
  have hz := h.kept.2.2.2.1
  have h2 := h.below hB (below_new wr (Obj.cells #[] 38))
  have ho : (wr.alloc (.cells #[] 38)).ownsRow wr.heap.size 38 2 (.slice (some ⟨wr.heap.size, 0, none⟩) 0 0) 0 (pairsV []) := World.ownsRow_made wr #[] 0 (by omega) (Nat.zero_le _) rfl
  have ho2 : (wr.alloc (.cells #[] 38)).ownsRow w.heap.size 38 2 (.slice (some ⟨wr.heap.size, 0, none⟩) 0 0) 0 (pairsV []) := by
    refine ⟨ho.1, ?_⟩
    rcases ho.2 with h' | ⟨q, c, u, e1, e2, e3⟩
    · exact .inl h'
    · exact .inr ⟨q, c, u, e1, Nat.le_trans hz e2, e3⟩
  exact ⟨ho2, h2.cur, h2.code, h2.kept⟩

/-- A pair is put on. -/
theorem MD.snoc {a : Option Addr} {len cap g B : Nat} {w : World} {ov v' : Value} {L : PL} {wr w' : World} {x s : ByteArray} (h : MD a len cap g B w ov L wr) (hg : g < w.heap.size) (hB : B ≤ g)
    (ho : w'.ownsRow w.heap.size 38 2 v' (L.length + 1) (pairsV L ++ [.string x, .string s])) (hg7 : (wr.alloc (.cells #[.string x, .string s] 38)).grownBy w' ov.ownBlock) : MD a len cap g B w v' (L ++ [(x, s)]) w' := by
  have hP : ∀ k, ov.ownBlock = some k → w.heap.size ≤ k := fun k hk => (h.own.lt k hk).1
  have h2 := h.below hB (below_new wr (Obj.cells #[.string x, .string s] 38))
  have hkg := Kept.of_grown hg7
  rw [← pairsV_snoc] at ho
  refine ⟨by rw [List.length_append]; exact ho, h2.cur.kept hkg (fun e => by have := hP _ e; omega), h2.code.row (fun k hk => by have := hP _ hk; omega) hg7, h2.kept.trans (hkg.weak (fun k hk => .inr (hP k hk)))⟩

set_option maxRecDepth 100000 in
set_option maxHeartbeats 1000000 in
theorem pickM_any (M : Nat) (a : Option Addr) (len cap g B b n : Nat) (X : List ByteArray) (hn : 0 < n) (hn1 : n ≤ 1000) (hX : X.length = n) (hok : ∀ y ∈ X, y.size ≤ M) (hl : len ≤ 1048576) (hB : B ≤ g) (hb : b ≠ g) (w : World) (hc : Cur a len cap g w) (hd : Pg.Code a len B w) (hx : w.heap[b]? = some (.cells (X.map fun y => Value.string y).toArray 9 (0, 0))) :
    Calls Try.prog 20 #[.pointer (some ⟨g, 0, none⟩), .slice (some ⟨b, 0, none⟩) n n] w fun e w' => (∃ y, e = .returned (Value.string y) ∧ y.size ≤ M) ∧ Cur a len cap g w' ∧ w.grownBy w' (some g) := by
  have H := hide (below_any a len cap g B (n : Int) hl hB (by omega) w hc hd)
  have HX := hide hx
  have hbl : b < w.heap.size := by
    rcases Nat.lt_or_ge b w.heap.size with h | h
    · exact h
    · rw [Array.getElem?_eq_none h] at hx; cases hx
  have HOK := hide hok
  clear hc hd hx hok
  go_enter Try.func20, Try.ntmps20
  go_wp2_with fail
  refine (unhide H).mono ?_
  rintro e w1 ⟨x, rfl, hx0, hx1, hc1, hg1⟩
  obtain ⟨j, rfl⟩ := Int.eq_ofNat_of_zero_le hx0
  have hj : j < X.length := by omega
  have hrow : w1.heap[b]? = some (.cells (X.map fun y => Value.string y).toArray 9 (0, 0)) := by rw [hg1.block b hbl (by simp; exact hb)]; exact unhide HX
  have hce : w1.cell? ⟨b, j, none⟩ = some (Value.string X[j]) := by
    rw [cell_of_row w1 b j _ 9 (0, 0) hrow]
    simp [hj]
  have hgd := unhide HOK _ (List.getElem_mem hj)
  have HC := hide hc1
  have HG := hide hg1
  generalize X[j] = y at hce hgd
  clear hc1 hg1 hrow H HX
  go_wp2
  go_ret
  exact ⟨⟨y, rfl, hgd⟩, unhide HC, unhide HG⟩

end Tr
end Go.Proofs.Yteaidpeifaeckaa
