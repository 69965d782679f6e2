/-
  What laws.FnPages' walk wants beside the pages' contracts: the places, a row with one byte turned.
-/
import Derived.Test.YtajajfmaekdphaaPgTrip
import Derived.Test.YtajajfmaekdphaaDrawPPlaces
import Derived.Test.YtajajfmaekdphaaPgText2
import Derived.Test.YtajajfmaekdphaaPgSpec3
import Derived.Test.YtajajfmaekdphaaPgRImpl
namespace Go.Proofs.Ytajajfmaekdphaa
open Go.RowKit

theorem code_mono {a : Option Addr} {len B C : Nat} {w : World} (h : Code a len B w) (hC : B ≤ C) : Code a len C w := by
  intro j hj
  obtain ⟨b, off, z, e, hb, hc, h0, h1⟩ := h j hj
  exact ⟨b, off, z, e, by omega, hc, h0, h1⟩

theorem big_any (a : Option Addr) (len cap : Nat) (w : World) :
    Calls Try.prog 8 #[.slice a len cap] w fun e w' => e = .returned (.bool (decide ((1048576 : Int) < (len : Int)))) ∧ w = w' := by
  go_enter Try.func8, Try.ntmps8
  go_wp2
  go_ret
  exact ⟨rfl, rfl⟩

/-- A row of twelve places, read. -/
theorem places_at {w : World} {B : Nat} {v : Value} {l : List Int} (hp : ∀ x ∈ l, 0 ≤ x ∧ x < 10000) (h : w.ownsRow B 3 1 v 12 (intsV l)) :
    ∃ (g c : Nat) (x y : Int), v = .slice (some ⟨g, 0, none⟩) 12 c ∧ g < w.heap.size ∧ w.cell? ⟨g, 0, none⟩ = some (.int .i64 x) ∧ w.cell? ⟨g, 1, none⟩ = some (.int .i64 y) ∧ 0 ≤ x ∧ x < 10000 ∧ 0 ≤ y ∧ y < 10000 := by
  have h0 := h
  have hl : l.length = 12 := by have := h.1; simpa [intsV] using this
  rcases h.2 with ⟨_, hn⟩ | ⟨g, c, cur, rfl, hg, hh, _⟩
  · omega
  · have c0 := h0.cellAt 0 (by omega)
    have c1 := h0.cellAt 1 (by omega)
    have e0 : (intsV l)[0]? = some (.int .i64 l[0]) := by simp [intsV]
    have e1 : (intsV l)[1]? = some (.int .i64 l[1]) := by simp [intsV]
    refine ⟨g, c, l[0], l[1], rfl, (h0.lt g rfl).2, ?_, ?_, (hp _ (List.getElem_mem _)).1, (hp _ (List.getElem_mem _)).2, (hp _ (List.getElem_mem _)).1, (hp _ (List.getElem_mem _)).2⟩
    · rw [c0, e0]
    · rw [c1, e1]

theorem getD_of {l : List UInt8} {i : Nat} (h : i < l.length) : l.getD i 0 = l[i] := by simp [List.getD, h]

/-- A text's row, and the row with one byte turned. -/
theorem row_facts (w : World) (T : ByteArray) (cp i d : Nat) (hi : i < T.size) (hd : d ≤ 254) :
    ∃ z k : UInt8, z.toNat < 256 ∧ bits .xor .u8 (z.toNat : Int) (1 + (d : Int)) = (k.toNat : Int) ∧
      (w.alloc (Obj.cells (bytesRow T cp) 5 ((bytesRow T cp).size, (bytesRow T cp).size + 1))).cell? ⟨w.heap.size, i, none⟩ = some (.int .u8 (z.toNat : Int)) ∧
      (w.alloc (Obj.cells (bytesRow T cp) 5 ((bytesRow T cp).size, (bytesRow T cp).size + 1))).frozen? ⟨w.heap.size, i, none⟩ = false ∧
      Hid (i < T.data.toList.length ∧ k ≠ T.data.toList.getD i 0) ∧
      Hid (∀ j (hj : j < (T.data.toList.set i k).length), ((bytesRow T cp).setIfInBounds i (.int .u8 (k.toNat : Int)))[j]? = some (.int .u8 ((T.data.toList.set i k)[j].toNat : Int))) := by
  have hi1 : i < T.data.toList.length := by simpa using hi
  have hRi : (bytesRow T cp)[i]? = some (.int .u8 (T.data.toList[i].toNat : Int)) := by
    rw [bytesRow_at _ _ _ (by simpa using hi1)]
    simp
  refine ⟨T.data.toList[i], T.data.toList[i] ^^^ UInt8.ofNat (1 + d), UInt8.toNat_lt _, ?_, ?_, ?_, ⟨hi1, ?_⟩, ?_⟩
  · have h := u8_xor_nat T.data.toList[i].toNat (1 + d) (UInt8.toNat_lt _) (by omega)
    rw [UInt8.toNat_xor, toNat_ofNat_small _ (by omega)]
    simpa using h
  · rw [cell_of_row _ _ _ _ _ _ (heap_alloc_new w _), hRi]
  · have hlt : i < (bytesRow T cp).size := (Array.getElem?_eq_some_iff.1 hRi).1
    simp only [World.frozen?, heap_alloc_new w]
    simp
    omega
  · rw [getD_of hi1]
    refine xor_other _ _ (fun e => ?_)
    have h := congrArg UInt8.toNat e
    rw [toNat_ofNat_small _ (by omega)] at h
    simp at h
  · intro j hj
    have hj1 : j < T.data.toList.length := by simpa using hj
    rw [Array.getElem?_setIfInBounds]
    by_cases e : i = j
    · subst e
      have hlt : i < (bytesRow T cp).size := (Array.getElem?_eq_some_iff.1 hRi).1
      simp [hlt]
    · rw [if_neg e, bytesRow_at _ _ _ (by simpa using hj1)]
      simp [e]

theorem back_turned (w : World) (T : ByteArray) (cp i n : Nat) (k : UInt8) (hn : T.size = n)
    (hW : ∀ j (hj : j < (T.data.toList.set i k).length), ((bytesRow T cp).setIfInBounds i (.int .u8 (k.toNat : Int)))[j]? = some (.int .u8 ((T.data.toList.set i k)[j].toNat : Int))) :
    (convert 22 9 (.slice (some ⟨w.heap.size, 0, none⟩) n cp)).run Try.prog (((w.alloc (Obj.cells (bytesRow T cp) 5 ((bytesRow T cp).size, (bytesRow T cp).size + 1))).setCell ⟨w.heap.size, i, none⟩ (.int .u8 (k.toNat : Int))).drew.drew) =
      .ok (.string (ofL (T.data.toList.set i k))) (((w.alloc (Obj.cells (bytesRow T cp) 5 ((bytesRow T cp).size, (bytesRow T cp).size + 1))).setCell ⟨w.heap.size, i, none⟩ (.int .u8 (k.toNat : Int))).drew.drew) := by
  have hlen : n = (T.data.toList.set i k).length := by rw [← hn]; simp
  rw [hlen]
  refine run_convert_bytes_back _ 22 9 5 ⟨w.heap.size, 0, none⟩ cp _ Try.underlying22 Try.underlying5 Try.underlying9 fun j hj => ?_
  rw [Addr.add_lit, Nat.zero_add, ← hW j hj]
  have hrow : (((w.alloc (Obj.cells (bytesRow T cp) 5 ((bytesRow T cp).size, (bytesRow T cp).size + 1))).setCell ⟨w.heap.size, i, none⟩ (.int .u8 (k.toNat : Int))).drew.drew).heap[w.heap.size]? = some (.cells ((bytesRow T cp).setIfInBounds i (.int .u8 (k.toNat : Int))) 5 ((bytesRow T cp).size, (bytesRow T cp).size + 1)) := by
    show ((w.alloc (Obj.cells (bytesRow T cp) 5 ((bytesRow T cp).size, (bytesRow T cp).size + 1))).setCell ⟨w.heap.size, i, none⟩ (.int .u8 (k.toNat : Int))).heap[w.heap.size]? = _
    rw [setCell_eq_setRow _ _ _ _ _ _ _ (heap_alloc_new w _)]
    exact setRow_heap _ _ _ _ _ _ (heap_alloc_new w _)
  exact cell_of_row _ _ _ _ _ _ hrow

end Go.Proofs.Ytajajfmaekdphaa
