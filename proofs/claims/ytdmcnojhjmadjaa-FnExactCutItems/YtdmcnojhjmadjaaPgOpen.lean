/-
  Items and pages that come in as arguments, read.
-/
import Derived.Test.YtdmcnojhjmadjaaPgAt
import Derived.Lib.SmallJoins
import Derived.Deep.Slices
import Derived.ShutString
namespace Go.Proofs.Ytdmcnojhjmadjaa
namespace Pg
open Go.ChangeShapes Go.WideShapes Go.ChangeAt Go.RowKit

theorem cells_item : Try.prog.cellsOf 66 = 3 := by kernel_rfl

theorem cells_str : Try.prog.cellsOf 9 = 1 := by kernel_rfl

theorem cells_int : Try.prog.cellsOf 3 = 1 := by kernel_rfl

set_option maxRecDepth 100000 in
theorem item_cells {H : Type} {enc : TypeId × Value → H} {W : World} {base : Nat} {spare : Nat → Bool} {held : Bool} {n : Nat} {cs : List Value} {x : DataW H × List MemPlace} (hl : cs.length = 3)
    (h : DataW.trod enc Try.prog W base spare held n 66 cs = some x) : ∃ y : It, cs = [.string y.key, .string y.val, .int .i64 y.pg] ∧ ItSane y := by
  obtain ⟨xs, k, hk, hxy, _, hxl, hf⟩ := DataW.trod_struct Try.underlying66 h
  match cs, hl with
  | [v0, v1, v2], _ =>
    have hl3 : xs.length = 3 := by simpa using hxl
    match xs, hl3 with
    | [y0, y1, y2], _ =>
      have g0 := hf 0 _ rfl
      have g1 := hf 1 _ rfl
      have g2 := hf 2 _ rfl
      simp [cells_str, cells_int] at g0 g1 g2
      obtain ⟨s0, e0, _, hs0⟩ := DataW.trod_string Try.underlying9 g0
      obtain ⟨s1, e1, _, hs1⟩ := DataW.trod_string Try.underlying9 g1
      obtain ⟨z, e2, _, _⟩ := DataW.trod_int Try.underlying3 g2
      simp at e0 e1 e2
      subst e0 e1 e2
      unfold maxLen at hs0 hs1
      exact ⟨⟨s0, s1, z⟩, rfl, ⟨by simp only; omega, by simp only; omega⟩⟩

theorem items_open {H : Type} {enc : TypeId × Value → H} {W : World} {spare : Nat → Bool} {held : Bool} {fuel : Nat} {v : Value} {x : DataW H × List MemPlace} (_hsp : ∀ b, spare b = true)
    (h : DataW.trod enc Try.prog W 0 spare held fuel 29 [v] = some x) :
    ∃ a n c Q, v = .slice a n c ∧ ItemsAt W a n W.heap.size Q ∧ Q.length ≤ 9223372036854775807 ∧ ∀ q ∈ Q, ItSane q := by
  rcases Deep.open_slice Try.underlying29 h with ⟨hcs, _⟩ | ⟨a, len, cap, m, n, D, Pl, hcs, hb, hl, hm, hmm, _, hx⟩
  · simp at hcs
    exact ⟨none, 0, 0, [], hcs, ⟨rfl, fun j hj => by simp at hj⟩, by simp, by simp⟩
  · simp at hcs
    have hlm : len ≤ m := by rw [hmm]; split <;> omega
    have hv : ∀ i, i < m → ∃ y : It, ItSane y ∧ W.cell? (a.add (i * 3)) = some (.string y.key) ∧ W.cell? (a.add (i * 3 + 1)) = some (.string y.val) ∧ W.cell? (a.add (i * 3 + 2)) = some (.int .i64 y.pg) := by
      intro i hi
      obtain ⟨cs', h1, h2⟩ := hx i hi
      rw [cells_item] at h1
      obtain ⟨_, hlen, hcell⟩ := World.cells?_some h1
      obtain ⟨y, rfl, hy⟩ := item_cells hlen h2
      have e0 := hcell 0 (by omega)
      have e1 := hcell 1 (by omega)
      have e2 := hcell 2 (by omega)
      rw [Deep.add_add] at e0 e1 e2
      exact ⟨y, hy, by simpa using e0, by simpa using e1, by simpa using e2⟩
    let X : Nat → It := fun i => if hi : i < m then (hv i hi).choose else ⟨⟨#[]⟩, ⟨#[]⟩, 0⟩
    have hX : ∀ i, i < m → ItSane (X i) ∧ W.cell? (a.add (i * 3)) = some (.string (X i).key) ∧ W.cell? (a.add (i * 3 + 1)) = some (.string (X i).val) ∧ W.cell? (a.add (i * 3 + 2)) = some (.int .i64 (X i).pg) := by
      intro i hi
      have hsp2 := (hv i hi).choose_spec
      simp only [X, hi, dif_pos]
      exact hsp2
    refine ⟨some a, len, cap, (List.range len).map X, hcs, ⟨by simp, fun j hj => ?_⟩, by unfold maxLen at hm; simp; omega, ?_⟩
    · have hj1 : j < len := by simpa using hj
      obtain ⟨b, off, spot⟩ := a
      have hspot : spot = none := by simpa [Addr.add] using World.cell?_spot (hX 0 (by omega)).2.1
      subst hspot
      obtain ⟨_, h0, h1, h2⟩ := hX j (by omega)
      rw [Addr.add_lit] at h0 h1 h2
      refine ⟨b, off, rfl, by simpa using World.block_lt_of_cell? W _ h0, ?_, ?_, ?_⟩
      · rw [h0]; simp
      · rw [← Nat.add_assoc] at h1
        rw [h1]; simp
      · rw [← Nat.add_assoc] at h2
        rw [h2]; simp
    · intro q hq
      obtain ⟨i, hi, rfl⟩ := List.mem_map.1 hq
      exact (hX i (by simp at hi; omega)).1

set_option maxRecDepth 100000 in
/-- An item that came in. -/
theorem item_open {H : Type} {enc : TypeId × Value → H} {W : World} {r : Reach} {b0 : Nat} {spare : Nat → Bool} {held : Bool} {v : Value} {d : DataW H} {p : List MemPlace}
    (hv : Value.okWide Try.prog W r b0 66 v) (h : DataW.Trod enc Try.prog W 0 spare held 66 v d p) : ∃ x, v = itV x ∧ ItSane x := by
  obtain ⟨v0, v1, v2, y0, y1, y2, n, rfl, _, _, h0, h1, h2⟩ := Joins.open_agg3 Try.underlying66 (by kernel_rfl) cells_item hv h
  obtain ⟨s0, e0, _, hs0⟩ := DataW.trod_string Try.underlying9 h0
  obtain ⟨s1, e1, _, hs1⟩ := DataW.trod_string Try.underlying9 h1
  obtain ⟨z, e2, _, _⟩ := DataW.trod_int Try.underlying3 h2
  simp at e0 e1 e2
  subst e0 e1 e2
  unfold maxLen at hs0 hs1
  exact ⟨⟨s0, s1, z⟩, rfl, ⟨by simp only; omega, by simp only; omega⟩⟩

end Pg
end Go.Proofs.Ytdmcnojhjmadjaa
