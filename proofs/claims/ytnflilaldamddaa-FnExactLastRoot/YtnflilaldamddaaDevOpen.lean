/-
  A device that comes in as an argument: its rows, read.
-/
import Derived.Test.YtnflilaldamddaaDevSize
import Derived.Lib.SmallJoins
import Derived.SliceStrings
import Derived.Deep.SlicePairs
import Derived.ShutString
namespace Go.Proofs.Ytnflilaldamddaa
open Go.ChangeShapes Go.WideShapes Go.ChangeAt Go.RowKit

theorem cells_dev : Try.prog.cellsOf 46 = 2 := by kernel_rfl
theorem cells_put : Try.prog.cellsOf 84 = 2 := by kernel_rfl
theorem cells_str : Try.prog.cellsOf 9 = 1 := by kernel_rfl
theorem cells_int : Try.prog.cellsOf 3 = 1 := by kernel_rfl

theorem strs_open {H : Type} {enc : TypeId × Value → H} {W : World} {spare : Nat → Bool} {held : Bool} {fuel : Nat} {v : Value} {x : DataW H × List MemPlace} (hsp : ∀ b, spare b = true)
    (h : DataW.trod enc Try.prog W 0 spare held fuel 33 [v] = some x) :
    ∃ a n c L, v = .slice a n c ∧ StrsAt W a n W.heap.size L ∧ L.length ≤ 9223372036854775807 ∧ ∀ s ∈ L, s.size ≤ 9223372036854775807 := by
  rcases open_strings Try.underlying33 Try.underlying9 cells_str h with ⟨hcs, _⟩ | ⟨a, len, cap, ss, hcs, _, hl, hm, hz, _, hcell, hws⟩
  · simp at hcs
    exact ⟨none, 0, 0, [], hcs, ⟨rfl, fun j hj => by simp at hj⟩, by simp, by simp⟩
  · simp at hcs
    rw [if_pos (hsp _)] at hz
    refine ⟨some a, len, cap, ss.take len, hcs, ⟨by simp; omega, fun j hj => ?_⟩, ?_, ?_⟩
    · have hj1 : j < len := by simp at hj; omega
      have hc := hcell j (by omega)
      obtain ⟨b, off, spot⟩ := a
      have hspot : spot = none := by simpa [Addr.add] using World.cell?_spot (hcell 0 (by omega))
      subst hspot
      rw [Addr.add_lit] at hc
      refine ⟨b, off, rfl, by simpa using World.block_lt_of_cell? W _ hc, ?_⟩
      rw [hc]
      have hjs : j < ss.length := by omega
      simp [hjs]
    · unfold maxLen at hm
      simp
      omega
    · intro s hs
      have := hws s (List.mem_of_mem_take hs)
      unfold maxLen at this
      omega

theorem puts_open {H : Type} {enc : TypeId × Value → H} {W : World} {spare : Nat → Bool} {held : Bool} {fuel : Nat} {v : Value} {x : DataW H × List MemPlace} (hsp : ∀ b, spare b = true)
    (h : DataW.trod enc Try.prog W 0 spare held fuel 44 [v] = some x) :
    ∃ a n c Q, v = .slice a n c ∧ PutsAt W a n W.heap.size Q ∧ Q.length ≤ 9223372036854775807 ∧ ∀ q ∈ Q, q.2.size ≤ 9223372036854775807 := by
  rcases Deep.open_slice_pairs Try.underlying44 Try.underlying84 cells_put rfl rfl cells_int cells_str h with ⟨hcs, _⟩ | ⟨a, len, cap, m, n, V0, V1, D0, D1, P0, P1, hcs, _, hl, hm, hmm, _, hcell⟩
  · simp at hcs
    exact ⟨none, 0, 0, [], hcs, ⟨rfl, fun j hj => by simp at hj⟩, by simp, by simp⟩
  · simp at hcs
    rw [if_pos (hsp _)] at hmm
    subst hmm
    have hv : ∀ i, i < m → ∃ (y : Int) (s : ByteArray), V0 i = .int .i64 y ∧ V1 i = .string s ∧ s.size ≤ 9223372036854775807 := by
      intro i hi
      obtain ⟨_, _, h0, h1⟩ := hcell i hi
      obtain ⟨y, e0, _, _⟩ := DataW.trod_int Try.underlying3 h0
      obtain ⟨s, e1, _, hs⟩ := DataW.trod_string Try.underlying9 h1
      simp at e0 e1
      refine ⟨y, s, e0, e1, ?_⟩
      unfold maxLen at hs
      omega
    let X : Nat → Int × ByteArray := fun i => if hi : i < m then ((hv i hi).choose, (hv i hi).choose_spec.choose) else (0, ⟨#[]⟩)
    have hX : ∀ i, i < m → V0 i = .int .i64 (X i).1 ∧ V1 i = .string (X i).2 ∧ (X i).2.size ≤ 9223372036854775807 := by
      intro i hi
      have hsp2 := (hv i hi).choose_spec.choose_spec
      simp only [X, hi, dif_pos]
      exact hsp2
    refine ⟨some a, len, m, (List.range len).map X, hcs, ⟨by simp, fun j hj => ?_⟩, by unfold maxLen at hm; simp; omega, ?_⟩
    · have hj1 : j < len := by simpa using hj
      obtain ⟨b, off, spot⟩ := a
      have hspot : spot = none := by simpa [Addr.add] using World.cell?_spot (hcell 0 (by omega)).1
      subst hspot
      obtain ⟨h0, h1, _, _⟩ := hcell j (by omega)
      obtain ⟨e0, e1, _⟩ := hX j (by omega)
      rw [Addr.add_lit, e0] at h0
      rw [Addr.add_lit, e1] at h1
      refine ⟨b, off, rfl, by simpa using World.block_lt_of_cell? W _ h0, ?_, ?_⟩
      · rw [h0]; simp
      · rw [← Nat.add_assoc] at h1
        rw [h1]; simp
    · intro q hq
      obtain ⟨i, hi, rfl⟩ := List.mem_map.1 hq
      exact (hX i (by simp at hi; omega)).2.2

set_option maxRecDepth 100000 in
/-- A device that came in. -/
theorem dev_open {H : Type} {enc : TypeId × Value → H} {W : World} {r : Reach} {b0 : Nat} {spare : Nat → Bool} {held : Bool} {v : Value} {d : DataW H} {p : List MemPlace} (hsp : ∀ b, spare b = true)
    (hv : Value.okWide Try.prog W r b0 46 v) (h : DataW.Trod enc Try.prog W 0 spare held 46 v d p) : ∃ L Q, DevAt W v W.heap.size L Q ∧ Sane L Q := by
  obtain ⟨v0, v1, y0, y1, n, rfl, _, _, h0, h1⟩ := Joins.open_agg2 Try.underlying46 (by kernel_rfl) cells_dev hv h
  obtain ⟨a, k, c, L, rfl, hL, hL1, hL2⟩ := strs_open hsp h0
  obtain ⟨a', k', c', Q, rfl, hQ, hQ1, hQ2⟩ := puts_open hsp h1
  exact ⟨L, Q, ⟨a, k, c, a', k', c', rfl, hL, hQ⟩, hL1, hQ1, hL2, hQ2⟩
end Go.Proofs.Ytnflilaldamddaa
