/-
  A row of pairs that comes in as an argument, read.
-/
import Derived.Test.YtdmcnojhjmadjaaTrPair
import Derived.Lib.SmallJoins
import Derived.SliceStrings
import Derived.Deep.SlicePairs
import Derived.ShutString
namespace Go.Proofs.Ytdmcnojhjmadjaa
namespace Tr
open Go.ChangeShapes Go.WideShapes Go.ChangeAt Go.RowKit

theorem cells_pair : Try.prog.cellsOf 59 = 2 := by kernel_rfl
theorem cells_str : Try.prog.cellsOf 9 = 1 := by kernel_rfl

theorem pairs_open {H : Type} {enc : TypeId × Value → H} {W : World} {spare : Nat → Bool} {held : Bool} {fuel : Nat} {v : Value} {x : DataW H × List MemPlace} (hsp : ∀ b, spare b = true)
    (h : DataW.trod enc Try.prog W 0 spare held fuel 22 [v] = some x) :
    ∃ a n c Q, v = .slice a n c ∧ PairsAt W a n W.heap.size Q ∧ Q.length ≤ 9223372036854775807 ∧ ∀ q ∈ Q, q.1.size ≤ 9223372036854775807 ∧ q.2.size ≤ 9223372036854775807 := by
  rcases Deep.open_slice_pairs Try.underlying22 Try.underlying59 cells_pair rfl rfl cells_str cells_str h with ⟨hcs, _⟩ | ⟨a, len, cap, m, n, V0, V1, D0, D1, P0, P1, hcs, _, hl, hm, hmm, _, hcell⟩
  · simp at hcs
    exact ⟨none, 0, 0, [], hcs, ⟨rfl, fun j hj => by simp at hj⟩, by simp, by simp⟩
  · simp at hcs
    rw [if_pos (hsp _)] at hmm
    subst hmm
    have hv : ∀ i, i < m → ∃ (y s : ByteArray), V0 i = .string y ∧ V1 i = .string s ∧ y.size ≤ 9223372036854775807 ∧ s.size ≤ 9223372036854775807 := by
      intro i hi
      obtain ⟨_, _, h0, h1⟩ := hcell i hi
      obtain ⟨y, e0, _, hy⟩ := DataW.trod_string Try.underlying9 h0
      obtain ⟨s, e1, _, hs⟩ := DataW.trod_string Try.underlying9 h1
      simp at e0 e1
      refine ⟨y, s, e0, e1, ?_⟩
      unfold maxLen at hs hy
      omega
    let X : Nat → ByteArray × ByteArray := fun i => if hi : i < m then ((hv i hi).choose, (hv i hi).choose_spec.choose) else (⟨#[]⟩, ⟨#[]⟩)
    have hX : ∀ i, i < m → V0 i = .string (X i).1 ∧ V1 i = .string (X i).2 ∧ (X i).1.size ≤ 9223372036854775807 ∧ (X i).2.size ≤ 9223372036854775807 := by
      intro i hi
      have hsp2 := (hv i hi).choose_spec.choose_spec
      simp only [X, hi, dif_pos]
      exact hsp2
    refine ⟨some a, len, m, (List.range len).map X, hcs, ⟨by simp, fun j hj => ?_⟩, by unfold maxLen at hm; simp; omega, ?_⟩
    · have hj1 : j < len := by simpa using hj
      obtain ⟨b, off, spot⟩ := a
      have hspot : spot = none := by simpa [Addr.add] using World.cell?_spot (hcell 0 (by omega)).1
      subst hspot
      obtain ⟨h0, h1, _, _⟩ := hcell j (by omega)
      obtain ⟨e0, e1, _⟩ := hX j (by omega)
      rw [Addr.add_lit, e0] at h0
      rw [Addr.add_lit, e1] at h1
      refine ⟨b, off, rfl, by simpa using World.block_lt_of_cell? W _ h0, ?_, ?_⟩
      · rw [h0]; simp
      · rw [← Nat.add_assoc] at h1
        rw [h1]; simp
    · intro q hq
      obtain ⟨i, hi, rfl⟩ := List.mem_map.1 hq
      exact (hX i (by simp at hi; omega)).2.2
end Tr
end Go.Proofs.Ytdmcnojhjmadjaa
