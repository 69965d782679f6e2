/-
  Texts of this claim, one behind the other: GrGroup.
-/
import Derived.Test.YtldbanpfhlmjmaaJ4
import Derived.Test.YtldbanpfhlmjmaaJ6

/-
  Groups and proofs in memory: rows of structs that hold a row each; what came in.
-/
namespace Go.Proofs.Ytldbanpfhlmjmaa
namespace Gr
open Go.ChangeShapes Go.WideShapes Go.ChangeAt Go.RowKit

structure GrpI where
  M : List Int
  Z : Int

/-- A row of groups that can be read, with all of its rows, below block B. -/
def groupsAt (w : World) (a : Option Addr) (len B : Nat) (G : List GrpI) : Prop :=
  G.length = len ∧ ∀ j (h : j < G.length), ∃ b off a' c', a = some ⟨b, off, none⟩ ∧ b < B ∧ w.cell? ⟨b, off + j * 2, none⟩ = some (.slice a' G[j].M.length c') ∧ w.cell? ⟨b, off + j * 2 + 1, none⟩ = some (.int .i64 G[j].Z) ∧ IntsAt w a' G[j].M.length B G[j].M

theorem groupsAt.below {w w' : World} {a : Option Addr} {len B C : Nat} {G : List GrpI} (h : groupsAt w a len B G) (hb : Below C w w') (hC : B ≤ C) : groupsAt w' a len B G := by
  refine ⟨h.1, fun j hj => ?_⟩
  obtain ⟨b, off, a', c', e, hbB, c0, c1, hI⟩ := h.2 j hj
  exact ⟨b, off, a', c', e, hbB, (by rw [hb.cell (p := ⟨b, off + j * 2, none⟩) (by simp; omega)]; exact c0), (by rw [hb.cell (p := ⟨b, off + j * 2 + 1, none⟩) (by simp; omega)]; exact c1), hI.below hb hC⟩

theorem groupsAt.mono {w : World} {a : Option Addr} {len B C : Nat} {G : List GrpI} (h : groupsAt w a len B G) (hC : B ≤ C) : groupsAt w a len C G := by
  refine ⟨h.1, fun j hj => ?_⟩
  obtain ⟨b, off, a', c', e, hbB, c0, c1, hI⟩ := h.2 j hj
  refine ⟨b, off, a', c', e, by omega, c0, c1, ⟨hI.1, fun k hk => ?_⟩⟩
  obtain ⟨b2, off2, e2, hb2, hc2⟩ := hI.2 k hk
  exact ⟨b2, off2, e2, by omega, hc2⟩

/-- Lengths that are lengths. -/
def PrIn (Y : List Int) (G : List GrpI) : Prop := Y.length ≤ 9223372036854775807 ∧ G.length ≤ 9223372036854775807 ∧ ∀ q ∈ G, q.M.length ≤ 9223372036854775807

/-- A proof that can be read. -/
def PrAt (w : World) (v : Value) (B : Nat) (Y : List Int) (G : List GrpI) : Prop := ∃ a n c a' n' c', v = .agg #[.slice a n c, .slice a' n' c'] ∧ IntsAt w a n B Y ∧ groupsAt w a' n' B G ∧ PrIn Y G

theorem PrAt.below {w w' : World} {v : Value} {B C : Nat} {Y : List Int} {G : List GrpI} (h : PrAt w v B Y G) (hb : Below C w w') (hC : B ≤ C) : PrAt w' v B Y G := by
  obtain ⟨a, n, c, a', n', c', rfl, hY, hG, hI⟩ := h
  exact ⟨a, n, c, a', n', c', rfl, hY.below hb hC, hG.below hb hC, hI⟩

theorem PrAt.mono {w : World} {v : Value} {B C : Nat} {Y : List Int} {G : List GrpI} (h : PrAt w v B Y G) (hC : B ≤ C) : PrAt w v C Y G := by
  obtain ⟨a, n, c, a', n', c', rfl, hY, hG, hI⟩ := h
  refine ⟨a, n, c, a', n', c', rfl, ⟨hY.1, fun k hk => ?_⟩, hG.mono hC, hI⟩
  obtain ⟨b2, off2, e2, hb2, hc2⟩ := hY.2 k hk
  exact ⟨b2, off2, e2, by omega, hc2⟩

/-- How many values a row of groups has, in all. -/
def gbulk : List GrpI → Nat
  | [] => 0
  | x :: r => x.M.length + gbulk r

theorem cells_group : Try.prog.cellsOf 100 = 2 := by kernel_rfl

theorem cells_intS : Try.prog.cellsOf 26 = 1 := by kernel_rfl

set_option maxRecDepth 100000 in
theorem group_cells {H : Type} {enc : TypeId × Value → H} {W : World} {spare : Nat → Bool} {held : Bool} {n : Nat} {cs : List Value} {x : DataW H × List MemPlace} (hsp : ∀ b, spare b = true) (hl : cs.length = 2)
    (h : DataW.trod enc Try.prog W 0 spare held n 100 cs = some x) : ∃ (y : GrpI) (a : Option Addr) (c : Nat), cs = [.slice a y.M.length c, .int .i64 y.Z] ∧ IntsAt W a y.M.length W.heap.size y.M ∧ y.M.length ≤ 9223372036854775807 := by
  obtain ⟨xs, k, hk, hxy, _, hxl, hf⟩ := DataW.trod_struct Try.underlying100 h
  match cs, hl with
  | [v0, v1], _ =>
    have hl2 : xs.length = 2 := by simpa using hxl
    match xs, hl2 with
    | [y0, y1], _ =>
      have g0 := hf 0 _ rfl
      have g1 := hf 1 _ rfl
      simp [cells_intS, cells_int] at g0 g1
      obtain ⟨z, e1, _, _⟩ := DataW.trod_int Try.underlying3 g1
      simp at e1
      subst e1
      have g0' : DataW.trod enc Try.prog W 0 spare held _ 26 [v0] = some y0 := g0
      have hone : [v0] = v0.cells.toList := by
        rcases Deep.open_slice Try.underlying26 g0' with ⟨hcs, _⟩ | ⟨a, len, cap, m, n, D, Pl, hcs, _⟩
        · simp at hcs; subst hcs; rfl
        · simp at hcs; subst hcs; rfl
      rw [hone] at g0'
      obtain ⟨a, n', c, K, hcs, hK, _, hn⟩ := ints_open hsp g0'
      rw [← hone] at hcs
      simp at hcs
      subst hcs
      obtain rfl : n' = K.length := hK.1.symm
      exact ⟨⟨K, z⟩, a, c, rfl, hK, hn⟩

theorem groups_open {H : Type} {enc : TypeId × Value → H} {W : World} {spare : Nat → Bool} {held : Bool} {fuel : Nat} {v : Value} {x : DataW H × List MemPlace} (hsp : ∀ b, spare b = true)
    (h : DataW.trod enc Try.prog W 0 spare held fuel 27 [v] = some x) :
    ∃ a n c G, v = .slice a n c ∧ groupsAt W a n W.heap.size G ∧ G.length ≤ 9223372036854775807 ∧ ∀ q ∈ G, q.M.length ≤ 9223372036854775807 := by
  rcases Deep.open_slice Try.underlying27 h with ⟨hcs, _⟩ | ⟨a, len, cap, m, n, D, Pl, hcs, hb, hl, hm, hmm, _, hx⟩
  · simp at hcs
    exact ⟨none, 0, 0, [], hcs, ⟨rfl, fun j hj => by simp at hj⟩, by simp, by simp⟩
  · simp at hcs
    have hlm : len ≤ m := by rw [hmm]; split <;> omega
    have hv : ∀ i, i < m → ∃ y : GrpI, y.M.length ≤ 9223372036854775807 ∧ ∃ (a' : Option Addr) (c' : Nat), W.cell? (a.add (i * 2)) = some (.slice a' y.M.length c') ∧ W.cell? (a.add (i * 2 + 1)) = some (.int .i64 y.Z) ∧ IntsAt W a' y.M.length W.heap.size y.M := by
      intro i hi
      obtain ⟨cs', h1, h2⟩ := hx i hi
      rw [cells_group] at h1
      obtain ⟨_, hlen, hcell⟩ := World.cells?_some h1
      obtain ⟨y, a', c', rfl, hy, hyl⟩ := group_cells hsp hlen h2
      have e0 := hcell 0 (by omega)
      have e1 := hcell 1 (by omega)
      rw [Deep.add_add] at e0 e1
      exact ⟨y, hyl, a', c', by simpa using e0, by simpa using e1, hy⟩
    let X : Nat → GrpI := fun i => if hi : i < m then (hv i hi).choose else ⟨[], 0⟩
    have hX : ∀ i, i < m → (X i).M.length ≤ 9223372036854775807 ∧ ∃ (a' : Option Addr) (c' : Nat), W.cell? (a.add (i * 2)) = some (.slice a' (X i).M.length c') ∧ W.cell? (a.add (i * 2 + 1)) = some (.int .i64 (X i).Z) ∧ IntsAt W a' (X i).M.length W.heap.size (X i).M := by
      intro i hi
      have hsp2 := (hv i hi).choose_spec
      simp only [X, hi, dif_pos]
      exact hsp2
    refine ⟨some a, len, cap, (List.range len).map X, hcs, ⟨by simp, fun j hj => ?_⟩, by unfold maxLen at hm; simp; omega, ?_⟩
    · have hj1 : j < len := by simpa using hj
      obtain ⟨b, off, spot⟩ := a
      obtain ⟨_, a0, c0, k0, _, _⟩ := hX 0 (by omega)
      have hspot : spot = none := by simpa [Addr.add] using World.cell?_spot k0
      subst hspot
      obtain ⟨_, a', c', h0, h1, h2⟩ := hX j (by omega)
      rw [Addr.add_lit] at h0 h1
      have e : ((List.range len).map X)[j] = X j := by simp
      refine ⟨b, off, a', c', rfl, by simpa using World.block_lt_of_cell? W _ h0, ?_, ?_, ?_⟩
      · rw [e]; exact h0
      · rw [e, Nat.add_assoc]; exact h1
      · rw [e]; exact h2
    · intro q hq
      obtain ⟨i, hi, rfl⟩ := List.mem_map.1 hq
      exact (hX i (by simp at hi; omega)).1

end Gr
end Go.Proofs.Ytldbanpfhlmjmaa
