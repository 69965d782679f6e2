/-
  Texts of this claim, one behind the other: GrGroup, GrEdge, GrEdgeM, GrEdgeO, GrGraph, GrBox, GrKinds, GrGroup2.
-/
import Derived.Test.YtldbanpfhlmjmaaJ1
import Derived.Deep.RegionHeld3
import Derived.Lib.SmallJoins
import Derived.Deep.Slices
import Derived.ShutString

/-
  Groups and proofs in memory: rows of structs that hold a row each; what came in.
-/
namespace Go.Proofs.Ytldbanpfhlmjmaa
namespace Gr
open Go.ChangeShapes Go.WideShapes Go.ChangeAt Go.RowKit

structure GrpI where
  M : List Int
  Z : Int

/-- A row of groups that can be read, with all of its rows, below block B. -/
def groupsAt (w : World) (a : Option Addr) (len B : Nat) (G : List GrpI) : Prop :=
  G.length = len ∧ ∀ j (h : j < G.length), ∃ b off a' c', a = some ⟨b, off, none⟩ ∧ b < B ∧ w.cell? ⟨b, off + j * 2, none⟩ = some (.slice a' G[j].M.length c') ∧ w.cell? ⟨b, off + j * 2 + 1, none⟩ = some (.int .i64 G[j].Z) ∧ IntsAt w a' G[j].M.length B G[j].M

theorem groupsAt.below {w w' : World} {a : Option Addr} {len B C : Nat} {G : List GrpI} (h : groupsAt w a len B G) (hb : Below C w w') (hC : B ≤ C) : groupsAt w' a len B G := by
  refine ⟨h.1, fun j hj => ?_⟩
  obtain ⟨b, off, a', c', e, hbB, c0, c1, hI⟩ := h.2 j hj
  exact ⟨b, off, a', c', e, hbB, (by rw [hb.cell (p := ⟨b, off + j * 2, none⟩) (by simp; omega)]; exact c0), (by rw [hb.cell (p := ⟨b, off + j * 2 + 1, none⟩) (by simp; omega)]; exact c1), hI.below hb hC⟩

theorem groupsAt.mono {w : World} {a : Option Addr} {len B C : Nat} {G : List GrpI} (h : groupsAt w a len B G) (hC : B ≤ C) : groupsAt w a len C G := by
  refine ⟨h.1, fun j hj => ?_⟩
  obtain ⟨b, off, a', c', e, hbB, c0, c1, hI⟩ := h.2 j hj
  refine ⟨b, off, a', c', e, by omega, c0, c1, ⟨hI.1, fun k hk => ?_⟩⟩
  obtain ⟨b2, off2, e2, hb2, hc2⟩ := hI.2 k hk
  exact ⟨b2, off2, e2, by omega, hc2⟩

/-- Lengths that are lengths. -/
def PrIn (Y : List Int) (G : List GrpI) : Prop := Y.length ≤ 9223372036854775807 ∧ G.length ≤ 9223372036854775807 ∧ ∀ q ∈ G, q.M.length ≤ 9223372036854775807

/-- A proof that can be read. -/
def PrAt (w : World) (v : Value) (B : Nat) (Y : List Int) (G : List GrpI) : Prop := ∃ a n c a' n' c', v = .agg #[.slice a n c, .slice a' n' c'] ∧ IntsAt w a n B Y ∧ groupsAt w a' n' B G ∧ PrIn Y G

theorem PrAt.below {w w' : World} {v : Value} {B C : Nat} {Y : List Int} {G : List GrpI} (h : PrAt w v B Y G) (hb : Below C w w') (hC : B ≤ C) : PrAt w' v B Y G := by
  obtain ⟨a, n, c, a', n', c', rfl, hY, hG, hI⟩ := h
  exact ⟨a, n, c, a', n', c', rfl, hY.below hb hC, hG.below hb hC, hI⟩

theorem PrAt.mono {w : World} {v : Value} {B C : Nat} {Y : List Int} {G : List GrpI} (h : PrAt w v B Y G) (hC : B ≤ C) : PrAt w v C Y G := by
  obtain ⟨a, n, c, a', n', c', rfl, hY, hG, hI⟩ := h
  refine ⟨a, n, c, a', n', c', rfl, ⟨hY.1, fun k hk => ?_⟩, hG.mono hC, hI⟩
  obtain ⟨b2, off2, e2, hb2, hc2⟩ := hY.2 k hk
  exact ⟨b2, off2, e2, by omega, hc2⟩

/-- How many values a row of groups has, in all. -/
def gbulk : List GrpI → Nat
  | [] => 0
  | x :: r => x.M.length + gbulk r

theorem cells_group : Try.prog.cellsOf 100 = 2 := by kernel_rfl

theorem cells_intS : Try.prog.cellsOf 26 = 1 := by kernel_rfl

set_option maxRecDepth 100000 in
theorem group_cells {H : Type} {enc : TypeId × Value → H} {W : World} {spare : Nat → Bool} {held : Bool} {n : Nat} {cs : List Value} {x : DataW H × List MemPlace} (hsp : ∀ b, spare b = true) (hl : cs.length = 2)
    (h : DataW.trod enc Try.prog W 0 spare held n 100 cs = some x) : ∃ (y : GrpI) (a : Option Addr) (c : Nat), cs = [.slice a y.M.length c, .int .i64 y.Z] ∧ IntsAt W a y.M.length W.heap.size y.M ∧ y.M.length ≤ 9223372036854775807 := by
  obtain ⟨xs, k, hk, hxy, _, hxl, hf⟩ := DataW.trod_struct Try.underlying100 h
  match cs, hl with
  | [v0, v1], _ =>
    have hl2 : xs.length = 2 := by simpa using hxl
    match xs, hl2 with
    | [y0, y1], _ =>
      have g0 := hf 0 _ rfl
      have g1 := hf 1 _ rfl
      simp [cells_intS, cells_int] at g0 g1
      obtain ⟨z, e1, _, _⟩ := DataW.trod_int Try.underlying3 g1
      simp at e1
      subst e1
      have g0' : DataW.trod enc Try.prog W 0 spare held _ 26 [v0] = some y0 := g0
      have hone : [v0] = v0.cells.toList := by
        rcases Deep.open_slice Try.underlying26 g0' with ⟨hcs, _⟩ | ⟨a, len, cap, m, n, D, Pl, hcs, _⟩
        · simp at hcs; subst hcs; rfl
        · simp at hcs; subst hcs; rfl
      rw [hone] at g0'
      obtain ⟨a, n', c, K, hcs, hK, _, hn⟩ := ints_open hsp g0'
      rw [← hone] at hcs
      simp at hcs
      subst hcs
      obtain rfl : n' = K.length := hK.1.symm
      exact ⟨⟨K, z⟩, a, c, rfl, hK, hn⟩

theorem groups_open {H : Type} {enc : TypeId × Value → H} {W : World} {spare : Nat → Bool} {held : Bool} {fuel : Nat} {v : Value} {x : DataW H × List MemPlace} (hsp : ∀ b, spare b = true)
    (h : DataW.trod enc Try.prog W 0 spare held fuel 27 [v] = some x) :
    ∃ a n c G, v = .slice a n c ∧ groupsAt W a n W.heap.size G ∧ G.length ≤ 9223372036854775807 ∧ ∀ q ∈ G, q.M.length ≤ 9223372036854775807 := by
  rcases Deep.open_slice Try.underlying27 h with ⟨hcs, _⟩ | ⟨a, len, cap, m, n, D, Pl, hcs, hb, hl, hm, hmm, _, hx⟩
  · simp at hcs
    exact ⟨none, 0, 0, [], hcs, ⟨rfl, fun j hj => by simp at hj⟩, by simp, by simp⟩
  · simp at hcs
    have hlm : len ≤ m := by rw [hmm]; split <;> omega
    have hv : ∀ i, i < m → ∃ y : GrpI, y.M.length ≤ 9223372036854775807 ∧ ∃ (a' : Option Addr) (c' : Nat), W.cell? (a.add (i * 2)) = some (.slice a' y.M.length c') ∧ W.cell? (a.add (i * 2 + 1)) = some (.int .i64 y.Z) ∧ IntsAt W a' y.M.length W.heap.size y.M := by
      intro i hi
      obtain ⟨cs', h1, h2⟩ := hx i hi
      rw [cells_group] at h1
      obtain ⟨_, hlen, hcell⟩ := World.cells?_some h1
      obtain ⟨y, a', c', rfl, hy, hyl⟩ := group_cells hsp hlen h2
      have e0 := hcell 0 (by omega)
      have e1 := hcell 1 (by omega)
      rw [Deep.add_add] at e0 e1
      exact ⟨y, hyl, a', c', by simpa using e0, by simpa using e1, hy⟩
    let X : Nat → GrpI := fun i => if hi : i < m then (hv i hi).choose else ⟨[], 0⟩
    have hX : ∀ i, i < m → (X i).M.length ≤ 9223372036854775807 ∧ ∃ (a' : Option Addr) (c' : Nat), W.cell? (a.add (i * 2)) = some (.slice a' (X i).M.length c') ∧ W.cell? (a.add (i * 2 + 1)) = some (.int .i64 (X i).Z) ∧ IntsAt W a' (X i).M.length W.heap.size (X i).M := by
      intro i hi
      have hsp2 := (hv i hi).choose_spec
      simp only [X, hi, dif_pos]
      exact hsp2
    refine ⟨some a, len, cap, (List.range len).map X, hcs, ⟨by simp, fun j hj => ?_⟩, by unfold maxLen at hm; simp; omega, ?_⟩
    · have hj1 : j < len := by simpa using hj
      obtain ⟨b, off, spot⟩ := a
      obtain ⟨_, a0, c0, k0, _, _⟩ := hX 0 (by omega)
      have hspot : spot = none := by simpa [Addr.add] using World.cell?_spot k0
      subst hspot
      obtain ⟨_, a', c', h0, h1, h2⟩ := hX j (by omega)
      rw [Addr.add_lit] at h0 h1
      have e : ((List.range len).map X)[j] = X j := by simp
      refine ⟨b, off, a', c', rfl, by simpa using World.block_lt_of_cell? W _ h0, ?_, ?_, ?_⟩
      · rw [e]; exact h0
      · rw [e, Nat.add_assoc]; exact h1
      · rw [e]; exact h2
    · intro q hq
      obtain ⟨i, hi, rfl⟩ := List.mem_map.1 hq
      exact (hX i (by simp at hi; omega)).1

end Gr
end Go.Proofs.Ytldbanpfhlmjmaa

/-
  Rows of Edge (5 numbers each) in memory, and the contracts of what the laws do with them. Written by program (tools/introws.py).
-/
namespace Go.Proofs.Ytldbanpfhlmjmaa
namespace Gr
open Go.ChangeShapes Go.WideShapes Go.ChangeAt Go.RowKit

structure EdgeI where
  A : Int
  B : Int
  W1 : Int
  W2 : Int
  W3 : Int
deriving DecidableEq

def EdgeI.v (x : EdgeI) : Value := .agg #[.int .i64 x.A, .int .i64 x.B, .int .i64 x.W1, .int .i64 x.W2, .int .i64 x.W3]
def EdgeI.zero : EdgeI := ⟨0, 0, 0, 0, 0⟩

/-- A row that can be read, below block B. -/
def edgesAt (w : World) (a : Option Addr) (len B : Nat) (Q : List EdgeI) : Prop :=
  Q.length = len ∧ ∀ j (h : j < Q.length), ∃ b off, a = some ⟨b, off, none⟩ ∧ b < B ∧ w.cell? ⟨b, off + j * 5, none⟩ = some (.int .i64 Q[j].A) ∧ w.cell? ⟨b, off + j * 5 + 1, none⟩ = some (.int .i64 Q[j].B) ∧ w.cell? ⟨b, off + j * 5 + 2, none⟩ = some (.int .i64 Q[j].W1) ∧ w.cell? ⟨b, off + j * 5 + 3, none⟩ = some (.int .i64 Q[j].W2) ∧ w.cell? ⟨b, off + j * 5 + 4, none⟩ = some (.int .i64 Q[j].W3)

theorem edgesAt.below {w w' : World} {a : Option Addr} {len B C : Nat} {Q : List EdgeI} (h : edgesAt w a len B Q) (hb : Below C w w') (hC : B ≤ C) : edgesAt w' a len B Q := by
  refine ⟨h.1, fun j hj => ?_⟩
  obtain ⟨b, off, e, hbB, c0, c1, c2, c3, c4⟩ := h.2 j hj
  exact ⟨b, off, e, hbB, (by rw [hb.cell (p := ⟨b, off + j * 5, none⟩) (by simp; omega)]; exact c0), (by rw [hb.cell (p := ⟨b, off + j * 5 + 1, none⟩) (by simp; omega)]; exact c1), (by rw [hb.cell (p := ⟨b, off + j * 5 + 2, none⟩) (by simp; omega)]; exact c2), (by rw [hb.cell (p := ⟨b, off + j * 5 + 3, none⟩) (by simp; omega)]; exact c3), (by rw [hb.cell (p := ⟨b, off + j * 5 + 4, none⟩) (by simp; omega)]; exact c4)⟩

theorem edgesAt.mono {w : World} {a : Option Addr} {len B C : Nat} {Q : List EdgeI} (h : edgesAt w a len B Q) (hC : B ≤ C) : edgesAt w a len C Q := by
  refine ⟨h.1, fun j hj => ?_⟩
  obtain ⟨b, off, e, hbB, hc⟩ := h.2 j hj
  exact ⟨b, off, e, by omega, hc⟩

def edgesV (Q : List EdgeI) : List Value := Q.flatMap fun q => [.int .i64 q.A, .int .i64 q.B, .int .i64 q.W1, .int .i64 q.W2, .int .i64 q.W3]

theorem edgesV_length (Q : List EdgeI) : (edgesV Q).length = Q.length * 5 := by
  induction Q with
  | nil => rfl
  | cons q Q ih => simp [edgesV] at ih ⊢; omega

theorem edgesV_at (Q : List EdgeI) (k : Nat) (h : k < Q.length) : (edgesV Q)[k * 5]? = some (.int .i64 Q[k].A) ∧ (edgesV Q)[k * 5 + 1]? = some (.int .i64 Q[k].B) ∧ (edgesV Q)[k * 5 + 2]? = some (.int .i64 Q[k].W1) ∧ (edgesV Q)[k * 5 + 3]? = some (.int .i64 Q[k].W2) ∧ (edgesV Q)[k * 5 + 4]? = some (.int .i64 Q[k].W3) := by
  induction Q generalizing k with
  | nil => simp at h
  | cons q Q ih =>
    cases k with
    | zero => simp [edgesV]
    | succ k =>
      have := ih k (by simpa using h)
      have e : (k + 1) * 5 = k * 5 + 5 := by omega
      simpa [edgesV, e] using this

theorem edgesV_set (Q : List EdgeI) (k : Nat) (h : k < Q.length) (x : EdgeI) : (((((edgesV Q).set (k * 5) (.int .i64 x.A)).set (k * 5 + 1) (.int .i64 x.B)).set (k * 5 + 2) (.int .i64 x.W1)).set (k * 5 + 3) (.int .i64 x.W2)).set (k * 5 + 4) (.int .i64 x.W3) = edgesV (Q.set k x) := by
  induction Q generalizing k with
  | nil => simp at h
  | cons q Q ih =>
    cases k with
    | zero => simp [edgesV]
    | succ k =>
      have := ih k (by simpa using h)
      have e : (k + 1) * 5 = k * 5 + 5 := by omega
      simpa [edgesV, e] using this

theorem edgesV_snoc (Q : List EdgeI) (x : EdgeI) : edgesV (Q ++ [x]) = edgesV Q ++ [.int .i64 x.A, .int .i64 x.B, .int .i64 x.W1, .int .i64 x.W2, .int .i64 x.W3] := by
  unfold edgesV; rw [List.flatMap_append]; rfl

theorem edgesAt.of_own {w : World} {B : Nat} {v : Value} {n : Nat} {Q : List EdgeI} (h : w.ownsRow B 58 5 v n (edgesV Q)) : ∃ a c, v = .slice a n c ∧ edgesAt w a n w.heap.size Q := by
  have hl : Q.length = n := by have := h.1; rw [edgesV_length] at this; omega
  rcases h.2 with ⟨rfl, h0⟩ | ⟨g, cap, cur, rfl, hg, hh, _⟩
  · subst h0
    exact ⟨none, 0, rfl, hl, fun j hj => by omega⟩
  · refine ⟨_, _, rfl, hl, fun j hj => ⟨g, 0, rfl, (h.lt g rfl).2, ?_, ?_, ?_, ?_, ?_⟩⟩
    · rw [Nat.zero_add, h.cellAt (j * 5) (by omega)]
      exact (edgesV_at Q j hj).1
    · rw [Nat.zero_add, h.cellAt (j * 5 + 1) (by omega)]
      exact (edgesV_at Q j hj).2.1
    · rw [Nat.zero_add, h.cellAt (j * 5 + 2) (by omega)]
      exact (edgesV_at Q j hj).2.2.1
    · rw [Nat.zero_add, h.cellAt (j * 5 + 3) (by omega)]
      exact (edgesV_at Q j hj).2.2.2.1
    · rw [Nat.zero_add, h.cellAt (j * 5 + 4) (by omega)]
      exact (edgesV_at Q j hj).2.2.2.2

theorem infoEdge : (Try.prog.info? 58).map (fun i => (i.zero, i.size, i.bytes)) = some (some (.agg #[.int .i64 0, .int .i64 0, .int .i64 0, .int .i64 0, .int .i64 0]), 5, 40) := by kernel_rfl

theorem made_edges (n : Nat) (M : Array Value) (hM : M = madeCells (Value.agg #[.int .i64 0, .int .i64 0, .int .i64 0, .int .i64 0, .int .i64 0]).cells (n * 5)) : M.toList = edgesV (List.replicate n EdgeI.zero) ∧ M.size = n * 5 := by
  have hs : M.size = n * 5 := by rw [hM, size_madeCells]
  refine ⟨?_, hs⟩
  apply List.ext_getElem?
  intro j
  by_cases hj : j < n * 5
  · have e : M.toList[j]? = some (.int .i64 0) := by
      rw [hM]
      have h2 : j % 5 = 0 ∨ j % 5 = 1 ∨ j % 5 = 2 ∨ j % 5 = 3 ∨ j % 5 = 4 := by omega
      rcases h2 with h2 | h2 | h2 | h2 | h2 <;> simp [madeCells, Value.cells, hj, h2]
    rw [e]
    have hp := edgesV_at (List.replicate n EdgeI.zero) (j / 5) (by simp; omega)
    have h2 : j % 5 = 0 ∨ j % 5 = 1 ∨ j % 5 = 2 ∨ j % 5 = 3 ∨ j % 5 = 4 := by omega
    rcases h2 with h2 | h2 | h2 | h2 | h2
    · have ej : j / 5 * 5 = j := by omega
      rw [ej] at hp
      rw [hp.1]
      simp [EdgeI.zero]
    · have ej : j / 5 * 5 + 1 = j := by omega
      rw [ej] at hp
      rw [hp.2.1]
      simp [EdgeI.zero]
    · have ej : j / 5 * 5 + 2 = j := by omega
      rw [ej] at hp
      rw [hp.2.2.1]
      simp [EdgeI.zero]
    · have ej : j / 5 * 5 + 3 = j := by omega
      rw [ej] at hp
      rw [hp.2.2.2.1]
      simp [EdgeI.zero]
    · have ej : j / 5 * 5 + 4 = j := by omega
      rw [ej] at hp
      rw [hp.2.2.2.2]
      simp [EdgeI.zero]
  · rw [List.getElem?_eq_none (by simp; omega), List.getElem?_eq_none (by rw [edgesV_length]; simp; omega)]

theorem toEdge_any (x : EdgeI) (w : World) :
    Calls Try.prog 62 #[x.v] w fun e w' => e = .returned x.v ∧ Below w.heap.size w w' := by
  unfold EdgeI.v
  go_enter Try.func62, Try.ntmps62
  go_wp2
  go_returns
  exact ⟨rfl, (((Below.refl _ _).alloc (Nat.le_refl _) _).alloc (by simp) _).alloc (by simp; omega) _⟩

set_option maxRecDepth 100000 in
set_option maxHeartbeats 1000000 in
theorem toEdgeS_any (a : Option Addr) (len cap B : Nat) (Q : List EdgeI) (hlen : len ≤ 1048576) (w : World) (hB : B ≤ w.heap.size) (hs : edgesAt w a len B Q) :
    Calls Try.prog 40 #[.slice a len cap] w fun e w' => (∃ v, e = .returned v ∧ w'.ownsRow w.heap.size 58 5 v len (edgesV Q)) ∧ Below w.heap.size w w' := by
  obtain ⟨hL, hc⟩ := hs
  obtain ⟨i0, hi, hz0, hz1, hz2⟩ := info_parts infoEdge
  obtain ⟨M, hM⟩ : ∃ M, M = madeCells (Value.agg #[.int .i64 0, .int .i64 0, .int .i64 0, .int .i64 0, .int .i64 0]).cells (len * i0.size) := ⟨_, rfl⟩
  have hmk : ∀ W : World, (Instr.makeSlice 35 (.int .i64 (len : Int)) (.int .i64 (len : Int))).run Try.prog W = .ok (.slice (some ⟨W.heap.size, 0, none⟩) len len) (W.alloc (.cells M 58)) := fun W => by
    have h := run_make (P := Try.prog) W 35 58 i0 (.agg #[.int .i64 0, .int .i64 0, .int .i64 0, .int .i64 0, .int .i64 0]) Try.underlying35 hi hz0 .i64 .i64 (len : Int) (len : Int) (by omega) (by omega) (by rw [hz2]; omega) (by omega)
    rw [Int.toNat_natCast, ← hM] at h
    simpa using h
  have hMM := made_edges len M (by rw [hM, hz1])
  have hown0 : (w.alloc (.cells M 58)).ownsRow w.heap.size 58 5 (.slice (some ⟨w.heap.size, 0, none⟩) len len) len (edgesV (part Q EdgeI.zero 0)) :=
    ⟨by rw [edgesV_length, part_length _ _ _ (by omega)]; omega, .inr ⟨w.heap.size, len, M, rfl, Nat.le_refl _, heap_alloc_new w _, Nat.le_refl _, by unfold maxLen; omega, hMM.2, by rw [hMM.1, part_zero, hL, List.take_of_length_le (by rw [edgesV_length]; simp)]⟩⟩
  have HO0 := hide hown0
  have HC := hide hc
  have HL := hide hL
  clear hc hL hM hMM hown0
  go_enter Try.func40, Try.ntmps40
  go_wp2_with fail
  go_loopw [4] (fun a4 wr => ∃ k : Nat, a4 = .int .i64 k ∧ k ≤ len ∧ wr.ownsRow w.heap.size 58 5 (.slice (some ⟨w.heap.size, 0, none⟩) len len) len (edgesV (part Q EdgeI.zero k)) ∧ Below w.heap.size w wr) (fun a4 _ => len - (intOf a4).toNat)
  case atStart => exact ⟨0, rfl, Nat.zero_le _, unhide HO0, (Below.refl _ _).alloc (Nat.le_refl _) _⟩
  case round =>
    obtain ⟨k, rfl, hk, hown, hb⟩ := hrel
    by_cases hlt : k < len
    · have hkL : k < Q.length := by have := unhide HL; omega
      obtain ⟨b, off, rfl, hbB, c0, c1, c2, c3, c4⟩ := unhide HC k hkL
      rw [← hb.cell (p := ⟨b, off + k * 5, none⟩) (by simp; omega)] at c0
      rw [← hb.cell (p := ⟨b, off + k * 5 + 1, none⟩) (by simp; omega)] at c1
      rw [← hb.cell (p := ⟨b, off + k * 5 + 2, none⟩) (by simp; omega)] at c2
      rw [← hb.cell (p := ⟨b, off + k * 5 + 3, none⟩) (by simp; omega)] at c3
      rw [← hb.cell (p := ⟨b, off + k * 5 + 4, none⟩) (by simp; omega)] at c4
      have hx0 : (0 : Int) ≤ (k : Int) := by omega
      have hx1 : (k : Int) < (len : Int) := by omega
      have HO := hide hown
      clear hown
      have HP := hide (part_set Q EdgeI.zero k hkL)
      generalize Q[k] = q at c0 c1 c2 c3 c4 HP
      have HTI := hide (fun w => toEdge_any q w)
      have HIS := hide (fun (h : k < (part Q EdgeI.zero k).length) => edgesV_set (part Q EdgeI.zero k) k h q)
      obtain ⟨x0, x1, x2, x3, x4⟩ := q
      simp only [EdgeI.v] at c0 c1 c2 c3 c4 HTI HIS
      go_wp2_with fail
      refine (unhide HTI _).mono ?_
      rintro e w1 ⟨rfl, hb1⟩
      have hown := own_below (unhide HO) hb1
      have hkp : k < (part Q EdgeI.zero k).length := by rw [part_length _ _ _ (by omega)]; omega
      have hat := edgesV_at _ k hkp
      have hce0 := hown.cellAt (k * 5) (by omega)
      rw [hat.1] at hce0
      have hf0 := hown.frozenAt (k * 5)
      have hce1 := hown.cellAt (k * 5 + 1) (by omega)
      rw [hat.2.1] at hce1
      have hf1 := hown.frozenAt (k * 5 + 1)
      have hce2 := hown.cellAt (k * 5 + 2) (by omega)
      rw [hat.2.2.1] at hce2
      have hf2 := hown.frozenAt (k * 5 + 2)
      have hce3 := hown.cellAt (k * 5 + 3) (by omega)
      rw [hat.2.2.2.1] at hce3
      have hf3 := hown.frozenAt (k * 5 + 3)
      have hce4 := hown.cellAt (k * 5 + 4) (by omega)
      rw [hat.2.2.2.2] at hce4
      have hf4 := hown.frozenAt (k * 5 + 4)
      have hst := (((((hown.stored (k * 5) (.int .i64 x0)).1.stored (k * 5 + 1) (.int .i64 x1)).1.stored (k * 5 + 2) (.int .i64 x2)).1.stored (k * 5 + 3) (.int .i64 x3)).1.stored (k * 5 + 4) (.int .i64 x4)).1
      rw [unhide HIS hkp, unhide HP] at hst
      have HST := hide hst
      have hbb := hb.trans (hb1.mono hb.size)
      clear hst hown hat hb hb1 c0 c1 c2 c3 c4
      go_wp2
      go_roundw
      case rel => exact ⟨k + 1, by go_num, by omega, unhide HST, ((((hbb.setCell (p := ⟨w.heap.size, k * 5, none⟩) (Nat.le_refl _) _).setCell (p := ⟨w.heap.size, k * 5 + 1, none⟩) (Nat.le_refl _) _).setCell (p := ⟨w.heap.size, k * 5 + 2, none⟩) (Nat.le_refl _) _).setCell (p := ⟨w.heap.size, k * 5 + 3, none⟩) (Nat.le_refl _) _).setCell (p := ⟨w.heap.size, k * 5 + 4, none⟩) (Nat.le_refl _) _⟩
      case measure => simp [intOf]; omega
    · obtain rfl : k = len := by omega
      have HO := hide hown
      clear hown
      go_wp2
      go_ret
      refine ⟨⟨_, rfl, ?_⟩, hb⟩
      have h := unhide HO
      have e := unhide HL
      subst e
      rw [part_all] at h
      exact h

set_option maxRecDepth 100000 in
theorem eqEdge_same (x : EdgeI) (w : World) :
    Calls Try.prog 75 #[x.v, x.v] w fun e w' => e = .returned (.bool true) ∧ Below w.heap.size w w' := by
  unfold EdgeI.v
  go_enter Try.func75, Try.ntmps75
  go_wp2
  go_ret
  exact ⟨rfl, ((Below.refl _ _).alloc (Nat.le_refl _) _).alloc (by simp) _⟩

set_option maxRecDepth 100000 in
set_option maxHeartbeats 2000000 in
theorem eqEdgeS_same (a a' : Option Addr) (len c c' B B' : Nat) (Q : List EdgeI) (hlen : len ≤ 1048576) (w : World) (hB : B ≤ w.heap.size) (hB' : B' ≤ w.heap.size) (hs : edgesAt w a len B Q) (hs' : edgesAt w a' len B' Q) :
    Calls Try.prog 49 #[.slice a len c, .slice a' len c'] w fun e w' => e = .returned (.bool true) ∧ Below w.heap.size w w' := by
  obtain ⟨hL, hc⟩ := hs
  obtain ⟨_, hc'⟩ := hs'
  have HC := hide hc
  have HC' := hide hc'
  have HL := hide hL
  clear hc hc' hL
  go_enter Try.func49, Try.ntmps49
  go_wp2_with fail
  go_loopw [5] (fun i wr => ∃ k : Nat, i = .int .i64 k ∧ k ≤ len ∧ Below w.heap.size w wr) (fun i _ => len - (intOf i).toNat)
  case atStart => exact ⟨0, rfl, Nat.zero_le _, Below.refl _ _⟩
  case round =>
    obtain ⟨k, rfl, hk, hb⟩ := hrel
    by_cases hlt : k < len
    · have hkL : k < Q.length := by have := unhide HL; omega
      obtain ⟨b, off, rfl, hbB, c0, c1, c2, c3, c4⟩ := unhide HC k hkL
      obtain ⟨b', off', rfl, hbB', d0, d1, d2, d3, d4⟩ := unhide HC' k hkL
      rw [← hb.cell (p := ⟨b, off + k * 5, none⟩) (by simp; omega)] at c0
      rw [← hb.cell (p := ⟨b', off' + k * 5, none⟩) (by simp; omega)] at d0
      rw [← hb.cell (p := ⟨b, off + k * 5 + 1, none⟩) (by simp; omega)] at c1
      rw [← hb.cell (p := ⟨b', off' + k * 5 + 1, none⟩) (by simp; omega)] at d1
      rw [← hb.cell (p := ⟨b, off + k * 5 + 2, none⟩) (by simp; omega)] at c2
      rw [← hb.cell (p := ⟨b', off' + k * 5 + 2, none⟩) (by simp; omega)] at d2
      rw [← hb.cell (p := ⟨b, off + k * 5 + 3, none⟩) (by simp; omega)] at c3
      rw [← hb.cell (p := ⟨b', off' + k * 5 + 3, none⟩) (by simp; omega)] at d3
      rw [← hb.cell (p := ⟨b, off + k * 5 + 4, none⟩) (by simp; omega)] at c4
      rw [← hb.cell (p := ⟨b', off' + k * 5 + 4, none⟩) (by simp; omega)] at d4
      have hx0 : (0 : Int) ≤ (k : Int) := by omega
      have hx1 : (k : Int) < (len : Int) := by omega
      generalize Q[k] = q at c0 d0 c1 d1 c2 d2 c3 d3 c4 d4
      have HP := hide (fun w => eqEdge_same q w)
      obtain ⟨x0, x1, x2, x3, x4⟩ := q
      simp only [EdgeI.v] at c0 d0 c1 d1 c2 d2 c3 d3 c4 d4 HP
      have hl := hb.size
      have hkl : b < wr.heap.size := by omega
      have hkl' : b' < wr.heap.size := by omega
      go_wp2_with fail
      go_region_held3 (fun u => u.cell? ⟨b, off + k * 5, none⟩ = some (.int .i64 x0) ∧ u.cell? ⟨b, off + k * 5 + 1, none⟩ = some (.int .i64 x1) ∧ u.cell? ⟨b, off + k * 5 + 2, none⟩ = some (.int .i64 x2) ∧ u.cell? ⟨b, off + k * 5 + 3, none⟩ = some (.int .i64 x3) ∧ u.cell? ⟨b, off + k * 5 + 4, none⟩ = some (.int .i64 x4) ∧ u.cell? ⟨b', off' + k * 5, none⟩ = some (.int .i64 x0) ∧ u.cell? ⟨b', off' + k * 5 + 1, none⟩ = some (.int .i64 x1) ∧ u.cell? ⟨b', off' + k * 5 + 2, none⟩ = some (.int .i64 x2) ∧ u.cell? ⟨b', off' + k * 5 + 3, none⟩ = some (.int .i64 x3) ∧ u.cell? ⟨b', off' + k * 5 + 4, none⟩ = some (.int .i64 x4))
        (first | go_keep | exact ⟨(hb2.cell (p := ⟨b, off + k * 5, none⟩) hkl).trans c0, (hb2.cell (p := ⟨b, off + k * 5 + 1, none⟩) hkl).trans c1, (hb2.cell (p := ⟨b, off + k * 5 + 2, none⟩) hkl).trans c2, (hb2.cell (p := ⟨b, off + k * 5 + 3, none⟩) hkl).trans c3, (hb2.cell (p := ⟨b, off + k * 5 + 4, none⟩) hkl).trans c4, (hb2.cell (p := ⟨b', off' + k * 5, none⟩) hkl').trans d0, (hb2.cell (p := ⟨b', off' + k * 5 + 1, none⟩) hkl').trans d1, (hb2.cell (p := ⟨b', off' + k * 5 + 2, none⟩) hkl').trans d2, (hb2.cell (p := ⟨b', off' + k * 5 + 3, none⟩) hkl').trans d3, (hb2.cell (p := ⟨b', off' + k * 5 + 4, none⟩) hkl').trans d4⟩)
        ((go_at_call 75; refine (unhide HP _).mono ?_; rintro e w2 ⟨rfl, hb2⟩))
      have hbe := hb.drew.trans (hb2.mono hb.size)
      clear hb2
      go_wp2
      go_roundw
      case rel => exact ⟨k + 1, by go_num, by omega, hbe⟩
      case measure => simp [intOf]; omega
    · go_wp2
      go_ret
      exact ⟨rfl, hb⟩

set_option maxRecDepth 100000 in
theorem szEdgeS_any (a : Option Addr) (len cap : Nat) (left : Int) (h0 : 0 ≤ left) (h1 : left ≤ 1048576) (hlen : len ≤ 9223372036854775807) (w : World) :
    Calls Try.prog 33 #[.slice a len cap, .int .i64 left] w fun e w' => e = .returned (.int .i64 (if left - (len : Int) < 0 then -1 else left - (len : Int))) ∧ w' = w := by
  by_cases h : left - (len : Int) < 0
  · rw [if_pos h]
    go_enter Try.func33, Try.ntmps33
    go_wp2
    go_ret
    exact ⟨rfl, rfl⟩
  · rw [if_neg h]
    go_enter Try.func33, Try.ntmps33
    go_wp2
    go_ret
    exact ⟨rfl, rfl⟩

end Gr
end Go.Proofs.Ytldbanpfhlmjmaa

/-
  Rows of Edge: what is marked is held. Written by program (tools/introws.py).
-/
namespace Go.Proofs.Ytldbanpfhlmjmaa
namespace Gr
open Go.ChangeShapes Go.WideShapes Go.ChangeAt Go.RowKit

/-- The marks of n rows from k on. -/
def marksEdge (k n : Nat) : List EdgeI := (List.range n).map fun i => ⟨((k + i * 5 : Nat) : Int), ((k + i * 5 + 1 : Nat) : Int), ((k + i * 5 + 2 : Nat) : Int), ((k + i * 5 + 3 : Nat) : Int), ((k + i * 5 + 4 : Nat) : Int)⟩

theorem marksEdge_length (k n : Nat) : (marksEdge k n).length = n := by simp [marksEdge]
theorem marksEdge_at (k n i : Nat) (h : i < (marksEdge k n).length) : (marksEdge k n)[i] = ⟨((k + i * 5 : Nat) : Int), ((k + i * 5 + 1 : Nat) : Int), ((k + i * 5 + 2 : Nat) : Int), ((k + i * 5 + 3 : Nat) : Int), ((k + i * 5 + 4 : Nat) : Int)⟩ := by simp [marksEdge]

end Gr
end Go.Proofs.Ytldbanpfhlmjmaa

/-
  Rows of Edge: a row that came in, read. Written by program (tools/introws.py).
-/
namespace Go.Proofs.Ytldbanpfhlmjmaa
namespace Gr
open Go.ChangeShapes Go.WideShapes Go.ChangeAt Go.RowKit

theorem cells_Edge : Try.prog.cellsOf 108 = 5 := by kernel_rfl

set_option maxRecDepth 100000 in
theorem edges_cells {H : Type} {enc : TypeId × Value → H} {W : World} {base : Nat} {spare : Nat → Bool} {held : Bool} {n : Nat} {cs : List Value} {x : DataW H × List MemPlace} (hl : cs.length = 5)
    (h : DataW.trod enc Try.prog W base spare held n 108 cs = some x) : ∃ y : EdgeI, cs = [.int .i64 y.A, .int .i64 y.B, .int .i64 y.W1, .int .i64 y.W2, .int .i64 y.W3] := by
  obtain ⟨xs, k, hk, hxy, _, hxl, hf⟩ := DataW.trod_struct Try.underlying108 h
  match cs, hl with
  | [v0, v1, v2, v3, v4], _ =>
    have hl3 : xs.length = 5 := by simpa using hxl
    match xs, hl3 with
    | [y0, y1, y2, y3, y4], _ =>
      have g0 := hf 0 _ rfl
      have g1 := hf 1 _ rfl
      have g2 := hf 2 _ rfl
      have g3 := hf 3 _ rfl
      have g4 := hf 4 _ rfl
      simp [cells_int] at g0 g1 g2 g3 g4
      obtain ⟨z0, e0, _, _⟩ := DataW.trod_int Try.underlying3 g0
      obtain ⟨z1, e1, _, _⟩ := DataW.trod_int Try.underlying3 g1
      obtain ⟨z2, e2, _, _⟩ := DataW.trod_int Try.underlying3 g2
      obtain ⟨z3, e3, _, _⟩ := DataW.trod_int Try.underlying3 g3
      obtain ⟨z4, e4, _, _⟩ := DataW.trod_int Try.underlying3 g4
      simp at e0 e1 e2 e3 e4
      subst e0 e1 e2 e3 e4
      exact ⟨⟨z0, z1, z2, z3, z4⟩, rfl⟩

theorem edges_open {H : Type} {enc : TypeId × Value → H} {W : World} {spare : Nat → Bool} {held : Bool} {fuel : Nat} {v : Value} {x : DataW H × List MemPlace}
    (h : DataW.trod enc Try.prog W 0 spare held fuel 22 [v] = some x) :
    ∃ a n c Q, v = .slice a n c ∧ edgesAt W a n W.heap.size Q ∧ Q.length ≤ 9223372036854775807 := by
  rcases Deep.open_slice Try.underlying22 h with ⟨hcs, _⟩ | ⟨a, len, cap, m, n, D, Pl, hcs, hb, hl, hm, hmm, _, hx⟩
  · simp at hcs
    exact ⟨none, 0, 0, [], hcs, ⟨rfl, fun j hj => by simp at hj⟩, by simp⟩
  · simp at hcs
    have hlm : len ≤ m := by rw [hmm]; split <;> omega
    have hv : ∀ i, i < m → ∃ y : EdgeI, W.cell? (a.add (i * 5)) = some (.int .i64 y.A) ∧ W.cell? (a.add (i * 5 + 1)) = some (.int .i64 y.B) ∧ W.cell? (a.add (i * 5 + 2)) = some (.int .i64 y.W1) ∧ W.cell? (a.add (i * 5 + 3)) = some (.int .i64 y.W2) ∧ W.cell? (a.add (i * 5 + 4)) = some (.int .i64 y.W3) := by
      intro i hi
      obtain ⟨cs', h1, h2⟩ := hx i hi
      rw [cells_Edge] at h1
      obtain ⟨_, hlen, hcell⟩ := World.cells?_some h1
      obtain ⟨y, rfl⟩ := edges_cells hlen h2
      have e0 := hcell 0 (by omega)
      have e1 := hcell 1 (by omega)
      have e2 := hcell 2 (by omega)
      have e3 := hcell 3 (by omega)
      have e4 := hcell 4 (by omega)
      rw [Deep.add_add] at e0 e1 e2 e3 e4
      exact ⟨y, by simpa using e0, by simpa using e1, by simpa using e2, by simpa using e3, by simpa using e4⟩
    let X : Nat → EdgeI := fun i => if hi : i < m then (hv i hi).choose else EdgeI.zero
    have hX : ∀ i, i < m → W.cell? (a.add (i * 5)) = some (.int .i64 (X i).A) ∧ W.cell? (a.add (i * 5 + 1)) = some (.int .i64 (X i).B) ∧ W.cell? (a.add (i * 5 + 2)) = some (.int .i64 (X i).W1) ∧ W.cell? (a.add (i * 5 + 3)) = some (.int .i64 (X i).W2) ∧ W.cell? (a.add (i * 5 + 4)) = some (.int .i64 (X i).W3) := by
      intro i hi
      have hsp2 := (hv i hi).choose_spec
      simp only [X, hi, dif_pos]
      exact hsp2
    refine ⟨some a, len, cap, (List.range len).map X, hcs, ⟨by simp, fun j hj => ?_⟩, by unfold maxLen at hm; simp; omega⟩
    have hj1 : j < len := by simpa using hj
    obtain ⟨b, off, spot⟩ := a
    have hspot : spot = none := by simpa [Addr.add] using World.cell?_spot (hX 0 (by omega)).1
    subst hspot
    obtain ⟨h0, h1, h2, h3, h4⟩ := hX j (by omega)
    rw [Addr.add_lit] at h0 h1 h2 h3 h4
    refine ⟨b, off, rfl, by simpa using World.block_lt_of_cell? W _ h0, ?_, ?_, ?_, ?_, ?_⟩
    · rw [h0]; simp
    · rw [← Nat.add_assoc] at h1
      rw [h1]; simp
    · rw [← Nat.add_assoc] at h2
      rw [h2]; simp
    · rw [← Nat.add_assoc] at h3
      rw [h3]; simp
    · rw [← Nat.add_assoc] at h4
      rw [h4]; simp

set_option maxRecDepth 100000 in
/-- One that came in. -/
theorem edges_one {H : Type} {enc : TypeId × Value → H} {W : World} {r : Reach} {b0 : Nat} {spare : Nat → Bool} {held : Bool} {v : Value} {d : DataW H} {p : List MemPlace}
    (hv : Value.okWide Try.prog W r b0 108 v) (h : DataW.Trod enc Try.prog W 0 spare held 108 v d p) : ∃ x : EdgeI, v = x.v := by
  obtain ⟨cs, rfl, hsz⟩ := okWide_struct Try.underlying108 hv
  obtain ⟨fuel, hf⟩ := h
  have hl : (Value.agg cs).cells.toList.length = 5 := by simpa [Value.cells, cells_Edge] using hsz
  obtain ⟨y, e⟩ := edges_cells hl hf
  refine ⟨y, ?_⟩
  have e2 : cs.toList = [.int .i64 y.A, .int .i64 y.B, .int .i64 y.W1, .int .i64 y.W2, .int .i64 y.W3] := by simpa [Value.cells] using e
  unfold EdgeI.v
  congr 1
  exact Array.toList_inj.1 e2

end Gr
end Go.Proofs.Ytldbanpfhlmjmaa

/-
  Graphs in memory, and what the laws do with them.
-/
namespace Go.Proofs.Ytldbanpfhlmjmaa
namespace Gr
open Go.ChangeShapes Go.WideShapes Go.ChangeAt Go.RowKit

/-- A graph that can be read, its row below block B. -/
def GrAt (w : World) (v : Value) (B : Nat) (s : Int) (Q : List EdgeI) : Prop := ∃ a n c, v = .agg #[.int .i64 s, .slice a n c] ∧ edgesAt w a n B Q

theorem GrAt.below {w w' : World} {v : Value} {B C : Nat} {s : Int} {Q : List EdgeI} (h : GrAt w v B s Q) (hb : Below C w w') (hC : B ≤ C) : GrAt w' v B s Q := by
  obtain ⟨a, n, c, rfl, hQ⟩ := h
  exact ⟨a, n, c, rfl, hQ.below hb hC⟩

theorem GrAt.mono {w : World} {v : Value} {B C : Nat} {s : Int} {Q : List EdgeI} (h : GrAt w v B s Q) (hC : B ≤ C) : GrAt w v C s Q := by
  obtain ⟨a, n, c, rfl, hQ⟩ := h
  exact ⟨a, n, c, rfl, hQ.mono hC⟩

/-- A graph that this call has made. -/
def GrOwn (w : World) (B : Nat) (v : Value) (s : Int) (Q : List EdgeI) : Prop := ∃ v1, v = .agg #[.int .i64 s, v1] ∧ w.ownsRow B 58 5 v1 Q.length (edgesV Q)

theorem GrOwn.at {w : World} {B : Nat} {v : Value} {s : Int} {Q : List EdgeI} (h : GrOwn w B v s Q) : GrAt w v w.heap.size s Q := by
  obtain ⟨v1, rfl, h1⟩ := h
  obtain ⟨a, c, rfl, hQ⟩ := edgesAt.of_own h1
  exact ⟨a, _, c, rfl, hQ⟩

theorem GrOwn.below {w w' : World} {B : Nat} {v : Value} {s : Int} {Q : List EdgeI} (h : GrOwn w B v s Q) (hb : Below w.heap.size w w') : GrOwn w' B v s Q := by
  obtain ⟨v1, rfl, h1⟩ := h
  exact ⟨v1, rfl, own_below h1 hb⟩

theorem GrOwn.lower {w : World} {B C : Nat} {v : Value} {s : Int} {Q : List EdgeI} (h : GrOwn w B v s Q) (hC : C ≤ B) : GrOwn w C v s Q := by
  obtain ⟨v1, rfl, h1⟩ := h
  exact ⟨v1, rfl, own_lower hC h1⟩

/-- The block of a graph's row. -/
def GrBlk (v : Value) (g : Nat) : Prop := ∃ x v1, v = .agg #[x, v1] ∧ v1.ownBlock = some g

theorem GrOwn.blk {w : World} {B : Nat} {v : Value} {s : Int} {Q : List EdgeI} (h : GrOwn w B v s Q) : ∀ g, GrBlk v g → B ≤ g ∧ g < w.heap.size := by
  obtain ⟨v1, rfl, h1⟩ := h
  rintro g ⟨x, u1, e, hg⟩
  simp at e
  obtain ⟨rfl, rfl⟩ := e
  exact h1.lt g hg

theorem GrOwn.kept {S : Nat → Prop} {w w' : World} {B : Nat} {v : Value} {s : Int} {Q : List EdgeI} (h : GrOwn w B v s Q) (hk : Kept S w w') (hS : ∀ g, GrBlk v g → ¬ S g) : GrOwn w' B v s Q := by
  obtain ⟨v1, rfl, h1⟩ := h
  exact ⟨v1, rfl, hk.own h1 (fun g hg => hS g ⟨_, v1, rfl, hg⟩)⟩

/-- A graph's variable in memory. -/
def GBox (w : World) (g : Nat) (s : Int) (b : Value) : Prop := w.heap[g]? = some (.cells #[.int .i64 s, b] 37 (0, 0))

theorem GBox.lt {w : World} {g : Nat} {s : Int} {b : Value} (h : GBox w g s b) : g < w.heap.size := by
  rcases Nat.lt_or_ge g w.heap.size with h1 | h1
  · exact h1
  · unfold GBox at h; rw [Array.getElem?_eq_none h1] at h; cases h

theorem GBox.below {w w' : World} {g : Nat} {s : Int} {b : Value} (h : GBox w g s b) (hb : Below w.heap.size w w') : GBox w' g s b := by
  unfold GBox; rw [hb.block g h.lt]; exact h

theorem GBox.kept {S : Nat → Prop} {w w' : World} {g : Nat} {s : Int} {b : Value} (h : GBox w g s b) (hk : Kept S w w') (hS : ¬ S g) : GBox w' g s b := by
  unfold GBox; rw [hk.2.2.2.2 g h.lt hS]; exact h

theorem GBox.new (w : World) (s : Int) (b : Value) : GBox (w.alloc (Obj.cells #[.int .i64 s, b] 37)) w.heap.size s b := heap_alloc_new w _

theorem GBox.cells {w : World} {g : Nat} {s : Int} {b : Value} (h : GBox w g s b) : w.cell? ⟨g, 0, none⟩ = some (.int .i64 s) ∧ w.cell? ⟨g, 1, none⟩ = some b :=
  ⟨(cells_of_two h).1, (cells_of_two h).2.1⟩

theorem GBox.froz {w : World} {g : Nat} {s : Int} {b : Value} (h : GBox w g s b) (j : Nat) : w.frozen? ⟨g, j, none⟩ = false := (cells_of_two h).2.2 j

theorem GBox.two {w : World} {g : Nat} {s : Int} {b : Value} (h : GBox w g s b) (x : Int) (y : Value) : GBox ((w.setCell ⟨g, 0, none⟩ (.int .i64 x)).setCell ⟨g, 1, none⟩ y) g x y := two_one (two_zero h _) _

theorem GBox.one {w : World} {g : Nat} {s : Int} {b : Value} (h : GBox w g s b) (y : Value) : GBox (w.setCell ⟨g, 1, none⟩ y) g s y := two_one h _

theorem results_graph {fn : Func} {p u : Tmp} (h : fn.results = #[.cell p 37, .tmp u]) (tmps : Array Value) (w : World) (g : Nat) (s : Int) (b : Value) (hp : tmps.getD p undef = .pointer (some ⟨g, 0, none⟩)) (hg : GBox w g s b) :
    (results fn tmps).run Try.prog w = .ok (.tuple #[.agg #[.int .i64 s, b], tmps.getD u undef]) w := by
  obtain ⟨c0, c1⟩ := hg.cells
  have hp' : tmps[p]?.getD undef = .pointer (some ⟨g, 0, none⟩) := by simpa using hp
  simp [results, h, hp', go_sem, c0, c1]

theorem results_graph1 {fn : Func} {p : Tmp} (h : fn.results = #[.cell p 37]) (tmps : Array Value) (w : World) (g : Nat) (s : Int) (b : Value) (hp : tmps.getD p undef = .pointer (some ⟨g, 0, none⟩)) (hg : GBox w g s b) :
    (results fn tmps).run Try.prog w = .ok (.agg #[.int .i64 s, b]) w := by
  obtain ⟨c0, c1⟩ := hg.cells
  have hp' : tmps[p]?.getD undef = .pointer (some ⟨g, 0, none⟩) := by simpa using hp
  simp [results, h, hp', go_sem, c0, c1]

set_option maxRecDepth 100000 in
theorem szGraph_any (v : Value) (B : Nat) (s : Int) (Q : List EdgeI) (left : Int) (h0 : 0 ≤ left) (h1 : left ≤ 1048576) (hQ : Q.length ≤ 9223372036854775807) (w : World) (hv : GrAt w v B s Q) :
    Calls Try.prog 15 #[v, .int .i64 left] w fun e w' => e = .returned (.int .i64 (if left - (Q.length : Int) < 0 then -1 else left - (Q.length : Int))) ∧ Below w.heap.size w w' := by
  obtain ⟨a, n, c, rfl, hE⟩ := hv
  obtain rfl : n = Q.length := hE.1.symm
  have HS := hide (fun w => szEdgeS_any a Q.length c left h0 h1 hQ w)
  clear hE
  generalize (Q.length : Nat) = n at HS
  by_cases h : left - (n : Int) < 0
  · rw [if_pos h] at HS ⊢
    go_enter Try.func15, Try.ntmps15
    go_wp2_with fail
    refine (unhide HS _).mono ?_
    rintro e w1 ⟨rfl, rfl⟩
    go_wp2
    go_ret
    exact ⟨rfl, below_new _ _⟩
  · rw [if_neg h] at HS ⊢
    go_enter Try.func15, Try.ntmps15
    go_wp2_with fail
    refine (unhide HS _).mono ?_
    rintro e w1 ⟨rfl, rfl⟩
    go_wp2
    go_ret
    exact ⟨rfl, below_new _ _⟩

set_option maxRecDepth 100000 in
set_option maxHeartbeats 1000000 in
theorem toGraph_any (v : Value) (B : Nat) (s : Int) (Q : List EdgeI) (h1 : Q.length ≤ 1048576) (w : World) (hB : B ≤ w.heap.size) (hv : GrAt w v B s Q) :
    Calls Try.prog 20 #[v] w fun e w' => (∃ d, e = .returned d ∧ GrOwn w' w.heap.size d s Q) ∧ Below w.heap.size w w' := by
  obtain ⟨a, n, c, rfl, hE⟩ := hv
  obtain rfl : n = Q.length := hE.1.symm
  have H1 := hide (fun w1 (hb : Below w.heap.size w w1) => toEdgeS_any a Q.length c B Q h1 w1 (by have := hb.size; omega) (hE.below hb hB))
  clear hE h1
  generalize hn : Q.length = n at H1
  go_enter Try.func20, Try.ntmps20
  go_wp2_with fail
  obtain ⟨V1, hV1⟩ : ∃ W, W = w.alloc (Obj.cells #[Value.int .i64 s, Value.slice a n c] 24) := ⟨_, rfl⟩
  obtain ⟨V2, hV2⟩ : ∃ W, W = V1.alloc (Obj.cells #[Value.int .i64 0, Value.slice none 0 0] 37) := ⟨_, rfl⟩
  obtain ⟨V3, hV3⟩ : ∃ W, W = V2.alloc (Obj.cells #[Value.int .i64 s, Value.slice none 0 0] 37) := ⟨_, rfl⟩
  rw [← hV1, ← hV2, ← hV3]
  have z1 : V1.heap.size = w.heap.size + 1 := by rw [hV1]; simp
  have z2 : V2.heap.size = w.heap.size + 1 + 1 := by rw [hV2]; simp [z1]
  have b1 : Below w.heap.size w V1 := by rw [hV1]; exact below_new _ _
  have b2 : Below w.heap.size w V2 := by rw [hV2]; exact b1.alloc b1.size _
  have b3 : Below w.heap.size w V3 := by rw [hV3]; exact b2.alloc b2.size _
  have x2 : GBox V2 (w.heap.size + 1) 0 (.slice none 0 0) := by rw [hV2, ← z1]; exact GBox.new _ _ _
  have x3 : GBox V3 (w.heap.size + 1) 0 (.slice none 0 0) := by rw [hV3]; exact x2.below (below_new _ _)
  have y3 : GBox V3 (w.heap.size + 1 + 1) s (.slice none 0 0) := by rw [hV3, ← z2]; exact GBox.new _ _ _
  clear hV1 hV2 hV3 b1 b2 x2 z1 z2
  refine (unhide H1 V3 b3).mono ?_
  rintro e w4 ⟨⟨v1, rfl, ho⟩, hb4⟩
  obtain ⟨A, C, rfl, _⟩ := edgesAt.of_own ho
  have x4 := x3.below hb4
  have y4 := y3.below hb4
  have b4 : Below w.heap.size w w4 := b3.trans (hb4.mono b3.size)
  have hs3 := y3.lt
  have hs4 := hb4.size
  have y5 := y4.one (Value.slice A n C)
  have hk5 : Kept (fun k => k = w.heap.size + 1 + 1) w4 (w4.setCell ⟨w.heap.size + 1 + 1, 1, none⟩ (Value.slice A n C)) := Kept.set (S := fun k => k = w.heap.size + 1 + 1) _ _ _ _ rfl
  have x5 := x4.kept hk5 (by omega)
  have o5 := hk5.own ho (fun g hg e => by have := ho.lt g hg; omega)
  have b5 : Below w.heap.size w (w4.setCell ⟨w.heap.size + 1 + 1, 1, none⟩ (Value.slice A n C)) := b4.setCell (p := ⟨w.heap.size + 1 + 1, 1, none⟩) (by simp; omega) _
  obtain ⟨p0, p1⟩ := y4.cells
  have pf := y4.froz
  obtain ⟨q0, q1⟩ := y5.cells
  obtain ⟨t0, t1⟩ := x5.cells
  have tf := x5.froz
  have HX5 := hide x5
  have HO5 := hide o5
  have HB5 := hide b5
  have hb3 := b3.size
  clear ho x3 y3 x4 y4 y5 x5 o5 b4 b5 hb4 hk5 b3
  go_wp2
  (try simp only [Exit.inBlock, Exit.then])
  have hk6 : Kept (fun k => k = w.heap.size + 1) (w4.setCell ⟨w.heap.size + 1 + 1, 1, none⟩ (Value.slice A n C)) (((w4.setCell ⟨w.heap.size + 1 + 1, 1, none⟩ (Value.slice A n C)).setCell ⟨w.heap.size + 1, 0, none⟩ (.int .i64 s)).setCell ⟨w.heap.size + 1, 1, none⟩ (Value.slice A n C)) :=
    (Kept.set (S := fun k => k = w.heap.size + 1) _ _ _ _ rfl).trans (Kept.set (S := fun k => k = w.heap.size + 1) _ _ _ _ rfl)
  refine bodyPost_ret (results_graph1 Try.results20 _ _ (w.heap.size + 1) _ _ rfl ((unhide HX5).two s (Value.slice A n C))) rfl ?_
  refine ⟨⟨_, rfl, _, rfl, ?_⟩, (unhide HB5).trans (hk6.below (unhide HB5).size (fun i hi => by omega))⟩
  rw [hn]
  exact own_lower hb3 (hk6.own (unhide HO5) (fun g hg e => by have := (unhide HO5).lt g hg; omega))

set_option maxRecDepth 100000 in
set_option maxHeartbeats 1000000 in
theorem eqGraph_same (v u : Value) (B B' : Nat) (s : Int) (Q : List EdgeI) (h1 : Q.length ≤ 1048576) (w : World) (hB : B ≤ w.heap.size) (hB' : B' ≤ w.heap.size) (hv : GrAt w v B s Q) (hu : GrAt w u B' s Q) :
    Calls Try.prog 28 #[v, u] w fun e w' => e = .returned (.bool true) ∧ Below w.heap.size w w' := by
  obtain ⟨a, n, c, rfl, hE⟩ := hv
  obtain ⟨a', n', c', rfl, hE'⟩ := hu
  obtain rfl : n = Q.length := hE.1.symm
  obtain rfl : n' = Q.length := hE'.1.symm
  have EQ := hide (fun w1 (hb : Below w.heap.size w w1) => eqEdgeS_same a a' Q.length c c' B B' Q h1 w1 (by have := hb.size; omega) (by have := hb.size; omega) (hE.below hb hB) (hE'.below hb hB'))
  clear hE hE' h1
  generalize Q.length = n at EQ
  go_enter Try.func28, Try.ntmps28
  go_wp2_with fail
  obtain ⟨V2, hV2⟩ : ∃ W, W = (w.alloc (Obj.cells #[Value.int .i64 s, Value.slice a n c] 37)).alloc (Obj.cells #[Value.int .i64 s, Value.slice a' n c'] 37) := ⟨_, rfl⟩
  rw [← hV2]
  have b2 : Below w.heap.size w V2 := by rw [hV2]; exact ((Below.refl _ _).alloc (Nat.le_refl _) _).alloc (by simp) _
  clear hV2
  refine (unhide EQ V2 b2).mono ?_
  rintro e w3 ⟨rfl, hb3⟩
  have hw3 := b2.trans (hb3.mono b2.size)
  clear hb3 b2
  go_wp2
  go_ret
  exact ⟨rfl, hw3⟩

theorem cells_graph : Try.prog.cellsOf 24 = 2 := by kernel_rfl

set_option maxRecDepth 100000 in
/-- A graph that came in. -/
theorem graph_open {H : Type} {enc : TypeId × Value → H} {W : World} {r : Reach} {b0 : Nat} {spare : Nat → Bool} {held : Bool} {v : Value} {d : DataW H} {p : List MemPlace}
    (hv : Value.okWide Try.prog W r b0 24 v) (h : DataW.Trod enc Try.prog W 0 spare held 24 v d p) : ∃ s Q, GrAt W v W.heap.size s Q ∧ Q.length ≤ 9223372036854775807 ∧ (Lit.int .i64 s).wf = true := by
  obtain ⟨v0, v1, y0, y1, n, rfl, _, _, h0, h1⟩ := Joins.open_agg2 Try.underlying24 (by kernel_rfl) cells_graph hv h
  obtain ⟨z, e2, _, hz⟩ := DataW.trod_int Try.underlying3 h0
  simp at e2
  subst e2
  obtain ⟨a', k', c', Q, rfl, hQ, hQ1⟩ := edges_open h1
  exact ⟨z, Q, ⟨a', k', c', rfl, hQ⟩, hQ1, hz⟩

end Gr
end Go.Proofs.Ytldbanpfhlmjmaa

/-
  A variable of some cells in a block of its own.
-/
namespace Go.Proofs.Ytldbanpfhlmjmaa
namespace Gr
open Go.RowKit

/-- A struct's variable in memory. -/
def CBox (w : World) (g : Nat) (cs : Array Value) (t : TypeId) : Prop := w.heap[g]? = some (.cells cs t (0, 0))

theorem CBox.lt {w : World} {g : Nat} {cs : Array Value} {t : TypeId} (h : CBox w g cs t) : g < w.heap.size := by
  rcases Nat.lt_or_ge g w.heap.size with h1 | h1
  · exact h1
  · unfold CBox at h; rw [Array.getElem?_eq_none h1] at h; cases h

theorem CBox.below {w w' : World} {g : Nat} {cs : Array Value} {t : TypeId} (h : CBox w g cs t) (hb : Below w.heap.size w w') : CBox w' g cs t := by
  unfold CBox; rw [hb.block g h.lt]; exact h

theorem CBox.kept {S : Nat → Prop} {w w' : World} {g : Nat} {cs : Array Value} {t : TypeId} (h : CBox w g cs t) (hk : Kept S w w') (hS : ¬ S g) : CBox w' g cs t := by
  unfold CBox; rw [hk.2.2.2.2 g h.lt hS]; exact h

theorem CBox.new (w : World) (cs : Array Value) (t : TypeId) : CBox (w.alloc (Obj.cells cs t)) w.heap.size cs t := heap_alloc_new w _

theorem CBox.cell {w : World} {g : Nat} {cs : Array Value} {t : TypeId} (h : CBox w g cs t) (i : Nat) : w.cell? ⟨g, i, none⟩ = cs[i]? := cell_of_row w g i cs t (0, 0) h

end Gr
end Go.Proofs.Ytldbanpfhlmjmaa

/-
  The kinds of values that the laws hand about, in one form each (..At: it can be read; ..Own: a call has made it; ..Blk: its blocks), so that a law's walk is written by program (tools/exactlaw.py). A struct's variable in memory: CBox.
-/
namespace Go.Proofs.Ytldbanpfhlmjmaa
namespace Gr
open Go.ChangeShapes Go.WideShapes Go.ChangeAt Go.RowKit

/-! ### Graphs -/

theorem GrAt.shape {w : World} {v : Value} {B : Nat} {s : Int} {Q : List EdgeI} (h : GrAt w v B s Q) : ∃ a c, v = .agg #[.int .i64 s, .slice a Q.length c] := by
  obtain ⟨a, n, c, rfl, hE⟩ := h
  exact ⟨a, c, by rw [hE.1]⟩

theorem szGraph_gen (v : Value) (B : Nat) (s : Int) (Q : List EdgeI) (left : Int) (h0 : 0 ≤ left) (h1 : left ≤ 1048576) (hQ : Q.length ≤ 9223372036854775807) (w : World) (hv : GrAt w v B s Q) :
    Calls Try.prog 15 #[v, .int .i64 left] w fun e w' => (∃ x : Int, e = .returned (.int .i64 x) ∧ x ≤ left ∧ (0 ≤ x → (Q.length : Int) + x ≤ left)) ∧ Below w.heap.size w w' := by
  refine (szGraph_any v B s Q left h0 h1 hQ w hv).mono ?_
  rintro e w' ⟨rfl, hb⟩
  refine ⟨⟨_, rfl, ?_, ?_⟩, hb⟩
  · split <;> omega
  · split <;> omega

/-! ### Lists of numbers -/

def InAt (w : World) (v : Value) (B : Nat) (K : List Int) : Prop := ∃ a c, v = .slice a K.length c ∧ IntsAt w a K.length B K
def InOwn (w : World) (B : Nat) (v : Value) (K : List Int) : Prop := w.ownsRow B 3 1 v K.length (intsV K)
def InBlk (v : Value) (g : Nat) : Prop := v.ownBlock = some g

theorem InAt.shape {w : World} {v : Value} {B : Nat} {K : List Int} (h : InAt w v B K) : ∃ a c, v = .slice a K.length c := by
  obtain ⟨a, c, rfl, _⟩ := h
  exact ⟨a, c, rfl⟩

theorem InAt.below {w w' : World} {v : Value} {B C : Nat} {K : List Int} (h : InAt w v B K) (hb : Below C w w') (hC : B ≤ C) : InAt w' v B K := by
  obtain ⟨a, c, rfl, hQ⟩ := h
  exact ⟨a, c, rfl, hQ.below hb hC⟩

theorem InAt.mono {w : World} {v : Value} {B C : Nat} {K : List Int} (h : InAt w v B K) (hC : B ≤ C) : InAt w v C K := by
  obtain ⟨a, c, rfl, h1, h2⟩ := h
  refine ⟨a, c, rfl, h1, fun j hj => ?_⟩
  obtain ⟨b, off, e, hb, hc⟩ := h2 j hj
  exact ⟨b, off, e, by omega, hc⟩

theorem InOwn.at {w : World} {B : Nat} {v : Value} {K : List Int} (h : InOwn w B v K) : InAt w v w.heap.size K := by
  obtain ⟨a, c, rfl, hQ⟩ := intsAt_of_own h
  exact ⟨a, c, rfl, hQ⟩

theorem InOwn.below {w w' : World} {B : Nat} {v : Value} {K : List Int} (h : InOwn w B v K) (hb : Below w.heap.size w w') : InOwn w' B v K := own_below h hb

theorem InOwn.lower {w : World} {B C : Nat} {v : Value} {K : List Int} (h : InOwn w B v K) (hC : C ≤ B) : InOwn w C v K := own_lower hC h

theorem InOwn.blk {w : World} {B : Nat} {v : Value} {K : List Int} (h : InOwn w B v K) : ∀ g, InBlk v g → B ≤ g ∧ g < w.heap.size := fun g hg => World.ownsRow.lt h g hg

theorem InOwn.kept {S : Nat → Prop} {w w' : World} {B : Nat} {v : Value} {K : List Int} (h : InOwn w B v K) (hk : Kept S w w') (hS : ∀ g, InBlk v g → ¬ S g) : InOwn w' B v K := hk.own h hS

theorem toInts_gen (v : Value) (B : Nat) (K : List Int) (h1 : K.length ≤ 1048576) (w : World) (hB : B ≤ w.heap.size) (hv : InAt w v B K) :
    Calls Try.prog 42 #[v] w fun e w' => (∃ d, e = .returned d ∧ InOwn w' w.heap.size d K) ∧ Below w.heap.size w w' := by
  obtain ⟨a, c, rfl, hQ⟩ := hv
  exact toInts_any a K.length c B K h1 w hB hQ

theorem eqInts_gen (v u : Value) (B B' : Nat) (K : List Int) (h1 : K.length ≤ 1048576) (w : World) (hB : B ≤ w.heap.size) (hB' : B' ≤ w.heap.size) (hv : InAt w v B K) (hu : InAt w u B' K) :
    Calls Try.prog 51 #[v, u] w fun e w' => e = .returned (.bool true) ∧ Below w.heap.size w w' := by
  obtain ⟨a, c, rfl, hQ⟩ := hv
  obtain ⟨a', c', rfl, hQ'⟩ := hu
  exact eqInts_same a a' K.length c c' B B' K h1 w hB hB' hQ hQ'

/-! ### An edge -/

def EdAt (_w : World) (v : Value) (_B : Nat) (x : EdgeI) : Prop := v = x.v
def EdOwn (_w : World) (_B : Nat) (v : Value) (x : EdgeI) : Prop := v = x.v

theorem EdAt.shape {w : World} {v : Value} {B : Nat} {x : EdgeI} (h : EdAt w v B x) : v = .agg #[.int .i64 x.A, .int .i64 x.B, .int .i64 x.W1, .int .i64 x.W2, .int .i64 x.W3] := h
theorem EdAt.below {w w' : World} {v : Value} {B C : Nat} {x : EdgeI} (h : EdAt w v B x) (_hb : Below C w w') (_hC : B ≤ C) : EdAt w' v B x := h
theorem EdAt.mono {w : World} {v : Value} {B C : Nat} {x : EdgeI} (h : EdAt w v B x) (_hC : B ≤ C) : EdAt w v C x := h
theorem EdOwn.at {w : World} {B : Nat} {v : Value} {x : EdgeI} (h : EdOwn w B v x) : EdAt w v w.heap.size x := h
theorem EdOwn.below {w w' : World} {B : Nat} {v : Value} {x : EdgeI} (h : EdOwn w B v x) (_hb : Below w.heap.size w w') : EdOwn w' B v x := h

theorem toEdge_gen (v : Value) (B : Nat) (x : EdgeI) (w : World) (_hB : B ≤ w.heap.size) (hv : EdAt w v B x) :
    Calls Try.prog 62 #[v] w fun e w' => (∃ d, e = .returned d ∧ EdOwn w' w.heap.size d x) ∧ Below w.heap.size w w' := by
  unfold EdAt at hv
  subst hv
  refine (toEdge_any x w).mono ?_
  rintro e w' ⟨rfl, hb⟩
  exact ⟨⟨_, rfl, rfl⟩, hb⟩

theorem eqEdge_gen (v u : Value) (B B' : Nat) (x : EdgeI) (w : World) (_hB : B ≤ w.heap.size) (_hB' : B' ≤ w.heap.size) (hv : EdAt w v B x) (hu : EdAt w u B' x) :
    Calls Try.prog 75 #[v, u] w fun e w' => e = .returned (.bool true) ∧ Below w.heap.size w w' := by
  unfold EdAt at hv hu
  subst hv hu
  exact eqEdge_same x w

/-! ### What came in -/

set_option maxRecDepth 100000 in
theorem ints_in {H : Type} {enc : TypeId × Value → H} {W : World} {r : Reach} {b0 : Nat} {v : Value} {d : DataW H} {p : List MemPlace}
    (hv : Value.okWide Try.prog W r b0 26 v) (h : DataW.Trod enc Try.prog W 0 (fun _ => true) true 26 v d p) : ∃ K, InAt W v W.heap.size K ∧ K.length ≤ 9223372036854775807 := by
  obtain ⟨a, n, c, rfl⟩ := okWide_slice Try.underlying26 hv
  obtain ⟨fuel, hf⟩ := h
  obtain ⟨a', n', c', K, hcs, hK, _, hn⟩ := ints_open (fun _ => rfl) hf
  simp [Value.cells] at hcs
  obtain ⟨rfl, rfl, rfl⟩ := hcs
  obtain rfl : n = K.length := hK.1.symm
  exact ⟨K, ⟨a, c, rfl, hK⟩, hn⟩

set_option maxRecDepth 100000 in
theorem graph_in {H : Type} {enc : TypeId × Value → H} {W : World} {r : Reach} {b0 : Nat} {v : Value} {d : DataW H} {p : List MemPlace}
    (hv : Value.okWide Try.prog W r b0 24 v) (h : DataW.Trod enc Try.prog W 0 (fun _ => true) true 24 v d p) : ∃ s Q, GrAt W v W.heap.size s Q ∧ Q.length ≤ 9223372036854775807 := by
  obtain ⟨s, Q, h1, h2, _⟩ := graph_open hv h
  exact ⟨s, Q, h1, h2⟩

set_option maxRecDepth 100000 in
theorem edge_in {H : Type} {enc : TypeId × Value → H} {W : World} {r : Reach} {b0 : Nat} {v : Value} {d : DataW H} {p : List MemPlace}
    (hv : Value.okWide Try.prog W r b0 108 v) (h : DataW.Trod enc Try.prog W 0 (fun _ => true) true 108 v d p) : ∃ x, EdAt W v W.heap.size x := edges_one hv h

end Gr
end Go.Proofs.Ytldbanpfhlmjmaa

/-
  Groups and proofs: their sizes, copies of them, and that equal ones are told to be equal.
-/
namespace Go.Proofs.Ytldbanpfhlmjmaa
namespace Gr
open Go.RowKit

theorem wrap_sub {left : Int} {n : Nat} (h0 : 0 ≤ left) (h1 : left ≤ 1048576) (hn : n ≤ 9223372036854775807) : IntKind.i64.wrap (left - (n : Int)) = left - (n : Int) := by
  have e : IntKind.i64.wrap (left - (n : Int)) = if (9223372036854775808 : Int) ≤ (left - (n : Int)) % 18446744073709551616 then (left - (n : Int)) % 18446744073709551616 - 18446744073709551616 else (left - (n : Int)) % 18446744073709551616 := by
    simp [IntKind.wrap, IntKind.signed, IntKind.bits]
  rw [e]
  split <;> omega

set_option maxRecDepth 100000 in
theorem szInts_any (a : Option Addr) (n c : Nat) (left : Int) (h0 : 0 ≤ left) (h1 : left ≤ 1048576) (hn : n ≤ 9223372036854775807) (w : World) :
    Calls Try.prog 34 #[.slice a n c, .int .i64 left] w fun e w' => e = .returned (.int .i64 (if left - (n : Int) < 0 then -1 else left - (n : Int))) ∧ w' = w := by
  obtain ⟨x, hx⟩ : ∃ x, x = left - (n : Int) := ⟨_, rfl⟩
  have hw : IntKind.i64.wrap (left - (n : Int)) = x := by rw [hx]; exact wrap_sub h0 h1 hn
  rw [← hx]
  clear hx
  by_cases t : x < 0
  · rw [if_pos t]
    go_enter Try.func34, Try.ntmps34
    go_wp2
    go_ret
    exact ⟨rfl, rfl⟩
  · rw [if_neg t]
    go_enter Try.func34, Try.ntmps34
    go_wp2
    go_ret
    exact ⟨rfl, rfl⟩

set_option maxRecDepth 100000 in
theorem szGroup_any (a : Option Addr) (n c : Nat) (z left : Int) (h0 : 0 ≤ left) (h1 : left ≤ 1048576) (hn : n ≤ 9223372036854775807) (w : World) :
    Calls Try.prog 54 #[.agg #[.slice a n c, .int .i64 z], .int .i64 left] w fun e w' => e = .returned (.int .i64 (if left - (n : Int) < 0 then -1 else left - (n : Int))) ∧ Below w.heap.size w w' := by
  have SZ := hide (fun w => szInts_any a n c left h0 h1 hn w)
  obtain ⟨x, hx⟩ : ∃ x, x = left - (n : Int) := ⟨_, rfl⟩
  rw [← hx] at SZ ⊢
  clear hx
  by_cases t : x < 0
  · rw [if_pos t] at SZ ⊢
    go_enter Try.func54, Try.ntmps54
    go_wp2_with fail
    refine (unhide SZ _).mono ?_
    rintro e w1 ⟨rfl, rfl⟩
    go_wp2
    go_ret
    exact ⟨rfl, below_new _ _⟩
  · rw [if_neg t] at SZ ⊢
    go_enter Try.func54, Try.ntmps54
    go_wp2_with fail
    refine (unhide SZ _).mono ?_
    rintro e w1 ⟨rfl, rfl⟩
    go_wp2
    go_ret
    exact ⟨rfl, below_new _ _⟩

theorem gbulk_drop (G : List GrpI) (j : Nat) (h : j < G.length) : gbulk (G.drop j) = G[j].M.length + gbulk (G.drop (j + 1)) := by
  rw [List.drop_eq_getElem_cons h]
  rfl

set_option maxRecDepth 100000 in
set_option maxHeartbeats 1000000 in
theorem szGroups_any (a : Option Addr) (n c B : Nat) (G : List GrpI) (left : Int) (h0 : 0 ≤ left) (h1 : left ≤ 1048576) (hn : n ≤ 9223372036854775807) (hm : ∀ q ∈ G, q.M.length ≤ 9223372036854775807) (w : World) (hG : groupsAt w a n B G) :
    Calls Try.prog 35 #[.slice a n c, .int .i64 left] w fun e w' => (∃ x : Int, e = .returned (.int .i64 x) ∧ x ≤ left ∧ (0 ≤ x → ((G.length + gbulk G : Nat) : Int) + x ≤ left)) ∧ Below w.heap.size w w' := by
  obtain ⟨hL, hc⟩ := hG
  have HC := hide hc
  have HL := hide hL
  have HM := hide hm
  have HD := hide (fun j h => gbulk_drop G j h)
  have HD0 : Hid (gbulk G = gbulk (G.drop 0)) := rfl
  have HDN : Hid (gbulk (G.drop n) = 0) := by show _ = _; rw [← hL, List.drop_length]; rfl
  clear hc hm
  obtain ⟨x, hx⟩ : ∃ x, x = left - (n : Int) := ⟨_, rfl⟩
  have hw : IntKind.i64.wrap (left - (n : Int)) = x := by rw [hx]; exact wrap_sub h0 h1 hn
  have HX := hide hx
  clear hx hL
  by_cases t : x < 0
  · have hxl : x ≤ left := by have := unhide HX; omega
    go_enter Try.func35, Try.ntmps35
    go_wp2
    go_ret
    exact ⟨⟨-1, rfl, by omega, fun h => absurd h (by omega)⟩, Below.refl _ _⟩
  · have ht : 0 ≤ x := by omega
    go_enter Try.func35, Try.ntmps35
    go_wp2_with fail
    go_loopw [1, 5] (fun l i wr => ∃ (j : Nat) (y : Int), i = .int .i64 (j : Int) ∧ l = .int .i64 y ∧ j ≤ n ∧ 0 ≤ y ∧ Hid ((n : Int) + (gbulk G : Int) + y = left + (gbulk (G.drop j) : Int)) ∧ Below w.heap.size w wr) (fun _ i _ => n - (intOf i).toNat)
    case atStart => exact ⟨0, x, rfl, rfl, Nat.zero_le _, ht, (by show _ = _; have := unhide HX; rw [← unhide HD0]; omega), Below.refl _ _⟩
    case round =>
      obtain ⟨j, y, rfl, rfl, hj, hy, HY, hb⟩ := hrel
      have hyl : y ≤ left := by
        have h := unhide HY
        have : gbulk (G.drop j) ≤ gbulk G + n := by
          have : ∀ (L : List GrpI) k, gbulk (L.drop k) ≤ gbulk L := by
            intro L
            induction L with
            | nil => intro k; simp [gbulk]
            | cons q r ih =>
              intro k
              cases k with
              | zero => exact Nat.le_refl _
              | succ k => exact Nat.le_trans (ih k) (by simp [gbulk])
          have := this G j
          omega
        omega
      by_cases hlt : j < n
      · have hjL : j < G.length := by have := unhide HL; omega
        obtain ⟨b, off, a', c', rfl, _, c0, c1, _⟩ := unhide HC j hjL
        have hbw := World.block_lt_of_cell? w _ c0
        simp only at hbw
        rw [← hb.cell (p := ⟨b, off + j * 2, none⟩) (by simp; omega)] at c0
        rw [← hb.cell (p := ⟨b, off + j * 2 + 1, none⟩) (by simp; omega)] at c1
        have SZ := hide (fun w => szGroup_any a' G[j].M.length c' G[j].Z y hy (by omega) (unhide HM _ (List.getElem_mem hjL)) w)
        have HDJ := hide (unhide HD j hjL)
        generalize G[j] = q at c0 c1 SZ HDJ
        obtain ⟨x1, hx1⟩ : ∃ x1, x1 = y - (q.M.length : Int) := ⟨_, rfl⟩
        rw [← hx1] at SZ
        have HX1 := hide hx1
        clear hx1
        by_cases t1 : x1 < 0
        · rw [if_pos t1] at SZ
          go_wp2_with fail
          refine (unhide SZ _).mono ?_
          rintro e w1 ⟨rfl, hb1⟩
          have hb2 := hb.trans (hb1.mono hb.size)
          clear c0 c1
          go_wp2_with fail
          go_ret
          exact ⟨⟨-1, rfl, by omega, fun h => absurd h (by omega)⟩, hb2⟩
        · rw [if_neg t1] at SZ
          go_wp2_with fail
          refine (unhide SZ _).mono ?_
          rintro e w1 ⟨rfl, hb1⟩
          have hb2 := hb.trans (hb1.mono hb.size)
          clear c0 c1
          go_wp2_with fail
          refine ⟨⟨j + 1, x1, by go_num, rfl, by omega, by omega, (by show _ = _; have h1 := unhide HY; have h2 := unhide HDJ; have h3 := unhide HX1; omega), hb2⟩, by simp [intOf]; omega⟩
      · have hjn : j = n := by omega
        subst hjn
        have HY2 : Hid (((G.length + gbulk G : Nat) : Int) + y ≤ left) := by show _ ≤ _; have h1 := unhide HY; have h2 := unhide HDN; have h3 := unhide HL; omega
        go_wp2_with fail
        go_ret
        exact ⟨⟨y, rfl, by omega, fun _ => unhide HY2⟩, hb⟩

/-- How great a proof is, in all (never more than the greatest number). -/
def psize (Y : List Int) (G : List GrpI) : Nat := min (Y.length + (G.length + gbulk G)) 9223372036854775807

end Gr
end Go.Proofs.Ytldbanpfhlmjmaa
