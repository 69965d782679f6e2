/-
 TrOpen, GrKPair, GrPairM.
-/
import Derived.Test.YtjblkijicfmkgaaGreatDoorJ5
import Derived.Lib.SmallJoins
import Derived.SliceStrings
import Derived.Deep.SlicePairs
import Derived.ShutString
import Derived.Test.YtjblkijicfmkgaaGreatDoorJ12
import Derived.Test.YtjblkijicfmkgaaGreatDoorJ18
namespace Go.Proofs.YtjblkijicfmkgaaGreatDoor
namespace Tr
open Go.ChangeShapes Go.WideShapes Go.ChangeAt Go.RowKit
theorem cells_pair : Tryz.prog.cellsOf 47 = 2 := by kernel_rfl
theorem cells_str : Tryz.prog.cellsOf 9 = 1 := by kernel_rfl
theorem pairs_open {H : Type} {enc : TypeId × Value → H} {W : World} {spare : Nat → Bool} {held : Bool} {fuel : Nat} {v : Value} {x : DataW H × List MemPlace} (hsp : ∀ b, spare b = true)
    (h : DataW.trod enc Tryz.prog W 0 spare held fuel 22 [v] = some x) :
    ∃ a n c Q, v = .slice a n c ∧ PairsAt W a n W.heap.size Q ∧ Q.length ≤ 9223372036854775807 ∧ ∀ q ∈ Q, q.1.size ≤ 9223372036854775807 ∧ q.2.size ≤ 9223372036854775807 := by
  rcases Deep.open_slice_pairs Tryz.underlying22 Tryz.underlying47 cells_pair rfl rfl cells_str cells_str h with ⟨hcs, _⟩ | ⟨a, len, cap, m, n, V0, V1, D0, D1, P0, P1, hcs, _, hl, hm, hmm, _, hcell⟩
  · simp at hcs
    exact ⟨none, 0, 0, [], hcs, ⟨rfl, fun j hj => by simp at hj⟩, by simp, by simp⟩
  · simp at hcs
    rw [if_pos (hsp _)] at hmm
    subst hmm
    have hv : ∀ i, i < m → ∃ (y s : ByteArray), V0 i = .string y ∧ V1 i = .string s ∧ y.size ≤ 9223372036854775807 ∧ s.size ≤ 9223372036854775807 := by
      intro i hi
      obtain ⟨_, _, h0, h1⟩ := hcell i hi
      obtain ⟨y, e0, _, hy⟩ := DataW.trod_string Tryz.underlying9 h0
      obtain ⟨s, e1, _, hs⟩ := DataW.trod_string Tryz.underlying9 h1
      simp at e0 e1
      refine ⟨y, s, e0, e1, ?_⟩
      unfold maxLen at hs hy
      omega
    let X : Nat → ByteArray × ByteArray := fun i => if hi : i < m then ((hv i hi).choose, (hv i hi).choose_spec.choose) else (⟨#[]⟩, ⟨#[]⟩)
    have hX : ∀ i, i < m → V0 i = .string (X i).1 ∧ V1 i = .string (X i).2 ∧ (X i).1.size ≤ 9223372036854775807 ∧ (X i).2.size ≤ 9223372036854775807 := by
      intro i hi
      have hsp2 := (hv i hi).choose_spec.choose_spec
      simp only [X, hi, dif_pos]
      exact hsp2
    refine ⟨some a, len, m, (List.range len).map X, hcs, ⟨by simp, fun j hj => ?_⟩, by unfold maxLen at hm; simp; omega, ?_⟩
    · have hj1 : j < len := by simpa using hj
      obtain ⟨b, off, spot⟩ := a
      have hspot : spot = none := by simpa [Addr.add] using World.cell?_spot (hcell 0 (by omega)).1
      subst hspot
      obtain ⟨h0, h1, _, _⟩ := hcell j (by omega)
      obtain ⟨e0, e1, _⟩ := hX j (by omega)
      rw [Addr.add_lit, e0] at h0
      rw [Addr.add_lit, e1] at h1
      refine ⟨b, off, rfl, by simpa using World.block_lt_of_cell? W _ h0, ?_, ?_⟩
      · rw [h0]; simp
      · rw [← Nat.add_assoc] at h1
        rw [h1]; simp
    · intro q hq
      obtain ⟨i, hi, rfl⟩ := List.mem_map.1 hq
      exact (hX i (by simp at hi; omega)).2.2
end Tr
end Go.Proofs.YtjblkijicfmkgaaGreatDoor
namespace Go.Proofs.YtjblkijicfmkgaaGreatDoor
namespace Gr
open Go.ChangeShapes Go.WideShapes Go.ChangeAt Go.RowKit
def PaIn (Q : List (ByteArray × ByteArray)) : Prop := ∀ q ∈ Q, q.1.size ≤ 9223372036854775807 ∧ q.2.size ≤ 9223372036854775807
def PaAt (w : World) (v : Value) (B : Nat) (Q : List (ByteArray × ByteArray)) : Prop := ∃ a c, v = .slice a Q.length c ∧ Tr.PairsAt w a Q.length B Q ∧ PaIn Q ∧ Q.length ≤ 9223372036854775807
def PaOwn (w : World) (B : Nat) (v : Value) (Q : List (ByteArray × ByteArray)) : Prop := w.ownsRow B 63 2 v Q.length (Tr.pairsV Q) ∧ PaIn Q ∧ Q.length ≤ 9223372036854775807
def PaBlk (v : Value) (g : Nat) : Prop := v.ownBlock = some g
theorem PaAt.shape {w : World} {v : Value} {B : Nat} {Q : List (ByteArray × ByteArray)} (h : PaAt w v B Q) : ∃ a c, v = .slice a Q.length c := by
  obtain ⟨a, c, rfl, _⟩ := h
  exact ⟨a, c, rfl⟩
theorem PaAt.below {w w' : World} {v : Value} {B C : Nat} {Q : List (ByteArray × ByteArray)} (h : PaAt w v B Q) (hb : Below C w w') (hC : B ≤ C) : PaAt w' v B Q := by
  obtain ⟨a, c, rfl, hQ, hI⟩ := h
  exact ⟨a, c, rfl, hQ.below hb hC, hI⟩
theorem PaAt.mono {w : World} {v : Value} {B C : Nat} {Q : List (ByteArray × ByteArray)} (h : PaAt w v B Q) (hC : B ≤ C) : PaAt w v C Q := by
  obtain ⟨a, c, rfl, hQ, hI⟩ := h
  exact ⟨a, c, rfl, hQ.mono hC, hI⟩
theorem PaOwn.at {w : World} {B : Nat} {v : Value} {Q : List (ByteArray × ByteArray)} (h : PaOwn w B v Q) : PaAt w v w.heap.size Q := by
  obtain ⟨ho, hI⟩ := h
  obtain ⟨a, c, rfl, hQ⟩ := Tr.PairsAt.of_own ho
  exact ⟨a, c, rfl, hQ, hI⟩
theorem PaOwn.below {w w' : World} {B : Nat} {v : Value} {Q : List (ByteArray × ByteArray)} (h : PaOwn w B v Q) (hb : Below w.heap.size w w') : PaOwn w' B v Q := ⟨own_below h.1 hb, h.2⟩
theorem PaOwn.lower {w : World} {B C : Nat} {v : Value} {Q : List (ByteArray × ByteArray)} (h : PaOwn w B v Q) (hC : C ≤ B) : PaOwn w C v Q := ⟨own_lower hC h.1, h.2⟩
theorem PaOwn.blk {w : World} {B : Nat} {v : Value} {Q : List (ByteArray × ByteArray)} (h : PaOwn w B v Q) : ∀ g, PaBlk v g → B ≤ g ∧ g < w.heap.size := fun g hg => World.ownsRow.lt h.1 g hg
theorem PaOwn.kept {S : Nat → Prop} {w w' : World} {B : Nat} {v : Value} {Q : List (ByteArray × ByteArray)} (h : PaOwn w B v Q) (hk : Kept S w w') (hS : ∀ g, PaBlk v g → ¬ S g) : PaOwn w' B v Q := ⟨hk.own h.1 hS, h.2⟩
def pasize (Q : List (ByteArray × ByteArray)) : Nat := min (Q.length + Tr.totP Q) 9223372036854775807
theorem pasize_le {Q : List (ByteArray × ByteArray)} (h : pasize Q ≤ 1048576) : Q.length ≤ 1048576 ∧ Tr.totP Q ≤ 1048576 := by
  unfold pasize at h
  omega
theorem szPairS_gen (v : Value) (B : Nat) (Q : List (ByteArray × ByteArray)) (left : Int) (h0 : 0 ≤ left) (h1 : left ≤ 1048576) (_hn : pasize Q ≤ 9223372036854775807) (w : World) (hv : PaAt w v B Q) :
    Calls Tryz.prog 8 #[v, .int .i64 left] w fun e w' => (∃ x : Int, e = .returned (.int .i64 x) ∧ x ≤ left ∧ (0 ≤ x → (pasize Q : Int) + x ≤ left)) ∧ Below w.heap.size w w' := by
  obtain ⟨a, c, rfl, hQ, hI, hl⟩ := hv
  have hQ2 : Tr.PairsAt w a Q.length w.heap.size Q := by
    refine ⟨hQ.1, fun j hj => ?_⟩
    obtain ⟨b, off, e, _, c0, c1⟩ := hQ.2 j hj
    exact ⟨b, off, e, World.block_lt_of_cell? w _ c0, c0, c1⟩
  refine (Tr.szPairs_any a Q.length c w.heap.size Q left h0 h1 hl hI w (Nat.le_refl _) hQ2).mono ?_
  rintro e w' ⟨⟨x, rfl, hx, _, hy⟩, hb⟩
  refine ⟨⟨x, rfl, hx, fun h => ?_⟩, hb⟩
  have := hy h
  unfold pasize
  omega
theorem toPairS_gen (v : Value) (B : Nat) (Q : List (ByteArray × ByteArray)) (h1 : pasize Q ≤ 1048576) (w : World) (hB : B ≤ w.heap.size) (hv : PaAt w v B Q) :
    Calls Tryz.prog 10 #[v] w fun e w' => (∃ d, e = .returned d ∧ PaOwn w' w.heap.size d Q) ∧ Below w.heap.size w w' := by
  obtain ⟨a, c, rfl, hQ, hI⟩ := hv
  refine (Tr.toPairs_any a Q.length c B Q (pasize_le h1).1 w hB hQ).mono ?_
  rintro e w' ⟨⟨d, rfl, ho⟩, hb⟩
  exact ⟨⟨d, rfl, ho, hI⟩, hb⟩
theorem eqPairS_gen (v u : Value) (B B' : Nat) (Q : List (ByteArray × ByteArray)) (h1 : pasize Q ≤ 1048576) (w : World) (hB : B ≤ w.heap.size) (hB' : B' ≤ w.heap.size) (hv : PaAt w v B Q) (hu : PaAt w u B' Q) :
    Calls Tryz.prog 13 #[v, u] w fun e w' => e = .returned (.bool true) ∧ Below w.heap.size w w' := by
  obtain ⟨a, c, rfl, hQ, _⟩ := hv
  obtain ⟨a', c', rfl, hQ', _⟩ := hu
  exact Tr.eqPairs_same a a' Q.length c c' B B' Q (pasize_le h1).1 w hB hB' hQ hQ'
set_option maxRecDepth 100000 in
theorem pairs_in {H : Type} {enc : TypeId × Value → H} {W : World} {r : Reach} {b0 : Nat} {v : Value} {d : DataW H} {p : List MemPlace}
    (hv : Value.okWide Tryz.prog W r b0 22 v) (h : DataW.Trod enc Tryz.prog W 0 (fun _ => true) true 22 v d p) : ∃ Q, PaAt W v W.heap.size Q ∧ pasize Q ≤ 9223372036854775807 := by
  obtain ⟨a, n, c, rfl⟩ := okWide_slice Tryz.underlying22 hv
  obtain ⟨fuel, hf⟩ := h
  obtain ⟨a', n', c', Q, hcs, hQ, hl, hI⟩ := Tr.pairs_open (fun _ => rfl) hf
  simp at hcs
  obtain ⟨rfl, rfl, rfl⟩ := hcs
  obtain rfl : n = Q.length := hQ.1.symm
  exact ⟨Q, ⟨a, c, rfl, hQ, hI, hl⟩, by unfold pasize; omega⟩
end Gr
end Go.Proofs.YtjblkijicfmkgaaGreatDoor
