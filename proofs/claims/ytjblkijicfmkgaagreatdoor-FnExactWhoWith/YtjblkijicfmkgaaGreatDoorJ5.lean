/-
  Texts of this claim, one behind the other: GrInts, GrKInts.
-/
import Derived.Test.YtjblkijicfmkgaaGreatDoorJ2
import Derived.Test.YtjblkijicfmkgaaGreatDoorJ4
import Derived.Deep.RegionHeld3
import Derived.Lib.SmallJoins
import Derived.SliceStrings
import Derived.ShutString

/-
  Rows of numbers: what the laws do with them (the texts of Ints, TrInts and IntsOpen, over the base of graphs).
-/
namespace Go.Proofs.YtjblkijicfmkgaaGreatDoor
namespace Gr
open Go.ChangeShapes Go.WideShapes Go.ChangeAt Go.RowKit

theorem info3 : (Tryz.prog.info? 3).map (fun i => (i.zero, i.size, i.bytes)) = some (some (.int .i64 0), 1, 8) := by kernel_rfl

def intsV (K : List Int) : List Value := K.map (Value.int .i64)

theorem intsV_set (K : List Int) (i : Nat) (x : Int) : (intsV K).set i (.int .i64 x) = intsV (K.set i x) := by simp [intsV, List.map_set]

theorem made_ints (n : Nat) (M : Array Value) (hM : M = madeCells (Value.int .i64 0).cells (n * 1)) : M.toList = intsV (List.replicate n 0) ∧ M.size = n * 1 := by
  constructor
  · rw [hM]
    simp [madeCells, intsV, Value.cells]
    refine List.eq_replicate_iff.2 ⟨by simp, fun b hb => ?_⟩
    obtain ⟨x, _, rfl⟩ := List.mem_map.1 hb
    simp [Nat.mod_one]
  · rw [hM, size_madeCells]

theorem intsAt_of_own {w : World} {B : Nat} {v : Value} {n : Nat} {K : List Int} (h : w.ownsRow B 3 1 v n (intsV K)) : ∃ a c, v = .slice a n c ∧ IntsAt w a n w.heap.size K := by
  have hl : K.length = n := by have := h.1; simp [intsV] at this; omega
  rcases h.2 with ⟨rfl, h0⟩ | ⟨g, cap, cur, rfl, hg, hh, _⟩
  · subst h0
    exact ⟨none, 0, rfl, hl, fun j hj => by omega⟩
  · refine ⟨_, _, rfl, hl, fun j hj => ⟨g, 0, rfl, (h.lt g rfl).2, ?_⟩⟩
    rw [Nat.zero_add, h.cellAt j (by omega)]
    simp [intsV, hj]

/-- The marks of n numbers from k on. -/
def marksN (k n : Nat) : List Int := (List.range n).map fun i => ((k + i : Nat) : Int)

theorem marksN_length (k n : Nat) : (marksN k n).length = n := by simp [marksN]
theorem marksN_at (k n i : Nat) (h : i < (marksN k n).length) : (marksN k n)[i] = ((k + i : Nat) : Int) := by simp [marksN]

theorem ints_open {H : Type} {enc : TypeId × Value → H} {W : World} {spare : Nat → Bool} {held : Bool} {fuel : Nat} {v : Value} {x : DataW H × List MemPlace} (hsp : ∀ b, spare b = true)
    (h : DataW.trod enc Tryz.prog W 0 spare held fuel 50 v.cells.toList = some x) :
    ∃ a n c K, v.cells.toList = [.slice a n c] ∧ IntsAt W a n W.heap.size K ∧ (∀ x ∈ K, (Lit.int .i64 x).wf = true) ∧ n ≤ 9223372036854775807 := by
  rcases open_ints Tryz.underlying50 Tryz.underlying3 cells_int h with ⟨hcs, _⟩ | ⟨a, len, cap, zs, hcs, _, hl, hm, hz, _, hcell, hwz⟩
  · exact ⟨none, 0, 0, [], hcs, ⟨rfl, fun j hj => by simp at hj⟩, by simp, by omega⟩
  · rw [if_pos (hsp _)] at hz
    refine ⟨some a, len, cap, zs.take len, hcs, ⟨by simp; omega, fun j hj => ?_⟩, fun x hx => hwz x (List.mem_of_mem_take hx), ?_⟩
    · have hj1 : j < len := by simp at hj; omega
      have hc := hcell j (by omega)
      obtain ⟨b, off, spot⟩ := a
      have hspot : spot = none := by simpa [Addr.add] using World.cell?_spot (hcell 0 (by omega))
      subst hspot
      rw [Addr.add_lit] at hc
      refine ⟨b, off, rfl, by simpa using World.block_lt_of_cell? W _ hc, ?_⟩
      rw [hc]
      have hjs : j < zs.length := by omega
      simp [hjs]
    · unfold maxLen at hm
      omega

end Gr
end Go.Proofs.YtjblkijicfmkgaaGreatDoor

/-
  Lists of numbers as a kind of values that the laws hand about (out of GrKinds).
-/
namespace Go.Proofs.YtjblkijicfmkgaaGreatDoor
namespace Gr
open Go.ChangeShapes Go.WideShapes Go.ChangeAt Go.RowKit

def InAt (w : World) (v : Value) (B : Nat) (K : List Int) : Prop := ∃ a c, v = .slice a K.length c ∧ IntsAt w a K.length B K
def InOwn (w : World) (B : Nat) (v : Value) (K : List Int) : Prop := w.ownsRow B 3 1 v K.length (intsV K)
def InBlk (v : Value) (g : Nat) : Prop := v.ownBlock = some g

theorem InAt.shape {w : World} {v : Value} {B : Nat} {K : List Int} (h : InAt w v B K) : ∃ a c, v = .slice a K.length c := by
  obtain ⟨a, c, rfl, _⟩ := h
  exact ⟨a, c, rfl⟩

theorem InAt.below {w w' : World} {v : Value} {B C : Nat} {K : List Int} (h : InAt w v B K) (hb : Below C w w') (hC : B ≤ C) : InAt w' v B K := by
  obtain ⟨a, c, rfl, hQ⟩ := h
  exact ⟨a, c, rfl, hQ.below hb hC⟩

theorem InAt.mono {w : World} {v : Value} {B C : Nat} {K : List Int} (h : InAt w v B K) (hC : B ≤ C) : InAt w v C K := by
  obtain ⟨a, c, rfl, h1, h2⟩ := h
  refine ⟨a, c, rfl, h1, fun j hj => ?_⟩
  obtain ⟨b, off, e, hb, hc⟩ := h2 j hj
  exact ⟨b, off, e, by omega, hc⟩

theorem InOwn.at {w : World} {B : Nat} {v : Value} {K : List Int} (h : InOwn w B v K) : InAt w v w.heap.size K := by
  obtain ⟨a, c, rfl, hQ⟩ := intsAt_of_own h
  exact ⟨a, c, rfl, hQ⟩

theorem InOwn.below {w w' : World} {B : Nat} {v : Value} {K : List Int} (h : InOwn w B v K) (hb : Below w.heap.size w w') : InOwn w' B v K := own_below h hb

theorem InOwn.lower {w : World} {B C : Nat} {v : Value} {K : List Int} (h : InOwn w B v K) (hC : C ≤ B) : InOwn w C v K := own_lower hC h

theorem InOwn.blk {w : World} {B : Nat} {v : Value} {K : List Int} (h : InOwn w B v K) : ∀ g, InBlk v g → B ≤ g ∧ g < w.heap.size := fun g hg => World.ownsRow.lt h g hg

theorem InOwn.kept {S : Nat → Prop} {w w' : World} {B : Nat} {v : Value} {K : List Int} (h : InOwn w B v K) (hk : Kept S w w') (hS : ∀ g, InBlk v g → ¬ S g) : InOwn w' B v K := hk.own h hS

set_option maxRecDepth 100000 in
theorem ints_in {H : Type} {enc : TypeId × Value → H} {W : World} {r : Reach} {b0 : Nat} {v : Value} {d : DataW H} {p : List MemPlace}
    (hv : Value.okWide Tryz.prog W r b0 50 v) (h : DataW.Trod enc Tryz.prog W 0 (fun _ => true) true 50 v d p) : ∃ K, InAt W v W.heap.size K ∧ K.length ≤ 9223372036854775807 := by
  obtain ⟨a, n, c, rfl⟩ := okWide_slice Tryz.underlying50 hv
  obtain ⟨fuel, hf⟩ := h
  obtain ⟨a', n', c', K, hcs, hK, _, hn⟩ := ints_open (fun _ => rfl) hf
  simp [Value.cells] at hcs
  obtain ⟨rfl, rfl, rfl⟩ := hcs
  obtain rfl : n = K.length := hK.1.symm
  exact ⟨K, ⟨a, c, rfl, hK⟩, hn⟩

end Gr
end Go.Proofs.YtjblkijicfmkgaaGreatDoor
