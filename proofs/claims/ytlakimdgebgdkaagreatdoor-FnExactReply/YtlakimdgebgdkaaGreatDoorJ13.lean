/-
  Texts of this claim, one behind the other: GrKinds, GrStrS.
-/
import Derived.Test.YtlakimdgebgdkaaGreatDoorJ8
import Derived.Test.YtlakimdgebgdkaaGreatDoorJ11
import Derived.Test.YtlakimdgebgdkaaGreatDoorJ2

/-
  The kinds of values that the laws hand about, in one form each (..At: it can be read; ..Own: a call has made it; ..Blk: its blocks), so that a law's walk is written by program (tools/exactlaw.py). A struct's variable in memory: CBox.
-/
namespace Go.Proofs.YtlakimdgebgdkaaGreatDoor
namespace Gr
open Go.ChangeShapes Go.WideShapes Go.ChangeAt Go.RowKit

/-! ### Graphs -/

theorem GrAt.shape {w : World} {v : Value} {B : Nat} {s : Int} {Q : List EdgeI} (h : GrAt w v B s Q) : ∃ a c, v = .agg #[.int .i64 s, .slice a Q.length c] := by
  obtain ⟨a, n, c, rfl, hE⟩ := h
  exact ⟨a, c, by rw [hE.1]⟩

/-! ### Lists of numbers -/

def InAt (w : World) (v : Value) (B : Nat) (K : List Int) : Prop := ∃ a c, v = .slice a K.length c ∧ IntsAt w a K.length B K
def InOwn (w : World) (B : Nat) (v : Value) (K : List Int) : Prop := w.ownsRow B 3 1 v K.length (intsV K)
def InBlk (v : Value) (g : Nat) : Prop := v.ownBlock = some g

theorem InAt.shape {w : World} {v : Value} {B : Nat} {K : List Int} (h : InAt w v B K) : ∃ a c, v = .slice a K.length c := by
  obtain ⟨a, c, rfl, _⟩ := h
  exact ⟨a, c, rfl⟩

theorem InAt.below {w w' : World} {v : Value} {B C : Nat} {K : List Int} (h : InAt w v B K) (hb : Below C w w') (hC : B ≤ C) : InAt w' v B K := by
  obtain ⟨a, c, rfl, hQ⟩ := h
  exact ⟨a, c, rfl, hQ.below hb hC⟩

theorem InAt.mono {w : World} {v : Value} {B C : Nat} {K : List Int} (h : InAt w v B K) (hC : B ≤ C) : InAt w v C K := by
  obtain ⟨a, c, rfl, h1, h2⟩ := h
  refine ⟨a, c, rfl, h1, fun j hj => ?_⟩
  obtain ⟨b, off, e, hb, hc⟩ := h2 j hj
  exact ⟨b, off, e, by omega, hc⟩

theorem InOwn.at {w : World} {B : Nat} {v : Value} {K : List Int} (h : InOwn w B v K) : InAt w v w.heap.size K := by
  obtain ⟨a, c, rfl, hQ⟩ := intsAt_of_own h
  exact ⟨a, c, rfl, hQ⟩

theorem InOwn.below {w w' : World} {B : Nat} {v : Value} {K : List Int} (h : InOwn w B v K) (hb : Below w.heap.size w w') : InOwn w' B v K := own_below h hb

theorem InOwn.lower {w : World} {B C : Nat} {v : Value} {K : List Int} (h : InOwn w B v K) (hC : C ≤ B) : InOwn w C v K := own_lower hC h

theorem InOwn.blk {w : World} {B : Nat} {v : Value} {K : List Int} (h : InOwn w B v K) : ∀ g, InBlk v g → B ≤ g ∧ g < w.heap.size := fun g hg => World.ownsRow.lt h g hg

theorem InOwn.kept {S : Nat → Prop} {w w' : World} {B : Nat} {v : Value} {K : List Int} (h : InOwn w B v K) (hk : Kept S w w') (hS : ∀ g, InBlk v g → ¬ S g) : InOwn w' B v K := hk.own h hS

/-! ### An edge -/

def EdAt (_w : World) (v : Value) (_B : Nat) (x : EdgeI) : Prop := v = x.v
def EdOwn (_w : World) (_B : Nat) (v : Value) (x : EdgeI) : Prop := v = x.v

theorem EdAt.shape {w : World} {v : Value} {B : Nat} {x : EdgeI} (h : EdAt w v B x) : v = .agg #[.int .i64 x.A, .int .i64 x.B, .int .i64 x.W1, .int .i64 x.W2, .int .i64 x.W3] := h
theorem EdAt.below {w w' : World} {v : Value} {B C : Nat} {x : EdgeI} (h : EdAt w v B x) (_hb : Below C w w') (_hC : B ≤ C) : EdAt w' v B x := h
theorem EdAt.mono {w : World} {v : Value} {B C : Nat} {x : EdgeI} (h : EdAt w v B x) (_hC : B ≤ C) : EdAt w v C x := h
theorem EdOwn.at {w : World} {B : Nat} {v : Value} {x : EdgeI} (h : EdOwn w B v x) : EdAt w v w.heap.size x := h
theorem EdOwn.below {w w' : World} {B : Nat} {v : Value} {x : EdgeI} (h : EdOwn w B v x) (_hb : Below w.heap.size w w') : EdOwn w' B v x := h

/-! ### What came in -/

set_option maxRecDepth 100000 in
theorem ints_in {H : Type} {enc : TypeId × Value → H} {W : World} {r : Reach} {b0 : Nat} {v : Value} {d : DataW H} {p : List MemPlace}
    (hv : Value.okWide Tryz.prog W r b0 39 v) (h : DataW.Trod enc Tryz.prog W 0 (fun _ => true) true 39 v d p) : ∃ K, InAt W v W.heap.size K ∧ K.length ≤ 9223372036854775807 := by
  obtain ⟨a, n, c, rfl⟩ := okWide_slice Tryz.underlying39 hv
  obtain ⟨fuel, hf⟩ := h
  obtain ⟨a', n', c', K, hcs, hK, _, hn⟩ := ints_open (fun _ => rfl) hf
  simp [Value.cells] at hcs
  obtain ⟨rfl, rfl, rfl⟩ := hcs
  obtain rfl : n = K.length := hK.1.symm
  exact ⟨K, ⟨a, c, rfl, hK⟩, hn⟩

end Gr
end Go.Proofs.YtlakimdgebgdkaaGreatDoor

/-
  The kind of []string: equal ones, marks, what is held.
-/
namespace Go.Proofs.YtlakimdgebgdkaaGreatDoor
namespace Gr
open Go.RowKit

def textsV (L : List ByteArray) : List Value := L.map Value.string

theorem textsV_set (L : List ByteArray) (i : Nat) (x : ByteArray) : (textsV L).set i (.string x) = textsV (L.set i x) := by simp [textsV, List.map_set]

/-- A row of texts that can be read. -/
def textsAt (w : World) (a : Option Addr) (len B : Nat) (L : List ByteArray) : Prop :=
  L.length = len ∧ ∀ j (h : j < L.length), ∃ b off, a = some ⟨b, off, none⟩ ∧ b < B ∧ w.cell? ⟨b, off + j, none⟩ = some (.string L[j])

def StAt (w : World) (v : Value) (B : Nat) (L : List ByteArray) : Prop := ∃ a c, v = .slice a L.length c ∧ textsAt w a L.length B L
def StOwn (w : World) (B : Nat) (v : Value) (L : List ByteArray) : Prop := w.ownsRow B 9 1 v L.length (textsV L)
def StBlk (v : Value) (g : Nat) : Prop := v.ownBlock = some g

theorem textsAt.below {w w' : World} {a : Option Addr} {len B C : Nat} {L : List ByteArray} (h : textsAt w a len B L) (hb : Below C w w') (hC : B ≤ C) : textsAt w' a len B L := by
  refine ⟨h.1, fun j hj => ?_⟩
  obtain ⟨b, off, e, hbB, c0⟩ := h.2 j hj
  exact ⟨b, off, e, hbB, by rw [hb.cell (p := ⟨b, off + j, none⟩) (by simp; omega)]; exact c0⟩

theorem StAt.shape {w : World} {v : Value} {B : Nat} {L : List ByteArray} (h : StAt w v B L) : ∃ a c, v = .slice a L.length c := by
  obtain ⟨a, c, rfl, _⟩ := h
  exact ⟨a, c, rfl⟩

theorem StAt.below {w w' : World} {v : Value} {B C : Nat} {L : List ByteArray} (h : StAt w v B L) (hb : Below C w w') (hC : B ≤ C) : StAt w' v B L := by
  obtain ⟨a, c, rfl, hQ⟩ := h
  exact ⟨a, c, rfl, hQ.below hb hC⟩

theorem StAt.mono {w : World} {v : Value} {B C : Nat} {L : List ByteArray} (h : StAt w v B L) (hC : B ≤ C) : StAt w v C L := by
  obtain ⟨a, c, rfl, h1, h2⟩ := h
  refine ⟨a, c, rfl, h1, fun j hj => ?_⟩
  obtain ⟨b, off, e, hb, hc⟩ := h2 j hj
  exact ⟨b, off, e, by omega, hc⟩

theorem StOwn.at {w : World} {B : Nat} {v : Value} {L : List ByteArray} (h : StOwn w B v L) : StAt w v w.heap.size L := by
  rcases h.2 with ⟨rfl, h0⟩ | ⟨g, cap, cur, rfl, hg, hh, _⟩
  · have hl : L = [] := by cases L with | nil => rfl | cons x r => simp at h0
    subst hl
    exact ⟨none, 0, rfl, rfl, fun j hj => by simp at hj⟩
  · refine ⟨some ⟨g, 0, none⟩, cap, rfl, rfl, fun j hj => ?_⟩
    have hlt : g < w.heap.size := by
      rcases Nat.lt_or_ge g w.heap.size with h1 | h1
      · exact h1
      · rw [Array.getElem?_eq_none h1] at hh; cases hh
    refine ⟨g, 0, rfl, hlt, ?_⟩
    have := World.ownsRow.cellAt h j (by omega)
    rw [Nat.zero_add]
    rw [this]
    simp [textsV, hj]

theorem StOwn.below {w w' : World} {B : Nat} {v : Value} {L : List ByteArray} (h : StOwn w B v L) (hb : Below w.heap.size w w') : StOwn w' B v L := own_below h hb
theorem StOwn.lower {w : World} {B C : Nat} {v : Value} {L : List ByteArray} (h : StOwn w B v L) (hC : C ≤ B) : StOwn w C v L := own_lower hC h
theorem StOwn.blk {w : World} {B : Nat} {v : Value} {L : List ByteArray} (h : StOwn w B v L) : ∀ g, StBlk v g → B ≤ g ∧ g < w.heap.size := fun g hg => World.ownsRow.lt h g hg
theorem StOwn.kept {S : Nat → Prop} {w w' : World} {B : Nat} {v : Value} {L : List ByteArray} (h : StOwn w B v L) (hk : Kept S w w') (hS : ∀ g, StBlk v g → ¬ S g) : StOwn w' B v L := hk.own h hS

/-- The mark of a number. -/
def mtx (k : Nat) : ByteArray := if k = 0 then ⟨#[109, 48]⟩ else markT k

def marksT (k n : Nat) : List ByteArray := (List.range n).map fun j => mtx (k + j)

theorem marksT_length (k n : Nat) : (marksT k n).length = n := by simp [marksT]
theorem marksT_at (k n i : Nat) (h : i < (marksT k n).length) : (marksT k n)[i] = mtx (k + i) := by simp [marksT]

end Gr
end Go.Proofs.YtlakimdgebgdkaaGreatDoor
