/-
  Lists of numbers as a kind of values that the laws hand about (out of GrKinds).
-/
import Derived.Test.YtejfknkcakeakaaGrInts
import Derived.Test.YtejfknkcakeakaaGrBox
namespace Go.Proofs.Ytejfknkcakeakaa
namespace Gr
open Go.ChangeShapes Go.WideShapes Go.ChangeAt Go.RowKit

def InAt (w : World) (v : Value) (B : Nat) (K : List Int) : Prop := ∃ a c, v = .slice a K.length c ∧ IntsAt w a K.length B K
def InOwn (w : World) (B : Nat) (v : Value) (K : List Int) : Prop := w.ownsRow B 3 1 v K.length (intsV K)
def InBlk (v : Value) (g : Nat) : Prop := v.ownBlock = some g

theorem InAt.shape {w : World} {v : Value} {B : Nat} {K : List Int} (h : InAt w v B K) : ∃ a c, v = .slice a K.length c := by
  obtain ⟨a, c, rfl, _⟩ := h
  exact ⟨a, c, rfl⟩

theorem InAt.below {w w' : World} {v : Value} {B C : Nat} {K : List Int} (h : InAt w v B K) (hb : Below C w w') (hC : B ≤ C) : InAt w' v B K := by
  obtain ⟨a, c, rfl, hQ⟩ := h
  exact ⟨a, c, rfl, hQ.below hb hC⟩

theorem InAt.mono {w : World} {v : Value} {B C : Nat} {K : List Int} (h : InAt w v B K) (hC : B ≤ C) : InAt w v C K := by
  obtain ⟨a, c, rfl, h1, h2⟩ := h
  refine ⟨a, c, rfl, h1, fun j hj => ?_⟩
  obtain ⟨b, off, e, hb, hc⟩ := h2 j hj
  exact ⟨b, off, e, by omega, hc⟩

theorem InOwn.at {w : World} {B : Nat} {v : Value} {K : List Int} (h : InOwn w B v K) : InAt w v w.heap.size K := by
  obtain ⟨a, c, rfl, hQ⟩ := intsAt_of_own h
  exact ⟨a, c, rfl, hQ⟩

theorem InOwn.below {w w' : World} {B : Nat} {v : Value} {K : List Int} (h : InOwn w B v K) (hb : Below w.heap.size w w') : InOwn w' B v K := own_below h hb

theorem InOwn.lower {w : World} {B C : Nat} {v : Value} {K : List Int} (h : InOwn w B v K) (hC : C ≤ B) : InOwn w C v K := own_lower hC h

theorem InOwn.blk {w : World} {B : Nat} {v : Value} {K : List Int} (h : InOwn w B v K) : ∀ g, InBlk v g → B ≤ g ∧ g < w.heap.size := fun g hg => World.ownsRow.lt h g hg

theorem InOwn.kept {S : Nat → Prop} {w w' : World} {B : Nat} {v : Value} {K : List Int} (h : InOwn w B v K) (hk : Kept S w w') (hS : ∀ g, InBlk v g → ¬ S g) : InOwn w' B v K := hk.own h hS

theorem toInts_gen (v : Value) (B : Nat) (K : List Int) (h1 : K.length ≤ 1048576) (w : World) (hB : B ≤ w.heap.size) (hv : InAt w v B K) :
    Calls Try.prog 20 #[v] w fun e w' => (∃ d, e = .returned d ∧ InOwn w' w.heap.size d K) ∧ Below w.heap.size w w' := by
  obtain ⟨a, c, rfl, hQ⟩ := hv
  exact toInts_any a K.length c B K h1 w hB hQ

theorem eqInts_gen (v u : Value) (B B' : Nat) (K : List Int) (h1 : K.length ≤ 1048576) (w : World) (hB : B ≤ w.heap.size) (hB' : B' ≤ w.heap.size) (hv : InAt w v B K) (hu : InAt w u B' K) :
    Calls Try.prog 14 #[v, u] w fun e w' => e = .returned (.bool true) ∧ Below w.heap.size w w' := by
  obtain ⟨a, c, rfl, hQ⟩ := hv
  obtain ⟨a', c', rfl, hQ'⟩ := hu
  exact eqInts_same a a' K.length c c' B B' K h1 w hB hB' hQ hQ'

theorem markInts_gen (v : Value) (B k : Nat) (K : List Int) (h1 : k + K.length ≤ 100000000) (w : World) (ho : InOwn w B v K) :
    Calls Try.prog 17 #[v, .int .i64 (k : Int)] w fun e w' => e = .returned (.int .i64 ((k + K.length : Nat) : Int)) ∧ InOwn w' B v (marksN k K.length) ∧ Kept (InBlk v) w w' := by
  refine (markInts_to v B K.length k K h1 w ho).mono ?_
  rintro e w' ⟨rfl, ho', hk⟩
  refine ⟨rfl, ?_, hk⟩
  unfold InOwn
  rw [marksN_length]
  exact ho'

theorem heldInts_gen (v : Value) (B k n : Nat) (h1 : k + n ≤ 100000000) (w : World) (hB : B ≤ w.heap.size) (hv : InAt w v B (marksN k n)) :
    Calls Try.prog 18 #[v, .int .i64 (k : Int)] w fun e w' => e = .returned (.int .i64 ((k + n : Nat) : Int)) ∧ Below w.heap.size w w' := by
  obtain ⟨a, c, rfl, hQ⟩ := hv
  rw [marksN_length] at hQ ⊢
  refine (heldInts_any a n c B k h1 w hQ).mono ?_
  rintro e w' ⟨rfl, rfl⟩
  exact ⟨rfl, Below.refl _ _⟩

set_option maxRecDepth 100000 in
theorem ints_in {H : Type} {enc : TypeId × Value → H} {W : World} {r : Reach} {b0 : Nat} {v : Value} {d : DataW H} {p : List MemPlace}
    (hv : Value.okWide Try.prog W r b0 26 v) (h : DataW.Trod enc Try.prog W 0 (fun _ => true) true 26 v d p) : ∃ K, InAt W v W.heap.size K ∧ K.length ≤ 9223372036854775807 := by
  obtain ⟨a, n, c, rfl⟩ := okWide_slice Try.underlying26 hv
  obtain ⟨fuel, hf⟩ := h
  obtain ⟨a', n', c', K, hcs, hK, _, hn⟩ := ints_open (fun _ => rfl) hf
  simp [Value.cells] at hcs
  obtain ⟨rfl, rfl, rfl⟩ := hcs
  obtain rfl : n = K.length := hK.1.symm
  exact ⟨K, ⟨a, c, rfl, hK⟩, hn⟩

end Gr
end Go.Proofs.Ytejfknkcakeakaa
