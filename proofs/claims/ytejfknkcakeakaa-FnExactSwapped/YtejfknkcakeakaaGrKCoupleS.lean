/-
  The kind of Couple, in the form that a law's walk asks for. Written by program (tools/kinds.py).
-/
import Derived.Test.YtejfknkcakeakaaGrCoupleM
import Derived.Test.YtejfknkcakeakaaGrCoupleO
namespace Go.Proofs.Ytejfknkcakeakaa
namespace Gr
open Go.ChangeShapes Go.WideShapes Go.ChangeAt Go.RowKit

def CoAt (w : World) (v : Value) (B : Nat) (K : List CoupleI) : Prop := ∃ a c, v = .slice a K.length c ∧ couplesAt w a K.length B K
def CoOwn (w : World) (B : Nat) (v : Value) (K : List CoupleI) : Prop := w.ownsRow B 88 2 v K.length (couplesV K)
def CoBlk (v : Value) (g : Nat) : Prop := v.ownBlock = some g

theorem CoAt.shape {w : World} {v : Value} {B : Nat} {K : List CoupleI} (h : CoAt w v B K) : ∃ a c, v = .slice a K.length c := by
  obtain ⟨a, c, rfl, _⟩ := h
  exact ⟨a, c, rfl⟩

theorem CoAt.below {w w' : World} {v : Value} {B C : Nat} {K : List CoupleI} (h : CoAt w v B K) (hb : Below C w w') (hC : B ≤ C) : CoAt w' v B K := by
  obtain ⟨a, c, rfl, hQ⟩ := h
  exact ⟨a, c, rfl, hQ.below hb hC⟩

theorem CoAt.mono {w : World} {v : Value} {B C : Nat} {K : List CoupleI} (h : CoAt w v B K) (hC : B ≤ C) : CoAt w v C K := by
  obtain ⟨a, c, rfl, hQ⟩ := h
  exact ⟨a, c, rfl, hQ.mono hC⟩

theorem CoOwn.at {w : World} {B : Nat} {v : Value} {K : List CoupleI} (h : CoOwn w B v K) : CoAt w v w.heap.size K := by
  obtain ⟨a, c, rfl, hQ⟩ := couplesAt.of_own h
  exact ⟨a, c, rfl, hQ⟩

theorem CoOwn.below {w w' : World} {B : Nat} {v : Value} {K : List CoupleI} (h : CoOwn w B v K) (hb : Below w.heap.size w w') : CoOwn w' B v K := own_below h hb

theorem CoOwn.lower {w : World} {B C : Nat} {v : Value} {K : List CoupleI} (h : CoOwn w B v K) (hC : C ≤ B) : CoOwn w C v K := own_lower hC h

theorem CoOwn.blk {w : World} {B : Nat} {v : Value} {K : List CoupleI} (h : CoOwn w B v K) : ∀ g, CoBlk v g → B ≤ g ∧ g < w.heap.size := fun g hg => World.ownsRow.lt h g hg

theorem CoOwn.kept {S : Nat → Prop} {w w' : World} {B : Nat} {v : Value} {K : List CoupleI} (h : CoOwn w B v K) (hk : Kept S w w') (hS : ∀ g, CoBlk v g → ¬ S g) : CoOwn w' B v K := hk.own h hS

theorem szCoupleS_gen (v : Value) (B : Nat) (K : List CoupleI) (left : Int) (h0 : 0 ≤ left) (h1 : left ≤ 1048576) (hQ : K.length ≤ 9223372036854775807) (w : World) (hv : CoAt w v B K) :
    Calls Try.prog 31 #[v, .int .i64 left] w fun e w' => (∃ x : Int, e = .returned (.int .i64 x) ∧ x ≤ left ∧ (0 ≤ x → (K.length : Int) + x ≤ left)) ∧ Below w.heap.size w w' := by
  obtain ⟨a, c, rfl, _⟩ := hv
  refine (szCoupleS_any a K.length c left h0 h1 hQ w).mono ?_
  rintro e w' ⟨rfl, rfl⟩
  refine ⟨⟨_, rfl, ?_, ?_⟩, Below.refl _ _⟩
  · split <;> omega
  · split <;> omega

theorem toCoupleS_gen (v : Value) (B : Nat) (K : List CoupleI) (h1 : K.length ≤ 1048576) (w : World) (hB : B ≤ w.heap.size) (hv : CoAt w v B K) :
    Calls Try.prog 33 #[v] w fun e w' => (∃ d, e = .returned d ∧ CoOwn w' w.heap.size d K) ∧ Below w.heap.size w w' := by
  obtain ⟨a, c, rfl, hQ⟩ := hv
  exact toCoupleS_any a K.length c B K h1 w hB hQ

theorem eqCoupleS_gen (v u : Value) (B B' : Nat) (K : List CoupleI) (h1 : K.length ≤ 1048576) (w : World) (hB : B ≤ w.heap.size) (hB' : B' ≤ w.heap.size) (hv : CoAt w v B K) (hu : CoAt w u B' K) :
    Calls Try.prog 35 #[v, u] w fun e w' => e = .returned (.bool true) ∧ Below w.heap.size w w' := by
  obtain ⟨a, c, rfl, hQ⟩ := hv
  obtain ⟨a', c', rfl, hQ'⟩ := hu
  exact eqCoupleS_same a a' K.length c c' B B' K h1 w hB hB' hQ hQ'

theorem markCoupleS_gen (v : Value) (B k : Nat) (K : List CoupleI) (h1 : k + K.length * 2 ≤ 100000000) (w : World) (ho : CoOwn w B v K) :
    Calls Try.prog 36 #[v, .int .i64 (k : Int)] w fun e w' => e = .returned (.int .i64 ((k + K.length * 2 : Nat) : Int)) ∧ CoOwn w' B v (marksCouple k K.length) ∧ Kept (CoBlk v) w w' := by
  refine (markCoupleS_any v B K.length k K h1 w ho).mono ?_
  rintro e w' ⟨rfl, ho', hk⟩
  refine ⟨rfl, ?_, hk⟩
  unfold CoOwn
  rw [marksCouple_length]
  exact ho'

set_option maxRecDepth 100000 in
theorem couples_in {H : Type} {enc : TypeId × Value → H} {W : World} {r : Reach} {b0 : Nat} {v : Value} {d : DataW H} {p : List MemPlace}
    (hv : Value.okWide Try.prog W r b0 47 v) (h : DataW.Trod enc Try.prog W 0 (fun _ => true) true 47 v d p) : ∃ K, CoAt W v W.heap.size K ∧ K.length ≤ 9223372036854775807 := by
  obtain ⟨a, n, c, rfl⟩ := okWide_slice Try.underlying47 hv
  obtain ⟨fuel, hf⟩ := h
  obtain ⟨a', n', c', K, hcs, hK, hn⟩ := couples_open hf
  simp at hcs
  obtain ⟨rfl, rfl, rfl⟩ := hcs
  obtain rfl : n = K.length := hK.1.symm
  exact ⟨K, ⟨a, c, rfl, hK⟩, hn⟩

end Gr
end Go.Proofs.Ytejfknkcakeakaa
