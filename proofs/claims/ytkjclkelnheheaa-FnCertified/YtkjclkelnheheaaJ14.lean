/-
 GrGroup3, GrGroup4, GrGroup5, GrGroupM, GrGroupN.
-/
import Derived.Test.YtkjclkelnheheaaJ13
import Derived.Test.YtkjclkelnheheaaJ7
import Derived.Laws.EntriesVeiled
namespace Go.Proofs.Ytkjclkelnheheaa
namespace Gr
open Go.RowKit
def Gs (w : World) (lo : Nat) (C : Array Value) (G : List GrpI) (k : Nat) : Prop :=
  ∀ j (h : j < G.length), j < k → ∃ v, C[j * 2]? = some v ∧ C[j * 2 + 1]? = some (.int .i64 G[j].Z) ∧ InOwn w lo v G[j].M
theorem Gs.kept {S : Nat → Prop} {w w' : World} {lo k : Nat} {C : Array Value} {G : List GrpI} (h : Gs w lo C G k) (hk : Kept S w w') (hS : ∀ g, lo ≤ g → ¬ S g) : Gs w' lo C G k := by
  intro j hj hjk
  obtain ⟨v, c0, c1, hO⟩ := h j hj hjk
  exact ⟨v, c0, c1, hO.kept hk (fun g hg => hS g (hO.blk g hg).1)⟩
theorem Gs.at {w : World} {lo g : Nat} {C : Array Value} {G : List GrpI} (h : Gs w lo C G G.length) (hb : Blk w g C 54) : groupsAt w (some ⟨g, 0, none⟩) G.length w.heap.size G := by
  refine ⟨rfl, fun j hj => ?_⟩
  obtain ⟨v, c0, c1, hO⟩ := h j hj hj
  obtain ⟨a', c', rfl, hI⟩ := hO.at
  refine ⟨g, 0, a', c', rfl, hb.lt, ?_, ?_, hI⟩
  · rw [Nat.zero_add]; exact hb.cell _ _ c0
  · rw [Nat.zero_add]; exact hb.cell _ _ c1
def GsOwn (w : World) (lo : Nat) (v : Value) (G : List GrpI) : Prop := ∃ g C, v = .slice (some ⟨g, 0, none⟩) G.length G.length ∧ lo ≤ g ∧ Blk w g C 54 ∧ C.size = G.length * 2 ∧ Gs w lo C G G.length
theorem GsOwn.kept {S : Nat → Prop} {w w' : World} {lo : Nat} {v : Value} {G : List GrpI} (h : GsOwn w lo v G) (hk : Kept S w w') (hS : ∀ g, lo ≤ g → ¬ S g) : GsOwn w' lo v G := by
  obtain ⟨g, C, e, hg, hb, hs, h⟩ := h
  exact ⟨g, C, e, hg, hb.kept hk (hS g hg), hs, h.kept hk hS⟩
theorem Gs.lower {w : World} {lo lo' k : Nat} {C : Array Value} {G : List GrpI} (h : Gs w lo C G k) (hl : lo' ≤ lo) : Gs w lo' C G k := by
  intro j hj hjk
  obtain ⟨v, c0, c1, hO⟩ := h j hj hjk
  exact ⟨v, c0, c1, hO.lower hl⟩
theorem GsOwn.lower {w : World} {lo lo' : Nat} {v : Value} {G : List GrpI} (h : GsOwn w lo v G) (hl : lo' ≤ lo) : GsOwn w lo' v G := by
  obtain ⟨g, C, e, hg, hb, hs, h⟩ := h
  exact ⟨g, C, e, by omega, hb, hs, h.lower hl⟩
theorem GsOwn.at {w : World} {lo : Nat} {v : Value} {G : List GrpI} (h : GsOwn w lo v G) : ∃ a c, v = .slice a G.length c ∧ groupsAt w a G.length w.heap.size G := by
  obtain ⟨g, C, rfl, hg, hb, hs, h⟩ := h
  exact ⟨_, _, rfl, h.at hb⟩
end Gr
end Go.Proofs.Ytkjclkelnheheaa
namespace Go.Proofs.Ytkjclkelnheheaa
namespace Gr
open Go.ChangeShapes Go.WideShapes Go.ChangeAt Go.RowKit
def PrOwn (w : World) (_B : Nat) (v : Value) (Y : List Int) (G : List GrpI) : Prop := PrAt w v w.heap.size Y G
theorem PrAt.shape {w : World} {v : Value} {B : Nat} {Y : List Int} {G : List GrpI} (h : PrAt w v B Y G) : ∃ a c a' c', v = .agg #[.slice a Y.length c, .slice a' G.length c'] := by
  obtain ⟨a, n, c, a', n', c', rfl, hY, hG, _⟩ := h
  exact ⟨a, c, a', c', by rw [hY.1, hG.1]⟩
theorem PrOwn.at {w : World} {B : Nat} {v : Value} {Y : List Int} {G : List GrpI} (h : PrOwn w B v Y G) : PrAt w v w.heap.size Y G := h
theorem PrOwn.below {w w' : World} {B : Nat} {v : Value} {Y : List Int} {G : List GrpI} (h : PrOwn w B v Y G) (hb : Below w.heap.size w w') : PrOwn w' B v Y G := (PrAt.below h hb (Nat.le_refl _)).mono hb.size
theorem psize_le {Y : List Int} {G : List GrpI} (h : psize Y G ≤ 1048576) : Y.length ≤ 1048576 ∧ G.length ≤ 1048576 ∧ ∀ q ∈ G, q.M.length ≤ 1048576 := by
  unfold psize at h
  have h1 : Y.length + (G.length + gbulk G) ≤ 1048576 := by omega
  refine ⟨by omega, by omega, fun q hq => ?_⟩
  have : ∀ (L : List GrpI), q ∈ L → q.M.length ≤ gbulk L := by
    intro L
    induction L with
    | nil => intro h; simp at h
    | cons x r ih =>
      intro h
      unfold gbulk
      rcases List.mem_cons.1 h with rfl | h
      · omega
      · have := ih h; omega
  have := this G hq
  omega
theorem PrAt.of_own {w : World} {lo : Nat} {vy vg : Value} {Y : List Int} {G : List GrpI} (h1 : InOwn w lo vy Y) (h2 : GsOwn w lo vg G) (hI : PrIn Y G) : PrAt w (.agg #[vy, vg]) w.heap.size Y G := by
  obtain ⟨a, c, rfl, hY⟩ := h1.at
  obtain ⟨a', c', rfl, hG⟩ := h2.at
  exact ⟨a, _, c, a', _, c', rfl, hY, hG, hI⟩
theorem own_shape {w : World} {B e s n : Nat} {v : Value} {xs : List Value} (h : w.ownsRow B e s v n xs) : ∃ A c, v = .slice A n c := by
  rcases h.2 with ⟨rfl, h0⟩ | ⟨g, cap, cur, rfl, _⟩
  · exact ⟨none, 0, by rw [h0]⟩
  · exact ⟨_, _, rfl⟩
def GoBlk (v : Value) (ms : List Value) (g : Nat) : Prop := v.ownBlock = some g ∨ ∃ j, ∃ h : j < ms.length, ms[j].ownBlock = some g
end Gr
end Go.Proofs.Ytkjclkelnheheaa
