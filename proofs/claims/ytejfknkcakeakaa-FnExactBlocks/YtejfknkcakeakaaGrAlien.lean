/-
  Blocks of other types: what is turned in them leaves a row alone.
-/
import Derived.Test.YtejfknkcakeakaaGrBlkS
import Derived.Test.YtejfknkcakeakaaGrKinds
namespace Go.Proofs.Ytejfknkcakeakaa
namespace Gr
open Go.RowKit

/-- Block k is of another type than e. -/
def Alien (w : World) (k : Nat) (e : TypeId) : Prop := ∃ C t z, w.heap[k]? = some (.cells C t z) ∧ t ≠ e

theorem Blk.alien {w : World} {g : Nat} {C : Array Value} {t : TypeId} (h : Blk w g C t) {e : TypeId} (hne : t ≠ e) : Alien w g e := ⟨C, t, _, h, hne⟩

theorem own_alien {w : World} {B e size n : Nat} {v : Value} {xs : List Value} (h : w.ownsRow B e size v n xs) {e' : TypeId} (hne : e ≠ e') : ∀ k, v.ownBlock = some k → Alien w k e' := by
  intro k hk
  rcases h.2 with ⟨rfl, _⟩ | ⟨g, cap, cur, rfl, _, hg, _⟩
  · simp [Value.ownBlock] at hk
  · have e1 : g = k := Option.some.inj hk
    subst e1
    exact ⟨_, _, _, hg, hne⟩

theorem Kept.own_alien {S : Nat → Prop} {w w' : World} {B e size n : Nat} {v : Value} {xs : List Value} (h : Kept S w w') (ho : w.ownsRow B e size v n xs) (hS : ∀ k, S k → Alien w k e) : w'.ownsRow B e size v n xs := by
  refine h.own ho (fun g hg hs => ?_)
  obtain ⟨C, t, z, h1, h2⟩ := hS g hs
  rcases ho.2 with ⟨rfl, _⟩ | ⟨g', cap, cur, rfl, _, hg', _⟩
  · simp [Value.ownBlock] at hg
  · have e1 : g' = g := Option.some.inj hg
    subst e1
    rw [h1] at hg'
    simp at hg'
    exact h2 hg'.2.1

theorem Blk.kept_alien {S : Nat → Prop} {w w' : World} {g : Nat} {C : Array Value} {t : TypeId} (h : Blk w g C t) (hk : Kept S w w') (hS : ∀ k, S k → Alien w k t) : Blk w' g C t := by
  refine h.kept hk (fun hs => ?_)
  obtain ⟨C', t', z, h1, h2⟩ := hS g hs
  unfold Blk at h
  rw [h1] at h
  simp at h
  exact h2 h.2.1

/-- What is new is changed besides. -/
theorem Kept.over {S : Nat → Prop} {a b c : World} {g : Nat} (h : Kept S a b) (k : Kept (fun i => i = g) b c) (hg : a.heap.size ≤ g := by omega) : Kept S a c :=
  ⟨k.1.trans h.1, k.2.1.trans h.2.1, k.2.2.1.trans h.2.2.1, Nat.le_trans h.2.2.2.1 k.2.2.2.1, fun i hi hn => (k.2.2.2.2 i (Nat.lt_of_lt_of_le hi h.2.2.2.1) (by omega)).trans (h.2.2.2.2 i hi hn)⟩

end Gr
end Go.Proofs.Ytejfknkcakeakaa
