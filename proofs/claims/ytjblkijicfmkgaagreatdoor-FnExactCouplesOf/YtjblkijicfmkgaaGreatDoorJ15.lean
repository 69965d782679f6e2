/-
  Texts of this claim, one behind the other: GrGroup3, GrGroup4, GrGroup5, GrGroupM, GrGroupN.
-/
import Derived.Test.YtjblkijicfmkgaaGreatDoorJ14
import Derived.Test.YtjblkijicfmkgaaGreatDoorJ13
import Derived.Laws.EntriesVeiled

/-
  Copies of groups and proofs.
-/
namespace Go.Proofs.YtjblkijicfmkgaaGreatDoor
namespace Gr
open Go.RowKit

theorem infoGroup : (Tryz.prog.info? 136).map (fun i => (i.zero, i.size, i.bytes)) = some (some (.agg #[.slice none 0 0, .int .i64 0]), 2, 32) := by kernel_rfl

theorem results_group {fn : Func} {p : Tmp} (h : fn.results = #[.cell p 136]) (tmps : Array Value) (w : World) (g : Nat) (x y : Value) (hp : tmps.getD p undef = .pointer (some ⟨g, 0, none⟩)) (hg : Blk w g #[x, y] 136) :
    (results fn tmps).run Tryz.prog w = .ok (.agg #[x, y]) w := by
  have c0 := hg.cell 0 x rfl
  have c1 := hg.cell 1 y rfl
  have hp' : tmps[p]?.getD undef = .pointer (some ⟨g, 0, none⟩) := by simpa using hp
  simp [results, h, hp', go_sem, c0, c1]

theorem results_proof {fn : Func} {p : Tmp} (h : fn.results = #[.cell p 57]) (tmps : Array Value) (w : World) (g : Nat) (x y : Value) (hp : tmps.getD p undef = .pointer (some ⟨g, 0, none⟩)) (hg : Blk w g #[x, y] 57) :
    (results fn tmps).run Tryz.prog w = .ok (.agg #[x, y]) w := by
  have c0 := hg.cell 0 x rfl
  have c1 := hg.cell 1 y rfl
  have hp' : tmps[p]?.getD undef = .pointer (some ⟨g, 0, none⟩) := by simpa using hp
  simp [results, h, hp', go_sem, c0, c1]

end Gr
end Go.Proofs.YtjblkijicfmkgaaGreatDoor

/-
  Copies of rows of groups, and of proofs.
-/
namespace Go.Proofs.YtjblkijicfmkgaaGreatDoor
namespace Gr
open Go.RowKit

/-- The first k groups of a block of groups. -/
def Gs (w : World) (lo : Nat) (C : Array Value) (G : List GrpI) (k : Nat) : Prop :=
  ∀ j (h : j < G.length), j < k → ∃ v, C[j * 2]? = some v ∧ C[j * 2 + 1]? = some (.int .i64 G[j].Z) ∧ InOwn w lo v G[j].M

theorem Gs.kept {S : Nat → Prop} {w w' : World} {lo k : Nat} {C : Array Value} {G : List GrpI} (h : Gs w lo C G k) (hk : Kept S w w') (hS : ∀ g, lo ≤ g → ¬ S g) : Gs w' lo C G k := by
  intro j hj hjk
  obtain ⟨v, c0, c1, hO⟩ := h j hj hjk
  exact ⟨v, c0, c1, hO.kept hk (fun g hg => hS g (hO.blk g hg).1)⟩

theorem Gs.snoc {w : World} {lo k : Nat} {C : Array Value} {G : List GrpI} (h : Gs w lo C G k) (hk : k < G.length) (hC : C.size = G.length * 2) (v : Value) (hO : InOwn w lo v G[k].M) : Gs w lo ((C.setIfInBounds (k * 2) v).setIfInBounds (k * 2 + 1) (.int .i64 G[k].Z)) G (k + 1) := by
  intro j hj hjk
  by_cases e : j = k
  · subst e
    refine ⟨v, ?_, ?_, hO⟩
    · rw [Array.getElem?_setIfInBounds_ne (by omega), Array.getElem?_setIfInBounds_self, if_pos (by omega)]
    · rw [Array.getElem?_setIfInBounds_self, if_pos (by simp; omega)]
  · obtain ⟨v', c0, c1, hO'⟩ := h j hj (by omega)
    refine ⟨v', ?_, ?_, hO'⟩
    · rw [Array.getElem?_setIfInBounds_ne (by omega), Array.getElem?_setIfInBounds_ne (by omega)]; exact c0
    · rw [Array.getElem?_setIfInBounds_ne (by omega), Array.getElem?_setIfInBounds_ne (by omega)]; exact c1

theorem Gs.at {w : World} {lo g : Nat} {C : Array Value} {G : List GrpI} (h : Gs w lo C G G.length) (hb : Blk w g C 136) : groupsAt w (some ⟨g, 0, none⟩) G.length w.heap.size G := by
  refine ⟨rfl, fun j hj => ?_⟩
  obtain ⟨v, c0, c1, hO⟩ := h j hj hj
  obtain ⟨a', c', rfl, hI⟩ := hO.at
  refine ⟨g, 0, a', c', rfl, hb.lt, ?_, ?_, hI⟩
  · rw [Nat.zero_add]; exact hb.cell _ _ c0
  · rw [Nat.zero_add]; exact hb.cell _ _ c1

/-- A row of groups of the call's own, with the rows of its own in it. -/
def GsOwn (w : World) (lo : Nat) (v : Value) (G : List GrpI) : Prop := ∃ g C, v = .slice (some ⟨g, 0, none⟩) G.length G.length ∧ lo ≤ g ∧ Blk w g C 136 ∧ C.size = G.length * 2 ∧ Gs w lo C G G.length

theorem GsOwn.kept {S : Nat → Prop} {w w' : World} {lo : Nat} {v : Value} {G : List GrpI} (h : GsOwn w lo v G) (hk : Kept S w w') (hS : ∀ g, lo ≤ g → ¬ S g) : GsOwn w' lo v G := by
  obtain ⟨g, C, e, hg, hb, hs, h⟩ := h
  exact ⟨g, C, e, hg, hb.kept hk (hS g hg), hs, h.kept hk hS⟩

theorem Gs.lower {w : World} {lo lo' k : Nat} {C : Array Value} {G : List GrpI} (h : Gs w lo C G k) (hl : lo' ≤ lo) : Gs w lo' C G k := by
  intro j hj hjk
  obtain ⟨v, c0, c1, hO⟩ := h j hj hjk
  exact ⟨v, c0, c1, hO.lower hl⟩

theorem GsOwn.lower {w : World} {lo lo' : Nat} {v : Value} {G : List GrpI} (h : GsOwn w lo v G) (hl : lo' ≤ lo) : GsOwn w lo' v G := by
  obtain ⟨g, C, e, hg, hb, hs, h⟩ := h
  exact ⟨g, C, e, by omega, hb, hs, h.lower hl⟩

theorem GsOwn.at {w : World} {lo : Nat} {v : Value} {G : List GrpI} (h : GsOwn w lo v G) : ∃ a c, v = .slice a G.length c ∧ groupsAt w a G.length w.heap.size G := by
  obtain ⟨g, C, rfl, hg, hb, hs, h⟩ := h
  exact ⟨_, _, rfl, h.at hb⟩

end Gr
end Go.Proofs.YtjblkijicfmkgaaGreatDoor

/-
  The kind of Proof, in the form that a law's walk asks for.
-/
namespace Go.Proofs.YtjblkijicfmkgaaGreatDoor
namespace Gr
open Go.ChangeShapes Go.WideShapes Go.ChangeAt Go.RowKit

def PrOwn (w : World) (_B : Nat) (v : Value) (Y : List Int) (G : List GrpI) : Prop := PrAt w v w.heap.size Y G

theorem PrAt.shape {w : World} {v : Value} {B : Nat} {Y : List Int} {G : List GrpI} (h : PrAt w v B Y G) : ∃ a c a' c', v = .agg #[.slice a Y.length c, .slice a' G.length c'] := by
  obtain ⟨a, n, c, a', n', c', rfl, hY, hG, _⟩ := h
  exact ⟨a, c, a', c', by rw [hY.1, hG.1]⟩

theorem PrOwn.at {w : World} {B : Nat} {v : Value} {Y : List Int} {G : List GrpI} (h : PrOwn w B v Y G) : PrAt w v w.heap.size Y G := h

theorem PrOwn.below {w w' : World} {B : Nat} {v : Value} {Y : List Int} {G : List GrpI} (h : PrOwn w B v Y G) (hb : Below w.heap.size w w') : PrOwn w' B v Y G := (PrAt.below h hb (Nat.le_refl _)).mono hb.size

theorem psize_le {Y : List Int} {G : List GrpI} (h : psize Y G ≤ 1048576) : Y.length ≤ 1048576 ∧ G.length ≤ 1048576 ∧ ∀ q ∈ G, q.M.length ≤ 1048576 := by
  unfold psize at h
  have h1 : Y.length + (G.length + gbulk G) ≤ 1048576 := by omega
  refine ⟨by omega, by omega, fun q hq => ?_⟩
  have : ∀ (L : List GrpI), q ∈ L → q.M.length ≤ gbulk L := by
    intro L
    induction L with
    | nil => intro h; simp at h
    | cons x r ih =>
      intro h
      unfold gbulk
      rcases List.mem_cons.1 h with rfl | h
      · omega
      · have := ih h; omega
  have := this G hq
  omega

theorem PrAt.of_own {w : World} {lo : Nat} {vy vg : Value} {Y : List Int} {G : List GrpI} (h1 : InOwn w lo vy Y) (h2 : GsOwn w lo vg G) (hI : PrIn Y G) : PrAt w (.agg #[vy, vg]) w.heap.size Y G := by
  obtain ⟨a, c, rfl, hY⟩ := h1.at
  obtain ⟨a', c', rfl, hG⟩ := h2.at
  exact ⟨a, _, c, a', _, c', rfl, hY, hG, hI⟩

theorem PrAt.lens {w : World} {v : Value} {B : Nat} {Y : List Int} {G : List GrpI} (h : PrAt w v B Y G) : PrIn Y G := by
  obtain ⟨_, _, _, _, _, _, _, _, _, h⟩ := h
  exact h

end Gr
end Go.Proofs.YtjblkijicfmkgaaGreatDoor

/-
  Groups that a call has made, each with a row of its own: what is marked is held.
-/
namespace Go.Proofs.YtjblkijicfmkgaaGreatDoor
namespace Gr
open Go.ChangeShapes Go.WideShapes Go.ChangeAt Go.RowKit

theorem own_shape {w : World} {B e s n : Nat} {v : Value} {xs : List Value} (h : w.ownsRow B e s v n xs) : ∃ A c, v = .slice A n c := by
  rcases h.2 with ⟨rfl, h0⟩ | ⟨g, cap, cur, rfl, _⟩
  · exact ⟨none, 0, by rw [h0]⟩
  · exact ⟨_, _, rfl⟩

/-- How many marks the groups ahead of the j-th take. -/
def offQ (G : List GrpI) (j : Nat) : Nat := ((G.take j).map (fun q => q.M.length + 1)).sum

theorem offQ_zero (G : List GrpI) : offQ G 0 = 0 := by simp [offQ]
theorem offQ_succ (G : List GrpI) (j : Nat) (h : j < G.length) : offQ G (j + 1) = offQ G j + G[j].M.length + 1 := by
  unfold offQ
  rw [List.take_succ_eq_append_getElem h, List.map_append, List.sum_append]
  simp
  omega

theorem offQ_le (G : List GrpI) (j : Nat) : offQ G j ≤ offQ G G.length := by
  unfold offQ
  rw [List.take_length]
  conv => rhs; rw [← List.take_append_drop j G]
  rw [List.map_append, List.sum_append]
  omega

theorem offQ_ge (G : List GrpI) : G.length ≤ offQ G G.length := by
  unfold offQ
  rw [List.take_length]
  induction G with
  | nil => simp
  | cons q r ih => simp only [List.map_cons, List.sum_cons, List.length_cons]; omega

/-- The groups with the first j marked. -/
def mixQ (k : Nat) (G : List GrpI) (j : Nat) : List GrpI := G.mapIdx fun i q => if i < j then ⟨marksN (k + offQ G i) q.M.length, ((k + offQ G i + q.M.length : Nat) : Int)⟩ else q

theorem mixQ_length (k : Nat) (G : List GrpI) (j : Nat) : (mixQ k G j).length = G.length := by simp [mixQ]
theorem mixQ_at (k : Nat) (G : List GrpI) (j i : Nat) (h : i < (mixQ k G j).length) (h2 : i < G.length) : (mixQ k G j)[i] = if i < j then ⟨marksN (k + offQ G i) G[i].M.length, ((k + offQ G i + G[i].M.length : Nat) : Int)⟩ else G[i] := by simp [mixQ]
theorem mixQ_zero (k : Nat) (G : List GrpI) : mixQ k G 0 = G := by
  apply List.ext_getElem
  · simp [mixQ]
  · intro i h1 h2; rw [mixQ_at k G 0 i h1 h2, if_neg (by omega)]

theorem mixQ_zs (k : Nat) (G : List GrpI) (j : Nat) (h : j < G.length) : (zsOf (mixQ k G j)).set j ((k + offQ G j + G[j].M.length : Nat) : Int) = zsOf (mixQ k G (j + 1)) := by
  apply List.ext_getElem
  · simp [zsOf, mixQ]
  · intro i h1 h2
    have hi : i < G.length := by simp [zsOf, mixQ] at h2; exact h2
    rw [List.getElem_set, zsOf_at _ i h2 (by rw [mixQ_length]; exact hi), mixQ_at k G (j + 1) i (by rw [mixQ_length]; exact hi) hi]
    by_cases e : j = i
    · subst e
      simp
    · rw [if_neg e, zsOf_at _ i (by rw [zsOf_length, mixQ_length]; exact hi) (by rw [mixQ_length]; exact hi), mixQ_at k G j i (by rw [mixQ_length]; exact hi) hi]
      have : i < j + 1 ↔ i < j := by omega
      simp only [this]

theorem GOwn.marked {w w1 : World} {B k j g cap : Nat} {ms : List Value} {G : List GrpI} (h : GOwn w B (.slice (some ⟨g, 0, none⟩) G.length cap) ms (mixQ k G j)) (hd : DistV ms) (hj : j < G.length) (hjm : j < ms.length)
    (ho : InOwn w1 B ms[j] (marksN (k + offQ G j) G[j].M.length)) (hk : Kept (InBlk ms[j]) w w1) :
    w1.ownsRow B 136 2 (.slice (some ⟨g, 0, none⟩) G.length cap) G.length (gC ms (zsOf (mixQ k G j))) ∧
    GOwn (w1.setCell ⟨g, j * 2 + 1, none⟩ (.int .i64 ((k + offQ G j + G[j].M.length : Nat) : Int))) B (.slice (some ⟨g, 0, none⟩) G.length cap) ms (mixQ k G (j + 1)) := by
  have hl := h.1
  rw [mixQ_length] at hl
  have hrow := h.2.1
  rw [mixQ_length] at hrow
  have hjo := h.2.2 j hjm (by rw [mixQ_length]; exact hj)
  have hne : (3 : Nat) ≠ 136 := by decide
  have hrow1 : w1.ownsRow B 136 2 (.slice (some ⟨g, 0, none⟩) G.length cap) G.length (gC ms (zsOf (mixQ k G j))) := hk.own_alien hrow (fun b hb => own_alien hjo hne b hb)
  refine ⟨hrow1, by rw [mixQ_length]; exact hl, ?_, fun i h1 h2 => ?_⟩
  · rw [mixQ_length]
    have h3 := (hrow1.stored (j * 2 + 1) (.int .i64 ((k + offQ G j + G[j].M.length : Nat) : Int))).1
    rw [gC_set _ _ _ _ (by rw [zsOf_length, mixQ_length]; exact hl), mixQ_zs k G j hj] at h3
    exact h3
  · have hi : i < G.length := by rw [mixQ_length] at h2; exact h2
    have o := h.2.2 i h1 (by rw [mixQ_length]; exact hi)
    rw [mixQ_at k G j i _ hi] at o
    rw [mixQ_at k G (j + 1) i h2 hi]
    have hks : Kept (fun b => b = g) w1 (w1.setCell ⟨g, j * 2 + 1, none⟩ (.int .i64 ((k + offQ G j + G[j].M.length : Nat) : Int))) := Kept.set _ _ _ _ rfl
    have hal : ∀ b, b = g → Alien w1 b 3 := fun b hb => by
      subst hb
      exact own_alien hrow1 (Ne.symm hne) b rfl
    by_cases e : i = j
    · subst e
      rw [if_pos (by omega)]
      exact hks.own_alien ho hal
    · have o2 := hk.own o (fun b hb hb' => e (hd i j h1 hjm b hb hb'))
      by_cases e2 : i < j
      · rw [if_pos (by omega)]
        rw [if_pos e2] at o2
        exact hks.own_alien o2 hal
      · rw [if_neg (by omega)]
        rw [if_neg e2] at o2
        exact hks.own_alien o2 hal

/-- The blocks of groups. -/
def GoBlk (v : Value) (ms : List Value) (g : Nat) : Prop := v.ownBlock = some g ∨ ∃ j, ∃ h : j < ms.length, ms[j].ownBlock = some g

end Gr
end Go.Proofs.YtjblkijicfmkgaaGreatDoor

/-
  The contracts of laws.markGroupS and laws.heldGroupS.
-/
namespace Go.Proofs.YtjblkijicfmkgaaGreatDoor
namespace Gr
open Go.ChangeShapes Go.WideShapes Go.ChangeAt Go.RowKit

end Gr
end Go.Proofs.YtjblkijicfmkgaaGreatDoor
