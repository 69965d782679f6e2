/-
 GrBase, Sv0, Sv1, Sv2, Sv3, Sv4, Sv5, GrGrown, GrBox, GrVB, GrHead, GrPre.
-/
import Derived.Test.YtkjclkelnheheaaProg
import Derived.Test.YtkjclkelnheheaaJ1
import Derived.Handy
import Derived.Deep.AppendLies
import Derived.BigQuiet
namespace Go.Proofs.Ytkjclkelnheheaa
namespace Gr
open Go.RowKit
def Kept (S : Nat → Prop) (w w' : World) : Prop :=
  w'.os = w.os ∧ w'.tape = w.tape ∧ w'.output = w.output ∧ w.heap.size ≤ w'.heap.size ∧ ∀ i, i < w.heap.size → ¬ S i → w'.heap[i]? = w.heap[i]?
theorem Kept.refl (S : Nat → Prop) (w : World) : Kept S w w := ⟨rfl, rfl, rfl, Nat.le_refl _, fun _ _ _ => rfl⟩
theorem Kept.trans {S : Nat → Prop} {a b c : World} (h : Kept S a b) (k : Kept S b c) : Kept S a c :=
  ⟨k.1.trans h.1, k.2.1.trans h.2.1, k.2.2.1.trans h.2.2.1, Nat.le_trans h.2.2.2.1 k.2.2.2.1, fun i hi hn => (k.2.2.2.2 i (Nat.lt_of_lt_of_le hi h.2.2.2.1) hn).trans (h.2.2.2.2 i hi hn)⟩
theorem Kept.weak {S T : Nat → Prop} {w w' : World} (h : Kept S w w') (hST : ∀ i, S i → T i) : Kept T w w' :=
  ⟨h.1, h.2.1, h.2.2.1, h.2.2.2.1, fun i hi hn => h.2.2.2.2 i hi (fun hs => hn (hST i hs))⟩
theorem Kept.of_below {S : Nat → Prop} {w w' : World} (h : Below w.heap.size w w') : Kept S w w' :=
  ⟨h.os, h.tape, h.output, h.size, fun i hi _ => h.block i hi⟩
theorem Kept.below {S : Nat → Prop} {w w' : World} {B : Nat} (h : Kept S w w') (hB : B ≤ w.heap.size) (hS : ∀ i, S i → B ≤ i) : Below B w w' :=
  ⟨h.1, h.2.1, h.2.2.1, h.2.2.2.1, fun i hi => h.2.2.2.2 i (by omega) (fun hs => by have := hS i hs; omega)⟩
theorem Kept.set {S : Nat → Prop} (w : World) (g j : Nat) (v : Value) (hg : S g) : Kept S w (w.setCell ⟨g, j, none⟩ v) :=
  ⟨rfl, rfl, rfl, by simp [World.setCell], fun i _ hn => Below.heap_setCell _ _ _ _ (fun e => hn (by rw [e]; exact hg))⟩
theorem Kept.drew {S : Nat → Prop} {w w' : World} (h : Kept S w w') : Kept S w w'.drew := h
theorem Kept.own {S : Nat → Prop} {w w' : World} {B e size n : Nat} {v : Value} {xs : List Value} (h : Kept S w w') (ho : w.ownsRow B e size v n xs) (hS : ∀ g, v.ownBlock = some g → ¬ S g) : w'.ownsRow B e size v n xs := by
  obtain ⟨h1, h2⟩ := ho
  refine ⟨h1, ?_⟩
  rcases h2 with h2 | ⟨g, cap, cur, rfl, a2, a3, a4⟩
  · exact .inl h2
  · refine .inr ⟨g, cap, cur, rfl, a2, ?_, a4⟩
    rw [h.2.2.2.2 g ?_ (hS g rfl)]
    · exact a3
    · rcases Nat.lt_or_ge g w.heap.size with h | h
      · exact h
      · rw [Array.getElem?_eq_none h] at a3; cases a3
def over {α : Type} (M L : List α) (j : Nat) : List α := M.take j ++ L.drop j
theorem Kept.of_grown {w w' : World} {row : Option Nat} (h : w.grownBy w' row) : Kept (fun k => row = some k) w w' :=
  ⟨h.os, h.tape, h.output, h.size, fun i hi hn => h.block i hi (fun e => hn e.symm)⟩
theorem own_below {B : Nat} {e : TypeId} {k : Nat} {v : Value} {n : Nat} {xs : List Value} {w w' : World} (h : w.ownsRow B e k v n xs) (hb : Below w.heap.size w w') : w'.ownsRow B e k v n xs :=
  h.kept (row := none) ⟨hb.os, hb.tape, hb.output, hb.size, fun j hj _ => hb.block j hj⟩ (by cases hv : v.ownBlock <;> simp)
theorem own_lower {w : World} {B C e size n : Nat} {v : Value} {xs : List Value} (hB : C ≤ B) (h : w.ownsRow B e size v n xs) : w.ownsRow C e size v n xs := by
  obtain ⟨h1, h2⟩ := h
  refine ⟨h1, ?_⟩
  rcases h2 with h2 | ⟨g, cap, cur, a1, a2, a3⟩
  · exact .inl h2
  · exact .inr ⟨g, cap, cur, a1, Nat.le_trans hB a2, a3⟩
theorem cells_of_two {w : World} {g : Nat} {x y : Value} {t : TypeId} (h : w.heap[g]? = some (.cells #[x, y] t (0, 0))) :
    w.cell? ⟨g, 0, none⟩ = some x ∧ w.cell? ⟨g, 1, none⟩ = some y ∧ ∀ j, w.frozen? ⟨g, j, none⟩ = false := by
  refine ⟨?_, ?_, fun j => ?_⟩
  · rw [cell_of_row w g 0 _ t (0, 0) h]; rfl
  · rw [cell_of_row w g 1 _ t (0, 0) h]; rfl
  · exact frozen_of_row w g j _ t h
theorem two_zero {w : World} {g : Nat} {x y : Value} {t : TypeId} (h : w.heap[g]? = some (.cells #[x, y] t (0, 0))) (u : Value) :
    (w.setCell ⟨g, 0, none⟩ u).heap[g]? = some (.cells #[u, y] t (0, 0)) := heap_setCell_same w g 0 _ t u h
theorem two_one {w : World} {g : Nat} {x y : Value} {t : TypeId} (h : w.heap[g]? = some (.cells #[x, y] t (0, 0))) (u : Value) :
    (w.setCell ⟨g, 1, none⟩ u).heap[g]? = some (.cells #[x, u] t (0, 0)) := heap_setCell_same w g 1 _ t u h
def part {α : Type} (L : List α) (z : α) (k : Nat) : List α := L.take k ++ List.replicate (L.length - k) z
theorem below_new (w : World) (o : Obj) : Below w.heap.size w (w.alloc o) := (Below.refl _ _).alloc (Nat.le_refl _) _
end Gr
end Go.Proofs.Ytkjclkelnheheaa
namespace Go.Proofs.Ytkjclkelnheheaa
namespace Sv
/-- A link, from a vertex to a vertex. -/
structure Lk where
  f : Nat
  t : Nat
def Lk.flip (x : Lk) : Lk := ⟨x.t, x.f⟩
/-- A vertex, or a ring. -/
structure Nd where
  ring : List Nat
  links : List Lk
  base : Nat
  z : Int
  up : Int
  gone : Bool
def nd0 : Nd := ⟨[], [], 0, 0, -1, false⟩
def nd (N : List Nd) (v : Nat) : Nd := N.getD v nd0
def upA (N : List Nd) (v : Nat) : Int := (nd N v).up
def top (N : List Nd) (v : Nat) : Nat :=
  if _h : (v : Int) < upA N v ∧ upA N v < (N.length : Int) then top N (upA N v).toNat else v
termination_by N.length - v
decreasing_by omega
def win (N : List Nd) (v x : Nat) : Bool :=
  if v = x then true else if _h : (v : Int) < upA N v ∧ upA N v < (N.length : Int) then win N (upA N v).toNat x else false
termination_by N.length - v
decreasing_by omega
def Ups (N : List Nd) : Prop := ∀ v, v < N.length → upA N v = -1 ∨ ((v : Int) < upA N v ∧ upA N v < (N.length : Int))
theorem top_up {N : List Nd} {v : Nat} (hU : Ups N) (hv : v < N.length) (h : 0 ≤ upA N v) : top N v = top N (upA N v).toNat ∧ (upA N v).toNat < N.length ∧ v < (upA N v).toNat := by
  have h1 : (v : Int) < upA N v ∧ upA N v < (N.length : Int) := by rcases hU v hv with h2 | h2 <;> omega
  refine ⟨?_, by omega, by omega⟩
  rw [top, dif_pos h1]
theorem top_self {N : List Nd} {v : Nat} (h : upA N v < 0) : top N v = v := by
  rw [top, dif_neg (by omega)]
theorem win_self (N : List Nd) (v : Nat) : win N v v = true := by rw [win, if_pos rfl]
theorem win_up {N : List Nd} {v x : Nat} (hU : Ups N) (hv : v < N.length) (h : 0 ≤ upA N v) (hx : v ≠ x) : win N v x = win N (upA N v).toNat x := by
  have h1 : (v : Int) < upA N v ∧ upA N v < (N.length : Int) := by rcases hU v hv with h2 | h2 <;> omega
  rw [win, if_neg hx, dif_pos h1]
theorem win_no {N : List Nd} {v x : Nat} (h : upA N v < 0) (hx : v ≠ x) : win N v x = false := by
  rw [win, if_neg hx, dif_neg (by omega)]
theorem up_induct {N : List Nd} (hU : Ups N) {P : Nat → Prop} (h0 : ∀ v, v < N.length → upA N v < 0 → P v) (h1 : ∀ v, v < N.length → 0 ≤ upA N v → (upA N v).toNat < N.length → v < (upA N v).toNat → P (upA N v).toNat → P v) : ∀ v, v < N.length → P v := by
  have key : ∀ k v, N.length - v ≤ k → v < N.length → P v := by
    intro k
    induction k with
    | zero => intro v hk hv; omega
    | succ k ih =>
      intro v hk hv
      rcases hU v hv with h | h
      · exact h0 v hv (by omega)
      · exact h1 v hv (by omega) (by omega) (by omega) (ih _ (by omega) (by omega))
  exact fun v hv => key _ v (Nat.le_refl _) hv
theorem top_spec {N : List Nd} (hU : Ups N) : ∀ v, v < N.length → top N v < N.length ∧ upA N (top N v) < 0 ∧ v ≤ top N v := by
  refine up_induct hU (fun v hv h => ?_) (fun v hv h h2 h3 ih => ?_)
  · rw [top_self h]; exact ⟨hv, h, Nat.le_refl _⟩
  · rw [(top_up hU hv h).1]; exact ⟨ih.1, ih.2.1, by omega⟩
theorem win_top {N : List Nd} (hU : Ups N) : ∀ v, v < N.length → win N v (top N v) = true := by
  refine up_induct hU (fun v hv h => ?_) (fun v hv h h2 h3 ih => ?_)
  · rw [top_self h]; exact win_self N v
  · rw [(top_up hU hv h).1]
    have h4 := (top_spec hU _ h2).2.2
    rw [win_up hU hv h (by omega)]; exact ih
theorem top_of_win {N : List Nd} (hU : Ups N) {x : Nat} : ∀ v, v < N.length → win N v x = true → top N v = top N x := by
  refine up_induct hU (fun v hv h hw => ?_) (fun v hv h h2 h3 ih hw => ?_)
  · by_cases hx : v = x
    · rw [hx]
    · rw [win_no h hx] at hw; cases hw
  · by_cases hx : v = x
    · rw [hx]
    · rw [win_up hU hv h hx] at hw
      rw [(top_up hU hv h).1]; exact ih hw
theorem win_is_top {N : List Nd} (hU : Ups N) {v x : Nat} (hv : v < N.length) (hx : upA N x < 0) (h : win N v x = true) : top N v = x := by
  rw [top_of_win hU v hv h, top_self hx]
theorem win_iff_top {N : List Nd} (hU : Ups N) {v x : Nat} (hv : v < N.length) (hx : upA N x < 0) : win N v x = true ↔ top N v = x :=
  ⟨win_is_top hU hv hx, fun h => by rw [← h]; exact win_top hU v hv⟩
def setUp (N : List Nd) (v : Nat) (u : Int) : List Nd := N.set v { nd N v with up := u }
def setUps (N : List Nd) (L : List Nat) (u : Int) : List Nd := L.foldl (fun N v => setUp N v u) N
theorem nd_set {N : List Nd} {v : Nat} {x : Nd} (hv : v < N.length) (i : Nat) : nd (N.set v x) i = if i = v then x else nd N i := by
  unfold nd
  by_cases h : i = v
  · subst h; simp [hv]
  · rw [if_neg h]
    simp [Ne.symm h]
theorem setUp_length (N : List Nd) (v : Nat) (u : Int) : (setUp N v u).length = N.length := by simp [setUp]
theorem setUps_length : ∀ (L : List Nat) (N : List Nd) (u : Int), (setUps N L u).length = N.length
  | [], _, _ => rfl
  | v :: r, N, u => by
    show (setUps (setUp N v u) r u).length = _
    rw [setUps_length r, setUp_length]
theorem setUps_nd : ∀ (L : List Nat) (N : List Nd) (u : Int), (∀ v ∈ L, v < N.length) → ∀ i, nd (setUps N L u) i = if i ∈ L then { nd N i with up := u } else nd N i
  | [], N, u, _, i => by simp [setUps]
  | v :: r, N, u, h, i => by
    have hv : v < N.length := h v (by simp)
    show nd (setUps (setUp N v u) r u) i = _
    rw [setUps_nd r _ u (fun x hx => by rw [setUp_length]; exact h x (by simp [hx]))]
    have e : nd (setUp N v u) i = if i = v then { nd N v with up := u } else nd N i := nd_set hv i
    rw [e]
    by_cases h1 : i = v
    · subst h1; simp
    · by_cases h2 : i ∈ r <;> simp [h1, h2]
theorem nd_append {N : List Nd} {x : Nd} (i : Nat) : nd (N ++ [x]) i = if i = N.length then x else nd N i := by
  unfold nd
  by_cases h : i = N.length
  · subst h; simp
  · rw [if_neg h]
    by_cases h2 : i < N.length
    · simp [List.getElem?_append_left h2]
    · have h3 : N.length ≤ i := by omega
      have h4 : (N ++ [x]).length ≤ i := by simp; omega
      simp [List.getElem?_eq_none h3, List.getElem?_eq_none h4]
def shrinkN (N : List Nd) (L : List Nat) (x : Nd) : List Nd := setUps (N ++ [x]) L (N.length : Int)
theorem shrink_length (N : List Nd) (L : List Nat) (x : Nd) : (shrinkN N L x).length = N.length + 1 := by
  unfold shrinkN; rw [setUps_length]; simp
theorem shrink_nd {N : List Nd} {L : List Nat} {x : Nd} (hL : ∀ v ∈ L, v < N.length) (i : Nat) : nd (shrinkN N L x) i = if i = N.length then x else if i ∈ L then { nd N i with up := (N.length : Int) } else nd N i := by
  unfold shrinkN
  rw [setUps_nd L _ _ (fun v hv => by have := hL v hv; simp; omega), nd_append]
  by_cases h : i = N.length
  · have : i ∉ L := fun h1 => by have := hL i h1; omega
    simp [h]
    intro h2; exact absurd (h ▸ h2) this
  · simp [h]
theorem shrink_up {N : List Nd} {L : List Nat} {x : Nd} (hL : ∀ v ∈ L, v < N.length) (i : Nat) : upA (shrinkN N L x) i = if i = N.length then x.up else if i ∈ L then (N.length : Int) else upA N i := by
  unfold upA
  rw [shrink_nd hL]
  split
  · rfl
  · split <;> rfl
theorem shrink_ups {N : List Nd} {L : List Nat} {x : Nd} (hU : Ups N) (hL : ∀ v ∈ L, v < N.length) (hx : x.up = -1) : Ups (shrinkN N L x) := by
  intro v hv
  rw [shrink_length] at hv ⊢
  rw [shrink_up hL]
  by_cases h : v = N.length
  · rw [if_pos h]; exact .inl hx
  · rw [if_neg h]
    by_cases h2 : v ∈ L
    · rw [if_pos h2]; exact .inr ⟨by omega, by omega⟩
    · rw [if_neg h2]
      rcases hU v (by omega) with h3 | h3
      · exact .inl h3
      · exact .inr ⟨h3.1, by omega⟩
theorem shrink_top {N : List Nd} {L : List Nat} {x : Nd} (hU : Ups N) (hL : ∀ v ∈ L, v < N.length ∧ upA N v < 0) (hx : x.up = -1) : ∀ v, v < N.length → top (shrinkN N L x) v = if top N v ∈ L then N.length else top N v := by
  have hL' : ∀ v ∈ L, v < N.length := fun v hv => (hL v hv).1
  have hU' := shrink_ups hU hL' hx (x := x)
  have hn : top (shrinkN N L x) N.length = N.length := top_self (by rw [shrink_up hL', if_pos rfl, hx]; decide)
  refine up_induct hU (fun v hv h => ?_) (fun v hv h h2 h3 ih => ?_)
  · rw [top_self h]
    by_cases h2 : v ∈ L
    · rw [if_pos h2]
      have e : upA (shrinkN N L x) v = (N.length : Int) := by rw [shrink_up hL', if_neg (by omega), if_pos h2]
      rw [(top_up hU' (by rw [shrink_length]; omega) (by rw [e]; omega)).1, e, Int.toNat_natCast, hn]
    · rw [if_neg h2]
      exact top_self (by rw [shrink_up hL', if_neg (by omega), if_neg h2]; exact h)
  · have hvL : v ∉ L := fun hm => by have := (hL v hm).2; omega
    have e : upA (shrinkN N L x) v = upA N v := by rw [shrink_up hL', if_neg (by omega), if_neg hvL]
    rw [(top_up hU' (by rw [shrink_length]; omega) (by rw [e]; omega)).1, e, ih, (top_up hU hv h).1]
theorem shrink_win {N : List Nd} {L : List Nat} {x : Nd} (hU : Ups N) (hL : ∀ v ∈ L, v < N.length ∧ upA N v < 0) (hx : x.up = -1) {y : Nat} : ∀ v, v < N.length → win N v y = true → win (shrinkN N L x) v y = true := by
  have hL' : ∀ v ∈ L, v < N.length := fun v hv => (hL v hv).1
  have hU' := shrink_ups hU hL' hx (x := x)
  refine up_induct hU (fun v hv h hw => ?_) (fun v hv h h2 h3 ih hw => ?_)
  · by_cases hy : v = y
    · rw [hy]; exact win_self _ _
    · rw [win_no h hy] at hw; cases hw
  · by_cases hy : v = y
    · rw [hy]; exact win_self _ _
    · have hvL : v ∉ L := fun hm => by have := (hL v hm).2; omega
      have e : upA (shrinkN N L x) v = upA N v := by rw [shrink_up hL', if_neg (by omega), if_neg hvL]
      rw [win_up hU hv h hy] at hw
      rw [win_up hU' (by rw [shrink_length]; omega) (by rw [e]; omega) hy, e]
      exact ih hw
def setGone (N : List Nd) (v : Nat) : List Nd := N.set v { nd N v with gone := true }
def openN (N : List Nd) (j : Nat) : List Nd := setGone (setUps N (nd N j).ring (-1)) j
theorem open_length (N : List Nd) (j : Nat) : (openN N j).length = N.length := by
  unfold openN setGone; rw [List.length_set, setUps_length]
theorem open_nd {N : List Nd} {j : Nat} (hj : j < N.length) (hL : ∀ v ∈ (nd N j).ring, v < j) (i : Nat) : nd (openN N j) i = if i = j then { nd N j with gone := true } else if i ∈ (nd N j).ring then { nd N i with up := -1 } else nd N i := by
  have hL' : ∀ v ∈ (nd N j).ring, v < N.length := fun v hv => by have := hL v hv; omega
  have hjL : j ∉ (nd N j).ring := fun h => by have := hL j h; omega
  unfold openN setGone
  rw [nd_set (by rw [setUps_length]; exact hj)]
  by_cases h : i = j
  · rw [if_pos h, if_pos h, setUps_nd _ _ _ hL', if_neg hjL]
  · rw [if_neg h, if_neg h, setUps_nd _ _ _ hL']
theorem open_up {N : List Nd} {j : Nat} (hj : j < N.length) (hL : ∀ v ∈ (nd N j).ring, v < j) (i : Nat) : upA (openN N j) i = if i ∈ (nd N j).ring then -1 else upA N i := by
  unfold upA
  rw [open_nd hj hL]
  by_cases h : i = j
  · have hjL : i ∉ (nd N j).ring := fun h1 => by have := hL i h1; omega
    rw [if_pos h, if_neg hjL, h]
  · rw [if_neg h]
    split <;> rfl
theorem open_ups {N : List Nd} {j : Nat} (hU : Ups N) (hj : j < N.length) (hL : ∀ v ∈ (nd N j).ring, v < j) : Ups (openN N j) := by
  intro v hv
  rw [open_length] at hv ⊢
  rw [open_up hj hL]
  split
  · exact .inl rfl
  · exact hU v hv
def InRing (N : List Nd) : Prop := ∀ v, v < N.length → 0 ≤ upA N v → v ∈ (nd N (upA N v).toNat).ring
theorem open_top {N : List Nd} {j : Nat} (hU : Ups N) (hI : InRing N) (hj : j < N.length) (hjt : upA N j < 0) (hL : ∀ v ∈ (nd N j).ring, v < j ∧ upA N v = (j : Int)) : ∀ v, v < N.length →
    (top N v = j → v ≠ j → top (openN N j) v ∈ (nd N j).ring ∧ win N v (top (openN N j) v) = true) ∧ (top N v ≠ j → top (openN N j) v = top N v) := by
  have hL' : ∀ v ∈ (nd N j).ring, v < j := fun v hv => (hL v hv).1
  have hU' := open_ups hU hj hL'
  refine up_induct hU (fun v hv h => ?_) (fun v hv h h2 h3 ih => ?_)
  · rw [top_self h]
    refine ⟨fun h1 h2 => absurd h1 h2, fun h1 => ?_⟩
    refine top_self ?_
    rw [open_up hj hL']
    split
    · decide
    · exact h
  · rw [(top_up hU hv h).1]
    by_cases hr : v ∈ (nd N j).ring
    · have e : upA (openN N j) v = -1 := by rw [open_up hj hL', if_pos hr]
      have et : top (openN N j) v = v := top_self (by rw [e]; decide)
      have hup := (hL v hr).2
      refine ⟨fun _ _ => by rw [et]; exact ⟨hr, win_self _ _⟩, fun h4 => ?_⟩
      rw [hup, Int.toNat_natCast, top_self hjt] at h4
      exact absurd rfl h4
    · have e : upA (openN N j) v = upA N v := by rw [open_up hj hL', if_neg hr]
      have hne : (upA N v).toNat ≠ j := fun h4 => by
        have := hI v hv h
        rw [h4] at this
        exact hr this
      rw [(top_up hU' (by rw [open_length]; exact hv) (by rw [e]; exact h)).1, e]
      refine ⟨fun h4 _ => ?_, fun h4 => ih.2 h4⟩
      have := ih.1 h4 hne
      refine ⟨this.1, ?_⟩
      by_cases hx : v = top (openN N j) (upA N v).toNat
      · have := (hL _ this.1).1
        have h5 := (top_spec hU' (upA N v).toNat (by rw [open_length]; exact h2)).2.2
        omega
      · rw [win_up hU hv h hx]; exact this.2
theorem open_win {N : List Nd} {j : Nat} (hU : Ups N) (hj : j < N.length) (hjt : upA N j < 0) (hL : ∀ v ∈ (nd N j).ring, v < j ∧ upA N v = (j : Int)) {y : Nat} (hy : y ≠ j) : ∀ v, v < N.length → win N v y = true → win (openN N j) v y = true := by
  have hL' : ∀ v ∈ (nd N j).ring, v < j := fun v hv => (hL v hv).1
  have hU' := open_ups hU hj hL'
  refine up_induct hU (fun v hv h hw => ?_) (fun v hv h h2 h3 ih hw => ?_)
  · by_cases hx : v = y
    · rw [hx]; exact win_self _ _
    · rw [win_no h hx] at hw; cases hw
  · by_cases hx : v = y
    · rw [hx]; exact win_self _ _
    · rw [win_up hU hv h hx] at hw
      by_cases hr : v ∈ (nd N j).ring
      · have hup := (hL v hr).2
        rw [hup, Int.toNat_natCast] at hw
        rw [win_no hjt (fun e => hy e.symm)] at hw
        cases hw
      · have e : upA (openN N j) v = upA N v := by rw [open_up hj hL', if_neg hr]
        rw [win_up hU' (by rw [open_length]; exact hv) (by rw [e]; exact h) hx, e]
        exact ih hw
theorem open_top_of {N : List Nd} {j x : Nat} (hU : Ups N) (hj : j < N.length) (hjt : upA N j < 0) (hL : ∀ v ∈ (nd N j).ring, v < j ∧ upA N v = (j : Int)) (hx : x ∈ (nd N j).ring) {v : Nat} (hv : v < N.length) (hw : win N v x = true) : top (openN N j) v = x := by
  have hL' : ∀ v ∈ (nd N j).ring, v < j := fun v hv => (hL v hv).1
  have h1 := open_win hU hj hjt hL (y := x) (by have := (hL x hx).1; omega) v hv hw
  refine win_is_top (open_ups hU hj hL') (by rw [open_length]; exact hv) ?_ h1
  rw [open_up hj hL', if_pos hx]; decide
def ends (M : List Lk) : List Nat := M.flatMap fun x => [x.f, x.t]
theorem ends_append (A B : List Lk) : ends (A ++ B) = ends A ++ ends B := by simp [ends]
theorem ends_cons (x : Lk) (B : List Lk) : ends (x :: B) = x.f :: x.t :: ends B := rfl
theorem mem_ends {M : List Lk} {v : Nat} : v ∈ ends M ↔ ∃ x ∈ M, v = x.f ∨ v = x.t := by simp [ends]
def tops (N : List Nd) (M : List Lk) : List Nat := (ends M).map (top N)
/-- What holds of a ring that stands. -/
structure RingOk (s : Nat) (N : List Nd) (k : Nat) : Prop where
  mem : ∀ x ∈ (nd N k).ring, x < k ∧ upA N x = (k : Int)
  nodup : (nd N k).ring.Nodup
  odd : (nd N k).ring.length % 2 = 1
  len : (nd N k).links.length = (nd N k).ring.length
  lk : ∀ i (h : i < (nd N k).links.length) (h1 : i < (nd N k).ring.length) (h2 : (i + 1) % (nd N k).ring.length < (nd N k).ring.length), win N (nd N k).links[i].f (nd N k).ring[i] = true ∧ win N (nd N k).links[i].t (nd N k).ring[(i + 1) % (nd N k).ring.length] = true ∧ (nd N k).links[i].f < s ∧ (nd N k).links[i].t < s
/-- What holds of the nodes and the mate edges at all times. -/
structure Inv (s : Nat) (N : List Nd) (M : List Lk) : Prop where
  ge : s ≤ N.length
  ups : Ups N
  inr : InRing N
  ali : ∀ v, v < N.length → 0 ≤ upA N v → (nd N (upA N v).toNat).gone = false ∧ s ≤ (upA N v).toNat
  gon : ∀ v, v < N.length → (nd N v).gone = true → upA N v < 0
  ver : ∀ v, v < s → (nd N v).gone = false
  bas : ∀ v, v < N.length → (nd N v).base < s
  rings : ∀ k, s ≤ k → k < N.length → (nd N k).gone = false → RingOk s N k
  fin : ∀ v ∈ ends M, v < s
  mat : (tops N M).Nodup
theorem Inv.alive {s : Nat} {N : List Nd} {M : List Lk} (h : Inv s N M) : ∀ v, v < N.length → (nd N v).gone = false → (nd N (top N v)).gone = false := by
  refine up_induct h.ups (fun v hv h1 h2 => ?_) (fun v hv h1 h2 h3 ih _ => ?_)
  · rw [top_self h1]; exact h2
  · rw [(top_up h.ups hv h1).1]; exact ih (h.ali v hv h1).1
def mateOf (N : List Nd) : List Lk → Nat → Option Lk
  | [], _ => none
  | x :: r, p => if top N x.f = p then some x else if top N x.t = p then some x.flip else mateOf N r p
theorem mate_some {N : List Nd} {p : Nat} {m : Lk} : ∀ {M : List Lk}, mateOf N M p = some m → top N m.f = p ∧ (m ∈ M ∨ m.flip ∈ M)
  | [], h => by simp [mateOf] at h
  | x :: r, h => by
    rw [mateOf] at h
    split at h
    · rename_i h1
      obtain rfl := Option.some.inj h
      exact ⟨h1, .inl (by simp)⟩
    · split at h
      · rename_i h1
        obtain rfl := Option.some.inj h
        exact ⟨h1, .inr (by simp [Lk.flip])⟩
      · obtain ⟨h1, h2⟩ := mate_some h
        refine ⟨h1, h2.imp (fun h => by simp [h]) (fun h => by simp [h])⟩
theorem mate_none {N : List Nd} {p : Nat} : ∀ {M : List Lk}, mateOf N M p = none ↔ p ∉ tops N M
  | [] => by simp [mateOf, tops, ends]
  | x :: r => by
    have ih := mate_none (N := N) (p := p) (M := r)
    have e : tops N (x :: r) = top N x.f :: top N x.t :: tops N r := rfl
    rw [mateOf, e]
    by_cases h1 : top N x.f = p
    · simp [h1]
    · by_cases h2 : top N x.t = p
      · simp [h1, h2]
      · rw [if_neg h1, if_neg h2, ih]
        simp [Ne.symm h1, Ne.symm h2]
theorem flip_flip (x : Lk) : x.flip.flip = x := rfl
theorem mem_tops {N : List Nd} {M : List Lk} {x : Lk} (h : x ∈ M ∨ x.flip ∈ M) : top N x.f ∈ tops N M ∧ top N x.t ∈ tops N M := by
  have hf : x.f ∈ ends M := mem_ends.2 (h.elim (fun h => ⟨x, h, .inl rfl⟩) (fun h => ⟨_, h, .inr rfl⟩))
  have ht : x.t ∈ ends M := mem_ends.2 (h.elim (fun h => ⟨x, h, .inr rfl⟩) (fun h => ⟨_, h, .inl rfl⟩))
  exact ⟨List.mem_map_of_mem hf, List.mem_map_of_mem ht⟩
theorem mate_of {N : List Nd} {m : Lk} : ∀ {M : List Lk}, (tops N M).Nodup → (m ∈ M ∨ m.flip ∈ M) → mateOf N M (top N m.f) = some m
  | [], _, h => by simp at h
  | x :: r, hn, h => by
    have e : tops N (x :: r) = top N x.f :: top N x.t :: tops N r := rfl
    rw [e, List.nodup_cons, List.nodup_cons] at hn
    obtain ⟨n1, n2, n3⟩ := hn
    rw [List.mem_cons, not_or] at n1
    by_cases hx : m = x
    · subst hx; rw [mateOf, if_pos rfl]
    · by_cases hy : m.flip = x
      · have e1 : x.f = m.t := by rw [← hy]; rfl
        have e2 : x.t = m.f := by rw [← hy]; rfl
        rw [e1, e2] at n1
        rw [mateOf, e1, e2, if_neg n1.1, if_pos rfl, ← hy, flip_flip]
      · have hr : m ∈ r ∨ m.flip ∈ r := by
          rcases h with h | h
          · rcases List.mem_cons.1 h with h | h
            · exact absurd h hx
            · exact .inl h
          · rcases List.mem_cons.1 h with h | h
            · exact absurd h hy
            · exact .inr h
        have hm := (mem_tops (N := N) hr).1
        rw [mateOf, if_neg (fun e => n1.2 (by rw [e]; exact hm)), if_neg (fun e => n2 (by rw [e]; exact hm))]
        exact mate_of n3 hr
theorem mate_flip {N : List Nd} {M : List Lk} {p : Nat} {m : Lk} (hn : (tops N M).Nodup) (h : mateOf N M p = some m) : mateOf N M (top N m.t) = some m.flip := by
  obtain ⟨_, h2⟩ := mate_some h
  exact mate_of (m := m.flip) hn (h2.symm)
theorem mate_ne {N : List Nd} {M : List Lk} {p : Nat} {m : Lk} (hn : (tops N M).Nodup) (h : mateOf N M p = some m) : top N m.t ≠ p := by
  intro e
  have h1 := mate_flip hn h
  rw [e, h] at h1
  have h2 := Option.some.inj h1
  obtain ⟨hp, hm⟩ := mate_some h
  have key : ∀ (M : List Lk) (x : Lk), (tops N M).Nodup → x ∈ M → top N x.f ≠ top N x.t := by
    intro M
    induction M with
    | nil => intro x _ hx; cases hx
    | cons y r ih =>
      intro x hn hx
      have e : tops N (y :: r) = top N y.f :: top N y.t :: tops N r := rfl
      rw [e, List.nodup_cons, List.nodup_cons] at hn
      rcases List.mem_cons.1 hx with rfl | hx
      · intro e; exact hn.1 (by rw [e]; simp)
      · exact ih x hn.2.2 hx
  rcases hm with hm | hm
  · exact key M m hn hm (by rw [hp, e])
  · exact key M m.flip hn hm (by show top N m.t = top N m.f; rw [hp, e])
def baseOf (N : List Nd) (M : List Lk) (j : Nat) : Nat := match mateOf N M j with | some m => m.f | none => (nd N j).base
def lastAt (P : Nat → Bool) : List Nat → Nat → Nat → Nat
  | [], _, a => a
  | x :: r, i, a => lastAt P r (i + 1) (if P x = true then i else a)
theorem lastAt_spec (P : Nat → Bool) : ∀ (L : List Nat) (i a : Nat), (lastAt P L i a = a ∧ ∀ x ∈ L, P x = false) ∨ ∃ k, ∃ h : k < L.length, lastAt P L i a = i + k ∧ P L[k] = true
  | [], i, a => .inl ⟨rfl, fun x hx => by cases hx⟩
  | x :: r, i, a => by
    rw [lastAt]
    rcases lastAt_spec P r (i + 1) (if P x = true then i else a) with ⟨h1, h2⟩ | ⟨k, hk, h1, h2⟩
    · by_cases hp : P x = true
      · rw [if_pos hp] at h1 ⊢
        exact .inr ⟨0, by simp, by omega, hp⟩
      · rw [if_neg hp] at h1 ⊢
        refine .inl ⟨h1, fun y hy => ?_⟩
        rcases List.mem_cons.1 hy with rfl | hy
        · simpa using hp
        · exact h2 y hy
    · exact .inr ⟨k + 1, by simp; omega, by omega, by simpa using h2⟩
def atOf (N : List Nd) (M : List Lk) (j : Nat) : Nat := lastAt (fun x => win N (baseOf N M j) x) (nd N j).ring 0 0
def innerOf (N : List Nd) (M : List Lk) (j : Nat) : List Lk := (List.range ((nd N j).ring.length / 2)).map fun k => (nd N j).links.getD ((atOf N M j + (2 * k + 1)) % (nd N j).ring.length) ⟨0, 0⟩
def openM (N : List Nd) (M : List Lk) (j : Nat) : List Lk := M ++ innerOf N M j
theorem pairs_map {α : Type} (g : Nat → α) : ∀ h : Nat, (List.range h).flatMap (fun k => [g (2 * k + 1), g (2 * k + 2)]) = (List.range' 1 (2 * h)).map g
  | 0 => rfl
  | h + 1 => by
    rw [List.range_succ, List.flatMap_append, pairs_map g h, show 2 * (h + 1) = 2 * h + 1 + 1 by omega, List.range'_concat, List.range'_concat]
    simp
    constructor <;> congr 1 <;> omega
theorem nodup_map_of {α β : Type} {f : α → β} : ∀ {l : List α}, l.Nodup → (∀ a ∈ l, ∀ b ∈ l, f a = f b → a = b) → (l.map f).Nodup
  | [], _, _ => List.nodup_nil
  | x :: r, h, hf => by
    rw [List.nodup_cons] at h
    rw [List.map_cons, List.nodup_cons]
    refine ⟨fun hm => ?_, nodup_map_of h.2 (fun a ha b hb => hf a (by simp [ha]) b (by simp [hb]))⟩
    obtain ⟨y, hy, e⟩ := List.mem_map.1 hm
    exact h.1 (by rw [hf x (by simp) y (by simp [hy]) e.symm]; exact hy)
theorem mod_inj {n a i k : Nat} (hi : i < n) (hk : k < n) (h : (a + i) % n = (a + k) % n) : i = k := by
  have key : ∀ i k : Nat, i ≤ k → k < n → (a + i) % n = (a + k) % n → i = k := by
    intro i k hik hk h
    have h1 := Nat.div_add_mod (a + i) n
    have h2 := Nat.div_add_mod (a + k) n
    have h3 : n * ((a + i) / n) ≤ n * ((a + k) / n) := Nat.mul_le_mul_left n (Nat.div_le_div_right (by omega))
    by_cases he : (a + i) / n = (a + k) / n
    · rw [he] at h1; omega
    · have h4 : (a + i) / n + 1 ≤ (a + k) / n := by
        have := Nat.div_le_div_right (c := n) (show a + i ≤ a + k by omega)
        omega
      have h5 := Nat.mul_le_mul_left n h4
      rw [Nat.mul_add, Nat.mul_one] at h5
      omega
  rcases Nat.le_total i k with h1 | h1
  · exact key i k h1 hk h
  · exact (key k i h1 hi h.symm).symm
theorem getElem_inj_of_nodup {l : List Nat} (h : l.Nodup) {i k : Nat} (hi : i < l.length) (hk : k < l.length) (e : l[i] = l[k]) : i = k := by
  have hp := List.pairwise_iff_getElem.1 h
  rcases Nat.lt_trichotomy i k with h1 | h1 | h1
  · exact absurd e (hp i k hi hk h1)
  · exact h1
  · exact absurd e.symm (hp k i hk hi h1)
theorem getD_at {α : Type} (l : List α) (i : Nat) (d : α) (h : i < l.length) : l.getD i d = l[i] := by simp [h]
section
variable {s : Nat} {N : List Nd} {M : List Lk} {j : Nat}
theorem inner_tops (h : Inv s N M) (hs : s ≤ j) (hj : j < N.length) (ha : (nd N j).gone = false) (hjt : upA N j < 0) (hpos : 0 < (nd N j).ring.length) :
    (∀ v ∈ ends (innerOf N M j), v < s) ∧ (ends (innerOf N M j)).map (top (openN N j)) = (List.range' 1 (2 * ((nd N j).ring.length / 2))).map (fun i => (nd N j).ring.getD ((atOf N M j + i) % (nd N j).ring.length) 0) := by
  have R := h.rings j hs hj ha
  have hge := h.ge
  unfold innerOf
  generalize hn : (nd N j).ring.length = n at *
  generalize atOf N M j = a at *
  have key : ∀ i, (top (openN N j) ((nd N j).links.getD ((a + i) % n) ⟨0, 0⟩).f = (nd N j).ring.getD ((a + i) % n) 0 ∧ top (openN N j) ((nd N j).links.getD ((a + i) % n) ⟨0, 0⟩).t = (nd N j).ring.getD ((a + (i + 1)) % n) 0) ∧ ((nd N j).links.getD ((a + i) % n) ⟨0, 0⟩).f < s ∧ ((nd N j).links.getD ((a + i) % n) ⟨0, 0⟩).t < s := by
    intro i
    have h1 : (a + i) % n < n := Nat.mod_lt _ hpos
    have h2 : ((a + i) % n + 1) % n < n := Nat.mod_lt _ hpos
    have hl : (a + i) % n < (nd N j).links.length := by rw [R.len, hn]; exact h1
    have e2 : ((a + i) % n + 1) % n = (a + (i + 1)) % n := by rw [Nat.mod_add_mod, Nat.add_assoc]
    obtain ⟨w1, w2, f1, f2⟩ := R.lk _ hl (by omega) (by rw [hn]; exact h2)
    have g1 : (nd N j).links.getD ((a + i) % n) ⟨0, 0⟩ = (nd N j).links[(a + i) % n] := getD_at _ _ _ hl
    have g2 : (nd N j).ring.getD ((a + i) % n) 0 = (nd N j).ring[(a + i) % n]'(by omega) := getD_at _ _ _ _
    have g3 : (nd N j).ring.getD ((a + (i + 1)) % n) 0 = (nd N j).ring[((a + i) % n + 1) % n]'(by omega) := by rw [← e2]; exact getD_at _ _ _ _
    rw [g1, g2, g3]
    refine ⟨⟨open_top_of h.ups hj hjt R.mem (List.getElem_mem _) (by omega) w1, ?_⟩, f1, f2⟩
    refine open_top_of h.ups hj hjt R.mem (List.getElem_mem _) (by omega) ?_
    simpa only [hn] using w2
  constructor
  · intro v hv
    obtain ⟨x, hx, hv⟩ := mem_ends.1 hv
    obtain ⟨k, _, rfl⟩ := List.mem_map.1 hx
    have := (key (2 * k + 1)).2
    rcases hv with rfl | rfl
    · exact this.1
    · exact this.2
  · rw [← pairs_map]
    unfold ends
    rw [List.flatMap_map, List.map_flatMap]
    congr 1
    funext k
    have := (key (2 * k + 1)).1
    simp only [List.map_cons, List.map_nil]
    rw [this.1, this.2]
theorem open_inv (h : Inv s N M) (hs : s ≤ j) (hj : j < N.length) (ha : (nd N j).gone = false) (hjt : upA N j < 0) : Inv s (openN N j) (openM N M j) := by
  have R := h.rings j hs hj ha
  have hge := h.ge
  have hL' : ∀ v ∈ (nd N j).ring, v < j := fun v hv => (R.mem v hv).1
  have hU' := open_ups h.ups hj hL'
  have hpos : 0 < (nd N j).ring.length := by have := R.odd; omega
  obtain ⟨hie, hit⟩ := inner_tops h hs hj ha hjt hpos
  have hjr : j ∉ (nd N j).ring := fun h1 => by have := hL' j h1; omega
  have hnd := open_nd hj hL'
  have hupo := open_up hj hL'
  refine ⟨by rw [open_length]; exact hge, hU', ?_, ?_, ?_, ?_, ?_, ?_, ?_, ?_⟩
  · -- whose up is there lies in its ring
    intro v hv hup
    rw [open_length] at hv
    rw [hupo] at hup ⊢
    by_cases hr : v ∈ (nd N j).ring
    · rw [if_pos hr] at hup; omega
    · rw [if_neg hr] at hup ⊢
      have h1 := h.inr v hv hup
      rw [hnd]
      split
      · rename_i e; rw [e] at h1; exact absurd h1 hr
      · split
        · exact h1
        · exact h1
  · intro v hv hup
    rw [open_length] at hv
    rw [hupo] at hup ⊢
    by_cases hr : v ∈ (nd N j).ring
    · rw [if_pos hr] at hup; omega
    · rw [if_neg hr] at hup ⊢
      have h1 := h.ali v hv hup
      have h2 := h.inr v hv hup
      refine ⟨?_, h1.2⟩
      rw [hnd]
      split
      · rename_i e; rw [e] at h2; exact absurd h2 hr
      · split
        · exact h1.1
        · exact h1.1
  · intro v hv hg
    rw [open_length] at hv
    rw [hupo]
    split
    · decide
    · rename_i hr
      rw [hnd] at hg
      by_cases e : v = j
      · rw [e]; exact hjt
      · rw [if_neg e, if_neg hr] at hg
        exact h.gon v hv hg
  · intro v hv
    rw [hnd, if_neg (by omega)]
    split
    · exact h.ver v hv
    · exact h.ver v hv
  · intro v hv
    rw [open_length] at hv
    rw [hnd]
    split
    · exact h.bas j hj
    · split
      · exact h.bas v hv
      · exact h.bas v hv
  · -- rings that stand
    intro k hk1 hk2 hk3
    rw [open_length] at hk2
    have hkj : k ≠ j := fun e => by rw [hnd, if_pos e] at hk3; cases hk3
    have hg : (nd N k).gone = false := by
      rw [hnd, if_neg hkj] at hk3
      split at hk3
      · exact hk3
      · exact hk3
    have K := h.rings k hk1 hk2 hg
    have er : (nd (openN N j) k).ring = (nd N k).ring := by rw [hnd, if_neg hkj]; split <;> rfl
    have el : (nd (openN N j) k).links = (nd N k).links := by rw [hnd, if_neg hkj]; split <;> rfl
    have hno : ∀ x ∈ (nd N k).ring, x ∉ (nd N j).ring := fun x hx hx2 => by
      have h1 := (K.mem x hx).2
      have h2 := (R.mem x hx2).2
      omega
    have hxj : ∀ x ∈ (nd N k).ring, x ≠ j := fun x hx e => by
      have h1 := (K.mem x hx).2
      rw [e] at h1
      omega
    refine ⟨?_, by rw [er]; exact K.nodup, by rw [er]; exact K.odd, by rw [er, el]; exact K.len, ?_⟩
    · intro x hx
      rw [er] at hx
      have := K.mem x hx
      exact ⟨this.1, by rw [hupo, if_neg (hno x hx)]; exact this.2⟩
    · simp only [er, el]
      intro i i0 i1 i2
      obtain ⟨w1, w2, f1, f2⟩ := K.lk i i0 i1 i2
      exact ⟨open_win h.ups hj hjt R.mem (hxj _ (List.getElem_mem _)) _ (by omega) w1, open_win h.ups hj hjt R.mem (hxj _ (List.getElem_mem _)) _ (by omega) w2, f1, f2⟩
  · intro v hv
    unfold openM at hv
    rw [ends_append, List.mem_append] at hv
    exact hv.elim (h.fin v) (hie v)
  · -- the mate edges
    have hOT := open_top h.ups h.inr hj hjt R.mem
    have hout : ∀ v, v < N.length → top N v ∉ (nd N j).ring := fun v hv hm => by
      have h1 := (R.mem _ hm).2
      have h2 := (top_spec h.ups v hv).2.1
      omega
    unfold tops openM
    rw [ends_append, List.map_append, List.nodup_append, hit]
    have hvj : ∀ v ∈ ends M, v < N.length ∧ v ≠ j := fun v hv => by have := h.fin v hv; omega
    refine ⟨?_, ?_, ?_⟩
    · have hmat := h.mat
      unfold tops at hmat
      rw [List.nodup_iff_pairwise_ne, List.pairwise_map] at hmat ⊢
      refine List.Pairwise.imp_of_mem ?_ hmat
      intro v w hv hw hne
      obtain ⟨hv1, hv2⟩ := hvj v hv
      obtain ⟨hw1, hw2⟩ := hvj w hw
      by_cases ev : top N v = j
      · have ew : top N w ≠ j := fun e => hne (by rw [ev, e])
        have h1 := ((hOT v hv1).1 ev hv2).1
        have h2 := (hOT w hw1).2 ew
        intro e
        rw [h2] at e
        exact hout w hw1 (by rw [← e]; exact h1)
      · have h1 := (hOT v hv1).2 ev
        by_cases ew : top N w = j
        · have h2 := ((hOT w hw1).1 ew hw2).1
          intro e
          rw [h1] at e
          exact hout v hv1 (by rw [e]; exact h2)
        · rw [h1, (hOT w hw1).2 ew]; exact hne
    · refine nodup_map_of (List.nodup_range' (step := 1)) (fun i hi k hk e => ?_)
      rw [List.mem_range'_1] at hi hk
      have b1 : (atOf N M j + i) % (nd N j).ring.length < (nd N j).ring.length := Nat.mod_lt _ hpos
      have b2 : (atOf N M j + k) % (nd N j).ring.length < (nd N j).ring.length := Nat.mod_lt _ hpos
      have e1 : (nd N j).ring[(atOf N M j + i) % (nd N j).ring.length] = (nd N j).ring[(atOf N M j + k) % (nd N j).ring.length] := by
        simpa [List.getElem?_eq_getElem b1, List.getElem?_eq_getElem b2] using e
      have := getElem_inj_of_nodup R.nodup b1 b2 e1
      have ho := R.odd
      exact mod_inj (by omega) (by omega) this
    · intro x hx y hy e
      subst e
      obtain ⟨v, hv, rfl⟩ := List.mem_map.1 hx
      obtain ⟨i, hi, e⟩ := List.mem_map.1 hy
      rw [List.mem_range'_1] at hi
      obtain ⟨hv1, hv2⟩ := hvj v hv
      have ho := R.odd
      have b1 : (atOf N M j + i) % (nd N j).ring.length < (nd N j).ring.length := Nat.mod_lt _ hpos
      have e1 : (nd N j).ring.getD ((atOf N M j + i) % (nd N j).ring.length) 0 = (nd N j).ring[(atOf N M j + i) % (nd N j).ring.length] := by simp [List.getElem?_eq_getElem b1]
      rw [e1] at e
      by_cases ev : top N v = j
      · have h1 := (hOT v hv1).1 ev hv2
        -- v is the base
        obtain ⟨m, hm, hmv⟩ : ∃ m : Lk, (m ∈ M ∨ m.flip ∈ M) ∧ m.f = v := by
          obtain ⟨y, hy, h2⟩ := mem_ends.1 hv
          rcases h2 with h2 | h2
          · exact ⟨y, .inl hy, h2.symm⟩
          · exact ⟨y.flip, .inr hy, h2.symm⟩
        have h3 := mate_of h.mat hm
        rw [hmv, ev] at h3
        have hb : baseOf N M j = v := by unfold baseOf; rw [h3]; exact hmv
        have hat : ∃ k, ∃ hk : k < (nd N j).ring.length, atOf N M j = k ∧ win N v (nd N j).ring[k] = true := by
          unfold atOf
          rw [hb]
          rcases lastAt_spec (fun x => win N v x) (nd N j).ring 0 0 with ⟨_, h5⟩ | ⟨k, hk, h5, h6⟩
          · have := h5 _ h1.1
            rw [h1.2] at this
            cases this
          · exact ⟨k, hk, by omega, h6⟩
        obtain ⟨k, hk, h5, h6⟩ := hat
        have h7 := open_top_of h.ups hj hjt R.mem (List.getElem_mem hk) hv1 h6
        rw [h7] at e
        have h8 := getElem_inj_of_nodup R.nodup b1 hk e
        rw [h5] at h8
        have h9 : (k + i) % (nd N j).ring.length = (k + 0) % (nd N j).ring.length := by rw [h8, Nat.add_zero, Nat.mod_eq_of_lt hk]
        have := mod_inj (by omega) (by omega) h9
        omega
      · rw [(hOT v hv1).2 ev] at e
        exact hout v hv1 (by rw [← e]; exact List.getElem_mem _)
end
/-- Labels: of each node 0 none, 1 even, 2 odd; the link from the one ahead; the root. -/
structure Tp where
  label : List Nat
  ahead : List Lk
  root : List Nat
def lab (t : Tp) (x : Nat) : Nat := t.label.getD x 0
def ahd (t : Tp) (x : Nat) : Lk := t.ahead.getD x ⟨0, 0⟩
def rt (t : Tp) (x : Nat) : Nat := t.root.getD x 0
def par (N : List Nd) (t : Tp) (x : Nat) : Nat := top N (ahd t x).f
def nz (t : Tp) : Nat := t.label.countP (fun l => l != 0)
def isTop (N : List Nd) (x : Nat) : Prop := x < N.length ∧ (nd N x).gone = false ∧ upA N x < 0
/-- The labels are a forest over the free tops. -/
structure For (s : Nat) (N : List Nd) (M : List Lk) (t : Tp) (rk : Nat → Nat) : Prop where
  l1 : t.label.length = N.length
  l2 : t.ahead.length = N.length
  l3 : t.root.length = N.length
  two : ∀ x, lab t x ≤ 2
  tp : ∀ x, lab t x ≠ 0 → isTop N x
  odd : ∀ x, lab t x = 2 → (lab t (par N t x) = 1 ∧ rt t x = rt t (par N t x) ∧ rt t x ≠ x ∧ rk (par N t x) < rk x ∧ top N (ahd t x).t = x ∧ (ahd t x).f < s ∧ (ahd t x).t < s) ∧ ∃ m, mateOf N M x = some m ∧ lab t (top N m.t) = 1
  evn : ∀ x, lab t x = 1 → rt t x ≠ x → lab t (par N t x) = 2 ∧ rt t x = rt t (par N t x) ∧ rk (par N t x) < rk x ∧ mateOf N M (par N t x) = some (ahd t x) ∧ top N (ahd t x).t = x ∧ (ahd t x).f < s ∧ (ahd t x).t < s
  rot : ∀ x, lab t x = 1 → rt t x = x → mateOf N M x = none
  root : ∀ x, lab t x ≠ 0 → lab t (rt t x) = 1 ∧ rt t (rt t x) = rt t x
  fre : ∀ x, isTop N x → mateOf N M x = none → lab t x = 1
  rkb : ∀ x, lab t x ≠ 0 → rk x ≤ nz t
def label0 (N : List Nd) (M : List Lk) : Tp :=
  ⟨(List.range N.length).map fun i => if (nd N i).gone = false ∧ upA N i < 0 ∧ mateOf N M i = none then 1 else 0, (List.range N.length).map fun _ => ⟨0, 0⟩, (List.range N.length).map fun i => if (nd N i).gone = false ∧ upA N i < 0 ∧ mateOf N M i = none then i else 0⟩
theorem getD_map_range {α : Type} (f : Nat → α) (n i : Nat) (d : α) : ((List.range n).map f).getD i d = if i < n then f i else d := by
  by_cases h : i < n
  · rw [if_pos h, getD_at _ _ _ (by simpa using h)]; simp
  · rw [if_neg h]
    have : ((List.range n).map f).length ≤ i := by simp; omega
    simp [List.getElem?_eq_none this]
theorem lab0_iff {N : List Nd} {M : List Lk} (x : Nat) : (lab (label0 N M) x = 1 ∧ rt (label0 N M) x = x ∧ isTop N x ∧ mateOf N M x = none) ∨ (lab (label0 N M) x = 0 ∧ ¬ (isTop N x ∧ mateOf N M x = none)) := by
  unfold lab rt label0 isTop
  simp only [getD_map_range]
  by_cases h : x < N.length
  · rw [if_pos h, if_pos h]
    by_cases h2 : (nd N x).gone = false ∧ upA N x < 0 ∧ mateOf N M x = none
    · rw [if_pos h2, if_pos h2]; exact .inl ⟨rfl, rfl, ⟨h, h2.1, h2.2.1⟩, h2.2.2⟩
    · rw [if_neg h2]; exact .inr ⟨rfl, fun h3 => h2 ⟨h3.1.2.1, h3.1.2.2, h3.2⟩⟩
  · rw [if_neg h]; exact .inr ⟨rfl, fun h3 => h h3.1.1⟩
theorem for0 (s : Nat) (N : List Nd) (M : List Lk) : For s N M (label0 N M) (fun _ => 0) := by
  refine ⟨by simp [label0], by simp [label0], by simp [label0], fun x => ?_, fun x h => ?_, fun x h => ?_, fun x h h2 => ?_, fun x h h2 => ?_, fun x h => ?_, fun x h h2 => ?_, fun x h => Nat.zero_le _⟩
  all_goals rcases lab0_iff (N := N) (M := M) x with ⟨h3, h4, h5, h6⟩ | ⟨h3, h4⟩
  · omega
  · omega
  · exact h5
  · exact absurd h3 h
  · omega
  · omega
  · exact absurd h4 h2
  · omega
  · exact h6
  · omega
  · rw [h4]; exact ⟨h3, h4⟩
  · exact absurd h3 h
  · exact h3
  · exact absurd ⟨h, h2⟩ h4
theorem getD_set {α : Type} (l : List α) (i k : Nat) (x d : α) (hi : i < l.length) : (l.set i x).getD k d = if k = i then x else l.getD k d := by
  by_cases h : k = i
  · subst h; simp [hi]
  · rw [if_neg h]; simp [Ne.symm h]
def grow (t : Tp) (a b c : Nat) (link mate : Lk) : Tp := ⟨(t.label.set b 2).set c 1, (t.ahead.set b link).set c mate, (t.root.set b (rt t a)).set c (rt t a)⟩
section
variable {s : Nat} {N : List Nd} {M : List Lk} {t : Tp} {rk : Nat → Nat} {a b c : Nat} {link mate : Lk}
theorem lab_grow (F : For s N M t rk) (hb : b < N.length) (hc : c < N.length) (x : Nat) : lab (grow t a b c link mate) x = if x = c then 1 else if x = b then 2 else lab t x := by
  unfold lab grow
  rw [getD_set _ _ _ _ _ (by rw [List.length_set, F.l1]; exact hc), getD_set _ _ _ _ _ (by rw [F.l1]; exact hb)]
theorem ahd_grow (F : For s N M t rk) (hb : b < N.length) (hc : c < N.length) (x : Nat) : ahd (grow t a b c link mate) x = if x = c then mate else if x = b then link else ahd t x := by
  unfold ahd grow
  rw [getD_set _ _ _ _ _ (by rw [List.length_set, F.l2]; exact hc), getD_set _ _ _ _ _ (by rw [F.l2]; exact hb)]
theorem rt_grow (F : For s N M t rk) (hb : b < N.length) (hc : c < N.length) (x : Nat) : rt (grow t a b c link mate) x = if x = c then rt t a else if x = b then rt t a else rt t x := by
  unfold rt grow
  rw [getD_set _ _ _ _ _ (by rw [List.length_set, F.l3]; exact hc), getD_set _ _ _ _ _ (by rw [F.l3]; exact hb)]
  rfl
theorem nz_grow (F : For s N M t rk) (hb : b < N.length) (hc : c < N.length) (hbc : b ≠ c) (lb : lab t b = 0) (lc : lab t c = 0) : nz (grow t a b c link mate) = nz t + 2 := by
  have hb1 : b < t.label.length := by rw [F.l1]; exact hb
  have hc1 : c < (t.label.set b 2).length := by rw [List.length_set, F.l1]; exact hc
  have e1 : t.label[b] = 0 := by have := lb; unfold lab at this; rwa [getD_at _ _ _ hb1] at this
  have e2 : (t.label.set b 2)[c] = 0 := by
    have := lc
    unfold lab at this
    rw [getD_at _ _ _ (by rw [F.l1]; exact hc)] at this
    rw [List.getElem_set_ne hbc]; exact this
  unfold nz grow
  simp only
  rw [List.countP_set hc1, List.countP_set hb1, e1, e2]
  simp
theorem mate_bare (I : Inv s N M) (F : For s N M t rk) (lb : lab t b = 0) (hm : mateOf N M b = some mate) : lab t (top N mate.t) = 0 := by
  have hf := mate_flip I.mat hm
  obtain ⟨e1, _⟩ := mate_some hm
  have h2 := F.two (top N mate.t)
  rcases Nat.lt_or_ge (lab t (top N mate.t)) 1 with h | h
  · omega
  · exfalso
    by_cases h1 : lab t (top N mate.t) = 1
    · by_cases hr : rt t (top N mate.t) = top N mate.t
      · have := F.rot _ h1 hr
        rw [this] at hf; cases hf
      · obtain ⟨g1, _, _, g4, g5, _⟩ := F.evn _ h1 hr
        have g6 := mate_flip I.mat g4
        rw [g5, hf] at g6
        have g7 : mate = ahd t (top N mate.t) := congrArg Lk.flip (Option.some.inj g6)
        have g8 : par N t (top N mate.t) = b := by unfold par; rw [← g7]; exact e1
        rw [g8, lb] at g1; cases g1
    · obtain ⟨_, m', g1, g2⟩ := F.odd _ (show lab t (top N mate.t) = 2 by omega)
      rw [hf] at g1
      obtain rfl := Option.some.inj g1
      have : top N mate.flip.t = b := e1
      rw [this, lb] at g2; cases g2
theorem grow_for (I : Inv s N M) (F : For s N M t rk) (la : lab t a = 1) (lb : lab t b = 0) (hb : isTop N b) (hl1 : top N link.f = a) (hl2 : top N link.t = b) (hf : link.f < s) (ht : link.t < s) (hm : mateOf N M b = some mate) (hc : c = top N mate.t) :
    For s N M (grow t a b c link mate) (fun x => if x = c then rk a + 2 else if x = b then rk a + 1 else rk x) ∧ nz (grow t a b c link mate) = nz t + 2 ∧ c < N.length := by
  have lc : lab t c = 0 := by rw [hc]; exact mate_bare I F lb hm
  have hcb : c ≠ b := by rw [hc]; exact mate_ne I.mat hm
  obtain ⟨e1, hmm⟩ := mate_some hm
  have hmt : mate.t < s ∧ mate.f < s := by
    constructor
    · exact I.fin _ (mem_ends.2 (hmm.elim (fun h => ⟨_, h, .inr rfl⟩) (fun h => ⟨_, h, .inl rfl⟩)))
    · exact I.fin _ (mem_ends.2 (hmm.elim (fun h => ⟨_, h, .inl rfl⟩) (fun h => ⟨_, h, .inr rfl⟩)))
  have hge := I.ge
  have hct : isTop N c := by
    rw [hc]
    have h1 := top_spec I.ups mate.t (by omega)
    exact ⟨h1.1, I.alive _ (by omega) (I.ver _ hmt.1), h1.2.1⟩
  have hac : a ≠ c := fun e => by rw [e, lc] at la; cases la
  have hab : a ≠ b := fun e => by rw [e, lb] at la; cases la
  have L := lab_grow (a := a) (link := link) (mate := mate) F hb.1 hct.1
  have A := ahd_grow (a := a) (link := link) (mate := mate) F hb.1 hct.1
  have T := rt_grow (a := a) (link := link) (mate := mate) F hb.1 hct.1
  have Z := nz_grow (a := a) (link := link) (mate := mate) F hb.1 hct.1 (Ne.symm hcb) lb lc
  have old : ∀ x, lab t x ≠ 0 → x ≠ c ∧ x ≠ b := fun x hx => ⟨fun e => hx (by rw [e]; exact lc), fun e => hx (by rw [e]; exact lb)⟩
  have Lo : ∀ x, lab t x ≠ 0 → lab (grow t a b c link mate) x = lab t x := fun x hx => by rw [L, if_neg (old x hx).1, if_neg (old x hx).2]
  have To : ∀ x, lab t x ≠ 0 → rt (grow t a b c link mate) x = rt t x := fun x hx => by rw [T, if_neg (old x hx).1, if_neg (old x hx).2]
  have Po : ∀ x, x ≠ c → x ≠ b → par N (grow t a b c link mate) x = par N t x := fun x h1 h2 => by unfold par; rw [A, if_neg h1, if_neg h2]
  have pb : par N (grow t a b c link mate) b = a := by unfold par; rw [A, if_neg (Ne.symm hcb), if_pos rfl]; exact hl1
  have pc : par N (grow t a b c link mate) c = b := by unfold par; rw [A, if_pos rfl]; exact e1
  have la0 : lab t a ≠ 0 := by omega
  have Ra := F.root a la0
  have Rn : lab t (rt t a) ≠ 0 := by rw [Ra.1]; decide
  refine ⟨⟨?_, ?_, ?_, ?_, ?_, ?_, ?_, ?_, ?_, ?_, ?_⟩, Z, hct.1⟩
  · simp [grow, F.l1]
  · simp [grow, F.l2]
  · simp [grow, F.l3]
  · intro x
    rw [L]
    split
    · omega
    · split
      · omega
      · exact F.two x
  · intro x hx
    rw [L] at hx
    by_cases h1 : x = c
    · rw [h1]; exact hct
    · by_cases h2 : x = b
      · rw [h2]; exact hb
      · rw [if_neg h1, if_neg h2] at hx; exact F.tp x hx
  · intro x hx
    rw [L] at hx
    by_cases h1 : x = c
    · rw [if_pos h1] at hx; cases hx
    · by_cases h2 : x = b
      · subst h2
        rw [pb]
        refine ⟨⟨by rw [Lo a la0]; exact la, by rw [T, if_neg h1, if_pos rfl, To a la0], ?_, ?_, ?_, ?_, ?_⟩, mate, hm, ?_⟩
        · rw [T, if_neg h1, if_pos rfl]
          exact fun e => by rw [e, lb] at Rn; exact Rn rfl
        · rw [if_neg hac, if_neg hab, if_neg h1, if_pos rfl]; omega
        · rw [A, if_neg h1, if_pos rfl]; exact hl2
        · rw [A, if_neg h1, if_pos rfl]; exact hf
        · rw [A, if_neg h1, if_pos rfl]; exact ht
        · rw [L, if_pos hc.symm]
      · rw [if_neg h1, if_neg h2] at hx
        obtain ⟨⟨g1, g2, g3, g4, g5, g6, g7⟩, m, g8, g9⟩ := F.odd x hx
        have hp : lab t (par N t x) ≠ 0 := by omega
        have hx0 : lab t x ≠ 0 := by omega
        rw [Po x h1 h2]
        refine ⟨⟨by rw [Lo _ hp]; exact g1, by rw [To x hx0, To _ hp]; exact g2, by rw [To x hx0]; exact g3, ?_, ?_, ?_, ?_⟩, m, g8, by rw [Lo _ (by omega)]; exact g9⟩
        · rw [if_neg (old _ hp).1, if_neg (old _ hp).2, if_neg h1, if_neg h2]; exact g4
        · rw [A, if_neg h1, if_neg h2]; exact g5
        · rw [A, if_neg h1, if_neg h2]; exact g6
        · rw [A, if_neg h1, if_neg h2]; exact g7
  · intro x hx hr
    rw [L] at hx
    by_cases h1 : x = c
    · subst h1
      rw [pc]
      refine ⟨by rw [L, if_neg (Ne.symm hcb), if_pos rfl], by rw [T, if_pos rfl, T, if_neg (Ne.symm hcb), if_pos rfl], ?_, ?_, ?_, ?_, ?_⟩
      · rw [if_neg (Ne.symm hcb), if_pos rfl, if_pos rfl]; omega
      · rw [A, if_pos rfl]; exact hm
      · rw [A, if_pos rfl]; exact hc.symm
      · rw [A, if_pos rfl]; exact hmt.2
      · rw [A, if_pos rfl]; exact hmt.1
    · by_cases h2 : x = b
      · rw [if_neg h1, if_pos h2] at hx; cases hx
      · rw [if_neg h1, if_neg h2] at hx
        have hx0 : lab t x ≠ 0 := by omega
        rw [To x hx0] at hr
        obtain ⟨g1, g2, g3, g4, g5, g6, g7⟩ := F.evn x hx hr
        have hp : lab t (par N t x) ≠ 0 := by omega
        rw [Po x h1 h2]
        refine ⟨by rw [Lo _ hp]; exact g1, by rw [To x hx0, To _ hp]; exact g2, ?_, ?_, ?_, ?_, ?_⟩
        · rw [if_neg (old _ hp).1, if_neg (old _ hp).2, if_neg h1, if_neg h2]; exact g3
        · rw [A, if_neg h1, if_neg h2]; exact g4
        · rw [A, if_neg h1, if_neg h2]; exact g5
        · rw [A, if_neg h1, if_neg h2]; exact g6
        · rw [A, if_neg h1, if_neg h2]; exact g7
  · intro x hx hr
    rw [L] at hx
    by_cases h1 : x = c
    · subst h1
      rw [T, if_pos rfl] at hr
      exact absurd (by rw [hr]; exact lc) Rn
    · by_cases h2 : x = b
      · rw [if_neg h1, if_pos h2] at hx; cases hx
      · rw [if_neg h1, if_neg h2] at hx
        rw [To x (by omega)] at hr
        exact F.rot x hx hr
  · intro x hx
    rw [L] at hx
    have key : lab (grow t a b c link mate) (rt t a) = 1 ∧ rt (grow t a b c link mate) (rt t a) = rt t a := ⟨by rw [Lo _ Rn]; exact Ra.1, by rw [To _ Rn]; exact Ra.2⟩
    by_cases h1 : x = c
    · rw [T, if_pos h1]; exact key
    · by_cases h2 : x = b
      · rw [T, if_neg h1, if_pos h2]; exact key
      · rw [if_neg h1, if_neg h2] at hx
        have R := F.root x hx
        have Rx : lab t (rt t x) ≠ 0 := by rw [R.1]; decide
        rw [To x hx, Lo _ Rx, To _ Rx]; exact R
  · intro x hx h2
    have := F.fre x hx h2
    rw [Lo x (by omega)]; exact this
  · intro x hx
    rw [Z]
    have ra := F.rkb a la0
    rw [L] at hx
    by_cases h1 : x = c
    · rw [if_pos h1]; omega
    · by_cases h2 : x = b
      · rw [if_neg h1, if_pos h2]; omega
      · rw [if_neg h1, if_neg h2] at hx ⊢
        have := F.rkb x hx
        omega
end
def wayF (N : List Nd) (t : Tp) : Nat → Nat → List Nat
  | 0, x => [x]
  | k + 1, x => if rt t x = x then [x] else x :: wayF N t k (par N t x)
/-- A way from x to its root. -/
structure IsWay (N : List Nd) (t : Tp) (rk : Nat → Nat) (x : Nat) (W : List Nat) : Prop where
  pos : 0 < W.length
  hd : W[0] = x
  lst : W[W.length - 1] = rt t x
  st : ∀ i (h : i + 1 < W.length), W[i + 1] = par N t W[i] ∧ rt t W[i] ≠ W[i] ∧ rk W[i + 1] < rk W[i]
  lb : ∀ i (h : i < W.length), lab t W[i] = if i % 2 = 0 then lab t x else 3 - lab t x
  rts : ∀ i (h : i < W.length), rt t W[i] = rt t x
theorem way_is {s : Nat} {N : List Nd} {M : List Lk} {t : Tp} {rk : Nat → Nat} (F : For s N M t rk) : ∀ (k x : Nat), lab t x ≠ 0 → rk x ≤ k → IsWay N t rk x (wayF N t k x) := by
  have one : ∀ x, lab t x ≠ 0 → rt t x = x → IsWay N t rk x [x] := fun x hx hr => ⟨by simp, rfl, by simp [hr], fun i h => by simp at h, fun i h => by simp at h; subst h; simp, fun i h => by simp⟩
  intro k
  induction k with
  | zero =>
    intro x hx hk
    refine one x hx ?_
    by_cases hr : rt t x = x
    · exact hr
    · exfalso
      have h2 := F.two x
      by_cases h1 : lab t x = 1
      · have := (F.evn x h1 hr).2.2.1; omega
      · have := (F.odd x (by omega)).1.2.2.2.1; omega
  | succ k ih =>
    intro x hx hk
    rw [wayF]
    by_cases hr : rt t x = x
    · rw [if_pos hr]; exact one x hx hr
    · rw [if_neg hr]
      have hp : lab t (par N t x) = 3 - lab t x ∧ rt t x = rt t (par N t x) ∧ rk (par N t x) < rk x := by
        have h2 := F.two x
        by_cases h1 : lab t x = 1
        · obtain ⟨g1, g2, g3, _⟩ := F.evn x h1 hr
          exact ⟨by omega, g2, g3⟩
        · obtain ⟨⟨g1, g2, _, g4, _⟩, _⟩ := F.odd x (by omega)
          exact ⟨by omega, g2, g4⟩
      have h2 := F.two x
      have W := ih (par N t x) (by omega) (by omega)
      generalize wayF N t k (par N t x) = L at W
      refine ⟨by simp, rfl, ?_, ?_, ?_, ?_⟩
      · have h3 := W.lst
        have h4 := W.pos
        rw [hp.2.1, ← h3]
        simp only [List.length_cons, Nat.add_sub_cancel]
        rw [List.getElem_cons]
        rw [dif_neg (by omega)]
      · intro i hi
        cases i with
        | zero =>
          have h5 : L[0]'W.pos = par N t x := W.hd
          refine ⟨?_, hr, ?_⟩
          · show L[0]'W.pos = _; exact h5
          · show rk (L[0]'W.pos) < rk x
            rw [h5]; exact hp.2.2
        | succ i =>
          have := W.st i (by simpa using hi)
          exact this
      · intro i hi
        cases i with
        | zero => simp
        | succ i =>
          have hiL : i < L.length := by simpa using hi
          have h5 := W.lb i hiL
          show lab t L[i] = _
          rw [h5, hp.1]
          by_cases h6 : i % 2 = 0
          · rw [if_pos h6, if_neg (by omega)]
          · rw [if_neg h6, if_pos (by omega)]; omega
      · intro i hi
        cases i with
        | zero => rfl
        | succ i =>
          have hiL : i < L.length := by simpa using hi
          have h5 := W.rts i hiL
          show rt t L[i] = _
          rw [h5, hp.2.1]
theorem IsWay.rank {N : List Nd} {t : Tp} {rk : Nat → Nat} {x : Nat} {W : List Nat} (h : IsWay N t rk x W) : ∀ i j (hij : i < j) (hj : j < W.length), rk W[j] < rk (W[i]'(by omega)) := by
  intro i j hij hj
  induction j with
  | zero => omega
  | succ j ih =>
    have h1 := (h.st j hj).2.2
    by_cases e : i = j
    · subst e; exact h1
    · exact Nat.lt_trans h1 (ih (by omega) (by omega))
theorem IsWay.nodup {N : List Nd} {t : Tp} {rk : Nat → Nat} {x : Nat} {W : List Nat} (h : IsWay N t rk x W) : W.Nodup := by
  rw [List.nodup_iff_pairwise_ne, List.pairwise_iff_getElem]
  intro i j hi hj hij e
  have := h.rank i j hij hj
  rw [e] at this
  omega
def ringOf (A B : List Nat) (i k : Nat) : List Nat := (A.take (i + 1)).reverse ++ B.take k
def linksOf (t : Tp) (e : Lk) (A B : List Nat) (i k : Nat) : List Lk := ((A.take i).reverse.map (ahd t)) ++ (e :: (B.take k).map fun x => (ahd t x).flip)
def keepM (N : List Nd) (L : List Nat) (M : List Lk) : List Lk := M.filter fun x => !(decide (top N x.f ∈ L) && decide (top N x.t ∈ L))
def newRing (N : List Nd) (M : List Lk) (t : Tp) (e : Lk) (A B : List Nat) (i k : Nat) (x : Nat) : Nd := ⟨ringOf A B i k, linksOf t e A B i k, baseOf N M x, 0, -1, false⟩
theorem ring_length {A B : List Nat} {i k : Nat} (hi : i < A.length) (hk : k < B.length) : (ringOf A B i k).length = i + 1 + k := by
  unfold ringOf; simp; omega
theorem links_length {t : Tp} {e : Lk} {A B : List Nat} {i k : Nat} (hi : i < A.length) (hk : k < B.length) : (linksOf t e A B i k).length = i + 1 + k := by
  unfold linksOf; simp; omega
theorem ring_at' {A B : List Nat} {i k : Nat} (hi : i < A.length) (hk : k < B.length) (p : Nat) (hp : p < ((A.take (i + 1)).reverse ++ B.take k).length) (hq : p < i + 1 + k) :
    (∀ h : p ≤ i, ((A.take (i + 1)).reverse ++ B.take k)[p] = A[i - p]) ∧ (∀ h : i < p, ((A.take (i + 1)).reverse ++ B.take k)[p] = B[p - i - 1]'(by omega)) := by
  constructor
  · intro h
    rw [List.getElem_append_left (by simp; omega), List.getElem_reverse, List.getElem_take]
    congr 1
    simp
    omega
  · intro h
    rw [List.getElem_append_right (by simp; omega), List.getElem_take]
    congr 1
    simp
    omega
theorem ring_at {A B : List Nat} {i k : Nat} (hi : i < A.length) (hk : k < B.length) (p : Nat) (hp : p < (ringOf A B i k).length) :
    (∀ h : p ≤ i, (ringOf A B i k)[p] = A[i - p]) ∧ (∀ h : i < p, (ringOf A B i k)[p] = B[p - i - 1]'(by rw [ring_length hi hk] at hp; omega)) :=
  ring_at' hi hk p hp (by rw [ring_length hi hk] at hp; exact hp)
theorem links_at' {t : Tp} {e : Lk} {A B : List Nat} {i k : Nat} (hi : i < A.length) (hk : k < B.length) (p : Nat) (hp : p < (((A.take i).reverse.map (ahd t)) ++ (e :: (B.take k).map fun x => (ahd t x).flip)).length) (hq : p < i + 1 + k) :
    (∀ h : p < i, (((A.take i).reverse.map (ahd t)) ++ (e :: (B.take k).map fun x => (ahd t x).flip))[p] = ahd t A[i - 1 - p]) ∧ (p = i → (((A.take i).reverse.map (ahd t)) ++ (e :: (B.take k).map fun x => (ahd t x).flip))[p] = e) ∧ (∀ h : i < p, (((A.take i).reverse.map (ahd t)) ++ (e :: (B.take k).map fun x => (ahd t x).flip))[p] = (ahd t (B[p - i - 1]'(by omega))).flip) := by
  refine ⟨?_, ?_, ?_⟩
  · intro h
    rw [List.getElem_append_left (by simp; omega), List.getElem_map, List.getElem_reverse, List.getElem_take]
    congr 2
    simp
    omega
  · intro h
    subst h
    rw [List.getElem_append_right (by simp; omega)]
    have : p - ((A.take p).reverse.map (ahd t)).length = 0 := by simp; omega
    simp only [this, List.getElem_cons_zero]
  · intro h
    rw [List.getElem_append_right (by simp; omega), List.getElem_cons, dif_neg (by simp; omega), List.getElem_map, List.getElem_take]
    congr 3
    simp
    omega
theorem links_at {t : Tp} {e : Lk} {A B : List Nat} {i k : Nat} (hi : i < A.length) (hk : k < B.length) (p : Nat) (hp : p < (linksOf t e A B i k).length) :
    (∀ h : p < i, (linksOf t e A B i k)[p] = ahd t A[i - 1 - p]) ∧ (p = i → (linksOf t e A B i k)[p] = e) ∧ (∀ h : i < p, (linksOf t e A B i k)[p] = (ahd t (B[p - i - 1]'(by rw [links_length hi hk] at hp; omega))).flip) :=
  links_at' hi hk p hp (by rw [links_length hi hk] at hp; exact hp)
theorem mem_take_iff {l : List Nat} {n x : Nat} : x ∈ l.take n ↔ ∃ j, ∃ h : j < l.length, j < n ∧ l[j] = x := by
  constructor
  · intro h
    obtain ⟨j, hj, e⟩ := List.getElem_of_mem h
    rw [List.length_take] at hj
    exact ⟨j, by omega, by omega, by rw [← e, List.getElem_take]⟩
  · rintro ⟨j, hj, hn, e⟩
    rw [← e]
    have h1 : j < (l.take n).length := by rw [List.length_take]; omega
    have := List.getElem_mem h1
    rwa [List.getElem_take] at this
theorem tops_keep {N : List Nd} (p : Lk → Bool) : ∀ (M : List Lk), (tops N M).Nodup → (tops N (M.filter p)).Nodup ∧ ∀ x ∈ tops N (M.filter p), x ∈ tops N M
  | [], _ => by simp [tops, ends]
  | y :: r, h => by
    have e : tops N (y :: r) = top N y.f :: top N y.t :: tops N r := rfl
    rw [e, List.nodup_cons, List.nodup_cons] at h
    obtain ⟨i1, i2⟩ := tops_keep p r h.2.2
    rw [List.filter_cons]
    split
    · have e2 : tops N (y :: r.filter p) = top N y.f :: top N y.t :: tops N (r.filter p) := rfl
      rw [e2, e]
      refine ⟨?_, ?_⟩
      · rw [List.nodup_cons, List.nodup_cons]
        refine ⟨fun hm => h.1 ?_, fun hm => h.2.1 (i2 _ hm), i1⟩
        rcases List.mem_cons.1 hm with hm | hm
        · rw [hm]; simp
        · exact List.mem_cons_of_mem _ (i2 _ hm)
      · intro x hx
        rcases List.mem_cons.1 hx with rfl | hx
        · simp
        · rcases List.mem_cons.1 hx with rfl | hx
          · simp
          · exact List.mem_cons_of_mem _ (List.mem_cons_of_mem _ (i2 x hx))
    · refine ⟨i1, fun x hx => ?_⟩
      rw [e]
      exact List.mem_cons_of_mem _ (List.mem_cons_of_mem _ (i2 x hx))
section
variable {s : Nat} {N : List Nd} {M : List Lk} {t : Tp} {rk : Nat → Nat} {a0 b0 i k : Nat} {A B : List Nat} {e : Lk}
theorem way_mates (I : Inv s N M) (F : For s N M t rk) (hA : IsWay N t rk a0 A) (la : lab t a0 = 1) (j : Nat) (hj : j + 1 < A.length) :
    (j % 2 = 0 → ∃ m, mateOf N M A[j] = some m ∧ top N m.t = A[j + 1]) ∧ (j % 2 = 0 → ∃ m, mateOf N M A[j + 1] = some m ∧ top N m.t = A[j]) := by
  have key : j % 2 = 0 → mateOf N M A[j + 1] = some (ahd t A[j]) ∧ top N (ahd t A[j]).t = A[j] ∧ top N (ahd t A[j]).f = A[j + 1] := fun h => by
    have h1 : lab t A[j] = 1 := by rw [hA.lb j (by omega), if_pos h, la]
    obtain ⟨h2, h3, _⟩ := hA.st j hj
    obtain ⟨_, _, _, g4, g5, _⟩ := F.evn _ h1 h3
    rw [← h2] at g4
    exact ⟨g4, g5, h2.symm⟩
  constructor
  · intro h
    obtain ⟨g1, g2, g3⟩ := key h
    have := mate_flip I.mat g1
    rw [g2] at this
    exact ⟨_, this, g3⟩
  · intro h
    obtain ⟨g1, g2, g3⟩ := key h
    exact ⟨_, g1, g2⟩
theorem way_top (F : For s N M t rk) (hA : IsWay N t rk a0 A) (la : lab t a0 = 1) (j : Nat) (hj : j < A.length) : isTop N A[j] := by
  refine F.tp _ ?_
  rw [hA.lb j hj, la]
  split <;> decide
theorem way_link (F : For s N M t rk) (hA : IsWay N t rk a0 A) (la : lab t a0 = 1) (j : Nat) (hj : j + 1 < A.length) : top N (ahd t A[j]).f = A[j + 1] ∧ top N (ahd t A[j]).t = A[j] ∧ (ahd t A[j]).f < s ∧ (ahd t A[j]).t < s := by
  obtain ⟨h2, h3, _⟩ := hA.st j hj
  have hl := hA.lb j (by omega)
  rw [la] at hl
  by_cases h : j % 2 = 0
  · rw [if_pos h] at hl
    obtain ⟨_, _, _, _, g5, g6, g7⟩ := F.evn _ hl h3
    exact ⟨h2.symm, g5, g6, g7⟩
  · rw [if_neg h] at hl
    obtain ⟨⟨_, _, _, _, g5, g6, g7⟩, _⟩ := F.odd _ hl
    exact ⟨h2.symm, g5, g6, g7⟩
theorem meet_even (I : Inv s N M) (F : For s N M t rk) (hA : IsWay N t rk a0 A) (hB : IsWay N t rk b0 B) (la : lab t a0 = 1) (lb : lab t b0 = 1) (hi : i < A.length) (hk : k < B.length) (hm : A[i] = B[k]) (hf : ∀ j (h : j < i), A[j] ∉ B) : i % 2 = 0 ∧ k % 2 = 0 := by
  have h1 := hA.lb i hi
  have h2 := hB.lb k hk
  rw [la] at h1
  rw [lb] at h2
  rw [hm, h2] at h1
  by_cases hie : i % 2 = 0
  · rw [if_pos hie] at h1
    by_cases hke : k % 2 = 0
    · exact ⟨hie, hke⟩
    · rw [if_neg hke] at h1; omega
  · exfalso
    rw [if_neg hie] at h1
    have hke : k % 2 ≠ 0 := fun h => by rw [if_pos h] at h1; omega
    obtain ⟨i', rfl⟩ : ∃ i', i = i' + 1 := ⟨i - 1, by omega⟩
    obtain ⟨k', rfl⟩ : ∃ k', k = k' + 1 := ⟨k - 1, by omega⟩
    obtain ⟨m1, p1, p2⟩ := (way_mates I F hA la i' hi).2 (by omega)
    obtain ⟨m2, q1, q2⟩ := (way_mates I F hB lb k' hk).2 (by omega)
    rw [hm, q1] at p1
    obtain rfl := Option.some.inj p1
    exact hf i' (by omega) (by rw [← p2, q2]; exact List.getElem_mem _)
theorem ring_mates (I : Inv s N M) (F : For s N M t rk) (hA : IsWay N t rk a0 A) (hB : IsWay N t rk b0 B) (la : lab t a0 = 1) (lb : lab t b0 = 1) (hi : i < A.length) (hk : k < B.length) (hm : A[i] = B[k]) (hie : i % 2 = 0) (hke : k % 2 = 0) (x : Nat) (hx : x ∈ ringOf A B i k) (hne : x ≠ A[i]) {m : Lk} (hmm : mateOf N M x = some m) : top N m.t ∈ ringOf A B i k := by
  have inA : ∀ j (h : j < A.length), j ≤ i → A[j] ∈ ringOf A B i k := fun j h hj => by
    unfold ringOf
    rw [List.mem_append, List.mem_reverse]
    exact .inl (mem_take_iff.2 ⟨j, h, by omega, rfl⟩)
  have inB : ∀ j (h : j < B.length), j < k → B[j] ∈ ringOf A B i k := fun j h hj => by
    unfold ringOf
    rw [List.mem_append]
    exact .inr (mem_take_iff.2 ⟨j, h, hj, rfl⟩)
  unfold ringOf at hx
  rw [List.mem_append, List.mem_reverse] at hx
  rcases hx with hx | hx
  · obtain ⟨j, hj, hji, rfl⟩ := mem_take_iff.1 hx
    have hjl : j < i := by
      rcases Nat.lt_or_ge j i with h | h
      · exact h
      · have : j = i := by omega
        subst this
        exact absurd rfl hne
    by_cases h : j % 2 = 0
    · obtain ⟨m', p1, p2⟩ := (way_mates I F hA la j (by omega)).1 h
      rw [hmm] at p1
      obtain rfl := Option.some.inj p1
      rw [p2]; exact inA _ _ (by omega)
    · obtain ⟨j', rfl⟩ : ∃ j', j = j' + 1 := ⟨j - 1, by omega⟩
      obtain ⟨m', p1, p2⟩ := (way_mates I F hA la j' (by omega)).2 (by omega)
      rw [hmm] at p1
      obtain rfl := Option.some.inj p1
      rw [p2]; exact inA _ _ (by omega)
  · obtain ⟨j, hj, hjk, rfl⟩ := mem_take_iff.1 hx
    by_cases h : j % 2 = 0
    · obtain ⟨m', p1, p2⟩ := (way_mates I F hB lb j (by omega)).1 h
      rw [hmm] at p1
      obtain rfl := Option.some.inj p1
      rw [p2]
      by_cases h2 : j + 1 < k
      · exact inB _ _ h2
      · have h3 : j + 1 = k := by omega
        subst h3
        rw [← hm]; exact inA i hi (Nat.le_refl _)
    · obtain ⟨j', rfl⟩ : ∃ j', j = j' + 1 := ⟨j - 1, by omega⟩
      obtain ⟨m', p1, p2⟩ := (way_mates I F hB lb j' (by omega)).2 (by omega)
      rw [hmm] at p1
      obtain rfl := Option.some.inj p1
      rw [p2]; exact inB _ _ (by omega)
theorem shrink_inv (I : Inv s N M) (F : For s N M t rk) (hA : IsWay N t rk a0 A) (hB : IsWay N t rk b0 B) (la : lab t a0 = 1) (lb : lab t b0 = 1) (hi : i < A.length) (hk : k < B.length) (hm : A[i] = B[k]) (hf : ∀ j (h : j < i), A[j] ∉ B) (he1 : top N e.f = a0) (he2 : top N e.t = b0) (hef : e.f < s) (het : e.t < s) :
    Inv s (shrinkN N (ringOf A B i k) (newRing N M t e A B i k A[i])) (keepM N (ringOf A B i k) M) := by
  obtain ⟨hie, hke⟩ := meet_even I F hA hB la lb hi hk hm hf
  have hRM := ring_mates I F hA hB la lb hi hk hm hie hke
  have hnd : (ringOf A B i k).Nodup := by
    unfold ringOf
    rw [List.nodup_append]
    refine ⟨(List.reverse_perm _).nodup_iff.2 (hA.nodup.sublist (List.take_sublist _ _)), hB.nodup.sublist (List.take_sublist _ _), ?_⟩
    intro x hx y hy e
    subst e
    rw [List.mem_reverse] at hx
    obtain ⟨j, hj, hji, rfl⟩ := mem_take_iff.1 hx
    obtain ⟨l, hl, hlk, e⟩ := mem_take_iff.1 hy
    by_cases h : j < i
    · exact hf j h (by rw [← e]; exact List.getElem_mem _)
    · have : j = i := by omega
      subst this
      rw [hm] at e
      have := getElem_inj_of_nodup hB.nodup hl hk e
      omega
  have hall : ∀ x ∈ ringOf A B i k, isTop N x := by
    intro x hx
    unfold ringOf at hx
    rw [List.mem_append, List.mem_reverse] at hx
    rcases hx with hx | hx
    · obtain ⟨j, hj, _, rfl⟩ := mem_take_iff.1 hx
      exact way_top F hA la j hj
    · obtain ⟨j, hj, _, rfl⟩ := mem_take_iff.1 hx
      exact way_top F hB lb j hj
  have hll := links_length (t := t) (e := e) hi hk
  have hrl := ring_length hi hk
  have hLK : ∀ p (h0 : p < (linksOf t e A B i k).length) (h1 : p < (ringOf A B i k).length) (h2 : (p + 1) % (ringOf A B i k).length < (ringOf A B i k).length), top N (linksOf t e A B i k)[p].f = (ringOf A B i k)[p] ∧ top N (linksOf t e A B i k)[p].t = (ringOf A B i k)[(p + 1) % (ringOf A B i k).length] ∧ (linksOf t e A B i k)[p].f < s ∧ (linksOf t e A B i k)[p].t < s := by
    intro p h0 h1 h2
    obtain ⟨r1, r2⟩ := ring_at hi hk p h1
    obtain ⟨q1, q2⟩ := ring_at hi hk _ h2
    obtain ⟨w1, w2, w3⟩ := links_at (t := t) (e := e) hi hk p h0
    have hmod : p + 1 < i + 1 + k → (p + 1) % (ringOf A B i k).length = p + 1 := fun h => by rw [hrl]; exact Nat.mod_eq_of_lt h
    have hmod0 : p + 1 = i + 1 + k → (p + 1) % (ringOf A B i k).length = 0 := fun h => by rw [hrl, h]; exact Nat.mod_self _
    have A0 : A[0]'(by omega) = a0 := hA.hd
    have B0 : B[0]'(by omega) = b0 := hB.hd
    rcases Nat.lt_trichotomy p i with h | h | h
    · obtain ⟨l1, l2, l3, l4⟩ := way_link F hA la (i - 1 - p) (by omega)
      rw [w1 h, r1 (by omega), q1 (by rw [hmod (by omega)]; omega)]
      refine ⟨?_, ?_, l3, l4⟩
      · rw [l1]; congr 1; omega
      · rw [l2]; congr 1; rw [hmod (by omega)]; omega
    · subst h
      rw [w2 rfl, r1 (Nat.le_refl _)]
      refine ⟨?_, ?_, hef, het⟩
      · rw [he1, ← A0]; congr 1; omega
      · rw [he2]
        by_cases hk0 : k = 0
        · subst hk0
          rw [q1 (by rw [hmod0 (by omega)]; omega)]
          rw [← B0, ← hm]
          congr 1
          rw [hmod0 (by omega)]; omega
        · rw [q2 (by rw [hmod (by omega)]; omega), ← B0]
          congr 1
          rw [hmod (by omega)]; omega
    · obtain ⟨l1, l2, l3, l4⟩ := way_link F hB lb (p - i - 1) (by omega)
      rw [w3 h, r2 h]
      refine ⟨l2, ?_, l4, l3⟩
      show top N (ahd t B[p - i - 1]).f = _
      rw [l1]
      by_cases hlast : p + 1 = i + 1 + k
      · rw [q1 (by rw [hmod0 hlast]; omega)]
        have e1 : p - i - 1 + 1 = k := by omega
        have e2 : i - (p + 1) % (ringOf A B i k).length = i := by rw [hmod0 hlast]; omega
        simp only [e1, e2]
        exact hm.symm
      · rw [q2 (by rw [hmod (by omega)]; omega)]
        congr 1
        rw [hmod (by omega)]; omega
  generalize hrg : ringOf A B i k = rg at *
  generalize hlk : linksOf t e A B i k = lks at *
  have hx0 : (newRing N M t e A B i k A[i]).up = -1 := rfl
  have hxr : (newRing N M t e A B i k A[i]).ring = rg := hrg
  have hxl : (newRing N M t e A B i k A[i]).links = lks := hlk
  have hxg : (newRing N M t e A B i k A[i]).gone = false := rfl
  have hxb : (newRing N M t e A B i k A[i]).base < s := by
    show baseOf N M A[i] < s
    unfold baseOf
    cases hmo : mateOf N M A[i] with
    | none => exact I.bas _ (way_top F hA la i hi).1
    | some m => exact I.fin _ (mem_ends.2 ((mate_some hmo).2.elim (fun h => ⟨_, h, .inl rfl⟩) (fun h => ⟨_, h, .inr rfl⟩)))
  generalize newRing N M t e A B i k A[i] = nr at *
  have hL : ∀ v ∈ rg, v < N.length ∧ upA N v < 0 := fun v hv => ⟨(hall v hv).1, (hall v hv).2.2⟩
  have hL' : ∀ v ∈ rg, v < N.length := fun v hv => (hall v hv).1
  have hnn := shrink_nd (x := nr) hL'
  have hup := shrink_up (x := nr) hL'
  have hT := shrink_top I.ups hL hx0
  have hW := fun {y : Nat} => shrink_win I.ups hL hx0 (y := y)
  have hge := I.ge
  have hle := shrink_length N rg nr
  refine ⟨by omega, shrink_ups I.ups hL' hx0, ?_, ?_, ?_, ?_, ?_, ?_, ?_, ?_⟩
  · intro v hv h0
    rw [hle] at hv
    rw [hup] at h0 ⊢
    by_cases h1 : v = N.length
    · rw [if_pos h1, hx0] at h0; omega
    · rw [if_neg h1] at h0 ⊢
      by_cases h2 : v ∈ rg
      · rw [if_pos h2, Int.toNat_natCast, hnn, if_pos rfl, hxr]; exact h2
      · rw [if_neg h2] at h0 ⊢
        have h3 := I.inr v (by omega) h0
        have h4 : (upA N v).toNat < N.length := by rcases I.ups v (by omega) with h | h <;> omega
        rw [hnn, if_neg (by omega)]
        split
        · exact h3
        · exact h3
  · intro v hv h0
    rw [hle] at hv
    rw [hup] at h0 ⊢
    by_cases h1 : v = N.length
    · rw [if_pos h1, hx0] at h0; omega
    · rw [if_neg h1] at h0 ⊢
      by_cases h2 : v ∈ rg
      · rw [if_pos h2, Int.toNat_natCast, hnn, if_pos rfl]; exact ⟨hxg, hge⟩
      · rw [if_neg h2] at h0 ⊢
        have h3 := I.ali v (by omega) h0
        have h4 : (upA N v).toNat < N.length := by rcases I.ups v (by omega) with h | h <;> omega
        refine ⟨?_, h3.2⟩
        rw [hnn, if_neg (by omega)]
        split
        · exact h3.1
        · exact h3.1
  · intro v hv h0
    rw [hle] at hv
    rw [hnn] at h0
    rw [hup]
    by_cases h1 : v = N.length
    · rw [if_pos h1, hx0]; decide
    · rw [if_neg h1] at h0 ⊢
      by_cases h2 : v ∈ rg
      · rw [if_pos h2] at h0
        have := (hall v h2).2.1
        simp only at h0
        rw [this] at h0; cases h0
      · rw [if_neg h2] at h0 ⊢
        exact I.gon v (by omega) h0
  · intro v hv
    rw [hnn, if_neg (by omega)]
    split
    · exact I.ver v hv
    · exact I.ver v hv
  · intro v hv
    rw [hle] at hv
    rw [hnn]
    by_cases h1 : v = N.length
    · rw [if_pos h1]; exact hxb
    · rw [if_neg h1]
      split
      · exact I.bas v (by omega)
      · exact I.bas v (by omega)
  · intro q hq1 hq2 hq3
    rw [hle] at hq2
    by_cases h1 : q = N.length
    · subst h1
      have er : (nd (shrinkN N rg nr) N.length).ring = rg := by rw [hnn, if_pos rfl]; exact hxr
      have el : (nd (shrinkN N rg nr) N.length).links = lks := by rw [hnn, if_pos rfl]; exact hxl
      refine ⟨?_, by rw [er]; exact hnd, by rw [er, hrl]; omega, by rw [er, el, hll, hrl], ?_⟩
      · intro x hx
        rw [er] at hx
        have := hL' x hx
        exact ⟨this, by rw [hup, if_neg (by omega), if_pos hx]⟩
      · simp only [er, el]
        intro p h0 h1 h2
        obtain ⟨g1, g2, g3, g4⟩ := hLK p h0 h1 h2
        refine ⟨hW _ (by omega) ?_, hW _ (by omega) ?_, g3, g4⟩
        · rw [← g1]; exact win_top I.ups _ (by omega)
        · rw [← g2]; exact win_top I.ups _ (by omega)
    · have hg : (nd N q).gone = false := by
        rw [hnn, if_neg h1] at hq3
        split at hq3
        · exact hq3
        · exact hq3
      have K := I.rings q hq1 (by omega) hg
      have er : (nd (shrinkN N rg nr) q).ring = (nd N q).ring := by rw [hnn, if_neg h1]; split <;> rfl
      have el : (nd (shrinkN N rg nr) q).links = (nd N q).links := by rw [hnn, if_neg h1]; split <;> rfl
      refine ⟨?_, by rw [er]; exact K.nodup, by rw [er]; exact K.odd, by rw [er, el]; exact K.len, ?_⟩
      · intro x hx
        rw [er] at hx
        have h2 := K.mem x hx
        have h3 : x ∉ rg := fun h => by have := (hL x h).2; omega
        exact ⟨h2.1, by rw [hup, if_neg (by omega), if_neg h3]; exact h2.2⟩
      · simp only [er, el]
        intro p h0 h1 h2
        obtain ⟨w1, w2, f1, f2⟩ := K.lk p h0 h1 h2
        exact ⟨hW _ (by omega) w1, hW _ (by omega) w2, f1, f2⟩
  · intro v hv
    obtain ⟨x, hx, h⟩ := mem_ends.1 hv
    exact I.fin v (mem_ends.2 ⟨x, (List.mem_filter.1 hx).1, h⟩)
  · have hkn := (tops_keep (N := N) (fun x => !(decide (top N x.f ∈ rg) && decide (top N x.t ∈ rg))) M I.mat).1
    unfold tops at hkn ⊢
    rw [List.nodup_iff_pairwise_ne, List.pairwise_map] at hkn ⊢
    have hE : ∀ v ∈ ends (keepM N rg M), v < N.length ∧ (top N v ∈ rg → top N v = A[i]) := by
      intro v hv
      obtain ⟨x, hx, h⟩ := mem_ends.1 hv
      unfold keepM at hx
      obtain ⟨hxM, hxp⟩ := List.mem_filter.1 hx
      have hvs : v < s := I.fin v (mem_ends.2 ⟨x, hxM, h⟩)
      refine ⟨by omega, fun hr => ?_⟩
      refine Classical.byContradiction fun hne => ?_
      simp only [Bool.not_eq_true', Bool.and_eq_false_iff, decide_eq_false_iff_not] at hxp
      rcases h with rfl | rfl
      · have hmo := mate_of I.mat (.inl hxM)
        have := hRM _ hr hne hmo
        rcases hxp with h | h
        · exact h hr
        · exact h this
      · have hmo := mate_of (m := x.flip) I.mat (.inr hxM)
        have := hRM _ hr hne hmo
        rcases hxp with h | h
        · exact h this
        · exact h hr
    refine List.Pairwise.imp_of_mem ?_ hkn
    intro v w hv hw hne
    obtain ⟨v1, v2⟩ := hE v hv
    obtain ⟨w1, w2⟩ := hE w hw
    rw [hT v v1, hT w w1]
    have tv := (top_spec I.ups v v1).1
    have tw := (top_spec I.ups w w1).1
    by_cases hv3 : top N v ∈ rg
    · rw [if_pos hv3]
      by_cases hw3 : top N w ∈ rg
      · exact absurd (by rw [v2 hv3, w2 hw3]) hne
      · rw [if_neg hw3]; omega
    · rw [if_neg hv3]
      by_cases hw3 : top N w ∈ rg
      · rw [if_pos hw3]; omega
      · rw [if_neg hw3]; exact hne
end
def without (N : List Nd) (M : List Lk) (p : Nat) : List Lk := M.filter fun x => (top N x.f != p) && (top N x.t != p)
def withoutAll (N : List Nd) (M : List Lk) (L : List Nat) : List Lk := L.foldl (fun M p => without N M p) M
def oddLinks (t : Tp) (L : List Nat) : List Lk := (L.filter fun x => lab t x == 2).map (ahd t)
def augM (N : List Nd) (M : List Lk) (t : Tp) (e : Lk) (A B : List Nat) : List Lk := withoutAll N (withoutAll N M A) B ++ (e :: (oddLinks t A ++ oddLinks t B))
theorem without_all : ∀ (L : List Nat) (N : List Nd) (M : List Lk), withoutAll N M L = M.filter fun x => decide (top N x.f ∉ L) && decide (top N x.t ∉ L)
  | [], N, M => by
    have e : (fun x : Lk => decide (top N x.f ∉ ([] : List Nat)) && decide (top N x.t ∉ ([] : List Nat))) = fun _ => true := by funext x; simp
    rw [e]
    exact (List.filter_eq_self.2 (fun _ _ => rfl)).symm
  | p :: r, N, M => by
    show withoutAll N (without N M p) r = _
    rw [without_all r]
    unfold without
    rw [List.filter_filter]
    congr 1
    funext x
    by_cases h1 : top N x.f = p <;> by_cases h2 : top N x.t = p <;> by_cases h3 : top N x.f ∈ r <;> by_cases h4 : top N x.t ∈ r <;> simp [h1, h2, h3, h4]
theorem odd_tops {s : Nat} {N : List Nd} {M : List Lk} {t : Tp} {rk : Nat → Nat} (F : For s N M t rk) : ∀ (A : List Nat) (a0 : Nat), IsWay N t rk a0 A → lab t a0 ≠ 0 → (lab t (rt t a0) = 1) →
    (∀ v ∈ ends (oddLinks t A), v < s) ∧ (lab t a0 = 1 → List.Perm (tops N (oddLinks t A)) A.tail) ∧ (lab t a0 = 2 → List.Perm (tops N (oddLinks t A)) A)
  | [], a0, h, _, _ => by have := h.pos; simp at this
  | [x], a0, h, h0, hr => by
    have hx : x = a0 := h.hd
    subst hx
    have hl : x = rt t x := by have := h.lst; simpa using this
    have h1 : lab t x = 1 := by rw [hl]; exact hr
    have e : oddLinks t [x] = [] := by simp [oddLinks, h1]
    rw [e]
    exact ⟨fun v hv => by simp [ends] at hv, fun _ => by simp [tops, ends], fun h2 => by omega⟩
  | x :: y :: r, a0, h, h0, hr => by
    have hx : x = a0 := h.hd
    subst hx
    obtain ⟨s1, s2, s3⟩ := h.st 0 (by simp)
    have s1 : y = par N t x := s1
    have h2 := F.two x
    have hy : lab t y = 3 - lab t x := by have := h.lb 1 (by simp); simpa using this
    have hry : rt t y = rt t x := by have := h.rts 1 (by simp); simpa using this
    have hW : IsWay N t rk y (y :: r) := by
      refine ⟨by simp, rfl, ?_, ?_, ?_, ?_⟩
      · have := h.lst; rw [hry]; simpa using this
      · intro i hi
        have := h.st (i + 1) (by simpa using hi)
        exact this
      · intro i hi
        have hi1 : i + 1 < (x :: y :: r).length := by simpa using hi
        have := h.lb (i + 1) hi1
        have e : (x :: y :: r)[i + 1] = (y :: r)[i] := rfl
        rw [e] at this
        rw [this, hy]
        by_cases h6 : i % 2 = 0
        · rw [if_pos h6, if_neg (by omega)]
        · rw [if_neg h6, if_pos (by omega)]; omega
      · intro i hi
        have hi1 : i + 1 < (x :: y :: r).length := by simpa using hi
        have := h.rts (i + 1) hi1
        have e : (x :: y :: r)[i + 1] = (y :: r)[i] := rfl
        rw [e] at this
        rw [this, hry]
    obtain ⟨i1, i2, i3⟩ := odd_tops F (y :: r) y hW (by omega) (by rw [hry]; exact hr)
    by_cases h1 : lab t x = 1
    · have e : oddLinks t (x :: y :: r) = oddLinks t (y :: r) := by simp [oddLinks, h1]
      rw [e]
      exact ⟨i1, fun _ => i3 (by omega), fun h => by omega⟩
    · have h3 : lab t x = 2 := by omega
      have e : oddLinks t (x :: y :: r) = ahd t x :: oddLinks t (y :: r) := by simp [oddLinks, h3]
      obtain ⟨⟨_, _, _, _, g5, g6, g7⟩, _⟩ := F.odd x h3
      rw [e]
      refine ⟨fun v hv => ?_, fun h => by omega, fun _ => ?_⟩
      · rw [ends_cons] at hv
        rcases List.mem_cons.1 hv with rfl | hv
        · exact g6
        · rcases List.mem_cons.1 hv with rfl | hv
          · exact g7
          · exact i1 v hv
      · have e2 : tops N (ahd t x :: oddLinks t (y :: r)) = top N (ahd t x).f :: top N (ahd t x).t :: tops N (oddLinks t (y :: r)) := rfl
        rw [e2, g5, show top N (ahd t x).f = y from s1.symm]
        have p1 := i2 (by omega)
        exact (List.Perm.swap x y _).trans ((p1.cons y).cons x)
section
variable {s : Nat} {N : List Nd} {M : List Lk} {t : Tp} {rk : Nat → Nat} {a0 b0 : Nat} {A B : List Nat} {e : Lk}
theorem augment_inv (I : Inv s N M) (F : For s N M t rk) (hA : IsWay N t rk a0 A) (hB : IsWay N t rk b0 B) (la : lab t a0 = 1) (lb : lab t b0 = 1) (hne : rt t a0 ≠ rt t b0) (he1 : top N e.f = a0) (he2 : top N e.t = b0) (hef : e.f < s) (het : e.t < s) : Inv s N (augM N M t e A B) := by
  have hra := (F.root a0 (by omega)).1
  have hrb := (F.root b0 (by omega)).1
  obtain ⟨oa1, oa2, _⟩ := odd_tops F A a0 hA (by omega) hra
  obtain ⟨ob1, ob2, _⟩ := odd_tops F B b0 hB (by omega) hrb
  have hdis : ∀ x ∈ A, x ∉ B := by
    intro x hx hy
    obtain ⟨i, hi, rfl⟩ := List.getElem_of_mem hx
    obtain ⟨k, hk, e⟩ := List.getElem_of_mem hy
    have h1 := hA.rts i hi
    have h2 := hB.rts k hk
    rw [e, h1] at h2
    exact hne h2
  have hAc : A = a0 :: A.tail := by
    cases A with
    | nil => have := hA.pos; simp at this
    | cons x r => have : x = a0 := hA.hd; subst this; rfl
  have hBc : B = b0 :: B.tail := by
    cases B with
    | nil => have := hB.pos; simp at this
    | cons x r => have : x = b0 := hB.hd; subst this; rfl
  have hke : withoutAll N (withoutAll N M A) B = M.filter fun x => decide (top N x.f ∉ A ++ B) && decide (top N x.t ∉ A ++ B) := by
    rw [without_all, without_all, List.filter_filter]
    congr 1
    funext x
    by_cases h1 : top N x.f ∈ A <;> by_cases h2 : top N x.t ∈ A <;> by_cases h3 : top N x.f ∈ B <;> by_cases h4 : top N x.t ∈ B <;> simp [h1, h2, h3, h4]
  have hK := tops_keep (N := N) (fun x => decide (top N x.f ∉ A ++ B) && decide (top N x.t ∉ A ++ B)) M I.mat
  refine ⟨I.ge, I.ups, I.inr, I.ali, I.gon, I.ver, I.bas, I.rings, ?_, ?_⟩
  · intro v hv
    unfold augM at hv
    rw [ends_append, List.mem_append] at hv
    rcases hv with hv | hv
    · rw [hke] at hv
      obtain ⟨x, hx, h⟩ := mem_ends.1 hv
      exact I.fin v (mem_ends.2 ⟨x, (List.mem_filter.1 hx).1, h⟩)
    · rw [ends_cons] at hv
      rcases List.mem_cons.1 hv with rfl | hv
      · exact hef
      · rcases List.mem_cons.1 hv with rfl | hv
        · exact het
        · rw [ends_append, List.mem_append] at hv
          exact hv.elim (oa1 v) (ob1 v)
  · unfold augM tops
    rw [ends_append, List.map_append, List.nodup_append]
    have hperm : List.Perm ((ends (e :: (oddLinks t A ++ oddLinks t B))).map (top N)) (A ++ B) := by
      rw [ends_cons, ends_append]
      simp only [List.map_cons, List.map_append]
      rw [he1, he2]
      have p1 : List.Perm ((ends (oddLinks t A)).map (top N) ++ (ends (oddLinks t B)).map (top N)) (A.tail ++ B.tail) := (oa2 la).append (ob2 lb)
      have p2 : List.Perm (b0 :: (A.tail ++ B.tail)) (A.tail ++ B) := by
        conv => rhs; rw [hBc]
        exact List.perm_middle.symm
      have p3 := ((p1.cons b0).trans p2).cons a0
      refine p3.trans ?_
      conv => rhs; rw [hAc]
      exact List.Perm.refl _
    refine ⟨?_, ?_, ?_⟩
    · rw [hke]; exact hK.1
    · rw [hperm.nodup_iff, List.nodup_append]
      exact ⟨hA.nodup, hB.nodup, fun x hx y hy e => hdis x hx (by rw [e]; exact hy)⟩
    · intro x hx y hy e
      subst e
      have hy' := hperm.mem_iff.1 hy
      rw [hke] at hx
      obtain ⟨v, hv, rfl⟩ := List.mem_map.1 hx
      obtain ⟨z, hz, h⟩ := mem_ends.1 hv
      obtain ⟨_, hp⟩ := List.mem_filter.1 hz
      simp only [Bool.and_eq_true, decide_eq_true_eq] at hp
      rcases h with rfl | rfl
      · exact hp.1 hy'
      · exact hp.2 hy'
theorem ways_meet (hA : IsWay N t rk a0 A) (hB : IsWay N t rk b0 B) (hr : rt t a0 = rt t b0) : ∃ x ∈ A, x ∈ B := by
  have h1 := hA.lst
  have h2 := hB.lst
  refine ⟨rt t a0, ?_, ?_⟩
  · rw [← h1]; exact List.getElem_mem _
  · rw [hr, ← h2]; exact List.getElem_mem _
end
end Sv
end Go.Proofs.Ytkjclkelnheheaa
namespace Go.Proofs.Ytkjclkelnheheaa
namespace Gr
open Go.RowKit
/-- A world that another one has become, nothing turned below N. -/
structure Grown (N : Nat) (W : World) where
  w : World
  below : Below N W w
instance (N : Nat) (W : World) : Nonempty (Grown N W) := ⟨⟨W, Below.refl _ _⟩⟩
theorem wp_region_grown {P : Program} {id : Nat} {Q : Exit → Act → World → Prop} {a : Act} {w : World} {l : List Oper} (N : Nat) (hm : P.follows .mixedOrders = true) (hB : Region.lexB .any l.toArray = true)
    (h : wpQuiet P l.toArray (fun w' => ∃ d : Grown N w, w' = d.w) (fun a' => ∀ w', (∃ d : Grown N w, w' = d.w) → Q .normal a' w') l a) : (Code.region id l.toArray true).wp P Q a w := by
  refine wp_region_quiet (C := fun w' => ∃ d : Grown N w, w' = d.w) hm hB ⟨⟨w.drew, (Below.refl N w).drew⟩, rfl⟩ ?_
  rw [List.toList_toArray]
  exact h
theorem Calls.grown {P : Program} {f : FuncId} {args : Array Value} {N : Nat} {W : World} {d : Grown N W} {v : Value} (hN : N ≤ W.heap.size)
    (h : Calls P f args d.w fun e w' => e = .returned v ∧ Below d.w.heap.size d.w w') : Calls P f args d.w fun e w'' => e = .returned v ∧ ∃ d' : Grown N W, w'' = d'.w :=
  h.mono fun _ w' ⟨he, hb⟩ => ⟨he, ⟨⟨w', d.below.trans (hb.mono (Nat.le_trans hN d.below.size))⟩, rfl⟩⟩
theorem Calls.grown_same {P : Program} {f : FuncId} {args : Array Value} {N : Nat} {W : World} {d : Grown N W} {v : Value}
    (h : Calls P f args d.w fun e w' => e = .returned v ∧ w' = d.w) : Calls P f args d.w fun e w'' => e = .returned v ∧ ∃ d' : Grown N W, w'' = d'.w :=
  h.mono fun _ _ ⟨he, hw⟩ => ⟨he, d, hw⟩
theorem Grown.cell {N : Nat} {W : World} (d : Grown N W) {b o : Nat} {v : Value} (hb : b < N) (h : W.cell? ⟨b, o, none⟩ = some v) : d.w.cell? ⟨b, o, none⟩ = some v :=
  (d.below.cell (p := ⟨b, o, none⟩) hb).trans h
def CBox (w : World) (g : Nat) (cs : Array Value) (t : TypeId) : Prop := w.heap[g]? = some (.cells cs t (0, 0))
theorem CBox.lt {w : World} {g : Nat} {cs : Array Value} {t : TypeId} (h : CBox w g cs t) : g < w.heap.size := by
  rcases Nat.lt_or_ge g w.heap.size with h1 | h1
  · exact h1
  · unfold CBox at h; rw [Array.getElem?_eq_none h1] at h; cases h
theorem CBox.below {w w' : World} {g : Nat} {cs : Array Value} {t : TypeId} (h : CBox w g cs t) (hb : Below w.heap.size w w') : CBox w' g cs t := by
  unfold CBox; rw [hb.block g h.lt]; exact h
theorem CBox.kept {S : Nat → Prop} {w w' : World} {g : Nat} {cs : Array Value} {t : TypeId} (h : CBox w g cs t) (hk : Kept S w w') (hS : ¬ S g) : CBox w' g cs t := by
  unfold CBox; rw [hk.2.2.2.2 g h.lt hS]; exact h
theorem CBox.new (w : World) (cs : Array Value) (t : TypeId) : CBox (w.alloc (Obj.cells cs t)) w.heap.size cs t := heap_alloc_new w _
theorem CBox.cell {w : World} {g : Nat} {cs : Array Value} {t : TypeId} (h : CBox w g cs t) (i : Nat) : w.cell? ⟨g, i, none⟩ = cs[i]? := cell_of_row w g i cs t (0, 0) h
def vB (n : Int) : ByteArray := ⟨(varB 4 n.toNat).toArray⟩
theorem wpAny_grown {P : Program} {md : Region.Mode} {ops : Array Oper} {Q : Exit → Act → World → Prop} {a : Act} {w : World} {listed : Array Bool} {fuel : Nat} (N k : Nat) (l : List Oper) (hl : l = ops.toList.drop k) (hf : fuel = l.length) (hs : Region.noSelect ops = true) (hB : Region.lexFrom md ops l.length k listed = true)
    (h : wpQuiet P ops (fun w' => ∃ d : Grown N w, w' = d.w) (fun a' => ∀ w', (∃ d : Grown N w, w' = d.w) → Q .normal a' w') l a) : wpAny P md ops Q fuel listed a w := by
  subst hf
  refine wpAny_of_quiet (C := fun w' => ∃ d : Grown N w, w' = d.w) (Q := fun a' => ∀ w', (∃ d : Grown N w, w' = d.w) → Q .normal a' w') (fun _ w' hw h => h w' hw) _ _ _ _ ⟨⟨w, Below.refl _ _⟩, rfl⟩ ?_
  refine wpAnyQ_lex hs l k listed a (fun j => ?_) hB h
  subst hl
  rw [List.getElem?_drop, Array.getElem?_toList]
theorem own_apart {W : World} {b b' e e' z z' n n' : Nat} {v v' : Value} {xs xs' : List Value} (h : W.ownsRow b e z v n xs) (h' : W.ownsRow b' e' z' v' n' xs') (hne : e ≠ e') : ∀ g, v.ownBlock = some g → v'.ownBlock ≠ some g := by
  intro g hg hg'
  rcases h.2 with ⟨rfl, _⟩ | ⟨k, cap, cur, rfl, _, hk, _⟩
  · simp [Value.ownBlock] at hg
  · rcases h'.2 with ⟨rfl, _⟩ | ⟨k', cap', cur', rfl, _, hk', _⟩
    · simp [Value.ownBlock] at hg'
    · have e1 : k = g := Option.some.inj hg
      have e2 : k' = g := Option.some.inj hg'
      subst e1
      subst e2
      rw [hk] at hk'
      simp at hk'
      exact hne hk'.2
section
variable {P : Program} {md : Region.Mode} {ops : Array Oper} {C : World → Prop}
def Shut (md : Region.Mode) (ops : Array Oper) (K : Nat) (listed : Array Bool) : Prop :=
  (∀ i o, ops[i]? = some o → listed.getD i false = true → ∀ e ∈ o.after, Region.binds md e = true → listed.getD e.on false = true) ∧ ∀ j, K ≤ j → listed.getD j false = false
theorem Shut.add {K : Nat} {listed : Array Bool} (hS : Shut md ops K listed) {j : Nat} (hj : j ∈ Region.ready md ops listed) (hK : j < K) : Shut md ops K (listed.setIfInBounds j true) := by
  obtain ⟨hun, o, ho, hall⟩ := mem_ready.1 hj
  refine ⟨fun i oi hi hl e he hb => ?_, fun k hk => ?_⟩
  · by_cases hij : j = i
    · subst hij
      rw [ho] at hi
      obtain rfl := Option.some.inj hi
      exact getD_set_true (hall e he hb)
    · rw [getD_set_ne false hij] at hl
      exact getD_set_true (hS.1 i oi hi hl e he hb)
  · rw [getD_set_ne false (by omega)]
    exact hS.2 k hk
end
end Gr
end Go.Proofs.Ytkjclkelnheheaa
