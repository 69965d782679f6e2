/-
 GrBase, LkM, LkTB0, LkU, GrGrown, GrBox, GrPre, Sv0, Sv1, Sv2, GrHead.
-/
import Derived.Test.YtnihoabminnbcaaProg
import Derived.Test.YtnihoabminnbcaaJ1
import Derived.Handy
import Derived.Deep.AppendLies
import Derived.BigQuiet
namespace Go.Proofs.Ytnihoabminnbcaa
namespace Gr
open Go.RowKit
/-- Nothing of old memory is turned but blocks in S. -/
def Kept (S : Nat → Prop) (w w' : World) : Prop :=
  w'.os = w.os ∧ w'.tape = w.tape ∧ w'.output = w.output ∧ w.heap.size ≤ w'.heap.size ∧ ∀ i, i < w.heap.size → ¬ S i → w'.heap[i]? = w.heap[i]?
theorem Kept.refl (S : Nat → Prop) (w : World) : Kept S w w := ⟨rfl, rfl, rfl, Nat.le_refl _, fun _ _ _ => rfl⟩
theorem Kept.trans {S : Nat → Prop} {a b c : World} (h : Kept S a b) (k : Kept S b c) : Kept S a c :=
  ⟨k.1.trans h.1, k.2.1.trans h.2.1, k.2.2.1.trans h.2.2.1, Nat.le_trans h.2.2.2.1 k.2.2.2.1, fun i hi hn => (k.2.2.2.2 i (Nat.lt_of_lt_of_le hi h.2.2.2.1) hn).trans (h.2.2.2.2 i hi hn)⟩
theorem Kept.weak {S T : Nat → Prop} {w w' : World} (h : Kept S w w') (hST : ∀ i, S i → T i) : Kept T w w' :=
  ⟨h.1, h.2.1, h.2.2.1, h.2.2.2.1, fun i hi hn => h.2.2.2.2 i hi (fun hs => hn (hST i hs))⟩
theorem Kept.of_below {S : Nat → Prop} {w w' : World} (h : Below w.heap.size w w') : Kept S w w' :=
  ⟨h.os, h.tape, h.output, h.size, fun i hi _ => h.block i hi⟩
theorem Kept.below {S : Nat → Prop} {w w' : World} {B : Nat} (h : Kept S w w') (hB : B ≤ w.heap.size) (hS : ∀ i, S i → B ≤ i) : Below B w w' :=
  ⟨h.1, h.2.1, h.2.2.1, h.2.2.2.1, fun i hi => h.2.2.2.2 i (by omega) (fun hs => by have := hS i hs; omega)⟩
theorem Kept.set {S : Nat → Prop} (w : World) (g j : Nat) (v : Value) (hg : S g) : Kept S w (w.setCell ⟨g, j, none⟩ v) :=
  ⟨rfl, rfl, rfl, by simp [World.setCell], fun i _ hn => Below.heap_setCell _ _ _ _ (fun e => hn (by rw [e]; exact hg))⟩
theorem Kept.drew {S : Nat → Prop} {w w' : World} (h : Kept S w w') : Kept S w w'.drew := h
theorem Kept.own {S : Nat → Prop} {w w' : World} {B e size n : Nat} {v : Value} {xs : List Value} (h : Kept S w w') (ho : w.ownsRow B e size v n xs) (hS : ∀ g, v.ownBlock = some g → ¬ S g) : w'.ownsRow B e size v n xs := by
  obtain ⟨h1, h2⟩ := ho
  refine ⟨h1, ?_⟩
  rcases h2 with h2 | ⟨g, cap, cur, rfl, a2, a3, a4⟩
  · exact .inl h2
  · refine .inr ⟨g, cap, cur, rfl, a2, ?_, a4⟩
    rw [h.2.2.2.2 g ?_ (hS g rfl)]
    · exact a3
    · rcases Nat.lt_or_ge g w.heap.size with h | h
      · exact h
      · rw [Array.getElem?_eq_none h] at a3; cases a3
/-- The first j of a list, and of another one the rest. -/
def over {α : Type} (M L : List α) (j : Nat) : List α := M.take j ++ L.drop j
theorem over_zero {α : Type} (M L : List α) : over M L 0 = L := by simp [over]
theorem over_all {α : Type} (M L : List α) (h : M.length = L.length) : over M L L.length = M := by simp [over, ← h]
theorem over_length {α : Type} (M L : List α) (j : Nat) (h : M.length = L.length) (hj : j ≤ L.length) : (over M L j).length = L.length := by simp [over]; omega
theorem over_set {α : Type} (M L : List α) (j : Nat) (h : M.length = L.length) (hj : j < L.length) : (over M L j).set j (M[j]'(by omega)) = over M L (j + 1) := by
  unfold over
  have e : (M.take j).length = j := by simp; omega
  rw [List.set_append_right _ _ (by omega), e, Nat.sub_self]
  have e2 : L.drop j = L[j] :: L.drop (j + 1) := (List.getElem_cons_drop hj).symm
  rw [e2, List.set_cons_zero, List.take_succ_eq_append_getElem (by omega), List.append_assoc]
  rfl
theorem Kept.of_grown {w w' : World} {row : Option Nat} (h : w.grownBy w' row) : Kept (fun k => row = some k) w w' :=
  ⟨h.os, h.tape, h.output, h.size, fun i hi hn => h.block i hi (fun e => hn e.symm)⟩
theorem own_below {B : Nat} {e : TypeId} {k : Nat} {v : Value} {n : Nat} {xs : List Value} {w w' : World} (h : w.ownsRow B e k v n xs) (hb : Below w.heap.size w w') : w'.ownsRow B e k v n xs :=
  h.kept (row := none) ⟨hb.os, hb.tape, hb.output, hb.size, fun j hj _ => hb.block j hj⟩ (by cases hv : v.ownBlock <;> simp)
theorem own_lower {w : World} {B C e size n : Nat} {v : Value} {xs : List Value} (hB : C ≤ B) (h : w.ownsRow B e size v n xs) : w.ownsRow C e size v n xs := by
  obtain ⟨h1, h2⟩ := h
  refine ⟨h1, ?_⟩
  rcases h2 with h2 | ⟨g, cap, cur, a1, a2, a3⟩
  · exact .inl h2
  · exact .inr ⟨g, cap, cur, a1, Nat.le_trans hB a2, a3⟩
theorem cells_of_two {w : World} {g : Nat} {x y : Value} {t : TypeId} (h : w.heap[g]? = some (.cells #[x, y] t (0, 0))) :
    w.cell? ⟨g, 0, none⟩ = some x ∧ w.cell? ⟨g, 1, none⟩ = some y ∧ ∀ j, w.frozen? ⟨g, j, none⟩ = false := by
  refine ⟨?_, ?_, fun j => ?_⟩
  · rw [cell_of_row w g 0 _ t (0, 0) h]; rfl
  · rw [cell_of_row w g 1 _ t (0, 0) h]; rfl
  · exact frozen_of_row w g j _ t h
theorem two_zero {w : World} {g : Nat} {x y : Value} {t : TypeId} (h : w.heap[g]? = some (.cells #[x, y] t (0, 0))) (u : Value) :
    (w.setCell ⟨g, 0, none⟩ u).heap[g]? = some (.cells #[u, y] t (0, 0)) := heap_setCell_same w g 0 _ t u h
theorem two_one {w : World} {g : Nat} {x y : Value} {t : TypeId} (h : w.heap[g]? = some (.cells #[x, y] t (0, 0))) (u : Value) :
    (w.setCell ⟨g, 1, none⟩ u).heap[g]? = some (.cells #[x, u] t (0, 0)) := heap_setCell_same w g 1 _ t u h
/-- The first k of a list, and something else up to its length. -/
def part {α : Type} (L : List α) (z : α) (k : Nat) : List α := L.take k ++ List.replicate (L.length - k) z
theorem part_zero {α : Type} (L : List α) (z : α) : part L z 0 = List.replicate L.length z := by simp [part]
theorem part_all {α : Type} (L : List α) (z : α) : part L z L.length = L := by simp [part]
theorem part_length {α : Type} (L : List α) (z : α) (k : Nat) (h : k ≤ L.length) : (part L z k).length = L.length := by simp [part]; omega
theorem part_set {α : Type} (L : List α) (z : α) (k : Nat) (h : k < L.length) : (part L z k).set k L[k] = part L z (k + 1) := by
  unfold part
  rw [List.set_append_right _ _ (by simp; omega)]
  have e : L.length - k = (L.length - (k + 1)) + 1 := by omega
  rw [e, List.replicate_succ, List.take_succ_eq_append_getElem h]
  have e2 : k - (L.take k).length = 0 := by simp; omega
  rw [e2, List.set_cons_zero, List.append_assoc]
  rfl
theorem below_new (w : World) (o : Obj) : Below w.heap.size w (w.alloc o) := (Below.refl _ _).alloc (Nat.le_refl _) _
theorem cells_int : Try.prog.cellsOf 3 = 1 := by kernel_rfl
end Gr
end Go.Proofs.Ytnihoabminnbcaa
namespace Go.Proofs.Ytnihoabminnbcaa
namespace Lk
/-- How many of the nine are flagged. -/
def cnt (p : Nat → Bool) : Nat := (List.range 9).countP p
theorem cntL_le : ∀ (L : List Nat) (p q : Nat → Bool), (∀ j ∈ L, p j = true → q j = true) → L.countP p ≤ L.countP q
  | [], _, _, _ => by simp
  | x :: r, p, q, h => by
    have h1 := cntL_le r p q (fun j hj => h j (List.mem_cons_of_mem _ hj))
    have h2 := h x List.mem_cons_self
    rw [List.countP_cons, List.countP_cons]
    cases hp : p x
    · simp; omega
    · rw [h2 hp]; simp; omega
theorem cntL_lt : ∀ (L : List Nat) (p q : Nat → Bool), (∀ j ∈ L, p j = true → q j = true) → (∃ j ∈ L, q j = true ∧ p j = false) → L.countP p < L.countP q
  | [], _, _, _, h => by obtain ⟨j, hj, _⟩ := h; cases hj
  | x :: r, p, q, h, ⟨j, hj, hq, hp⟩ => by
    have h0 := cntL_le r p q (fun j hj => h j (List.mem_cons_of_mem _ hj))
    rw [List.countP_cons, List.countP_cons]
    rcases List.mem_cons.1 hj with rfl | hj
    · rw [hq, hp]; simp; omega
    · have h1 := cntL_lt r p q (fun j hj => h j (List.mem_cons_of_mem _ hj)) ⟨j, hj, hq, hp⟩
      have h2 := h x List.mem_cons_self
      cases hp : p x
      · simp; omega
      · rw [h2 hp]; simp; omega
theorem cnt_le9 (p : Nat → Bool) : cnt p ≤ 9 := by
  unfold cnt
  have := List.countP_le_length (p := p) (l := List.range 9)
  simpa using this
theorem cnt_lt {p q : Nat → Bool} (h : ∀ j, j < 9 → p j = true → q j = true) {j : Nat} (hj : j < 9) (hq : q j = true) (hp : p j = false) : cnt p < cnt q :=
  cntL_lt _ p q (fun j hj => h j (List.mem_range.1 hj)) ⟨j, List.mem_range.2 hj, hq, hp⟩
/-- Whom one reaches from v by k steps at most, each into a flagged vertex. -/
def rchN (F : Nat → Nat → Bool) (f : Nat → Bool) (v : Nat) : Nat → Nat → Bool
  | 0, w => w == v
  | k + 1, w => rchN F f v k w || (decide (w < 9) && (f w && (List.range 9).any fun u => rchN F f v k u && F u w))
/-- Whom one reaches from v. -/
def rch (F : Nat → Nat → Bool) (f : Nat → Bool) (v w : Nat) : Bool := rchN F f v 9 w
inductive Rch (F : Nat → Nat → Bool) (f : Nat → Bool) (v : Nat) : Nat → Prop
  | here : Rch F f v v
  | step {u w : Nat} : Rch F f v u → u < 9 → w < 9 → F u w = true → f w = true → Rch F f v w
theorem rchN_up (F : Nat → Nat → Bool) (f : Nat → Bool) (v k w : Nat) (h : rchN F f v k w = true) : rchN F f v (k + 1) w = true := by
  simp only [rchN, h, Bool.true_or]
theorem rchN_sound (F : Nat → Nat → Bool) (f : Nat → Bool) (v : Nat) : ∀ k w, rchN F f v k w = true → Rch F f v w
  | 0, w, h => by
    have : w = v := by simpa [rchN] using h
    subst this
    exact .here
  | k + 1, w, h => by
    simp only [rchN, Bool.or_eq_true, Bool.and_eq_true, decide_eq_true_eq, List.any_eq_true, List.mem_range] at h
    rcases h with h | ⟨h9, hf, u, hu, hr, hF⟩
    · exact rchN_sound F f v k w h
    · exact .step (rchN_sound F f v k u hr) hu h9 hF hf
/-- Nothing comes in by the next step. -/
def Still (F : Nat → Nat → Bool) (f : Nat → Bool) (v k : Nat) : Prop := ∀ w, rchN F f v (k + 1) w = rchN F f v k w
theorem still_next {F : Nat → Nat → Bool} {f : Nat → Bool} {v k : Nat} (h : Still F f v k) : Still F f v (k + 1) := fun w => by
  have e : rchN F f v (k + 1) = rchN F f v k := funext h
  show (rchN F f v (k + 1) w || _) = _
  conv => lhs; rw [e]
  rfl
theorem still_one (F : Nat → Nat → Bool) (f : Nat → Bool) (v k : Nat) (hk : k + 1 ≤ cnt (rchN F f v k)) : Still F f v k ∨ k + 2 ≤ cnt (rchN F f v (k + 1)) := by
  by_cases hs : Still F f v k
  · exact .inl hs
  · right
    have hex : ∃ w, ¬ rchN F f v (k + 1) w = rchN F f v k w := by
      apply Classical.byContradiction
      intro hn
      exact hs (fun w => Classical.byContradiction fun h => hn ⟨w, h⟩)
    obtain ⟨w, hw⟩ := hex
    have hw0 : rchN F f v k w = false := by
      cases h : rchN F f v k w
      · rfl
      · rw [h, rchN_up F f v k w h] at hw; simp at hw
    have hw1 : rchN F f v (k + 1) w = true := by
      cases h : rchN F f v (k + 1) w
      · rw [h, hw0] at hw; simp at hw
      · rfl
    have h9 : w < 9 := by
      have h := hw1
      simp only [rchN, hw0, Bool.false_or, Bool.and_eq_true, decide_eq_true_eq] at h
      exact h.1
    have := cnt_lt (p := rchN F f v k) (q := rchN F f v (k + 1)) (fun j _ h => rchN_up F f v k j h) h9 hw1 hw0
    omega
theorem still_or (F : Nat → Nat → Bool) (f : Nat → Bool) (v : Nat) (hv : v < 9) (k : Nat) : Still F f v k ∨ k + 2 ≤ cnt (rchN F f v (k + 1)) := by
  induction k with
  | zero => exact still_one F f v 0 (by
      have h0 : cnt (fun _ => false) < cnt (rchN F f v 0) := cnt_lt (fun j _ h => by simp at h) hv (by simp [rchN]) rfl
      omega)
  | succ k ih =>
    rcases ih with h | h
    · exact .inl (still_next h)
    · exact still_one F f v (k + 1) (by omega)
theorem still9 (F : Nat → Nat → Bool) (f : Nat → Bool) (v : Nat) (hv : v < 9) : Still F f v 9 := by
  rcases still_or F f v hv 9 with h | h
  · exact h
  · have := cnt_le9 (rchN F f v (9 + 1))
    omega
theorem rch_here (F : Nat → Nat → Bool) (f : Nat → Bool) (v : Nat) : rch F f v v = true := by
  have h : ∀ k, rchN F f v k v = true := fun k => by
    induction k with
    | zero => simp [rchN]
    | succ k ih => exact rchN_up F f v k v ih
  exact h 9
theorem rch_step {F : Nat → Nat → Bool} {f : Nat → Bool} {v : Nat} (hv : v < 9) {u w : Nat} (h : rch F f v u = true) (hu : u < 9) (hw : w < 9) (hF : F u w = true) (hf : f w = true) : rch F f v w = true := by
  have h1 : rchN F f v (9 + 1) w = true := by
    have h2 : ((List.range 9).any fun u => rchN F f v 9 u && F u w) = true := by
      rw [List.any_eq_true]
      exact ⟨u, List.mem_range.2 hu, by rw [hF, Bool.and_true]; exact h⟩
    show (rchN F f v 9 w || (decide (w < 9) && (f w && (List.range 9).any fun u => rchN F f v 9 u && F u w))) = true
    rw [h2, hf, decide_eq_true hw]
    simp
  rw [still9 F f v hv w] at h1
  exact h1
theorem rch_iff {F : Nat → Nat → Bool} {f : Nat → Bool} {v : Nat} (hv : v < 9) (w : Nat) : rch F f v w = true ↔ Rch F f v w := by
  constructor
  · exact rchN_sound F f v 9 w
  · intro h
    induction h with
    | here => exact rch_here F f v
    | step _ hu hw hF hf ih => exact rch_step hv ih hu hw hF hf
theorem rch_lt {F : Nat → Nat → Bool} {f : Nat → Bool} {v : Nat} (hv : v < 9) {w : Nat} (h : rch F f v w = true) : w < 9 := by
  have h := (rch_iff hv w).1 h
  cases h with
  | here => exact hv
  | step _ _ h9 _ _ => exact h9
theorem rch_flag {F : Nat → Nat → Bool} {f : Nat → Bool} {v : Nat} (hv : v < 9) {w : Nat} (h : rch F f v w = true) (hne : w ≠ v) : f w = true := by
  have h := (rch_iff hv w).1 h
  cases h with
  | here => exact absurd rfl hne
  | step _ _ _ _ hf => exact hf
theorem Rch.trans {F : Nat → Nat → Bool} {f : Nat → Bool} {v u w : Nat} (h : Rch F f v u) (k : Rch F f u w) : Rch F f v w := by
  induction k with
  | here => exact h
  | step _ hu hw hF hf ih => exact ih.step hu hw hF hf
theorem Rch.mono {F : Nat → Nat → Bool} {f g : Nat → Bool} (hfg : ∀ j, f j = true → g j = true) {v w : Nat} (h : Rch F f v w) : Rch F g v w := by
  induction h with
  | here => exact .here
  | step _ hu hw hF hf ih => exact ih.step hu hw hF (hfg _ hf)
/-- What has been gathered from v, its neighbours below k gone through. -/
structure Gat (F : Nat → Nat → Bool) (f : Nat → Bool) (v k : Nat) (D : Nat → Bool) : Prop where
  own : D v = true
  some : ∀ j, D j = true → rch F f v j = true
  full : ∀ u, D u = true → u ≠ v → ∀ w, w < 9 → F u w = true → f w = true → D w = true
  next : ∀ w, w < k → w < 9 → F v w = true → f w = true → D w = true
theorem gat0 (F : Nat → Nat → Bool) (f : Nat → Bool) (v : Nat) : Gat F f v 0 (fun j => j == v) where
  own := by simp
  some := fun j h => by
    have : j = v := by simpa using h
    subst this
    exact rch_here _ _ _
  full := fun u h hne => absurd (by simpa using h) hne
  next := fun w h => absurd h (by omega)
theorem gat_skip {F : Nat → Nat → Bool} {f : Nat → Bool} {v k : Nat} {D : Nat → Bool} (h : Gat F f v k D) (hs : F v k = false ∨ (f k && !D k) = false) : Gat F f v (k + 1) D where
  own := h.own
  some := h.some
  full := h.full
  next := fun w hw h9 hF hf => by
    by_cases e : w = k
    · subst e
      rcases hs with hs | hs
      · rw [hs] at hF; cases hF
      · rw [hf] at hs
        cases hd : D w
        · rw [hd] at hs; cases hs
        · rfl
    · exact h.next w (by omega) h9 hF hf
theorem gat_go {F : Nat → Nat → Bool} {f : Nat → Bool} {v k : Nat} {D : Nat → Bool} (hv : v < 9) (hk : k < 9) (h : Gat F f v k D) (hF : F v k = true) (hf : (f k && !D k) = true) :
    Gat F f v (k + 1) (fun j => D j || rch F (fun i => f i && !D i) k j) := by
  have hfk : f k = true := by simp at hf; exact hf.1
  have sub : ∀ j, rch F (fun i => f i && !D i) k j = true → rch F f v j = true := fun j hj => by
    have h1 := (rch_iff hk j).1 hj
    have h2 : Rch F f k j := h1.mono (fun i hi => by simp at hi; exact hi.1)
    exact (rch_iff hv j).2 ((Rch.here.step hv hk hF hfk).trans h2)
  refine ⟨by simp [h.own], fun j hj => ?_, fun u hu hne w h9 hFu hfw => ?_, fun w hw h9 hFw hfw => ?_⟩
  · simp only [Bool.or_eq_true] at hj
    rcases hj with hj | hj
    · exact h.some j hj
    · exact sub j hj
  · simp only [Bool.or_eq_true] at hu ⊢
    rcases hu with hu | hu
    · exact .inl (h.full u hu hne w h9 hFu hfw)
    · cases hd : D w
      · exact .inr (rch_step hk hu (rch_lt hk hu) h9 hFu (by simp [hfw, hd]))
      · exact .inl rfl
  · simp only [Bool.or_eq_true]
    by_cases e : w = k
    · subst e; exact .inr (rch_here _ _ _)
    · exact .inl (h.next w (by omega) h9 hFw hfw)
theorem gat_end {F : Nat → Nat → Bool} {f : Nat → Bool} {v : Nat} {D : Nat → Bool} (hv : v < 9) (h : Gat F f v 9 D) : D = rch F f v := by
  funext j
  cases hr : rch F f v j
  · cases hd : D j
    · rfl
    · rw [h.some j hd] at hr; cases hr
  · have h1 := (rch_iff hv j).1 hr
    clear hr
    induction h1 with
    | here => exact h.own
    | @step u w _ hu hw hF hf ih =>
      by_cases e : u = v
      · subst e; exact h.next w hw hw hF hf
      · exact h.full u ih e w hw hF hf
/-- Fewer are left. -/
theorem gat_fewer {F : Nat → Nat → Bool} {f : Nat → Bool} {v k : Nat} {D : Nat → Bool} (hv : v < 9) (hf : f v = true) (h : Gat F f v k D) : cnt (fun i => f i && !D i) < cnt f :=
  cnt_lt (fun j _ hj => by simp at hj; exact hj.1) hv hf (by simp [h.own])
/-- The parts of what is left, the vertices of a list gone through. -/
def prts (F : Nat → Nat → Bool) : List Nat → (Nat → Bool) → List (Nat → Bool)
  | [], _ => []
  | v :: r, f => if f v = true then rch F f v :: prts F r (fun j => f j && !rch F f v j) else prts F r f
theorem prts_in {F : Nat → Nat → Bool} {v : Nat} {r : List Nat} {f : Nat → Bool} (h : f v = true) : prts F (v :: r) f = rch F f v :: prts F r (fun j => f j && !rch F f v j) := by
  simp [prts, h]
theorem prts_out {F : Nat → Nat → Bool} {v : Nat} {r : List Nat} {f : Nat → Bool} (h : f v = false) : prts F (v :: r) f = prts F r f := by
  simp [prts, h]
/-- A set as a list. -/
def setL (f : Nat → Bool) : List Int := ((List.range 9).filter f).map fun j => ((j : Nat) : Int)
/-- Its first ones. -/
def setTo (f : Nat → Bool) (k : Nat) : List Int := ((List.range k).filter f).map fun j => ((j : Nat) : Int)
theorem setTo_in {f : Nat → Bool} {k : Nat} (h : f k = true) : setTo f (k + 1) = setTo f k ++ [(k : Int)] := by
  unfold setTo
  rw [List.range_succ, List.filter_append]
  simp [h]
theorem setTo_out {f : Nat → Bool} {k : Nat} (h : f k = false) : setTo f (k + 1) = setTo f k := by
  unfold setTo
  rw [List.range_succ, List.filter_append]
  simp [h]
theorem setTo_length (f : Nat → Bool) (k : Nat) : (setTo f k).length ≤ k := by
  unfold setTo
  rw [List.length_map]
  have := List.length_filter_le f (List.range k)
  simpa using this
/-- How many are flagged when one flag is another. -/
theorem cntL_upd (p : Nat → Bool) (x : Nat) (b : Bool) : ∀ (L : List Nat), L.Nodup → x ∈ L → L.countP (fun v => if v = x then b else p v) + (p x).toNat = L.countP p + b.toNat
  | [], _, h => by cases h
  | y :: r, hn, h => by
    rw [List.nodup_cons] at hn
    rw [List.countP_cons, List.countP_cons]
    by_cases e : y = x
    · subst e
      have h1 : r.countP (fun v => if v = y then b else p v) = r.countP p := by
        refine List.countP_congr (fun v hv => ?_)
        have : v ≠ y := fun e => hn.1 (e ▸ hv)
        rw [if_neg this]
      rw [h1]
      cases b <;> cases p y <;> simp
    · have hx : x ∈ r := by
        rcases List.mem_cons.1 h with h | h
        · exact absurd h.symm e
        · exact h
      have ih := cntL_upd p x b r hn.2 hx
      rw [if_neg e]
      omega
theorem cnt_upd (p : Nat → Bool) (x : Nat) (hx : x < 9) (b : Bool) : cnt (fun v => if v = x then b else p v) + (p x).toNat = cnt p + b.toNat :=
  cntL_upd p x b _ List.nodup_range (List.mem_range.2 hx)
theorem cnt_le {p q : Nat → Bool} (h : ∀ j, j < 9 → p j = true → q j = true) : cnt p ≤ cnt q := cntL_le _ p q (fun j hj => h j (List.mem_range.1 hj))
theorem cnt_eq {p q : Nat → Bool} (h : ∀ j, j < 9 → p j = q j) : cnt p = cnt q := by
  have h1 := cnt_le (p := p) (q := q) (fun j hj e => by rw [← h j hj]; exact e)
  have h2 := cnt_le (p := q) (q := p) (fun j hj e => by rw [h j hj]; exact e)
  omega
theorem cntL_or (p q : Nat → Bool) : ∀ (L : List Nat), L.countP (fun v => p v || q v) ≤ L.countP p + L.countP q
  | [] => by simp
  | y :: r => by
    have ih := cntL_or p q r
    rw [List.countP_cons, List.countP_cons, List.countP_cons]
    cases p y <;> cases q y <;> simp <;> omega
theorem cnt_or (p q : Nat → Bool) : cnt (fun v => p v || q v) ≤ cnt p + cnt q := cntL_or p q _
theorem cnt_none {p : Nat → Bool} (h : ∀ j, j < 9 → p j = false) : cnt p = 0 := by
  have e : cnt p = cnt (fun _ => false) := cnt_eq h
  rw [e]; rfl
theorem cnt_some {p : Nat → Bool} (h : cnt p ≠ 0) : ∃ j, j < 9 ∧ p j = true := by
  apply Classical.byContradiction
  intro hn
  refine h (cnt_none (fun j hj => ?_))
  cases hp : p j
  · rfl
  · exact absurd ⟨j, hj, hp⟩ hn
theorem cnt_one (x : Nat) (hx : x < 9) : cnt (fun v => decide (v = x)) = 1 := by
  have h := cnt_upd (fun _ => false) x hx true
  have e : cnt (fun v => if v = x then true else (fun _ => false) v) = cnt (fun v => decide (v = x)) := cnt_eq (fun j _ => by by_cases e : j = x <;> simp [e])
  rw [e] at h
  have h0 : cnt (fun _ : Nat => false) = 0 := cnt_none (fun _ _ => rfl)
  simp at h
  omega
/-- A set that is paired off without a rest is even. -/
theorem cnt_even (μ : Nat → Nat) : ∀ (k : Nat) (p : Nat → Bool), cnt p ≤ k → (∀ v, p v = true → v < 9 ∧ p (μ v) = true ∧ μ v ≠ v ∧ μ (μ v) = v) → cnt p % 2 = 0
  | 0, p, h, _ => by have : cnt p = 0 := by omega
                     rw [this]
  | k + 1, p, h, hp => by
    by_cases h0 : cnt p = 0
    · rw [h0]
    · obtain ⟨x, hx, hpx⟩ := cnt_some h0
      obtain ⟨_, hy, hne, hxx⟩ := hp x hpx
      obtain ⟨hy9, _⟩ := hp (μ x) hy
      have h1 := cnt_upd p x hx false
      have h2 := cnt_upd (fun v => if v = x then false else p v) (μ x) hy9 false
      simp only [hpx, Bool.toNat_true, Bool.toNat_false, if_neg hne, hy] at h1 h2
      have ih := cnt_even μ k (fun v => if v = μ x then false else if v = x then false else p v) (by omega) (fun v hv => by
        have e1 : v ≠ μ x := fun e => by simp [e] at hv
        have e2 : v ≠ x := fun e => by subst e; simp at hv
        have hpv : p v = true := by simpa [e1, e2] using hv
        obtain ⟨a, b, c, d⟩ := hp v hpv
        refine ⟨a, ?_, c, d⟩
        have f1 : μ v ≠ μ x := fun e => e2 (by rw [← d, e, hxx])
        have f2 : μ v ≠ x := fun e => e1 (by rw [← d, e])
        simp [f1, f2, b])
      omega
/-! ### Pairings as turns -/
/-- A pairing of the flagged vertices: who stays where it is has nobody. -/
structure Mt (F : Nat → Nat → Bool) (f : Nat → Bool) (μ : Nat → Nat) : Prop where
  inv : ∀ v, μ (μ v) = v
  out : ∀ v, f v = false → μ v = v
  edge : ∀ v, μ v ≠ v → F v (μ v) = true
theorem Mt.flag {F : Nat → Nat → Bool} {f : Nat → Bool} {μ : Nat → Nat} (h : Mt F f μ) {v : Nat} (hv : μ v ≠ v) : f v = true ∧ f (μ v) = true := by
  constructor
  · cases hf : f v
    · exact absurd (h.out v hf) hv
    · rfl
  · cases hf : f (μ v)
    · have := h.out _ hf
      rw [h.inv] at this
      exact absurd this.symm hv
    · rfl
theorem Mt.inj {F : Nat → Nat → Bool} {f : Nat → Bool} {μ : Nat → Nat} (h : Mt F f μ) {u v : Nat} (e : μ u = μ v) : u = v := by
  rw [← h.inv u, e, h.inv]
/-- Who has nobody. -/
def freeQ (f : Nat → Bool) (μ : Nat → Nat) : Nat → Bool := fun v => f v && decide (μ v = v)
/-- How many have nobody. -/
def dfc (f : Nat → Bool) (μ : Nat → Nat) : Nat := cnt (freeQ f μ)
theorem mt_id (F : Nat → Nat → Bool) (f : Nat → Bool) : Mt F f (fun v => v) := ⟨fun _ => rfl, fun _ _ => rfl, fun _ h => absurd rfl h⟩
/-- As many couples as can be. -/
def Mx (F : Nat → Nat → Bool) (f : Nat → Bool) (μ : Nat → Nat) : Prop := Mt F f μ ∧ ∀ μ', Mt F f μ' → dfc f μ ≤ dfc f μ'
theorem least_of {α : Type} (p : α → Prop) (g : α → Nat) : ∀ (k : Nat) (a : α), p a → g a ≤ k → ∃ b, p b ∧ ∀ c, p c → g b ≤ g c
  | 0, a, h, hk => ⟨a, h, fun c _ => by omega⟩
  | k + 1, a, h, hk => by
    by_cases hx : ∃ c, p c ∧ g c < g a
    · obtain ⟨c, hc, hl⟩ := hx
      exact least_of p g k c hc (by omega)
    · exact ⟨a, h, fun c hc => Nat.le_of_not_lt (fun hl => hx ⟨c, hc, hl⟩)⟩
theorem mx_some (F : Nat → Nat → Bool) (f : Nat → Bool) : ∃ μ, Mx F f μ := by
  obtain ⟨μ, h, hm⟩ := least_of (Mt F f) (dfc f) _ _ (mt_id F f) (Nat.le_refl _)
  exact ⟨μ, h, hm⟩
/-- Two that have nobody are paired. -/
def joinU (μ : Nat → Nat) (x y : Nat) : Nat → Nat := fun v => if v = x then y else if v = y then x else μ v
theorem joinU_mt {F : Nat → Nat → Bool} {f : Nat → Bool} {μ : Nat → Nat} (hs : ∀ u w, F u w = F w u) (h : Mt F f μ) {x y : Nat} (hx : μ x = x) (hy : μ y = y) (hne : x ≠ y) (hF : F x y = true) (fx : f x = true) (fy : f y = true) : Mt F f (joinU μ x y) where
  inv := fun v => by
    unfold joinU
    by_cases e1 : v = x
    · subst e1; simp [hne.symm]
    · by_cases e2 : v = y
      · subst e2; simp [e1]
      · rw [if_neg e1, if_neg e2]
        have n1 : μ v ≠ x := fun e => e1 (by rw [← h.inv v, e, hx])
        have n2 : μ v ≠ y := fun e => e2 (by rw [← h.inv v, e, hy])
        rw [if_neg n1, if_neg n2, h.inv]
  out := fun v hv => by
    unfold joinU
    have e1 : v ≠ x := fun e => by rw [e, fx] at hv; cases hv
    have e2 : v ≠ y := fun e => by rw [e, fy] at hv; cases hv
    rw [if_neg e1, if_neg e2, h.out v hv]
  edge := fun v hv => by
    unfold joinU at hv ⊢
    by_cases e1 : v = x
    · subst e1; simp [hF]
    · by_cases e2 : v = y
      · subst e2; simp [e1]; rw [hs]; exact hF
      · rw [if_neg e1, if_neg e2] at hv ⊢
        exact h.edge v hv
theorem no_join {F : Nat → Nat → Bool} {f : Nat → Bool} {μ : Nat → Nat} (hs : ∀ u w, F u w = F w u) (h : Mx F f μ) {x y : Nat} (hx : μ x = x) (hy : μ y = y) (hne : x ≠ y) (hF : F x y = true) (fx : f x = true) (fy : f y = true) (h9 : x < 9) : False := by
  have h1 := h.2 _ (joinU_mt hs h.1 hx hy hne hF fx fy)
  have h2 : dfc f (joinU μ x y) < dfc f μ := by
    refine cnt_lt (j := x) (fun j _ hj => ?_) h9 (by simp [freeQ, fx, hx]) (by simp [freeQ, joinU, hne.symm])
    unfold freeQ joinU at *
    by_cases e1 : j = x
    · subst e1; simp [hne.symm] at hj
    · by_cases e2 : j = y
      · subst e2; simp [e1] at hj; exact absurd hj.2 hne
      · simpa [e1, e2] using hj
  omega
/-- How often two pairings are at one. -/
def agr (μ ν : Nat → Nat) : Nat := cnt fun v => decide (μ v = ν v)
/-- A couple is given up for another that shares a vertex with it. -/
def swapU (ν : Nat → Nat) (x y z : Nat) : Nat → Nat := fun v => if v = x then y else if v = y then x else if v = z then z else ν v
theorem swapU_mt {F : Nat → Nat → Bool} {f : Nat → Bool} {ν : Nat → Nat} (hs : ∀ u w, F u w = F w u) (h : Mt F f ν) {x y z : Nat} (hx : ν x = x) (hy : ν y = z) (hzy : z ≠ y) (hxy : x ≠ y) (hxz : z ≠ x) (hF : F x y = true) (fx : f x = true) (fy : f y = true) (fz : f z = true) : Mt F f (swapU ν x y z) where
  inv := fun v => by
    have hz : ν z = y := by rw [← hy, h.inv]
    unfold swapU
    by_cases e1 : v = x
    · subst e1; simp [hxy.symm]
    · by_cases e2 : v = y
      · subst e2; simp [e1]
      · by_cases e3 : v = z
        · subst e3; simp [e1, e2]
        · rw [if_neg e1, if_neg e2, if_neg e3]
          have n1 : ν v ≠ x := fun e => e1 (by rw [← h.inv v, e, hx])
          have n2 : ν v ≠ y := fun e => e3 (by rw [← h.inv v, e, hy])
          have n3 : ν v ≠ z := fun e => e2 (by rw [← h.inv v, e, hz])
          rw [if_neg n1, if_neg n2, if_neg n3, h.inv]
  out := fun v hv => by
    unfold swapU
    have e1 : v ≠ x := fun e => by rw [e, fx] at hv; cases hv
    have e2 : v ≠ y := fun e => by rw [e, fy] at hv; cases hv
    have e3 : v ≠ z := fun e => by rw [e, fz] at hv; cases hv
    rw [if_neg e1, if_neg e2, if_neg e3, h.out v hv]
  edge := fun v hv => by
    unfold swapU at hv ⊢
    by_cases e1 : v = x
    · subst e1; simp [hF]
    · by_cases e2 : v = y
      · subst e2; simp [e1]; rw [hs]; exact hF
      · by_cases e3 : v = z
        · subst e3; simp [e1, e2] at hv
        · rw [if_neg e1, if_neg e2, if_neg e3] at hv ⊢
          exact h.edge v hv
/-- The lemma of Gallai: where each vertex is left alone by one of the greatest pairings, no greatest pairing leaves two alone that are linked by a way. -/
theorem gallai {F : Nat → Nat → Bool} {f : Nat → Bool} (hs : ∀ u w, F u w = F w u) (hf : ∀ v, f v = true → v < 9) (hall : ∀ v, f v = true → ∃ μ, Mx F f μ ∧ μ v = v) :
    ∀ (k : Nat) (μ : Nat → Nat) (u v : Nat), Mx F f μ → u ≠ v → f u = true → f v = true → μ u = u → μ v = v → rchN F f u k v = true → False
  | 0, μ, u, v, _, hne, _, _, _, _, h => by
    have : v = u := by simpa [rchN] using h
    exact hne this.symm
  | k + 1, μ, u, v, hm, hne, fu, fv, hu, hv, h => by
    simp only [rchN, Bool.or_eq_true, Bool.and_eq_true, decide_eq_true_eq, List.any_eq_true, List.mem_range] at h
    rcases h with h | ⟨h9, _, t, ht9, hr, hF⟩
    · exact gallai hs hf hall k μ u v hm hne fu fv hu hv h
    · by_cases e : t = u
      · subst e
        exact no_join hs hm hu hv hne hF fu fv ht9
      · have ft : f t = true := by
          have h1 := rchN_sound F f u k t hr
          cases h1 with
          | here => exact absurd rfl e
          | step _ _ _ _ hf => exact hf
        have htv : t ≠ v := fun e2 => by
          subst e2
          exact gallai hs hf hall k μ u t hm hne fu fv hu hv hr
        -- one that leaves t alone, and is at one with μ as often as can be
        obtain ⟨ν0, hν0, hν0t⟩ := hall t ft
        obtain ⟨ν, ⟨hν, hνt⟩, hag⟩ := least_of (fun ν => Mx F f ν ∧ ν t = t) (fun ν => 9 - agr ν μ) _ ν0 ⟨hν0, hν0t⟩ (Nat.le_refl _)
        have hνu : ν u ≠ u := fun e2 => gallai hs hf hall k ν u t hν (Ne.symm e) fu ft e2 hνt hr
        have hνv : ν v ≠ v := fun e2 => no_join hs hν hνt e2 htv hF ft fv ht9
        have hdf : dfc f ν = dfc f μ := by
          have h1 := hν.2 μ hm.1
          have h2 := hm.2 ν hν.1
          omega
        -- who is alone by ν and not by μ, and is not t
        have hex : ∃ x, x ≠ t ∧ f x = true ∧ ν x = x ∧ μ x ≠ x := by
          apply Classical.byContradiction
          intro hn
          have h1 : cnt (freeQ f ν) ≤ cnt (fun w => if w = t then true else if w = v then false else if w = u then false else freeQ f μ w) := by
            refine cnt_le (fun j _ hj => ?_)
            by_cases e1 : j = t
            · simp [e1]
            · unfold freeQ at hj
              simp at hj
              have e2 : j ≠ v := fun e => by subst e; exact hνv hj.2
              have e3 : j ≠ u := fun e => by subst e; exact hνu hj.2
              rw [if_neg e1, if_neg e2, if_neg e3]
              unfold freeQ
              have : μ j = j := Classical.byContradiction (fun h => hn ⟨j, e1, hj.1, hj.2, h⟩)
              simp [this, hj.1]
          have h2 := cnt_upd (fun w => if w = v then false else if w = u then false else freeQ f μ w) t ht9 true
          have h3 := cnt_upd (fun w => if w = u then false else freeQ f μ w) v h9 false
          have h4 := cnt_upd (freeQ f μ) u (hf u fu) false
          have q1 : freeQ f μ u = true := by simp [freeQ, fu, hu]
          have q2 : freeQ f μ v = true := by simp [freeQ, fv, hv]
          simp only [if_neg (Ne.symm hne), q1, q2, Bool.toNat_true, Bool.toNat_false] at h2 h3 h4
          unfold dfc at hdf
          omega
        obtain ⟨x, hxt, fx, hνx, hμx⟩ := hex
        obtain ⟨_, fy⟩ := hm.1.flag hμx
        have hFxy := hm.1.edge x hμx
        have hxy : x ≠ μ x := Ne.symm hμx
        have hνy : ν (μ x) ≠ μ x := fun e2 => no_join hs hν hνx e2 hxy hFxy fx fy (hf x fx)
        obtain ⟨_, fz⟩ := hν.1.flag hνy
        have hxz : ν (μ x) ≠ x := fun e2 => by
          have e3 : μ x = ν x := by rw [← hν.1.inv (μ x), e2]
          exact hxy (by rw [e3, hνx])
        have hzt : ν (μ x) ≠ t := fun e2 => by
          have e3 : μ x = ν t := by rw [← hν.1.inv (μ x), e2]
          rw [hνt] at e3
          exact hνy (by rw [e2, e3])
        have hyt : μ x ≠ t := fun e2 => hνy (by rw [e2, hνt])
        have hM := swapU_mt hs hν.1 hνx rfl hνy hxy hxz hFxy fx fy fz
        have hD : dfc f (swapU ν x (μ x) (ν (μ x))) ≤ dfc f ν := by
          have h1 : cnt (freeQ f (swapU ν x (μ x) (ν (μ x)))) ≤ cnt (fun w => if w = ν (μ x) then true else if w = x then false else freeQ f ν w) := by
            refine cnt_le (fun j _ hj => ?_)
            unfold freeQ swapU at hj
            by_cases e1 : j = x
            · subst e1
              simp [hμx] at hj
            · by_cases e2 : j = μ x
              · subst e2
                simp [hμx] at hj
                exact absurd hj.2 hxy
              · by_cases e3 : j = ν (μ x)
                · simp [e3]
                · rw [if_neg e1, if_neg e2, if_neg e3] at hj
                  rw [if_neg e3, if_neg e1]
                  exact hj
          have h2 := cnt_upd (fun w => if w = x then false else freeQ f ν w) (ν (μ x)) (hf _ fz) true
          have h3 := cnt_upd (freeQ f ν) x (hf x fx) false
          have q1 : freeQ f ν x = true := by simp [freeQ, fx, hνx]
          have q2 : freeQ f ν (ν (μ x)) = false := by
            unfold freeQ
            rw [hν.1.inv]
            simp [Ne.symm hνy]
          simp only [if_neg hxz, q1, q2, Bool.toNat_true, Bool.toNat_false] at h2 h3
          unfold dfc
          omega
        have hX : Mx F f (swapU ν x (μ x) (ν (μ x))) := ⟨hM, fun μ' h' => Nat.le_trans hD (hν.2 μ' h')⟩
        have hT : swapU ν x (μ x) (ν (μ x)) t = t := by
          unfold swapU
          rw [if_neg (Ne.symm hxt), if_neg (Ne.symm hyt), if_neg (Ne.symm hzt), hνt]
        have hA := hag _ ⟨hX, hT⟩
        have hB : agr ν μ < agr (swapU ν x (μ x) (ν (μ x))) μ := by
          refine cnt_lt (j := x) (fun j _ hj => ?_) (hf x fx) (by simp [swapU]) (by simp [hνx, hxy])
          have hj' : ν j = μ j := by simpa using hj
          have e1 : j ≠ x := fun e => by subst e; exact hxy (by rw [← hj', hνx])
          have e2 : j ≠ μ x := fun e => by subst e; rw [hm.1.inv] at hj'; exact hxz hj'
          have e3 : j ≠ ν (μ x) := fun e => by
            subst e
            rw [hν.1.inv] at hj'
            have e4 : x = ν (μ x) := hm.1.inj hj'
            exact hxz e4.symm
          unfold swapU
          rw [if_neg e1, if_neg e2, if_neg e3]
          exact hj
        have hC := cnt_le9 (fun v => decide (swapU ν x (μ x) (ν (μ x)) v = μ v))
        unfold agr at hA hB
        omega
theorem nodup_le9 : ∀ (n : Nat) (L : List Nat), L.Nodup → (∀ x ∈ L, x < n) → L.length ≤ n
  | 0, L, _, h => by
    cases L with
    | nil => exact Nat.le_refl _
    | cons x r => have := h x (by simp); omega
  | n + 1, L, hn, h => by
    by_cases hm : n ∈ L
    · have h1 := nodup_le9 n (L.erase n) (hn.erase n) (fun x hx => by
        have h2 := h x (List.mem_of_mem_erase hx)
        have h3 : x ≠ n := fun e => by subst e; exact hn.not_mem_erase hx
        omega)
      rw [List.length_erase_of_mem hm] at h1
      omega
    · have := nodup_le9 n L hn (fun x hx => by
        have h2 := h x hx
        have h3 : x ≠ n := fun e => by subst e; exact hm hx
        omega)
      omega
/-- A list that is grown from v: what stands ahead of i has been gone through, of the i-th one the ones in done. -/
structure Bfs (F : Nat → Nat → Bool) (f : Nat → Bool) (v i : Nat) (done : List Nat) (U : List Nat) : Prop where
  nd : U.Nodup
  own : v ∈ U
  some : ∀ x ∈ U, rch F f v x = true
  full : ∀ a (h : a < U.length), a < i → ∀ w, w < 9 → F U[a] w = true → f w = true → w ∈ U
  part : ∀ w ∈ done, f w = true → w ∈ U
theorem bfs0 (F : Nat → Nat → Bool) (f : Nat → Bool) (v : Nat) : Bfs F f v 0 [] [v] where
  nd := by simp
  own := by simp
  some := fun x hx => by
    have : x = v := by simpa using hx
    subst this
    exact rch_here _ _ _
  full := fun a _ h => absurd h (by omega)
  part := fun w h => by cases h
theorem Bfs.few {F : Nat → Nat → Bool} {f : Nat → Bool} {v i : Nat} {done U : List Nat} (hv : v < 9) (h : Bfs F f v i done U) : U.length ≤ 9 :=
  nodup_le9 9 U h.nd (fun x hx => rch_lt hv (h.some x hx))
theorem bfs_skip {F : Nat → Nat → Bool} {f : Nat → Bool} {v i : Nat} {done U : List Nat} (h : Bfs F f v i done U) (x : Nat) (hx : x ∈ U ∨ f x = false) : Bfs F f v i (done ++ [x]) U where
  nd := h.nd
  own := h.own
  some := h.some
  full := h.full
  part := fun w hw hf => by
    rcases List.mem_append.1 hw with hw | hw
    · exact h.part w hw hf
    · have : w = x := by simpa using hw
      subst this
      rcases hx with hx | hx
      · exact hx
      · rw [hx] at hf; cases hf
theorem bfs_add {F : Nat → Nat → Bool} {f : Nat → Bool} {v i : Nat} {done U : List Nat} (hv : v < 9) (h : Bfs F f v i done U) (hi : i < U.length) (x : Nat) (hx9 : x < 9) (hF : F U[i] x = true) (hn : x ∉ U) (hf : f x = true) : Bfs F f v i (done ++ [x]) (U ++ [x]) where
  nd := by
    rw [List.nodup_append]
    exact ⟨h.nd, by simp, fun a ha b hb e => by
      have : b = x := by simpa using hb
      subst this
      exact hn (e ▸ ha)⟩
  own := List.mem_append_left _ h.own
  some := fun y hy => by
    rcases List.mem_append.1 hy with hy | hy
    · exact h.some y hy
    · have : y = x := by simpa using hy
      subst this
      have h1 := h.some U[i] (List.getElem_mem hi)
      exact rch_step hv h1 (rch_lt hv h1) hx9 hF hf
  full := fun a ha hai w hw hFw hfw => by
    have ha' : a < U.length := by omega
    rw [List.getElem_append_left ha'] at hFw
    exact List.mem_append_left _ (h.full a ha' hai w hw hFw hfw)
  part := fun w hw hfw => by
    rcases List.mem_append.1 hw with hw | hw
    · exact List.mem_append_left _ (h.part w hw hfw)
    · exact List.mem_append_right _ hw
theorem bfs_next {F : Nat → Nat → Bool} {f : Nat → Bool} {v i : Nat} {done U : List Nat} (h : Bfs F f v i done U) (hi : i < U.length) (hd : ∀ w, w < 9 → F U[i] w = true → f w = true → w ∈ done) : Bfs F f v (i + 1) [] U where
  nd := h.nd
  own := h.own
  some := h.some
  full := fun a ha hai w hw hFw hfw => by
    by_cases e : a = i
    · subst e; exact h.part w (hd w hw hFw hfw) hfw
    · exact h.full a ha (by omega) w hw hFw hfw
  part := fun w hw => by cases hw
theorem bfs_end {F : Nat → Nat → Bool} {f : Nat → Bool} {v : Nat} {U : List Nat} (hv : v < 9) (h : Bfs F f v U.length [] U) (x : Nat) : decide (x ∈ U) = rch F f v x := by
  cases hr : rch F f v x
  · rw [decide_eq_false]
    intro hx
    rw [h.some x hx] at hr
    cases hr
  · rw [decide_eq_true]
    have h1 := (rch_iff hv x).1 hr
    clear hr
    induction h1 with
    | here => exact h.own
    | @step u w _ hu hw hF hf ih =>
      obtain ⟨a, ha, rfl⟩ := List.mem_iff_getElem.1 ih
      exact h.full a ha ha w hw hF hf
/-- The parts as the specification finds them: each vertex asks whether a part ahead has it. -/
def prtsS (F : Nat → Nat → Bool) (f : Nat → Bool) : List Nat → (Nat → Bool) → List (Nat → Bool)
  | [], _ => []
  | v :: r, D => if (f v && !D v) = true then rch F f v :: prtsS F f r (fun j => D j || rch F f v j) else prtsS F f r D
theorem prtsS_in {F : Nat → Nat → Bool} {f : Nat → Bool} {v : Nat} {r : List Nat} {D : Nat → Bool} (h : (f v && !D v) = true) : prtsS F f (v :: r) D = rch F f v :: prtsS F f r (fun j => D j || rch F f v j) := by
  rw [prtsS, if_pos h]
theorem prtsS_out {F : Nat → Nat → Bool} {f : Nat → Bool} {v : Nat} {r : List Nat} {D : Nat → Bool} (h : (f v && !D v) = false) : prtsS F f (v :: r) D = prtsS F f r D := by
  rw [prtsS, if_neg (by rw [h]; simp)]
/-- From outside of a closed set one does not come in. -/
theorem rch_less {F : Nat → Nat → Bool} {f D : Nat → Bool} (hs : ∀ u w, F u w = F w u) (hD : ∀ u w, u < 9 → w < 9 → D u = true → F u w = true → f w = true → D w = true) {v : Nat} (hv : v < 9) (hf : f v = true) (hn : D v = false) :
    rch F (fun j => f j && !D j) v = rch F f v := by
  funext x
  cases hr : rch F f v x
  · cases hq : rch F (fun j => f j && !D j) v x
    · rfl
    · have h1 := (rch_iff hv x).1 hq
      rw [(rch_iff hv x).2 (h1.mono (fun j hj => by simp at hj; exact hj.1))] at hr
      cases hr
  · have h1 := (rch_iff hv x).1 hr
    have h2 : Rch F (fun j => f j && !D j) v x ∧ f x = true ∧ D x = false := by
      clear hr
      induction h1 with
      | here => exact ⟨.here, hf, hn⟩
      | @step u w _ hu hw hF hfw ih =>
        have hw0 : D w = false := by
          cases hd : D w
          · rfl
          · have := hD w u hw hu hd (by rw [hs]; exact hF) ih.2.1
            rw [ih.2.2] at this
            cases this
        exact ⟨ih.1.step hu hw hF (by simp [hfw, hw0]), hfw, hw0⟩
    exact (rch_iff hv x).2 h2.1
theorem prts_same {F : Nat → Nat → Bool} {f : Nat → Bool} (hs : ∀ u w, F u w = F w u) : ∀ (L : List Nat) (D : Nat → Bool), (∀ v ∈ L, v < 9) → (∀ u w, u < 9 → w < 9 → D u = true → F u w = true → f w = true → D w = true) → prtsS F f L D = prts F L (fun j => f j && !D j)
  | [], _, _, _ => rfl
  | v :: r, D, hL, hD => by
    have hv := hL v List.mem_cons_self
    cases h : (f v && !D v)
    · rw [prtsS_out h, prts_out h]
      exact prts_same hs r D (fun x hx => hL x (List.mem_cons_of_mem _ hx)) hD
    · have h2 : f v = true ∧ D v = false := by simpa using h
      have e := rch_less hs hD hv h2.1 h2.2
      rw [prtsS_in h, prts_in (f := fun j => f j && !D j) h, e]
      congr 1
      have hD2 : ∀ u w, u < 9 → w < 9 → (D u || rch F f v u) = true → F u w = true → f w = true → (D w || rch F f v w) = true := by
        intro u w hu hw hd hF hf
        rw [Bool.or_eq_true] at hd ⊢
        rcases hd with hd | hd
        · exact .inl (hD u w hu hw hd hF hf)
        · exact .inr (rch_step hv hd hu hw hF hf)
      rw [prts_same hs r (fun j => D j || rch F f v j) (fun x hx => hL x (List.mem_cons_of_mem _ hx)) hD2]
      congr 1
      funext j
      cases f j <;> cases D j <;> cases rch F f v j <;> rfl
/-- Vertices that are not left tell no part. -/
theorem prts_none (F : Nat → Nat → Bool) : ∀ (L : List Nat) (f : Nat → Bool), (∀ v ∈ L, f v = false) → prts F L f = []
  | [], _, _ => rfl
  | v :: r, f, h => by rw [prts_out (h v List.mem_cons_self)]; exact prts_none F r f (fun x hx => h x (List.mem_cons_of_mem _ hx))
theorem prts_app (F : Nat → Nat → Bool) : ∀ (L M : List Nat) (f : Nat → Bool), (∀ v ∈ M, f v = false) → prts F (L ++ M) f = prts F L f
  | [], M, f, h => by rw [List.nil_append, prts_none F M f h]; rfl
  | v :: r, M, f, h => by
    rw [List.cons_append]
    cases hq : f v
    · rw [prts_out hq, prts_out hq]
      exact prts_app F r M f h
    · rw [prts_in hq, prts_in hq]
      rw [prts_app F r M _ (fun x hx => by rw [h x hx]; rfl)]
end Lk
end Go.Proofs.Ytnihoabminnbcaa
namespace Go.Proofs.Ytnihoabminnbcaa
namespace Gr
open Go.RowKit
/-- A world that another one has become, nothing turned below N. -/
structure Grown (N : Nat) (W : World) where
  w : World
  below : Below N W w
instance (N : Nat) (W : World) : Nonempty (Grown N W) := ⟨⟨W, Below.refl _ _⟩⟩
theorem wp_region_grown {P : Program} {id : Nat} {Q : Exit → Act → World → Prop} {a : Act} {w : World} {l : List Oper} (N : Nat) (hm : P.follows .mixedOrders = true) (hB : Region.lexB .any l.toArray = true)
    (h : wpQuiet P l.toArray (fun w' => ∃ d : Grown N w, w' = d.w) (fun a' => ∀ w', (∃ d : Grown N w, w' = d.w) → Q .normal a' w') l a) : (Code.region id l.toArray true).wp P Q a w := by
  refine wp_region_quiet (C := fun w' => ∃ d : Grown N w, w' = d.w) hm hB ⟨⟨w.drew, (Below.refl N w).drew⟩, rfl⟩ ?_
  rw [List.toList_toArray]
  exact h
/-- A callee's contract, met in a grown world. -/
theorem Calls.grown {P : Program} {f : FuncId} {args : Array Value} {N : Nat} {W : World} {d : Grown N W} {v : Value} (hN : N ≤ W.heap.size)
    (h : Calls P f args d.w fun e w' => e = .returned v ∧ Below d.w.heap.size d.w w') : Calls P f args d.w fun e w'' => e = .returned v ∧ ∃ d' : Grown N W, w'' = d'.w :=
  h.mono fun _ w' ⟨he, hb⟩ => ⟨he, ⟨⟨w', d.below.trans (hb.mono (Nat.le_trans hN d.below.size))⟩, rfl⟩⟩
/-- .. of a callee that leaves the world alone. -/
theorem Calls.grown_same {P : Program} {f : FuncId} {args : Array Value} {N : Nat} {W : World} {d : Grown N W} {v : Value}
    (h : Calls P f args d.w fun e w' => e = .returned v ∧ w' = d.w) : Calls P f args d.w fun e w'' => e = .returned v ∧ ∃ d' : Grown N W, w'' = d'.w :=
  h.mono fun _ _ ⟨he, hw⟩ => ⟨he, d, hw⟩
theorem Grown.cell {N : Nat} {W : World} (d : Grown N W) {b o : Nat} {v : Value} (hb : b < N) (h : W.cell? ⟨b, o, none⟩ = some v) : d.w.cell? ⟨b, o, none⟩ = some v :=
  (d.below.cell (p := ⟨b, o, none⟩) hb).trans h
/-- A struct's variable in memory. -/
def CBox (w : World) (g : Nat) (cs : Array Value) (t : TypeId) : Prop := w.heap[g]? = some (.cells cs t (0, 0))
theorem CBox.lt {w : World} {g : Nat} {cs : Array Value} {t : TypeId} (h : CBox w g cs t) : g < w.heap.size := by
  rcases Nat.lt_or_ge g w.heap.size with h1 | h1
  · exact h1
  · unfold CBox at h; rw [Array.getElem?_eq_none h1] at h; cases h
theorem CBox.below {w w' : World} {g : Nat} {cs : Array Value} {t : TypeId} (h : CBox w g cs t) (hb : Below w.heap.size w w') : CBox w' g cs t := by
  unfold CBox; rw [hb.block g h.lt]; exact h
theorem CBox.kept {S : Nat → Prop} {w w' : World} {g : Nat} {cs : Array Value} {t : TypeId} (h : CBox w g cs t) (hk : Kept S w w') (hS : ¬ S g) : CBox w' g cs t := by
  unfold CBox; rw [hk.2.2.2.2 g h.lt hS]; exact h
theorem CBox.new (w : World) (cs : Array Value) (t : TypeId) : CBox (w.alloc (Obj.cells cs t)) w.heap.size cs t := heap_alloc_new w _
theorem CBox.cell {w : World} {g : Nat} {cs : Array Value} {t : TypeId} (h : CBox w g cs t) (i : Nat) : w.cell? ⟨g, i, none⟩ = cs[i]? := cell_of_row w g i cs t (0, 0) h
section
variable {P : Program} {md : Region.Mode} {ops : Array Oper} {C : World → Prop}
/-- All of the first K are listed. -/
def preAll (K : Nat) (listed : Array Bool) : Bool := (List.range K).all fun i => listed.getD i false
/-- Whatever is listed, so is what it waits for; and none behind the first K is. -/
def Shut (md : Region.Mode) (ops : Array Oper) (K : Nat) (listed : Array Bool) : Prop :=
  (∀ i o, ops[i]? = some o → listed.getD i false = true → ∀ e ∈ o.after, Region.binds md e = true → listed.getD e.on false = true) ∧ ∀ j, K ≤ j → listed.getD j false = false
/-- Each behind K waits for one that is not among the first K, and each of the first K is waited for by a later one, up to K. -/
def tailB (md : Region.Mode) (ops : Array Oper) (K : Nat) : Bool :=
  ((List.range ops.size).all fun j => decide (j ≤ K) || ((ops[j]?).map (·.after.any fun e => Region.binds md e && decide (K ≤ e.on))).getD false) &&
  ((List.range K).all fun i => (List.range (K + 1)).any fun i' => decide (i < i') && ((ops[i']?).map (·.after.any fun e => Region.binds md e && (e.on == i))).getD false)
theorem tail_waits {K : Nat} {listed : Array Bool} (hT : tailB md ops K = true) (hS : Shut md ops K listed) {j : Nat} (hj : j ∈ Region.ready md ops listed) (hK : K ≤ j) : preAll K listed = true := by
  unfold tailB at hT
  rw [Bool.and_eq_true, List.all_eq_true, List.all_eq_true] at hT
  obtain ⟨h1, h2⟩ := hT
  obtain ⟨hun, o, ho, hall⟩ := mem_ready.1 hj
  have hjs : j < ops.size := (Array.getElem?_eq_some_iff.1 ho).1
  have hjK : j = K := by
    have := h1 j (List.mem_range.2 hjs)
    rw [Bool.or_eq_true, decide_eq_true_eq] at this
    rcases this with h | h
    · omega
    · rw [ho] at h
      simp only [Option.map_some, Option.getD_some, Array.any_eq_true, Bool.and_eq_true, decide_eq_true_eq] at h
      obtain ⟨x, hx, hb, hk⟩ := h
      have := hall _ (Array.getElem_mem hx) hb
      rw [hS.2 _ hk] at this
      cases this
  subst hjK
  have key : ∀ n i, i < j → j - i ≤ n → listed.getD i false = true := by
    intro n
    induction n with
    | zero => intro i hi hn; omega
    | succ n ih =>
      intro i hi hn
      have := h2 i (List.mem_range.2 hi)
      rw [List.any_eq_true] at this
      obtain ⟨i', hi', hh⟩ := this
      rw [List.mem_range] at hi'
      rw [Bool.and_eq_true, decide_eq_true_eq] at hh
      obtain ⟨hlt, hh⟩ := hh
      cases ho' : ops[i']? with
      | none => rw [ho'] at hh; simp at hh
      | some o' =>
        rw [ho'] at hh
        simp only [Option.map_some, Option.getD_some, Array.any_eq_true, Bool.and_eq_true, beq_iff_eq] at hh
        obtain ⟨x, hx, hb, hk⟩ := hh
        rcases Nat.lt_or_ge i' j with h | h
        · have := hS.1 i' o' ho' (ih i' h (by omega)) _ (Array.getElem_mem hx) hb
          rw [hk] at this
          exact this
        · have e : i' = j := by omega
          subst e
          rw [ho] at ho'
          obtain rfl := Option.some.inj ho'
          have := hall _ (Array.getElem_mem hx) hb
          rw [hk] at this
          exact this
  unfold preAll
  rw [List.all_eq_true]
  intro i hi
  exact key j i (List.mem_range.1 hi) (by omega)
theorem Shut.add {K : Nat} {listed : Array Bool} (hS : Shut md ops K listed) {j : Nat} (hj : j ∈ Region.ready md ops listed) (hK : j < K) : Shut md ops K (listed.setIfInBounds j true) := by
  obtain ⟨hun, o, ho, hall⟩ := mem_ready.1 hj
  refine ⟨fun i oi hi hl e he hb => ?_, fun k hk => ?_⟩
  · by_cases hij : j = i
    · subst hij
      rw [ho] at hi
      obtain rfl := Option.some.inj hi
      exact getD_set_true (hall e he hb)
    · rw [getD_set_ne false hij] at hl
      exact getD_set_true (hS.1 i oi hi hl e he hb)
  · rw [getD_set_ne false (by omega)]
    exact hS.2 k hk
/-- Whatever order is picked of the first K; what is asked behind them. -/
def wpPre (P : Program) (md : Region.Mode) (ops : Array Oper) (C : World → Prop) (K : Nat) (Q : Nat → Array Bool → Act → Prop) : Nat → Array Bool → Act → Prop
  | 0, listed, a => preAll K listed = true ∧ Q 0 listed a
  | fuel + 1, listed, a => (preAll K listed = true ∧ Q (fuel + 1) listed a) ∨ (preAll K listed = false ∧ Region.ready md ops listed ≠ [] ∧ ∀ i ∈ Region.ready md ops listed, qOp P ops C i (wpPre P md ops C K Q fuel (listed.setIfInBounds i true)) a)
theorem wpAny_of_pre {K : Nat} {Q : Nat → Array Bool → Act → Prop} {Q' : Exit → Act → World → Prop} (hQ : ∀ fuel listed a w, C w → Q fuel listed a → wpAny P md ops Q' fuel listed a w) : ∀ (fuel : Nat) (listed : Array Bool) (a : Act) (w : World), C w →
    wpPre P md ops C K Q fuel listed a → wpAny P md ops Q' fuel listed a w
  | 0, _, _, _, hw, h => hQ _ _ _ _ hw h.2
  | fuel + 1, _, _, _, hw, h => by
    rcases h with h | ⟨_, hne, h⟩
    · exact hQ _ _ _ _ hw h.2
    · exact ⟨fun h0 => absurd h0 hne, fun i hi => wpOp_of_qOp hw (fun a' w' hw' => wpAny_of_pre hQ fuel _ a' w' hw') (h i hi)⟩
theorem not_pre {K : Nat} {listed : Array Bool} {i : Nat} (hi : i < K) (hun : listed.getD i true = false) : preAll K listed = false := by
  rw [Bool.eq_false_iff]
  intro h
  unfold preAll at h
  rw [List.all_eq_true] at h
  have h1 := h i (List.mem_range.2 hi)
  rcases Nat.lt_or_ge i listed.size with h' | h'
  · simp [h'] at h1 hun
    rw [h1] at hun
    cases hun
  · simp [Array.getElem?_eq_none h'] at h1
theorem wpPre_first {K : Nat} {Q : Nat → Array Bool → Act → Prop} {i : Nat} {oi : Oper} {v : Value} (hT : tailB md ops K = true) (hiK : i < K) (hi : ops[i]? = some oi) (hsel : ∀ (j : Nat) (o : Oper) cs b, ops[j]? = some o → o.op ≠ .select cs b) :
    ∀ (fuel : Nat) (listed : Array Bool) (a : Act), Shut md ops K listed →
      (∀ j oj, ops[j]? = some oj → j ≠ i → listed.getD j true = false → (∀ e ∈ oj.after, Region.binds md e = true → e.on ≠ i) → oi.apart ops oj = true) →
      i ∈ Region.ready md ops listed → YieldsIn P ops C oi v a →
      wpPre P md ops C K Q fuel (listed.setIfInBounds i true) (a.put oi.dst v) → wpPre P md ops C K Q (fuel + 1) listed a := by
  intro fuel
  induction fuel with
  | zero =>
    intro listed a hS _ hr hy H
    have hun := (mem_ready.1 hr).1
    refine .inr ⟨not_pre hiK hun, fun h => (by rw [h] at hr; cases hr), fun j hj => ?_⟩
    by_cases hji : j = i
    · subst hji; exact hy.qOp hi H
    · have hjun := (mem_ready.1 hj).1
      have hjK : j < K := by
        rcases Nat.lt_or_ge j K with h | h
        · exact h
        · have := tail_waits hT hS hj h
          rw [not_pre hiK hun] at this
          cases this
      have := H.1
      rw [not_pre hjK (by rw [getD_set_ne true (Ne.symm hji)]; exact hjun)] at this
      cases this
  | succ fuel ih =>
    intro listed a hS hfree hr hy H
    have hun := (mem_ready.1 hr).1
    refine .inr ⟨not_pre hiK hun, fun h => (by rw [h] at hr; cases hr), fun j hj => ?_⟩
    by_cases hji : j = i
    · subst hji; exact hy.qOp hi H
    · have hjun' := (mem_ready.1 hj).1
      have hjK : j < K := by
        rcases Nat.lt_or_ge j K with h | h
        · exact h
        · have := tail_waits hT hS hj h
          rw [not_pre hiK hun] at this
          cases this
      rcases H with H | H
      · have := H.1
        rw [not_pre hjK (by rw [getD_set_ne true (Ne.symm hji)]; exact hjun')] at this
        cases this
      · have h1 := H.2.2 j (ready_mono hj hji)
        obtain ⟨hjun, oj, hoj, hall⟩ := mem_ready.1 hj
        have hnot : ∀ e ∈ oj.after, Region.binds md e = true → e.on ≠ i := fun e he hb heq => by
          have h1 := hall e he hb
          have h0 := (mem_ready.1 hr).1
          rw [heq] at h1
          rcases Nat.lt_or_ge i listed.size with h' | h'
          · simp [h'] at h0 h1; rw [h0] at h1; cases h1
          · simp [Array.getElem?_eq_none h'] at h1
        have h2 := qOp_put hoj (hfree j oj hoj hji hjun hnot) (fun cs b => hsel i oi cs b hi) (fun cs b => hsel j oj cs b hoj) hy h1
        have hfree' : ∀ k ok, ops[k]? = some ok → k ≠ i → (listed.setIfInBounds j true).getD k true = false →
            (∀ e ∈ ok.after, Region.binds md e = true → e.on ≠ i) → oi.apart ops ok = true := fun k ok hk hki hun hno => by
          refine hfree k ok hk hki ?_ hno
          by_cases hjk : j = k
          · subst hjk; exact hjun
          · rw [getD_set_ne true hjk] at hun; exact hun
        refine qOp_mono (fun a' h3 => ih (listed.setIfInBounds j true) a' (hS.add hj hjK) hfree' (ready_mono hr (Ne.symm hji)) h3.1 ?_) h2
        rw [Array.setIfInBounds_comm _ _ hji]
        exact h3.2
/-- The first K, in the order of the text. -/
def preFrom (md : Region.Mode) (ops : Array Oper) (K : Nat) : Nat → Nat → Array Bool → Bool
  | 0, _, listed => preAll K listed
  | n + 1, k, listed => (Region.ready md ops listed).contains k && Region.free md ops listed k && preFrom md ops K n (k + 1) (listed.setIfInBounds k true)
/-- What is listed behind them. -/
def preEnd : Nat → Nat → Array Bool → Array Bool
  | 0, _, listed => listed
  | n + 1, k, listed => preEnd n (k + 1) (listed.setIfInBounds k true)
theorem wpPre_lex {K : Nat} {Q : Nat → Array Bool → Act → Prop} (m : Nat) (hs : Region.noSelect ops = true) (hT : tailB md ops K = true) : ∀ (l : List Oper) (k : Nat) (listed : Array Bool) (a : Act), k + l.length = K → (∀ j, j < l.length → l[j]? = ops[k + j]?) → Shut md ops K listed →
    preFrom md ops K l.length k listed = true → wpQuiet P ops C (Q m (preEnd l.length k listed)) l a → wpPre P md ops C K Q (l.length + m) listed a
  | [], _, _, _, _, _, _, hB, h => by
    rw [List.length_nil, Nat.zero_add]
    cases m with
    | zero => exact ⟨hB, h⟩
    | succ m => exact .inl ⟨hB, h⟩
  | o :: l, k, listed, a, hk, hl, hS, hB, h => by
    rw [List.length_cons] at hk
    have h0 : ops[k]? = some o := by simpa using (hl 0 (by simp)).symm
    simp only [List.length_cons, preFrom, Bool.and_eq_true] at hB
    obtain ⟨⟨hr, hf⟩, hB'⟩ := hB
    have hr' : k ∈ Region.ready md ops listed := by simpa using hr
    have hst : qOp P ops C k (wpQuiet P ops C (Q m (preEnd (l.length + 1) k listed)) l) a := by unfold qOp; simp only [h0]; exact h
    obtain ⟨v, hy, hK⟩ := yieldsIn_of_qOp h0 hst
    have e : (o :: l).length + m = (l.length + m) + 1 := by rw [List.length_cons]; omega
    rw [e]
    exact wpPre_first hT (by omega) h0 (Region.noSelect_spec hs) (l.length + m) listed a hS (Region.free_spec h0 hf) hr' hy
      (wpPre_lex m hs hT l (k + 1) _ _ (by omega) (fun j hj => by have := hl (j + 1) (by rw [List.length_cons]; omega); simpa [Nat.add_assoc, Nat.add_comm 1 j] using this) (hS.add hr' (by omega)) hB' hK)
theorem shut_none (md : Region.Mode) (ops : Array Oper) (K n : Nat) : Shut md ops K (Array.replicate n false) := by
  have h0 : ∀ i : Nat, (Array.replicate n false).getD i false = false := fun i => by
    rcases Nat.lt_or_ge i n with h | h
    · simp [h]
    · simp [h]
  exact ⟨fun i o _ hl => (by rw [h0] at hl; cases hl), fun j _ => h0 j⟩
end
theorem wp_region_pre {P : Program} {id : Nat} {Q : Exit → Act → World → Prop} {a : Act} {w : World} {l : List Oper} (N K m : Nat) (L : Array Bool) (hm : P.follows .mixedOrders = true) (hs : Region.noSelect l.toArray = true) (hT : tailB .any l.toArray K = true) (hP : preFrom .any l.toArray K K 0 (Array.replicate l.toArray.size false) = true) (hL : preEnd K 0 (Array.replicate l.toArray.size false) = L) (hsz : l.length = K + m)
    (h : wpQuiet P l.toArray (fun w' => ∃ d : Grown N w, w' = d.w) (fun a' => ∀ w', (∃ d : Grown N w, w' = d.w) → wpAny P .any l.toArray Q m L a' w') (l.take K) a) : (Code.region id l.toArray true).wp P Q a w := by
  refine wp_region_any hm ?_
  have hlen : (l.take K).length = K := by rw [List.length_take]; omega
  have := wpPre_lex (P := P) (md := .any) (ops := l.toArray) (C := fun w' => ∃ d : Grown N w, w' = d.w) (K := K) (Q := fun fuel listed a' => ∀ w', (∃ d : Grown N w, w' = d.w) → wpAny P .any l.toArray Q fuel listed a' w') m hs hT (l.take K) 0 (Array.replicate l.toArray.size false) a (by rw [hlen]; omega) (fun j hj => by
    rw [hlen] at hj
    rw [Nat.zero_add, List.getElem?_take_of_lt hj]
    simp) (shut_none _ _ _ _) (by rw [hlen]; exact hP) (by rw [hlen, hL]; exact h)
  rw [hlen] at this
  have e : l.toArray.size = K + m := by rw [List.size_toArray]; exact hsz
  have hfin := wpAny_of_pre (Q' := Q) (fun fuel listed a w' hw hq => hq w' hw) (K + m) (Array.replicate l.toArray.size false) a w.drew ⟨⟨w.drew, (Below.refl N w).drew⟩, rfl⟩ this
  rw [← e] at hfin
  exact hfin
end Gr
end Go.Proofs.Ytnihoabminnbcaa
namespace Go.Proofs.Ytnihoabminnbcaa
namespace Sv
/-- A link, from a vertex to a vertex. -/
structure Lk where
  f : Nat
  t : Nat
def Lk.flip (x : Lk) : Lk := ⟨x.t, x.f⟩
/-- A vertex, or a ring. -/
structure Nd where
  ring : List Nat
  links : List Lk
  base : Nat
  z : Int
  up : Int
  gone : Bool
def nd0 : Nd := ⟨[], [], 0, 0, -1, false⟩
def nd (N : List Nd) (v : Nat) : Nd := N.getD v nd0
def upA (N : List Nd) (v : Nat) : Int := (nd N v).up
/-- The top of a node. -/
def top (N : List Nd) (v : Nat) : Nat :=
  if _h : (v : Int) < upA N v ∧ upA N v < (N.length : Int) then top N (upA N v).toNat else v
termination_by N.length - v
decreasing_by omega
/-- Whether v lies within x. -/
def win (N : List Nd) (v x : Nat) : Bool :=
  if v = x then true else if _h : (v : Int) < upA N v ∧ upA N v < (N.length : Int) then win N (upA N v).toNat x else false
termination_by N.length - v
decreasing_by omega
/-- Ways up grow. -/
def Ups (N : List Nd) : Prop := ∀ v, v < N.length → upA N v = -1 ∨ ((v : Int) < upA N v ∧ upA N v < (N.length : Int))
theorem top_up {N : List Nd} {v : Nat} (hU : Ups N) (hv : v < N.length) (h : 0 ≤ upA N v) : top N v = top N (upA N v).toNat ∧ (upA N v).toNat < N.length ∧ v < (upA N v).toNat := by
  have h1 : (v : Int) < upA N v ∧ upA N v < (N.length : Int) := by rcases hU v hv with h2 | h2 <;> omega
  refine ⟨?_, by omega, by omega⟩
  rw [top, dif_pos h1]
theorem top_self {N : List Nd} {v : Nat} (h : upA N v < 0) : top N v = v := by
  rw [top, dif_neg (by omega)]
theorem win_self (N : List Nd) (v : Nat) : win N v v = true := by rw [win, if_pos rfl]
theorem win_up {N : List Nd} {v x : Nat} (hU : Ups N) (hv : v < N.length) (h : 0 ≤ upA N v) (hx : v ≠ x) : win N v x = win N (upA N v).toNat x := by
  have h1 : (v : Int) < upA N v ∧ upA N v < (N.length : Int) := by rcases hU v hv with h2 | h2 <;> omega
  rw [win, if_neg hx, dif_pos h1]
theorem win_no {N : List Nd} {v x : Nat} (h : upA N v < 0) (hx : v ≠ x) : win N v x = false := by
  rw [win, if_neg hx, dif_neg (by omega)]
/-- By the way up. -/
theorem up_induct {N : List Nd} (hU : Ups N) {P : Nat → Prop} (h0 : ∀ v, v < N.length → upA N v < 0 → P v) (h1 : ∀ v, v < N.length → 0 ≤ upA N v → (upA N v).toNat < N.length → v < (upA N v).toNat → P (upA N v).toNat → P v) : ∀ v, v < N.length → P v := by
  have key : ∀ k v, N.length - v ≤ k → v < N.length → P v := by
    intro k
    induction k with
    | zero => intro v hk hv; omega
    | succ k ih =>
      intro v hk hv
      rcases hU v hv with h | h
      · exact h0 v hv (by omega)
      · exact h1 v hv (by omega) (by omega) (by omega) (ih _ (by omega) (by omega))
  exact fun v hv => key _ v (Nat.le_refl _) hv
theorem top_spec {N : List Nd} (hU : Ups N) : ∀ v, v < N.length → top N v < N.length ∧ upA N (top N v) < 0 ∧ v ≤ top N v := by
  refine up_induct hU (fun v hv h => ?_) (fun v hv h h2 h3 ih => ?_)
  · rw [top_self h]; exact ⟨hv, h, Nat.le_refl _⟩
  · rw [(top_up hU hv h).1]; exact ⟨ih.1, ih.2.1, by omega⟩
theorem win_top {N : List Nd} (hU : Ups N) : ∀ v, v < N.length → win N v (top N v) = true := by
  refine up_induct hU (fun v hv h => ?_) (fun v hv h h2 h3 ih => ?_)
  · rw [top_self h]; exact win_self N v
  · rw [(top_up hU hv h).1]
    have h4 := (top_spec hU _ h2).2.2
    rw [win_up hU hv h (by omega)]; exact ih
/-- What lies within x has x's top. -/
theorem top_of_win {N : List Nd} (hU : Ups N) {x : Nat} : ∀ v, v < N.length → win N v x = true → top N v = top N x := by
  refine up_induct hU (fun v hv h hw => ?_) (fun v hv h h2 h3 ih hw => ?_)
  · by_cases hx : v = x
    · rw [hx]
    · rw [win_no h hx] at hw; cases hw
  · by_cases hx : v = x
    · rw [hx]
    · rw [win_up hU hv h hx] at hw
      rw [(top_up hU hv h).1]; exact ih hw
/-- Within a top: it is the top. -/
theorem win_is_top {N : List Nd} (hU : Ups N) {v x : Nat} (hv : v < N.length) (hx : upA N x < 0) (h : win N v x = true) : top N v = x := by
  rw [top_of_win hU v hv h, top_self hx]
theorem win_iff_top {N : List Nd} (hU : Ups N) {v x : Nat} (hv : v < N.length) (hx : upA N x < 0) : win N v x = true ↔ top N v = x :=
  ⟨win_is_top hU hv hx, fun h => by rw [← h]; exact win_top hU v hv⟩
/-! ### A ring is made of tops -/
/-- The nodes with other ups. -/
def setUp (N : List Nd) (v : Nat) (u : Int) : List Nd := N.set v { nd N v with up := u }
def setUps (N : List Nd) (L : List Nat) (u : Int) : List Nd := L.foldl (fun N v => setUp N v u) N
theorem nd_set {N : List Nd} {v : Nat} {x : Nd} (hv : v < N.length) (i : Nat) : nd (N.set v x) i = if i = v then x else nd N i := by
  unfold nd
  by_cases h : i = v
  · subst h; simp [hv]
  · rw [if_neg h]
    simp [Ne.symm h]
theorem setUp_length (N : List Nd) (v : Nat) (u : Int) : (setUp N v u).length = N.length := by simp [setUp]
theorem setUps_length : ∀ (L : List Nat) (N : List Nd) (u : Int), (setUps N L u).length = N.length
  | [], _, _ => rfl
  | v :: r, N, u => by
    show (setUps (setUp N v u) r u).length = _
    rw [setUps_length r, setUp_length]
theorem setUps_nd : ∀ (L : List Nat) (N : List Nd) (u : Int), (∀ v ∈ L, v < N.length) → ∀ i, nd (setUps N L u) i = if i ∈ L then { nd N i with up := u } else nd N i
  | [], N, u, _, i => by simp [setUps]
  | v :: r, N, u, h, i => by
    have hv : v < N.length := h v (by simp)
    show nd (setUps (setUp N v u) r u) i = _
    rw [setUps_nd r _ u (fun x hx => by rw [setUp_length]; exact h x (by simp [hx]))]
    have e : nd (setUp N v u) i = if i = v then { nd N v with up := u } else nd N i := nd_set hv i
    rw [e]
    by_cases h1 : i = v
    · subst h1; simp
    · by_cases h2 : i ∈ r <;> simp [h1, h2]
theorem nd_append {N : List Nd} {x : Nd} (i : Nat) : nd (N ++ [x]) i = if i = N.length then x else nd N i := by
  unfold nd
  by_cases h : i = N.length
  · subst h; simp
  · rw [if_neg h]
    by_cases h2 : i < N.length
    · simp [List.getElem?_append_left h2]
    · have h3 : N.length ≤ i := by omega
      have h4 : (N ++ [x]).length ≤ i := by simp; omega
      simp [List.getElem?_eq_none h3, List.getElem?_eq_none h4]
/-- A new ring of tops. -/
def shrinkN (N : List Nd) (L : List Nat) (x : Nd) : List Nd := setUps (N ++ [x]) L (N.length : Int)
theorem shrink_length (N : List Nd) (L : List Nat) (x : Nd) : (shrinkN N L x).length = N.length + 1 := by
  unfold shrinkN; rw [setUps_length]; simp
theorem shrink_nd {N : List Nd} {L : List Nat} {x : Nd} (hL : ∀ v ∈ L, v < N.length) (i : Nat) : nd (shrinkN N L x) i = if i = N.length then x else if i ∈ L then { nd N i with up := (N.length : Int) } else nd N i := by
  unfold shrinkN
  rw [setUps_nd L _ _ (fun v hv => by have := hL v hv; simp; omega), nd_append]
  by_cases h : i = N.length
  · have : i ∉ L := fun h1 => by have := hL i h1; omega
    simp [h]
    intro h2; exact absurd (h ▸ h2) this
  · simp [h]
theorem shrink_up {N : List Nd} {L : List Nat} {x : Nd} (hL : ∀ v ∈ L, v < N.length) (i : Nat) : upA (shrinkN N L x) i = if i = N.length then x.up else if i ∈ L then (N.length : Int) else upA N i := by
  unfold upA
  rw [shrink_nd hL]
  split
  · rfl
  · split <;> rfl
theorem shrink_ups {N : List Nd} {L : List Nat} {x : Nd} (hU : Ups N) (hL : ∀ v ∈ L, v < N.length) (hx : x.up = -1) : Ups (shrinkN N L x) := by
  intro v hv
  rw [shrink_length] at hv ⊢
  rw [shrink_up hL]
  by_cases h : v = N.length
  · rw [if_pos h]; exact .inl hx
  · rw [if_neg h]
    by_cases h2 : v ∈ L
    · rw [if_pos h2]; exact .inr ⟨by omega, by omega⟩
    · rw [if_neg h2]
      rcases hU v (by omega) with h3 | h3
      · exact .inl h3
      · exact .inr ⟨h3.1, by omega⟩
theorem shrink_top {N : List Nd} {L : List Nat} {x : Nd} (hU : Ups N) (hL : ∀ v ∈ L, v < N.length ∧ upA N v < 0) (hx : x.up = -1) : ∀ v, v < N.length → top (shrinkN N L x) v = if top N v ∈ L then N.length else top N v := by
  have hL' : ∀ v ∈ L, v < N.length := fun v hv => (hL v hv).1
  have hU' := shrink_ups hU hL' hx (x := x)
  have hn : top (shrinkN N L x) N.length = N.length := top_self (by rw [shrink_up hL', if_pos rfl, hx]; decide)
  refine up_induct hU (fun v hv h => ?_) (fun v hv h h2 h3 ih => ?_)
  · rw [top_self h]
    by_cases h2 : v ∈ L
    · rw [if_pos h2]
      have e : upA (shrinkN N L x) v = (N.length : Int) := by rw [shrink_up hL', if_neg (by omega), if_pos h2]
      rw [(top_up hU' (by rw [shrink_length]; omega) (by rw [e]; omega)).1, e, Int.toNat_natCast, hn]
    · rw [if_neg h2]
      exact top_self (by rw [shrink_up hL', if_neg (by omega), if_neg h2]; exact h)
  · have hvL : v ∉ L := fun hm => by have := (hL v hm).2; omega
    have e : upA (shrinkN N L x) v = upA N v := by rw [shrink_up hL', if_neg (by omega), if_neg hvL]
    rw [(top_up hU' (by rw [shrink_length]; omega) (by rw [e]; omega)).1, e, ih, (top_up hU hv h).1]
theorem shrink_win {N : List Nd} {L : List Nat} {x : Nd} (hU : Ups N) (hL : ∀ v ∈ L, v < N.length ∧ upA N v < 0) (hx : x.up = -1) {y : Nat} : ∀ v, v < N.length → win N v y = true → win (shrinkN N L x) v y = true := by
  have hL' : ∀ v ∈ L, v < N.length := fun v hv => (hL v hv).1
  have hU' := shrink_ups hU hL' hx (x := x)
  refine up_induct hU (fun v hv h hw => ?_) (fun v hv h h2 h3 ih hw => ?_)
  · by_cases hy : v = y
    · rw [hy]; exact win_self _ _
    · rw [win_no h hy] at hw; cases hw
  · by_cases hy : v = y
    · rw [hy]; exact win_self _ _
    · have hvL : v ∉ L := fun hm => by have := (hL v hm).2; omega
      have e : upA (shrinkN N L x) v = upA N v := by rw [shrink_up hL', if_neg (by omega), if_neg hvL]
      rw [win_up hU hv h hy] at hw
      rw [win_up hU' (by rw [shrink_length]; omega) (by rw [e]; omega) hy, e]
      exact ih hw
/-! ### A ring is opened -/
def setGone (N : List Nd) (v : Nat) : List Nd := N.set v { nd N v with gone := true }
def openN (N : List Nd) (j : Nat) : List Nd := setGone (setUps N (nd N j).ring (-1)) j
theorem open_length (N : List Nd) (j : Nat) : (openN N j).length = N.length := by
  unfold openN setGone; rw [List.length_set, setUps_length]
theorem open_nd {N : List Nd} {j : Nat} (hj : j < N.length) (hL : ∀ v ∈ (nd N j).ring, v < j) (i : Nat) : nd (openN N j) i = if i = j then { nd N j with gone := true } else if i ∈ (nd N j).ring then { nd N i with up := -1 } else nd N i := by
  have hL' : ∀ v ∈ (nd N j).ring, v < N.length := fun v hv => by have := hL v hv; omega
  have hjL : j ∉ (nd N j).ring := fun h => by have := hL j h; omega
  unfold openN setGone
  rw [nd_set (by rw [setUps_length]; exact hj)]
  by_cases h : i = j
  · rw [if_pos h, if_pos h, setUps_nd _ _ _ hL', if_neg hjL]
  · rw [if_neg h, if_neg h, setUps_nd _ _ _ hL']
theorem open_up {N : List Nd} {j : Nat} (hj : j < N.length) (hL : ∀ v ∈ (nd N j).ring, v < j) (i : Nat) : upA (openN N j) i = if i ∈ (nd N j).ring then -1 else upA N i := by
  unfold upA
  rw [open_nd hj hL]
  by_cases h : i = j
  · have hjL : i ∉ (nd N j).ring := fun h1 => by have := hL i h1; omega
    rw [if_pos h, if_neg hjL, h]
  · rw [if_neg h]
    split <;> rfl
theorem open_ups {N : List Nd} {j : Nat} (hU : Ups N) (hj : j < N.length) (hL : ∀ v ∈ (nd N j).ring, v < j) : Ups (openN N j) := by
  intro v hv
  rw [open_length] at hv ⊢
  rw [open_up hj hL]
  split
  · exact .inl rfl
  · exact hU v hv
/-- What a node's ups are: whose up is j lies in j's ring. -/
def InRing (N : List Nd) : Prop := ∀ v, v < N.length → 0 ≤ upA N v → v ∈ (nd N (upA N v).toNat).ring
theorem open_top {N : List Nd} {j : Nat} (hU : Ups N) (hI : InRing N) (hj : j < N.length) (hjt : upA N j < 0) (hL : ∀ v ∈ (nd N j).ring, v < j ∧ upA N v = (j : Int)) : ∀ v, v < N.length →
    (top N v = j → v ≠ j → top (openN N j) v ∈ (nd N j).ring ∧ win N v (top (openN N j) v) = true) ∧ (top N v ≠ j → top (openN N j) v = top N v) := by
  have hL' : ∀ v ∈ (nd N j).ring, v < j := fun v hv => (hL v hv).1
  have hU' := open_ups hU hj hL'
  refine up_induct hU (fun v hv h => ?_) (fun v hv h h2 h3 ih => ?_)
  · rw [top_self h]
    refine ⟨fun h1 h2 => absurd h1 h2, fun h1 => ?_⟩
    refine top_self ?_
    rw [open_up hj hL']
    split
    · decide
    · exact h
  · rw [(top_up hU hv h).1]
    by_cases hr : v ∈ (nd N j).ring
    · have e : upA (openN N j) v = -1 := by rw [open_up hj hL', if_pos hr]
      have et : top (openN N j) v = v := top_self (by rw [e]; decide)
      have hup := (hL v hr).2
      refine ⟨fun _ _ => by rw [et]; exact ⟨hr, win_self _ _⟩, fun h4 => ?_⟩
      rw [hup, Int.toNat_natCast, top_self hjt] at h4
      exact absurd rfl h4
    · have e : upA (openN N j) v = upA N v := by rw [open_up hj hL', if_neg hr]
      have hne : (upA N v).toNat ≠ j := fun h4 => by
        have := hI v hv h
        rw [h4] at this
        exact hr this
      rw [(top_up hU' (by rw [open_length]; exact hv) (by rw [e]; exact h)).1, e]
      refine ⟨fun h4 _ => ?_, fun h4 => ih.2 h4⟩
      have := ih.1 h4 hne
      refine ⟨this.1, ?_⟩
      by_cases hx : v = top (openN N j) (upA N v).toNat
      · have := (hL _ this.1).1
        have h5 := (top_spec hU' (upA N v).toNat (by rw [open_length]; exact h2)).2.2
        omega
      · rw [win_up hU hv h hx]; exact this.2
theorem open_win {N : List Nd} {j : Nat} (hU : Ups N) (hj : j < N.length) (hjt : upA N j < 0) (hL : ∀ v ∈ (nd N j).ring, v < j ∧ upA N v = (j : Int)) {y : Nat} (hy : y ≠ j) : ∀ v, v < N.length → win N v y = true → win (openN N j) v y = true := by
  have hL' : ∀ v ∈ (nd N j).ring, v < j := fun v hv => (hL v hv).1
  have hU' := open_ups hU hj hL'
  refine up_induct hU (fun v hv h hw => ?_) (fun v hv h h2 h3 ih hw => ?_)
  · by_cases hx : v = y
    · rw [hx]; exact win_self _ _
    · rw [win_no h hx] at hw; cases hw
  · by_cases hx : v = y
    · rw [hx]; exact win_self _ _
    · rw [win_up hU hv h hx] at hw
      by_cases hr : v ∈ (nd N j).ring
      · have hup := (hL v hr).2
        rw [hup, Int.toNat_natCast] at hw
        rw [win_no hjt (fun e => hy e.symm)] at hw
        cases hw
      · have e : upA (openN N j) v = upA N v := by rw [open_up hj hL', if_neg hr]
        rw [win_up hU' (by rw [open_length]; exact hv) (by rw [e]; exact h) hx, e]
        exact ih hw
/-- A ring's member that is opened: what lies within it has it as its top. -/
theorem open_top_of {N : List Nd} {j x : Nat} (hU : Ups N) (hj : j < N.length) (hjt : upA N j < 0) (hL : ∀ v ∈ (nd N j).ring, v < j ∧ upA N v = (j : Int)) (hx : x ∈ (nd N j).ring) {v : Nat} (hv : v < N.length) (hw : win N v x = true) : top (openN N j) v = x := by
  have hL' : ∀ v ∈ (nd N j).ring, v < j := fun v hv => (hL v hv).1
  have h1 := open_win hU hj hjt hL (y := x) (by have := (hL x hx).1; omega) v hv hw
  refine win_is_top (open_ups hU hj hL') (by rw [open_length]; exact hv) ?_ h1
  rw [open_up hj hL', if_pos hx]; decide
/-- The ends of links. -/
def ends (M : List Lk) : List Nat := M.flatMap fun x => [x.f, x.t]
theorem ends_append (A B : List Lk) : ends (A ++ B) = ends A ++ ends B := by simp [ends]
theorem ends_cons (x : Lk) (B : List Lk) : ends (x :: B) = x.f :: x.t :: ends B := rfl
theorem mem_ends {M : List Lk} {v : Nat} : v ∈ ends M ↔ ∃ x ∈ M, v = x.f ∨ v = x.t := by simp [ends]
/-- The tops of links' ends. -/
def tops (N : List Nd) (M : List Lk) : List Nat := (ends M).map (top N)
/-- What holds of a ring that stands. -/
structure RingOk (s : Nat) (N : List Nd) (k : Nat) : Prop where
  mem : ∀ x ∈ (nd N k).ring, x < k ∧ upA N x = (k : Int)
  nodup : (nd N k).ring.Nodup
  odd : (nd N k).ring.length % 2 = 1
  len : (nd N k).links.length = (nd N k).ring.length
  lk : ∀ i (h : i < (nd N k).links.length) (h1 : i < (nd N k).ring.length) (h2 : (i + 1) % (nd N k).ring.length < (nd N k).ring.length), win N (nd N k).links[i].f (nd N k).ring[i] = true ∧ win N (nd N k).links[i].t (nd N k).ring[(i + 1) % (nd N k).ring.length] = true ∧ (nd N k).links[i].f < s ∧ (nd N k).links[i].t < s
/-- What holds of the nodes and the mate edges at all times. -/
structure Inv (s : Nat) (N : List Nd) (M : List Lk) : Prop where
  ge : s ≤ N.length
  ups : Ups N
  inr : InRing N
  ali : ∀ v, v < N.length → 0 ≤ upA N v → (nd N (upA N v).toNat).gone = false ∧ s ≤ (upA N v).toNat
  gon : ∀ v, v < N.length → (nd N v).gone = true → upA N v < 0
  ver : ∀ v, v < s → (nd N v).gone = false
  bas : ∀ v, v < N.length → (nd N v).base < s
  rings : ∀ k, s ≤ k → k < N.length → (nd N k).gone = false → RingOk s N k
  fin : ∀ v ∈ ends M, v < s
  mat : (tops N M).Nodup
theorem Inv.alive {s : Nat} {N : List Nd} {M : List Lk} (h : Inv s N M) : ∀ v, v < N.length → (nd N v).gone = false → (nd N (top N v)).gone = false := by
  refine up_induct h.ups (fun v hv h1 h2 => ?_) (fun v hv h1 h2 h3 ih _ => ?_)
  · rw [top_self h1]; exact h2
  · rw [(top_up h.ups hv h1).1]; exact ih (h.ali v hv h1).1
/-- The mate edge of a top, from within it. -/
def mateOf (N : List Nd) : List Lk → Nat → Option Lk
  | [], _ => none
  | x :: r, p => if top N x.f = p then some x else if top N x.t = p then some x.flip else mateOf N r p
theorem mate_some {N : List Nd} {p : Nat} {m : Lk} : ∀ {M : List Lk}, mateOf N M p = some m → top N m.f = p ∧ (m ∈ M ∨ m.flip ∈ M)
  | [], h => by simp [mateOf] at h
  | x :: r, h => by
    rw [mateOf] at h
    split at h
    · rename_i h1
      obtain rfl := Option.some.inj h
      exact ⟨h1, .inl (by simp)⟩
    · split at h
      · rename_i h1
        obtain rfl := Option.some.inj h
        exact ⟨h1, .inr (by simp [Lk.flip])⟩
      · obtain ⟨h1, h2⟩ := mate_some h
        refine ⟨h1, h2.imp (fun h => by simp [h]) (fun h => by simp [h])⟩
theorem mate_none {N : List Nd} {p : Nat} : ∀ {M : List Lk}, mateOf N M p = none ↔ p ∉ tops N M
  | [] => by simp [mateOf, tops, ends]
  | x :: r => by
    have ih := mate_none (N := N) (p := p) (M := r)
    have e : tops N (x :: r) = top N x.f :: top N x.t :: tops N r := rfl
    rw [mateOf, e]
    by_cases h1 : top N x.f = p
    · simp [h1]
    · by_cases h2 : top N x.t = p
      · simp [h1, h2]
      · rw [if_neg h1, if_neg h2, ih]
        simp [Ne.symm h1, Ne.symm h2]
theorem flip_flip (x : Lk) : x.flip.flip = x := rfl
theorem mem_tops {N : List Nd} {M : List Lk} {x : Lk} (h : x ∈ M ∨ x.flip ∈ M) : top N x.f ∈ tops N M ∧ top N x.t ∈ tops N M := by
  have hf : x.f ∈ ends M := mem_ends.2 (h.elim (fun h => ⟨x, h, .inl rfl⟩) (fun h => ⟨_, h, .inr rfl⟩))
  have ht : x.t ∈ ends M := mem_ends.2 (h.elim (fun h => ⟨x, h, .inr rfl⟩) (fun h => ⟨_, h, .inl rfl⟩))
  exact ⟨List.mem_map_of_mem hf, List.mem_map_of_mem ht⟩
/-- A mate edge is that of both of its tops. -/
theorem mate_of {N : List Nd} {m : Lk} : ∀ {M : List Lk}, (tops N M).Nodup → (m ∈ M ∨ m.flip ∈ M) → mateOf N M (top N m.f) = some m
  | [], _, h => by simp at h
  | x :: r, hn, h => by
    have e : tops N (x :: r) = top N x.f :: top N x.t :: tops N r := rfl
    rw [e, List.nodup_cons, List.nodup_cons] at hn
    obtain ⟨n1, n2, n3⟩ := hn
    rw [List.mem_cons, not_or] at n1
    by_cases hx : m = x
    · subst hx; rw [mateOf, if_pos rfl]
    · by_cases hy : m.flip = x
      · have e1 : x.f = m.t := by rw [← hy]; rfl
        have e2 : x.t = m.f := by rw [← hy]; rfl
        rw [e1, e2] at n1
        rw [mateOf, e1, e2, if_neg n1.1, if_pos rfl, ← hy, flip_flip]
      · have hr : m ∈ r ∨ m.flip ∈ r := by
          rcases h with h | h
          · rcases List.mem_cons.1 h with h | h
            · exact absurd h hx
            · exact .inl h
          · rcases List.mem_cons.1 h with h | h
            · exact absurd h hy
            · exact .inr h
        have hm := (mem_tops (N := N) hr).1
        rw [mateOf, if_neg (fun e => n1.2 (by rw [e]; exact hm)), if_neg (fun e => n2 (by rw [e]; exact hm))]
        exact mate_of n3 hr
theorem mate_flip {N : List Nd} {M : List Lk} {p : Nat} {m : Lk} (hn : (tops N M).Nodup) (h : mateOf N M p = some m) : mateOf N M (top N m.t) = some m.flip := by
  obtain ⟨_, h2⟩ := mate_some h
  exact mate_of (m := m.flip) hn (h2.symm)
/-- The two tops of a mate edge are two. -/
theorem mate_ne {N : List Nd} {M : List Lk} {p : Nat} {m : Lk} (hn : (tops N M).Nodup) (h : mateOf N M p = some m) : top N m.t ≠ p := by
  intro e
  have h1 := mate_flip hn h
  rw [e, h] at h1
  have h2 := Option.some.inj h1
  obtain ⟨hp, hm⟩ := mate_some h
  have key : ∀ (M : List Lk) (x : Lk), (tops N M).Nodup → x ∈ M → top N x.f ≠ top N x.t := by
    intro M
    induction M with
    | nil => intro x _ hx; cases hx
    | cons y r ih =>
      intro x hn hx
      have e : tops N (y :: r) = top N y.f :: top N y.t :: tops N r := rfl
      rw [e, List.nodup_cons, List.nodup_cons] at hn
      rcases List.mem_cons.1 hx with rfl | hx
      · intro e; exact hn.1 (by rw [e]; simp)
      · exact ih x hn.2.2 hx
  rcases hm with hm | hm
  · exact key M m hn hm (by rw [hp, e])
  · exact key M m.flip hn hm (by show top N m.t = top N m.f; rw [hp, e])
/-! ### Opening -/
def baseOf (N : List Nd) (M : List Lk) (j : Nat) : Nat := match mateOf N M j with | some m => m.f | none => (nd N j).base
/-- The last place of a list at which something holds, else 0. -/
def lastAt (P : Nat → Bool) : List Nat → Nat → Nat → Nat
  | [], _, a => a
  | x :: r, i, a => lastAt P r (i + 1) (if P x = true then i else a)
theorem lastAt_spec (P : Nat → Bool) : ∀ (L : List Nat) (i a : Nat), (lastAt P L i a = a ∧ ∀ x ∈ L, P x = false) ∨ ∃ k, ∃ h : k < L.length, lastAt P L i a = i + k ∧ P L[k] = true
  | [], i, a => .inl ⟨rfl, fun x hx => by cases hx⟩
  | x :: r, i, a => by
    rw [lastAt]
    rcases lastAt_spec P r (i + 1) (if P x = true then i else a) with ⟨h1, h2⟩ | ⟨k, hk, h1, h2⟩
    · by_cases hp : P x = true
      · rw [if_pos hp] at h1 ⊢
        exact .inr ⟨0, by simp, by omega, hp⟩
      · rw [if_neg hp] at h1 ⊢
        refine .inl ⟨h1, fun y hy => ?_⟩
        rcases List.mem_cons.1 hy with rfl | hy
        · simpa using hp
        · exact h2 y hy
    · exact .inr ⟨k + 1, by simp; omega, by omega, by simpa using h2⟩
def atOf (N : List Nd) (M : List Lk) (j : Nat) : Nat := lastAt (fun x => win N (baseOf N M j) x) (nd N j).ring 0 0
/-- The mate edges within a ring that is opened. -/
def innerOf (N : List Nd) (M : List Lk) (j : Nat) : List Lk := (List.range ((nd N j).ring.length / 2)).map fun k => (nd N j).links.getD ((atOf N M j + (2 * k + 1)) % (nd N j).ring.length) ⟨0, 0⟩
def openM (N : List Nd) (M : List Lk) (j : Nat) : List Lk := M ++ innerOf N M j
theorem pairs_map {α : Type} (g : Nat → α) : ∀ h : Nat, (List.range h).flatMap (fun k => [g (2 * k + 1), g (2 * k + 2)]) = (List.range' 1 (2 * h)).map g
  | 0 => rfl
  | h + 1 => by
    rw [List.range_succ, List.flatMap_append, pairs_map g h, show 2 * (h + 1) = 2 * h + 1 + 1 by omega, List.range'_concat, List.range'_concat]
    simp
    constructor <;> congr 1 <;> omega
theorem nodup_map_of {α β : Type} {f : α → β} : ∀ {l : List α}, l.Nodup → (∀ a ∈ l, ∀ b ∈ l, f a = f b → a = b) → (l.map f).Nodup
  | [], _, _ => List.nodup_nil
  | x :: r, h, hf => by
    rw [List.nodup_cons] at h
    rw [List.map_cons, List.nodup_cons]
    refine ⟨fun hm => ?_, nodup_map_of h.2 (fun a ha b hb => hf a (by simp [ha]) b (by simp [hb]))⟩
    obtain ⟨y, hy, e⟩ := List.mem_map.1 hm
    exact h.1 (by rw [hf x (by simp) y (by simp [hy]) e.symm]; exact hy)
theorem mod_inj {n a i k : Nat} (hi : i < n) (hk : k < n) (h : (a + i) % n = (a + k) % n) : i = k := by
  have key : ∀ i k : Nat, i ≤ k → k < n → (a + i) % n = (a + k) % n → i = k := by
    intro i k hik hk h
    have h1 := Nat.div_add_mod (a + i) n
    have h2 := Nat.div_add_mod (a + k) n
    have h3 : n * ((a + i) / n) ≤ n * ((a + k) / n) := Nat.mul_le_mul_left n (Nat.div_le_div_right (by omega))
    by_cases he : (a + i) / n = (a + k) / n
    · rw [he] at h1; omega
    · have h4 : (a + i) / n + 1 ≤ (a + k) / n := by
        have := Nat.div_le_div_right (c := n) (show a + i ≤ a + k by omega)
        omega
      have h5 := Nat.mul_le_mul_left n h4
      rw [Nat.mul_add, Nat.mul_one] at h5
      omega
  rcases Nat.le_total i k with h1 | h1
  · exact key i k h1 hk h
  · exact (key k i h1 hi h.symm).symm
theorem getElem_inj_of_nodup {l : List Nat} (h : l.Nodup) {i k : Nat} (hi : i < l.length) (hk : k < l.length) (e : l[i] = l[k]) : i = k := by
  have hp := List.pairwise_iff_getElem.1 h
  rcases Nat.lt_trichotomy i k with h1 | h1 | h1
  · exact absurd e (hp i k hi hk h1)
  · exact h1
  · exact absurd e.symm (hp k i hk hi h1)
theorem getD_at {α : Type} (l : List α) (i : Nat) (d : α) (h : i < l.length) : l.getD i d = l[i] := by simp [h]
section
variable {s : Nat} {N : List Nd} {M : List Lk} {j : Nat}
/-- The ends of the inner mate edges have these tops. -/
theorem inner_tops (h : Inv s N M) (hs : s ≤ j) (hj : j < N.length) (ha : (nd N j).gone = false) (hjt : upA N j < 0) (hpos : 0 < (nd N j).ring.length) :
    (∀ v ∈ ends (innerOf N M j), v < s) ∧ (ends (innerOf N M j)).map (top (openN N j)) = (List.range' 1 (2 * ((nd N j).ring.length / 2))).map (fun i => (nd N j).ring.getD ((atOf N M j + i) % (nd N j).ring.length) 0) := by
  have R := h.rings j hs hj ha
  have hge := h.ge
  unfold innerOf
  generalize hn : (nd N j).ring.length = n at *
  generalize atOf N M j = a at *
  have key : ∀ i, (top (openN N j) ((nd N j).links.getD ((a + i) % n) ⟨0, 0⟩).f = (nd N j).ring.getD ((a + i) % n) 0 ∧ top (openN N j) ((nd N j).links.getD ((a + i) % n) ⟨0, 0⟩).t = (nd N j).ring.getD ((a + (i + 1)) % n) 0) ∧ ((nd N j).links.getD ((a + i) % n) ⟨0, 0⟩).f < s ∧ ((nd N j).links.getD ((a + i) % n) ⟨0, 0⟩).t < s := by
    intro i
    have h1 : (a + i) % n < n := Nat.mod_lt _ hpos
    have h2 : ((a + i) % n + 1) % n < n := Nat.mod_lt _ hpos
    have hl : (a + i) % n < (nd N j).links.length := by rw [R.len, hn]; exact h1
    have e2 : ((a + i) % n + 1) % n = (a + (i + 1)) % n := by rw [Nat.mod_add_mod, Nat.add_assoc]
    obtain ⟨w1, w2, f1, f2⟩ := R.lk _ hl (by omega) (by rw [hn]; exact h2)
    have g1 : (nd N j).links.getD ((a + i) % n) ⟨0, 0⟩ = (nd N j).links[(a + i) % n] := getD_at _ _ _ hl
    have g2 : (nd N j).ring.getD ((a + i) % n) 0 = (nd N j).ring[(a + i) % n]'(by omega) := getD_at _ _ _ _
    have g3 : (nd N j).ring.getD ((a + (i + 1)) % n) 0 = (nd N j).ring[((a + i) % n + 1) % n]'(by omega) := by rw [← e2]; exact getD_at _ _ _ _
    rw [g1, g2, g3]
    refine ⟨⟨open_top_of h.ups hj hjt R.mem (List.getElem_mem _) (by omega) w1, ?_⟩, f1, f2⟩
    refine open_top_of h.ups hj hjt R.mem (List.getElem_mem _) (by omega) ?_
    simpa only [hn] using w2
  constructor
  · intro v hv
    obtain ⟨x, hx, hv⟩ := mem_ends.1 hv
    obtain ⟨k, _, rfl⟩ := List.mem_map.1 hx
    have := (key (2 * k + 1)).2
    rcases hv with rfl | rfl
    · exact this.1
    · exact this.2
  · rw [← pairs_map]
    unfold ends
    rw [List.flatMap_map, List.map_flatMap]
    congr 1
    funext k
    have := (key (2 * k + 1)).1
    simp only [List.map_cons, List.map_nil]
    rw [this.1, this.2]
theorem open_inv (h : Inv s N M) (hs : s ≤ j) (hj : j < N.length) (ha : (nd N j).gone = false) (hjt : upA N j < 0) : Inv s (openN N j) (openM N M j) := by
  have R := h.rings j hs hj ha
  have hge := h.ge
  have hL' : ∀ v ∈ (nd N j).ring, v < j := fun v hv => (R.mem v hv).1
  have hU' := open_ups h.ups hj hL'
  have hpos : 0 < (nd N j).ring.length := by have := R.odd; omega
  obtain ⟨hie, hit⟩ := inner_tops h hs hj ha hjt hpos
  have hjr : j ∉ (nd N j).ring := fun h1 => by have := hL' j h1; omega
  have hnd := open_nd hj hL'
  have hupo := open_up hj hL'
  refine ⟨by rw [open_length]; exact hge, hU', ?_, ?_, ?_, ?_, ?_, ?_, ?_, ?_⟩
  · -- whose up is there lies in its ring
    intro v hv hup
    rw [open_length] at hv
    rw [hupo] at hup ⊢
    by_cases hr : v ∈ (nd N j).ring
    · rw [if_pos hr] at hup; omega
    · rw [if_neg hr] at hup ⊢
      have h1 := h.inr v hv hup
      rw [hnd]
      split
      · rename_i e; rw [e] at h1; exact absurd h1 hr
      · split
        · exact h1
        · exact h1
  · intro v hv hup
    rw [open_length] at hv
    rw [hupo] at hup ⊢
    by_cases hr : v ∈ (nd N j).ring
    · rw [if_pos hr] at hup; omega
    · rw [if_neg hr] at hup ⊢
      have h1 := h.ali v hv hup
      have h2 := h.inr v hv hup
      refine ⟨?_, h1.2⟩
      rw [hnd]
      split
      · rename_i e; rw [e] at h2; exact absurd h2 hr
      · split
        · exact h1.1
        · exact h1.1
  · intro v hv hg
    rw [open_length] at hv
    rw [hupo]
    split
    · decide
    · rename_i hr
      rw [hnd] at hg
      by_cases e : v = j
      · rw [e]; exact hjt
      · rw [if_neg e, if_neg hr] at hg
        exact h.gon v hv hg
  · intro v hv
    rw [hnd, if_neg (by omega)]
    split
    · exact h.ver v hv
    · exact h.ver v hv
  · intro v hv
    rw [open_length] at hv
    rw [hnd]
    split
    · exact h.bas j hj
    · split
      · exact h.bas v hv
      · exact h.bas v hv
  · -- rings that stand
    intro k hk1 hk2 hk3
    rw [open_length] at hk2
    have hkj : k ≠ j := fun e => by rw [hnd, if_pos e] at hk3; cases hk3
    have hg : (nd N k).gone = false := by
      rw [hnd, if_neg hkj] at hk3
      split at hk3
      · exact hk3
      · exact hk3
    have K := h.rings k hk1 hk2 hg
    have er : (nd (openN N j) k).ring = (nd N k).ring := by rw [hnd, if_neg hkj]; split <;> rfl
    have el : (nd (openN N j) k).links = (nd N k).links := by rw [hnd, if_neg hkj]; split <;> rfl
    have hno : ∀ x ∈ (nd N k).ring, x ∉ (nd N j).ring := fun x hx hx2 => by
      have h1 := (K.mem x hx).2
      have h2 := (R.mem x hx2).2
      omega
    have hxj : ∀ x ∈ (nd N k).ring, x ≠ j := fun x hx e => by
      have h1 := (K.mem x hx).2
      rw [e] at h1
      omega
    refine ⟨?_, by rw [er]; exact K.nodup, by rw [er]; exact K.odd, by rw [er, el]; exact K.len, ?_⟩
    · intro x hx
      rw [er] at hx
      have := K.mem x hx
      exact ⟨this.1, by rw [hupo, if_neg (hno x hx)]; exact this.2⟩
    · simp only [er, el]
      intro i i0 i1 i2
      obtain ⟨w1, w2, f1, f2⟩ := K.lk i i0 i1 i2
      exact ⟨open_win h.ups hj hjt R.mem (hxj _ (List.getElem_mem _)) _ (by omega) w1, open_win h.ups hj hjt R.mem (hxj _ (List.getElem_mem _)) _ (by omega) w2, f1, f2⟩
  · intro v hv
    unfold openM at hv
    rw [ends_append, List.mem_append] at hv
    exact hv.elim (h.fin v) (hie v)
  · -- the mate edges
    have hOT := open_top h.ups h.inr hj hjt R.mem
    have hout : ∀ v, v < N.length → top N v ∉ (nd N j).ring := fun v hv hm => by
      have h1 := (R.mem _ hm).2
      have h2 := (top_spec h.ups v hv).2.1
      omega
    unfold tops openM
    rw [ends_append, List.map_append, List.nodup_append, hit]
    have hvj : ∀ v ∈ ends M, v < N.length ∧ v ≠ j := fun v hv => by have := h.fin v hv; omega
    refine ⟨?_, ?_, ?_⟩
    · have hmat := h.mat
      unfold tops at hmat
      rw [List.nodup_iff_pairwise_ne, List.pairwise_map] at hmat ⊢
      refine List.Pairwise.imp_of_mem ?_ hmat
      intro v w hv hw hne
      obtain ⟨hv1, hv2⟩ := hvj v hv
      obtain ⟨hw1, hw2⟩ := hvj w hw
      by_cases ev : top N v = j
      · have ew : top N w ≠ j := fun e => hne (by rw [ev, e])
        have h1 := ((hOT v hv1).1 ev hv2).1
        have h2 := (hOT w hw1).2 ew
        intro e
        rw [h2] at e
        exact hout w hw1 (by rw [← e]; exact h1)
      · have h1 := (hOT v hv1).2 ev
        by_cases ew : top N w = j
        · have h2 := ((hOT w hw1).1 ew hw2).1
          intro e
          rw [h1] at e
          exact hout v hv1 (by rw [e]; exact h2)
        · rw [h1, (hOT w hw1).2 ew]; exact hne
    · refine nodup_map_of (List.nodup_range' (step := 1)) (fun i hi k hk e => ?_)
      rw [List.mem_range'_1] at hi hk
      have b1 : (atOf N M j + i) % (nd N j).ring.length < (nd N j).ring.length := Nat.mod_lt _ hpos
      have b2 : (atOf N M j + k) % (nd N j).ring.length < (nd N j).ring.length := Nat.mod_lt _ hpos
      have e1 : (nd N j).ring[(atOf N M j + i) % (nd N j).ring.length] = (nd N j).ring[(atOf N M j + k) % (nd N j).ring.length] := by
        simpa [List.getElem?_eq_getElem b1, List.getElem?_eq_getElem b2] using e
      have := getElem_inj_of_nodup R.nodup b1 b2 e1
      have ho := R.odd
      exact mod_inj (by omega) (by omega) this
    · intro x hx y hy e
      subst e
      obtain ⟨v, hv, rfl⟩ := List.mem_map.1 hx
      obtain ⟨i, hi, e⟩ := List.mem_map.1 hy
      rw [List.mem_range'_1] at hi
      obtain ⟨hv1, hv2⟩ := hvj v hv
      have ho := R.odd
      have b1 : (atOf N M j + i) % (nd N j).ring.length < (nd N j).ring.length := Nat.mod_lt _ hpos
      have e1 : (nd N j).ring.getD ((atOf N M j + i) % (nd N j).ring.length) 0 = (nd N j).ring[(atOf N M j + i) % (nd N j).ring.length] := by simp [List.getElem?_eq_getElem b1]
      rw [e1] at e
      by_cases ev : top N v = j
      · have h1 := (hOT v hv1).1 ev hv2
        -- v is the base
        obtain ⟨m, hm, hmv⟩ : ∃ m : Lk, (m ∈ M ∨ m.flip ∈ M) ∧ m.f = v := by
          obtain ⟨y, hy, h2⟩ := mem_ends.1 hv
          rcases h2 with h2 | h2
          · exact ⟨y, .inl hy, h2.symm⟩
          · exact ⟨y.flip, .inr hy, h2.symm⟩
        have h3 := mate_of h.mat hm
        rw [hmv, ev] at h3
        have hb : baseOf N M j = v := by unfold baseOf; rw [h3]; exact hmv
        have hat : ∃ k, ∃ hk : k < (nd N j).ring.length, atOf N M j = k ∧ win N v (nd N j).ring[k] = true := by
          unfold atOf
          rw [hb]
          rcases lastAt_spec (fun x => win N v x) (nd N j).ring 0 0 with ⟨_, h5⟩ | ⟨k, hk, h5, h6⟩
          · have := h5 _ h1.1
            rw [h1.2] at this
            cases this
          · exact ⟨k, hk, by omega, h6⟩
        obtain ⟨k, hk, h5, h6⟩ := hat
        have h7 := open_top_of h.ups hj hjt R.mem (List.getElem_mem hk) hv1 h6
        rw [h7] at e
        have h8 := getElem_inj_of_nodup R.nodup b1 hk e
        rw [h5] at h8
        have h9 : (k + i) % (nd N j).ring.length = (k + 0) % (nd N j).ring.length := by rw [h8, Nat.add_zero, Nat.mod_eq_of_lt hk]
        have := mod_inj (by omega) (by omega) h9
        omega
      · rw [(hOT v hv1).2 ev] at e
        exact hout v hv1 (by rw [← e]; exact List.getElem_mem _)
end
end Sv
end Go.Proofs.Ytnihoabminnbcaa
namespace Go.Proofs.Ytnihoabminnbcaa
namespace Gr
open Go.RowKit
theorem wpAny_grown {P : Program} {md : Region.Mode} {ops : Array Oper} {Q : Exit → Act → World → Prop} {a : Act} {w : World} {listed : Array Bool} {fuel : Nat} (N k : Nat) (l : List Oper) (hl : l = ops.toList.drop k) (hf : fuel = l.length) (hs : Region.noSelect ops = true) (hB : Region.lexFrom md ops l.length k listed = true)
    (h : wpQuiet P ops (fun w' => ∃ d : Grown N w, w' = d.w) (fun a' => ∀ w', (∃ d : Grown N w, w' = d.w) → Q .normal a' w') l a) : wpAny P md ops Q fuel listed a w := by
  subst hf
  refine wpAny_of_quiet (C := fun w' => ∃ d : Grown N w, w' = d.w) (Q := fun a' => ∀ w', (∃ d : Grown N w, w' = d.w) → Q .normal a' w') (fun _ w' hw h => h w' hw) _ _ _ _ ⟨⟨w, Below.refl _ _⟩, rfl⟩ ?_
  refine wpAnyQ_lex hs l k listed a (fun j => ?_) hB h
  subst hl
  rw [List.getElem?_drop, Array.getElem?_toList]
/-- Rows of two kinds lie in two blocks. -/
theorem own_apart {W : World} {b b' e e' z z' n n' : Nat} {v v' : Value} {xs xs' : List Value} (h : W.ownsRow b e z v n xs) (h' : W.ownsRow b' e' z' v' n' xs') (hne : e ≠ e') : ∀ g, v.ownBlock = some g → v'.ownBlock ≠ some g := by
  intro g hg hg'
  rcases h.2 with ⟨rfl, _⟩ | ⟨k, cap, cur, rfl, _, hk, _⟩
  · simp [Value.ownBlock] at hg
  · rcases h'.2 with ⟨rfl, _⟩ | ⟨k', cap', cur', rfl, _, hk', _⟩
    · simp [Value.ownBlock] at hg'
    · have e1 : k = g := Option.some.inj hg
      have e2 : k' = g := Option.some.inj hg'
      subst e1
      subst e2
      rw [hk] at hk'
      simp at hk'
      exact hne hk'.2
end Gr
end Go.Proofs.Ytnihoabminnbcaa
