/-
 LkB3, LkB5, LkTBC.
-/
import Derived.Test.YtnihoabminnbcaaJ20
import Derived.Deep.LoopGhost
import Derived.Deep.DeepCutAuto
import Derived.Deep.DeepFit
import Derived.Deep.RegionLaw
import Derived.Test.YtnihoabminnbcaaJ13
namespace Go.Proofs.Ytnihoabminnbcaa
namespace Lk
open Go.RowKit
open Gr (Blk Kept EdgeI GrAt GBox Fresh below_new setMany setMany_all below_setCells InOwn InAt own_below own_lower intsV intsAt_of_own graphOk implGraph_gen)
/-- The load of a whole array, as one step of a region that draws. -/
theorem step_load_row {P : Program} {ops : Array Oper} {o : Oper} {a : Act} {w : World} {K : Act → World → Prop} {Q : Exit → Act → World → Prop} {E : Prop} (hgd : o.guard = none) (ty : TypeId) (x : Operand) (ho : o.op = .load ty x)
    (b off : Nat) (hx : a.eval x = .pointer (some ⟨b, off, none⟩)) (cs : List Value) (d : TypeDesc) (hc : w.rangeAt b off cs) (hu : P.underlying ty = some d) (hd : d.isRow = true) (hi : (P.info? ty).map (·.size) = some cs.length)
    (h : K (a.put o.dst (.agg cs.toArray)) w) : if Region.wanted o (yielded ops a.tmps) = true then Oper.wp P o a w K Q else E := by
  rw [if_pos (by simp [Region.wanted, hgd])]
  exact wp_load_mid ty x ho b off hx cs d hc hu hd hi h
/-- The store of a whole array. -/
theorem step_store_row {P : Program} {ops : Array Oper} {o : Oper} {a : Act} {w : World} {K : Act → World → Prop} {Q : Exit → Act → World → Prop} {E : Prop} (hgd : o.guard = none) (ty : TypeId) (x y : Operand) (ho : o.op = .store ty x y)
    (g : Nat) (C Z : Array Value) (t : TypeId) (hx : a.eval x = .pointer (some ⟨g, 0, none⟩)) (hy : a.eval y = .agg C) (hb : Blk w g Z t) (hs : Z.size = C.size) (hi : (P.info? ty).map (·.size) = some C.size) (h1 : C.all (·.oneCell') = true)
    (h : ∀ w', Blk w' g C t → Kept (fun i => i = g) w w' → (∀ i C' t', t' ≠ t → Blk w i C' t' → Blk w' i C' t') → K (a.put o.dst undef) w') : if Region.wanted o (yielded ops a.tmps) = true then Oper.wp P o a w K Q else E := by
  rw [if_pos (by simp [Region.wanted, hgd])]
  refine wp_store_mid ty x y ho g 0 C hx hy (hb.there 0 _ (by rw [hs]; omega)) hi h1 (h _ ?_ ?_ ?_)
  · have h2 := Gr.Blk.many C.toList 0 hb
    rwa [setMany_all _ _ hs] at h2
  · have hB := below_setCells 0 g (Nat.zero_le _) C.toList 0 w w (Below.refl 0 w)
    exact ⟨hB.os, hB.tape, hB.output, hB.size, fun i _ hn => many_block C.toList 0 w i hn⟩
  · intro i C' t' hne hbi
    have hig : ¬ i = g := fun e => by
      subst e
      unfold Blk at hbi hb
      rw [hbi] at hb
      simp at hb
      exact hne hb.2
    unfold Blk
    rw [many_block C.toList 0 w i hig]
    exact hbi
where
  many_block {g : Nat} : ∀ (vs : List Value) (o : Nat) (W : World) (i : Nat), ¬ i = g → (W.setCells g o vs).heap[i]? = W.heap[i]?
    | [], _, _, _, _ => rfl
    | v :: r, o, W, i, hn => by
      rw [World.setCells, many_block r (o + 1) _ i hn]
      exact Below.heap_setCell _ _ _ _ hn
/-- What Blocks tells. -/
def blocksR (s : Int) (Q : List EdgeI) : List Int := if graphOk s Q = true then setTo (bitF (blkX (lnkF Q) s.toNat (2 ^ s.toNat - 1))) s.toNat else []
theorem blocks_len (s : Int) (Q : List EdgeI) : (blocksR s Q).length ≤ 9 := by
  unfold blocksR
  split
  · rename_i h
    have := ok_size h
    exact Nat.le_trans (setTo_length _ _) (by omega)
  · simp
theorem val_all (F : Nat → Nat → Bool) (n : Nat) : valB F n (allF n) = (n : Int) := by
  unfold valB
  have e : (fun v => decide (v < n) && !allF n v) = fun _ => false := by
    funext v
    unfold allF
    cases decide (v < n) <;> rfl
  rw [e, prts_none F _ _ (fun _ _ => rfl)]
  have h : ∀ k, k ≤ n → (setTo (allF n) k).length = k := fun k => by
    induction k with
    | zero => intro _; rfl
    | succ k ih =>
      intro hk
      rw [setTo_in (by unfold allF; simp; omega), List.length_append, ih (by omega)]
      rfl
  rw [h n (Nat.le_refl _)]
  simp [oddN]
theorem setTo_nine {f : Nat → Bool} {n : Nat} (hn : n ≤ 9) (h : ∀ v, f v = true → v < n) : setTo f 9 = setTo f n := by
  obtain ⟨d, hd⟩ : ∃ d, 9 = n + d := ⟨9 - n, by omega⟩
  rw [hd]
  exact setTo_low f n d (fun j h1 _ => by
    cases hj : f j
    · rfl
    · have := h j hj; omega)
end Lk
end Go.Proofs.Ytnihoabminnbcaa
namespace Go.Proofs.Ytnihoabminnbcaa
namespace Lk
open Go.RowKit
open Gr (Blk Kept EdgeI GrAt GBox below_new InOwn InAt own_below own_lower intsV intsAt_of_own info3 graphOk specGraph_any)
theorem left_setTo (f : Nat → Bool) (n : Nat) : leftF n (setTo f n) = fun v => decide (v < n) && !f v := by
  funext v
  unfold leftF
  rw [inK_setTo]
  by_cases h : v < n
  · simp [h]
  · simp [h]
theorem spec_val {n : Nat} {Q : List EdgeI} (hg : graphOk (n : Int) Q = true) (f : Nat → Bool) : ((setTo f n).length : Int) - (oddL (rowsS Q n (setTo f n)) : Int) = valB (lnkF Q) n f := by
  have e := rows_same hg (setTo f n)
  rw [Int.toNat_natCast] at e
  rw [e, odd_same]
  unfold valB partsR
  rw [Int.toNat_natCast, left_setTo]
theorem setTo_bit0 (n : Nat) : setTo (bitF 0) n = [] := by
  unfold setTo
  have : (List.range n).filter (bitF 0) = [] := List.filter_eq_nil_iff.2 (fun v _ => by unfold bitF; simp)
  rw [this]
  rfl
theorem blkX_take {F : Nat → Nat → Bool} {n y : Nat} (h : bet F n (bitF (y + 1)) (bitF (blkX F n y)) = true) : blkX F n (y + 1) = y + 1 := by
  show (if _ then _ else _) = _
  rw [if_pos h]
theorem blkX_keep {F : Nat → Nat → Bool} {n y : Nat} (h : bet F n (bitF (y + 1)) (bitF (blkX F n y)) = false) : blkX F n (y + 1) = blkX F n y := by
  show (if _ then _ else _) = _
  rw [if_neg (by rw [h]; simp)]
theorem bit_div (x k : Nat) : x / 2 ^ k / 2 = x / 2 ^ (k + 1) := by rw [Nat.div_div_eq_div_mul, Nat.pow_succ]
theorem oddR_le (Q : List EdgeI) (n : Nat) (K : List Int) : oddL (rowsS Q n K) ≤ n := Nat.le_trans (oddL_le _) (rowsS_length Q n K)
end Lk
end Go.Proofs.Ytnihoabminnbcaa
namespace Go.Proofs.Ytnihoabminnbcaa
namespace Lk
open Gr (EdgeI CoupleI graphOk hit atFrom matchOk mFrom match_pm edgeN_at)
theorem countP_below (f : Nat → Bool) (n : Nat) : ∀ k, (List.range (n + k)).countP (fun w => decide (w < n) && f w) = (List.range n).countP f
  | 0 => List.countP_congr (fun v hv => by have := List.mem_range.1 hv; simp at this; simp [this])
  | k + 1 => by
    rw [show n + (k + 1) = (n + k) + 1 from rfl, List.range_succ, List.countP_append, countP_below f n k]
    have h0 : decide (n + k < n) = false := decide_eq_false (by omega)
    simp [h0]
theorem setTo_cnt (f : Nat → Bool) (n : Nat) (hn : n ≤ 9) : (setTo f n).length = cnt (fun w => decide (w < n) && f w) := by
  obtain ⟨k, e⟩ : ∃ k, 9 = n + k := ⟨9 - n, by omega⟩
  unfold cnt setTo
  rw [e, countP_below f n k, List.length_map, List.countP_eq_length_filter]
theorem cnt_below (n : Nat) (hn : n ≤ 9) : cnt (fun v => decide (v < n)) = n := by
  have h := setTo_cnt (fun _ => true) n hn
  have e1 : (setTo (fun _ => true) n).length = n := by
    unfold setTo
    rw [List.length_map, List.filter_eq_self.2 (fun _ _ => rfl), List.length_range]
  have e2 : cnt (fun w => decide (w < n) && true) = cnt (fun v => decide (v < n)) := cnt_eq (fun j _ => by simp)
  have h' : (setTo (fun _ => true) n).length = cnt (fun w => decide (w < n) && true) := h
  omega
section
variable {s : Int} {Q : List EdgeI}
/-- The turn of couples. -/
def turnC : List CoupleI → Nat → Nat
  | [] => fun v => v
  | x :: r => joinU (turnC r) x.A.toNat x.B.toNat
theorem turnC_out : ∀ (M : List CoupleI) (v : Nat), (∀ x ∈ M, v ≠ x.A.toNat ∧ v ≠ x.B.toNat) → turnC M v = v
  | [], _, _ => rfl
  | x :: r, v, h => by
    have h1 := h x List.mem_cons_self
    show joinU (turnC r) x.A.toNat x.B.toNat v = v
    unfold joinU
    rw [if_neg h1.1, if_neg h1.2]
    exact turnC_out r v (fun y hy => h y (List.mem_cons_of_mem _ hy))
/-- The first n vertices. -/
def lowF (n : Nat) : Nat → Bool := fun v => decide (v < n)
theorem edge_of (hg : graphOk s Q = true) {a b : Int} (ha : 0 ≤ a) (hb : 0 ≤ b) : lnkF Q a.toNat b.toNat = true ↔ 0 ≤ atFrom a b 0 Q := by
  rw [lnkF_any (apart_of hg), Int.toNat_of_nonneg ha, Int.toNat_of_nonneg hb]
  constructor
  · intro h
    have key : ∀ (L : List EdgeI) (k : Nat), L.any (hit a b) = true → 0 ≤ atFrom a b k L := by
      intro L
      induction L with
      | nil => intro k h; cases h
      | cons e r ih =>
        intro k h
        unfold atFrom
        by_cases he : hit a b e = true
        · rw [if_pos he]; omega
        · rw [if_neg he]
          rw [List.any_cons] at h
          simp only [he, Bool.false_or] at h
          exact ih (k + 1) h
    exact key Q 0 h
  · intro h
    obtain ⟨i, hi, _, _, hh⟩ := edgeN_at h
    exact List.any_eq_true.2 ⟨Q[i], List.getElem_mem hi, hh⟩
theorem turnC_mt (hg : graphOk s Q = true) : ∀ (M : List CoupleI), (∀ x ∈ M, 0 ≤ x.A ∧ x.A < x.B ∧ x.B < s ∧ 0 ≤ atFrom x.A x.B 0 Q) → M.Pairwise (fun x y => x.A < y.A ∧ y.A ≠ x.B ∧ y.B ≠ x.B) →
    Mt (lnkF Q) (lowF s.toNat) (turnC M) ∧ dfc (lowF s.toNat) (turnC M) + 2 * M.length = s.toNat
  | [], _, _ => by
    obtain ⟨s0, s9⟩ := ok_size hg
    refine ⟨mt_id _ _, ?_⟩
    have h : dfc (lowF s.toNat) (turnC []) = cnt (fun v => decide (v < s.toNat)) := cnt_eq (fun j _ => by simp [freeQ, lowF, turnC])
    rw [h, cnt_below _ (by omega)]
    rfl
  | x :: r, h, hp => by
    obtain ⟨s0, s9⟩ := ok_size hg
    rw [List.pairwise_cons] at hp
    obtain ⟨hm, hd⟩ := turnC_mt hg r (fun y hy => h y (List.mem_cons_of_mem _ hy)) hp.2
    obtain ⟨a0, ab, bs, hE⟩ := h x List.mem_cons_self
    have oA : turnC r x.A.toNat = x.A.toNat := turnC_out r _ (fun y hy => by
      have h1 := hp.1 y hy
      obtain ⟨b0, b1, _⟩ := h y (List.mem_cons_of_mem _ hy)
      omega)
    have oB : turnC r x.B.toNat = x.B.toNat := turnC_out r _ (fun y hy => by
      have h1 := hp.1 y hy
      obtain ⟨b0, b1, _⟩ := h y (List.mem_cons_of_mem _ hy)
      omega)
    have hne : x.A.toNat ≠ x.B.toNat := by omega
    have fA : lowF s.toNat x.A.toNat = true := by unfold lowF; exact decide_eq_true (by omega)
    have fB : lowF s.toNat x.B.toNat = true := by unfold lowF; exact decide_eq_true (by omega)
    refine ⟨joinU_mt (lnkF_swap (apart_of hg)) hm oA oB hne ((edge_of hg a0 (by omega)).2 hE) fA fB, ?_⟩
    have u1 := cnt_upd (freeQ (lowF s.toNat) (turnC r)) x.A.toNat (by omega) false
    have u2 := cnt_upd (fun v => if v = x.A.toNat then false else freeQ (lowF s.toNat) (turnC r) v) x.B.toNat (by omega) false
    have q1 : freeQ (lowF s.toNat) (turnC r) x.A.toNat = true := by unfold freeQ; rw [fA, oA]; simp
    have q2 : freeQ (lowF s.toNat) (turnC r) x.B.toNat = true := by unfold freeQ; rw [fB, oB]; simp
    simp only [q1, q2, if_neg hne.symm, Bool.toNat_true, Bool.toNat_false] at u1 u2
    have e : dfc (lowF s.toNat) (turnC (x :: r)) = cnt (fun v => if v = x.B.toNat then false else if v = x.A.toNat then false else freeQ (lowF s.toNat) (turnC r) v) := cnt_eq (fun j _ => by
      show (lowF s.toNat j && decide (joinU (turnC r) x.A.toNat x.B.toNat j = j)) = _
      unfold joinU
      by_cases e1 : j = x.A.toNat
      · subst e1; simp [hne, hne.symm]
      · by_cases e2 : j = x.B.toNat
        · subst e2; simp [e1, Ne.symm e1]
        · rw [if_neg e1, if_neg e2, if_neg e2, if_neg e1]; rfl)
    rw [e, List.length_cons]
    unfold dfc at hd
    omega
end
end Lk
end Go.Proofs.Ytnihoabminnbcaa
