/-
  The contract of impl.Blocks.
-/
import Derived.Test.YtejfknkcakeakaaLkB2
import Derived.Deep.LoopGhost
import Derived.Deep.DeepCutAuto
import Derived.Deep.DeepFit
import Derived.Deep.RegionLaw
namespace Go.Proofs.Ytejfknkcakeakaa
namespace Lk
open Go.RowKit
open Gr (Blk Kept EdgeI GrAt GBox Fresh below_new setMany setMany_all below_setCells InOwn InAt own_below own_lower intsV intsAt_of_own graphOk implGraph_gen)

/-- The load of a whole array, as one step of a region that draws. -/
theorem step_load_row {P : Program} {ops : Array Oper} {o : Oper} {a : Act} {w : World} {K : Act → World → Prop} {Q : Exit → Act → World → Prop} {E : Prop} (hgd : o.guard = none) (ty : TypeId) (x : Operand) (ho : o.op = .load ty x)
    (b off : Nat) (hx : a.eval x = .pointer (some ⟨b, off, none⟩)) (cs : List Value) (d : TypeDesc) (hc : w.rangeAt b off cs) (hu : P.underlying ty = some d) (hd : d.isRow = true) (hi : (P.info? ty).map (·.size) = some cs.length)
    (h : K (a.put o.dst (.agg cs.toArray)) w) : if Region.wanted o (yielded ops a.tmps) = true then Oper.wp P o a w K Q else E := by
  rw [if_pos (by simp [Region.wanted, hgd])]
  exact wp_load_mid ty x ho b off hx cs d hc hu hd hi h

/-- The store of a whole array. -/
theorem step_store_row {P : Program} {ops : Array Oper} {o : Oper} {a : Act} {w : World} {K : Act → World → Prop} {Q : Exit → Act → World → Prop} {E : Prop} (hgd : o.guard = none) (ty : TypeId) (x y : Operand) (ho : o.op = .store ty x y)
    (g : Nat) (C Z : Array Value) (t : TypeId) (hx : a.eval x = .pointer (some ⟨g, 0, none⟩)) (hy : a.eval y = .agg C) (hb : Blk w g Z t) (hs : Z.size = C.size) (hi : (P.info? ty).map (·.size) = some C.size) (h1 : C.all (·.oneCell') = true)
    (h : ∀ w', Blk w' g C t → Kept (fun i => i = g) w w' → (∀ i C' t', t' ≠ t → Blk w i C' t' → Blk w' i C' t') → K (a.put o.dst undef) w') : if Region.wanted o (yielded ops a.tmps) = true then Oper.wp P o a w K Q else E := by
  rw [if_pos (by simp [Region.wanted, hgd])]
  refine wp_store_mid ty x y ho g 0 C hx hy (hb.there 0 _ (by rw [hs]; omega)) hi h1 (h _ ?_ ?_ ?_)
  · have h2 := Gr.Blk.many C.toList 0 hb
    rwa [setMany_all _ _ hs] at h2
  · have hB := below_setCells 0 g (Nat.zero_le _) C.toList 0 w w (Below.refl 0 w)
    exact ⟨hB.os, hB.tape, hB.output, hB.size, fun i _ hn => many_block C.toList 0 w i hn⟩
  · intro i C' t' hne hbi
    have hig : ¬ i = g := fun e => by
      subst e
      unfold Blk at hbi hb
      rw [hbi] at hb
      simp at hb
      exact hne hb.2
    unfold Blk
    rw [many_block C.toList 0 w i hig]
    exact hbi
where
  many_block {g : Nat} : ∀ (vs : List Value) (o : Nat) (W : World) (i : Nat), ¬ i = g → (W.setCells g o vs).heap[i]? = W.heap[i]?
    | [], _, _, _, _ => rfl
    | v :: r, o, W, i, hn => by
      rw [World.setCells, many_block r (o + 1) _ i hn]
      exact Below.heap_setCell _ _ _ _ hn

theorem enterLinks (vs : Array Value) (w : World) : (callFunc 46 vs).run Try.prog w = .ok (.enter 46 vs) w := by kernel_rfl
theorem enterAllV (vs : Array Value) (w : World) : (callFunc 59 vs).run Try.prog w = .ok (.enter 59 vs) w := by kernel_rfl
theorem enterList (vs : Array Value) (w : World) : (callFunc 47 vs).run Try.prog w = .ok (.enter 47 vs) w := by kernel_rfl

/-- What Blocks tells. -/
def blocksR (s : Int) (Q : List EdgeI) : List Int := if graphOk s Q = true then setTo (bitF (blkX (lnkF Q) s.toNat (2 ^ s.toNat - 1))) s.toNat else []

theorem blocks_len (s : Int) (Q : List EdgeI) : (blocksR s Q).length ≤ 9 := by
  unfold blocksR
  split
  · rename_i h
    have := ok_size h
    exact Nat.le_trans (setTo_length _ _) (by omega)
  · simp

theorem val_all (F : Nat → Nat → Bool) (n : Nat) : valB F n (allF n) = (n : Int) := by
  unfold valB
  have e : (fun v => decide (v < n) && !allF n v) = fun _ => false := by
    funext v
    unfold allF
    cases decide (v < n) <;> rfl
  rw [e, prts_none F _ _ (fun _ _ => rfl)]
  have h : ∀ k, k ≤ n → (setTo (allF n) k).length = k := fun k => by
    induction k with
    | zero => intro _; rfl
    | succ k ih =>
      intro hk
      rw [setTo_in (by unfold allF; simp; omega), List.length_append, ih (by omega)]
      rfl
  rw [h n (Nat.le_refl _)]
  simp [oddN]

theorem setTo_nine {f : Nat → Bool} {n : Nat} (hn : n ≤ 9) (h : ∀ v, f v = true → v < n) : setTo f 9 = setTo f n := by
  obtain ⟨d, hd⟩ : ∃ d, 9 = n + d := ⟨9 - n, by omega⟩
  rw [hd]
  exact setTo_low f n d (fun j h1 _ => by
    cases hj : f j
    · rfl
    · have := h j hj; omega)

end Lk
end Go.Proofs.Ytejfknkcakeakaa
