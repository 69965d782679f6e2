/-
 GrMid.
-/
import Derived.Test.YtkjclkelnheheaaJ7
import Derived.Deep.MidRow
import Derived.Deep.WholeRow
import Derived.Laws.ResultCell
namespace Go.Proofs.Ytkjclkelnheheaa
namespace Gr
open Go.RowKit
theorem there_block {w : World} {g : Nat} {C : Array Value} {t : TypeId} (h : w.heap[g]? = some (.cells C t (0, 0))) : w.there g 0 C.size := fun j hj => by
  refine ⟨?_, ?_⟩
  · rw [cell_of_row _ _ _ C t (0, 0) h]; simp [hj]
  · unfold World.frozen?
    simp only []
    rw [h]
    simp
theorem results_cell1 {fn : Func} {p : Tmp} {ty : TypeId} (h : fn.results = #[.cell p ty]) (tmps : Array Value) (P : Program) (w : World) :
    (results fn tmps).run P w = ((asAddr (tmps.getD p undef)).run P w).andThen fun a w₁ => (loadVar ty a).run P w₁ := by
  simp only [results, h]
  simp [Sem.run_bind, Result.andThen]
theorem below_setCells (C b : Nat) (hC : C ≤ b) : ∀ (vs : List Value) (o : Nat) (w w0 : World), Below C w0 w → Below C w0 (w.setCells b o vs)
  | [], _, _, _, h => h
  | v :: vs, o, w, w0, h => by
    rw [World.setCells]
    exact below_setCells C b hC vs (o + 1) _ _ (h.setCell (p := ⟨b, o, none⟩) hC v)
def setMany (C : Array Value) : Nat → List Value → Array Value
  | _, [] => C
  | o, v :: r => setMany (C.setIfInBounds o v) (o + 1) r
theorem setMany_size : ∀ (vs : List Value) (o : Nat) (C : Array Value), (setMany C o vs).size = C.size
  | [], _, _ => rfl
  | v :: r, o, C => by unfold setMany; rw [setMany_size r]; simp
theorem setMany_at : ∀ (vs : List Value) (o : Nat) (C : Array Value) (i : Nat), (setMany C o vs)[i]? = if o ≤ i ∧ i < o + vs.length ∧ i < C.size then vs[i - o]? else C[i]?
  | [], o, C, i => by
    unfold setMany
    rw [if_neg (by simp; omega)]
  | v :: r, o, C, i => by
    unfold setMany
    rw [setMany_at r (o + 1)]
    simp only [Array.size_setIfInBounds, List.length_cons]
    by_cases h1 : o + 1 ≤ i ∧ i < o + 1 + r.length ∧ i < C.size
    · rw [if_pos h1, if_pos (by omega)]
      obtain ⟨k, rfl⟩ : ∃ k, i = o + 1 + k := ⟨i - (o + 1), by omega⟩
      rw [show o + 1 + k - (o + 1) = k by omega, show o + 1 + k - o = k + 1 by omega]
      simp
    · rw [if_neg h1]
      by_cases h2 : o = i
      · subst h2
        by_cases h3 : o < C.size
        · rw [if_pos (by omega), Array.getElem?_setIfInBounds_self]
          simp [h3]
        · rw [if_neg (by omega), Array.getElem?_setIfInBounds_self]
          simp [h3]
      · rw [Array.getElem?_setIfInBounds_ne h2, if_neg (by omega)]
theorem Blk.many {g : Nat} {t : TypeId} : ∀ (vs : List Value) (o : Nat) {W : World} {C : Array Value}, Blk W g C t → Blk (W.setCells g o vs) g (setMany C o vs) t
  | [], _, _, _, h => h
  | v :: r, o, W, C, h => by
    rw [World.setCells]
    exact Blk.many r (o + 1) (h.set o v)
theorem Blk.many_other {g g' : Nat} {t : TypeId} {C : Array Value} (hne : g ≠ g') : ∀ (vs : List Value) (o : Nat) {W : World}, Blk W g C t → Blk (W.setCells g' o vs) g C t
  | [], _, _, h => h
  | v :: r, o, W, h => by
    rw [World.setCells]
    exact Blk.many_other hne r (o + 1) (h.set_other hne o v)
theorem Blk.there {W : World} {g : Nat} {C : Array Value} {t : TypeId} (h : Blk W g C t) (o n : Nat) (hn : o + n ≤ C.size) : W.there g o n := fun j hj => by
  have := there_block h (o + j) (by omega)
  simpa using this
theorem setMany_all (C D : Array Value) (h : C.size = D.size) : setMany C 0 D.toList = D := by
  apply Array.ext_getElem?
  intro i
  rw [setMany_at]
  simp only [Array.length_toList, Nat.zero_add, Nat.zero_le, true_and, Nat.sub_zero]
  split
  · simp
  · rename_i hh
    rw [Array.getElem?_eq_none (by omega), Array.getElem?_eq_none (by omega)]
theorem wpList_load_mid_g {P : Program} {ops : Array Oper} {rest : List Oper} {op : Oper} {a : Act} {w : World} {Q : Exit → Act → World → Prop} (hw : Region.wanted op (yielded ops a.tmps) = true) (ty : TypeId) (x : Operand) (ho : op.op = .load ty x)
    (b o : Nat) (hx : a.eval x = .pointer (some ⟨b, o, none⟩)) (cs : List Value) (d : TypeDesc) (hc : w.rangeAt b o cs)
    (hu : P.underlying ty = some d) (hd : d.isRow = true) (hi : (P.info? ty).map (·.size) = some cs.length)
    (h : wpList P ops Q rest (a.put op.dst (.agg cs.toArray)) w) : wpList P ops Q (op :: rest) a w := by
  unfold wpList
  rw [if_pos hw]
  exact Or.inl (wp_load_mid ty x ho b o hx cs d hc hu hd hi h)
theorem wpQuiet_load_mid {P : Program} {ops : Array Oper} {C : World → Prop} {Q : Act → Prop} {rest : List Oper} {op : Oper} {a : Act} (hw : Region.wanted op (yielded ops a.tmps) = true) (ty : TypeId) (x : Operand) (ho : op.op = .load ty x)
    (b o : Nat) (hx : a.eval x = .pointer (some ⟨b, o, none⟩)) (cs : List Value) (d : TypeDesc) (hc : ∀ w, C w → w.rangeAt b o cs)
    (hu : P.underlying ty = some d) (hd : d.isRow = true) (hi : (P.info? ty).map (·.size) = some cs.length)
    (h : wpQuiet P ops C Q rest (a.put op.dst (.agg cs.toArray))) : wpQuiet P ops C Q (op :: rest) a := by
  unfold wpQuiet
  rw [if_pos hw]
  refine ⟨.agg cs.toArray, fun w hw' => ?_, h⟩
  unfold Oper.quietAt execOp
  simp only [ho, hx, Instr.loadAt, Instr.sureAddr, Sem.run_bind, Sem.run_pure, Result.andThen_ok, run_loadVar_mid w b o ty cs d (hc w hw') hu hd hi]
  exact ⟨rfl, rfl⟩
theorem Blk.range {W : World} {g : Nat} {C : Array Value} {t : TypeId} (h : Blk W g C t) : W.rangeAt g 0 C.toList := by
  have h1 := World.rangeAt_of_block h 0 C.size
  have e : C.extract 0 (0 + C.size) = C := by rw [Nat.zero_add, Array.extract_size]
  rwa [e] at h1
theorem Blk.part {W : World} {g : Nat} {C : Array Value} {t : TypeId} (h : Blk W g C t) (o : Nat) (D : Array Value) (hd : ∀ j, j < D.size → C[o + j]? = D[j]?) : W.rangeAt g o D.toList := fun j v hv => by
  rw [cell_of_row W g (o + j) C t (0, 0) h]
  have hj : j < D.size := by
    have := (List.getElem?_eq_some_iff.1 hv).1
    simpa using this
  rw [hd j hj]
  simpa using hv
end Gr
end Go.Proofs.Ytkjclkelnheheaa
