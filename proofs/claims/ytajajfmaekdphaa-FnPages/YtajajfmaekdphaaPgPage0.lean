/-
  The contract of the program's reader of a page's items.
-/
import Derived.Test.YtajajfmaekdphaaPgItem
import Derived.Test.YtajajfmaekdphaaPgLists
import Derived.Deep.RegionLaw
namespace Go.Proofs.Ytajajfmaekdphaa
open Go.RowKit

theorem step_call {P : Program} {ops : Array Oper} {o : Oper} {a : Act} {w : World} {K : Act → World → Prop} {Q : Exit → Act → World → Prop} {E : Prop} (hgd : o.guard = none) (f : FuncId) (args : Array Operand) (tys : Array TypeId)
    (ho : o.op = .call { callee := .value (.func f), args := args, argTypes := tys }) (vs : Array Value) (hvs : args.map a.eval = vs) (hf : ∀ vs w, (callFunc f vs).run P w = .ok (.enter f vs) w) (R : Ending → World → Prop) (hc : Calls P f vs w R)
    (hK : ∀ e w', R e w' → ∃ v, e = .returned v ∧ K (a.put o.dst v) w') : if Region.wanted o (yielded ops a.tmps) = true then Oper.wp P o a w K Q else E := by
  have hw : Region.wanted o (yielded ops a.tmps) = true := by simp [Region.wanted, hgd]
  rw [if_pos hw]
  unfold Oper.wp
  have e1 : (execOp a.eval o).run P w = .ok (.enter f vs) w := by
    have h0 : a.eval (.func f) = .func (.func f) #[] #[] := rfl
    simp [execOp, ho, resolve, invoke, h0, hvs, Deferred.ofValue, hf]
  rw [e1, Oper.upon_enter]
  refine hc.mono fun e w' h => ?_
  obtain ⟨v, rfl, hk⟩ := hK e w' h
  exact hk

theorem enterItem (vs : Array Value) (w : World) : (callFunc 76 vs).run Try.prog w = .ok (.enter 76 vs) w := by kernel_rfl

theorem item_some_one (g : Nat) (s : ByteArray) (a : Nat) (x : It) (c : Nat) (hs : s.size ≤ 8000) (h : itA 1 s a = some (x, c)) (w : World) (hr : RdAt w g s a) :
    Calls Try.prog 76 #[.pointer (some ⟨g, 0, none⟩), .iface 87 (.agg #[])] w fun e w' => e = .returned (itV x) ∧ RdTo g s c w w' := by
  unfold itA at h
  cases hr1 : rsA s a with
  | none => rw [hr1] at h; simp at h
  | some p =>
    obtain ⟨t, b⟩ := p
    rw [hr1] at h
    simp only [Option.bind_some, restA_one] at h
    cases hr2 : rsA s b with
    | none => rw [hr2] at h; simp at h
    | some q =>
      obtain ⟨u, d⟩ := q
      rw [hr2] at h
      simp at h
      obtain ⟨rfl, rfl⟩ := h
      exact item_yes_one g s a t b u d hs hr1 hr2 w hr

theorem item_none_one (g : Nat) (s : ByteArray) (a : Nat) (hs : s.size ≤ 8000) (h : itA 1 s a = none) (w : World) (hr : RdAt w g s a) :
    Calls Try.prog 76 #[.pointer (some ⟨g, 0, none⟩), .iface 87 (.agg #[])] w fun e w' => e = noPg ∧ Kept (fun k => k = g) w w' := by
  cases hr1 : rsA s a with
  | none => exact item_key_one g s a hs hr1 w hr
  | some p =>
    obtain ⟨t, b⟩ := p
    cases hr2 : rsA s b with
    | none => exact item_rest_one g s a t b hs hr1 hr2 w hr
    | some q =>
      obtain ⟨u, d⟩ := q
      rw [itA_yes (u := u) (y := 0) (c := d) hr1 (by rw [restA_one, hr2]; rfl)] at h
      cases h

theorem item_some_two (g : Nat) (s : ByteArray) (a : Nat) (x : It) (c : Nat) (hs : s.size ≤ 8000) (h : itA 2 s a = some (x, c)) (w : World) (hr : RdAt w g s a) :
    Calls Try.prog 76 #[.pointer (some ⟨g, 0, none⟩), .iface 88 (.agg #[])] w fun e w' => e = .returned (itV x) ∧ RdTo g s c w w' := by
  unfold itA at h
  cases hr1 : rsA s a with
  | none => rw [hr1] at h; simp at h
  | some p =>
    obtain ⟨t, b⟩ := p
    rw [hr1] at h
    simp only [Option.bind_some, restA_other (k := 2) (by omega)] at h
    cases hr2 : readA s (b : Int) with
    | none => rw [hr2] at h; simp at h
    | some q =>
      obtain ⟨u, d⟩ := q
      rw [hr2] at h
      simp at h
      obtain ⟨rfl, rfl⟩ := h
      exact item_yes_two g s a t b u d hs hr1 hr2 w hr

theorem item_none_two (g : Nat) (s : ByteArray) (a : Nat) (hs : s.size ≤ 8000) (h : itA 2 s a = none) (w : World) (hr : RdAt w g s a) :
    Calls Try.prog 76 #[.pointer (some ⟨g, 0, none⟩), .iface 88 (.agg #[])] w fun e w' => e = noPg ∧ Kept (fun k => k = g) w w' := by
  cases hr1 : rsA s a with
  | none => exact item_key_two g s a hs hr1 w hr
  | some p =>
    obtain ⟨t, b⟩ := p
    cases hr2 : readA s (b : Int) with
    | none => exact item_rest_two g s a t b hs hr1 hr2 w hr
    | some q =>
      obtain ⟨u, d⟩ := q
      rw [itA_yes (u := ⟨#[]⟩) (y := (u : Int)) (c := d) hr1 (by rw [restA_other (by omega), hr2]; rfl)] at h
      cases h

end Go.Proofs.Ytajajfmaekdphaa
