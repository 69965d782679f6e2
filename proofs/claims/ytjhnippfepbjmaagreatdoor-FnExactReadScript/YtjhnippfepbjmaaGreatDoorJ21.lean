/-
  Texts of this claim, one behind the other: PtrMap.
-/
import Derived.Test.YtjhnippfepbjmaaGreatDoorJ6
import Derived.Maps.OwnSet

/-
  A map from numbers to pointers that the call has made: what it holds as a function, and the laws on its operations.
-/
namespace Go.Proofs.YtjhnippfepbjmaaGreatDoor
open Go.RowKit Go.Maps

theorem intKeyed : Keyed Tryz.prog 3 := int_keyed Tryz.underlying3

/-- How a pointer reads: the number of its block. -/
def ptrElem : Value → Option (DataW Unit × List MemPlace)
  | .pointer none => some (.lit (.int .i64 (-1)), [])
  | .pointer (some ⟨g, 0, none⟩) => some (.lit (.int .i64 (g : Int)), [])
  | _ => none

def ptrOf (o : Option Nat) : Value := .pointer (o.map fun g => ⟨g, 0, none⟩)
def ptrD (o : Option Nat) : DataW Unit := .lit (.int .i64 (match o with | some g => (g : Int) | none => -1))

theorem ptrElem_mk (o : Option Nat) : ptrElem (ptrOf o) = some (ptrD o, []) := by
  cases o <;> rfl

theorem ptrElem_inv {v : Value} {o : Option Nat} {ps : List MemPlace} (h : ptrElem v = some (ptrD o, ps)) : v = ptrOf o := by
  unfold ptrElem at h
  split at h
  · simp [ptrD] at h
    cases o with
    | none => rfl
    | some g => simp at h
  · simp [ptrD] at h
    cases o with
    | none => simp at h
    | some g =>
      simp at h
      cases Int.ofNat_inj.mp h.1
      rfl
  · cases h

/-- BLOCK m IS A MAP OF AT MOST c ENTRIES, sz OF THEM: at x stands the pointer f x. -/
def PtrMap (w : World) (m c : Nat) (f : Int → Option Nat) (sz : Nat) : Prop :=
  ∃ D : DataW Unit, w.ownsMap Tryz.prog 3 ptrElem m c D ∧ size D = sz ∧ ∀ x : Int, has D (.int .i64 x) = (f x).isSome ∧ D.atKey (.int .i64 x) (ptrD none) = ptrD (f x)

def upd (f : Int → Option Nat) (k : Int) (o : Option Nat) : Int → Option Nat := fun x => if x = k then o else f x

theorem PtrMap.lt {w : World} {m c sz : Nat} {f : Int → Option Nat} (h : PtrMap w m c f sz) : m < w.heap.size := by
  obtain ⟨D, h, _⟩ := h
  exact h.lt

theorem PtrMap.kept {S : Nat → Prop} {w w' : World} {m c sz : Nat} {f : Int → Option Nat} (h : PtrMap w m c f sz) (hk : Kept S w w') (hS : ¬ S m) : PtrMap w' m c f sz := by
  obtain ⟨D, hown, r⟩ := h
  have hlt := hown.lt
  obtain ⟨es, clock, hb, q⟩ := hown
  exact ⟨D, ⟨es, clock, (hk.2.2.2.2 m hlt hS).trans hb, q⟩, r⟩

theorem PtrMap.below {w w' : World} {m c sz : Nat} {f : Int → Option Nat} (h : PtrMap w m c f sz) (hb : Below w.heap.size w w') : PtrMap w' m c f sz :=
  h.kept (S := fun _ => False) (Kept.of_below hb) (by simp)

theorem PtrMap.made (w : World) : PtrMap (w.alloc (.map #[] 0)) w.heap.size 0 (fun _ => none) 0 :=
  ⟨.map [], World.ownsMap_made w Tryz.prog 3 ptrElem, rfl, fun _ => ⟨rfl, rfl⟩⟩

theorem lit_ne {x k : Int} (h : x ≠ k) : (Lit.int .i64 x) ≠ (Lit.int .i64 k) := fun e => h (by simpa using e)

theorem PtrMap.put_own {w' : World} {m c sz : Nat} {f : Int → Option Nat} {D : DataW Unit} {k : Int} {g : Nat} (hI : IsMap D) (hT : Tidy D) (hs : size D = sz) (hf : ∀ x : Int, has D (.int .i64 x) = (f x).isSome ∧ D.atKey (.int .i64 x) (ptrD none) = ptrD (f x)) (hfk : f k = none)
    (h : w'.ownsMap Tryz.prog 3 ptrElem m c (D.put (.int .i64 k) (ptrD (some g)))) : PtrMap w' m c (upd f k (some g)) (sz + 1) := by
  refine ⟨_, h, ?_, fun x => ?_⟩
  · rw [size_put hT, (hf k).1, hfk]
    simp [hs]
  · unfold upd
    by_cases hx : x = k
    · subst hx
      rw [if_pos rfl]
      exact ⟨has_put_same (k := .int .i64 x) hI trivial _, atKey_put_same (k := .int .i64 x) hI trivial _ _⟩
    · rw [if_neg hx, has_put_other (lit_ne hx), atKey_put_other (lit_ne hx)]
      exact hf x

theorem PtrMap.del_own {w' : World} {m c : Nat} {f : Int → Option Nat} {D : DataW Unit} {k : Int} (hf : ∀ x : Int, has D (.int .i64 x) = (f x).isSome ∧ D.atKey (.int .i64 x) (ptrD none) = ptrD (f x))
    (h : w'.ownsMap Tryz.prog 3 ptrElem m c (D.del (.int .i64 k))) : ∃ sz, PtrMap w' m c (upd f k none) sz := by
  refine ⟨_, _, h, rfl, fun x => ?_⟩
  unfold upd
  by_cases hx : x = k
  · subst hx
    rw [if_pos rfl]
    exact ⟨has_del_same, atKey_del_same _⟩
  · rw [if_neg hx, has_del_other (lit_ne hx), atKey_del_other (lit_ne hx)]
    exact hf x

theorem PtrMap.look {t e : TypeId} {w : World} {m c sz : Nat} {f : Int → Option Nat} (h : PtrMap w m c f sz) (ht : Tryz.prog.underlying t = some (.map 3 e)) (hz : (zeroValue e).run Tryz.prog w = .ok (.pointer none) w) (x : Int) (hx : (Lit.int .i64 x).wf = true) :
    (Instr.lookup t (.map (some m)) (.int .i64 x) false).run Tryz.prog w = .ok (ptrOf (f x)) w := by
  obtain ⟨D, hown, _, hf⟩ := h
  obtain ⟨v, ps, hrun, hv⟩ := hown.lookup intKeyed ht hz (zd := ptrD none) (zp := []) (ptrElem_mk none) (keyOf_int_mk Tryz.underlying3 hx)
  rw [(hf x).2] at hv
  rw [hrun, ptrElem_inv hv]

theorem PtrMap.store {t e : TypeId} {w : World} {m c sz : Nat} {f : Int → Option Nat} (h : PtrMap w m c f sz) (ht : Tryz.prog.underlying t = some (.map 3 e)) (hc : c < maxLen) (x : Int) (hx : (Lit.int .i64 x).wf = true) (g : Nat) (hfx : f x = none) :
    ∃ w', (Instr.mapUpdate t (.map (some m)) (.int .i64 x) (.pointer (some ⟨g, 0, none⟩))).run Tryz.prog w = .ok () w' ∧ PtrMap w' m (c + 1) (upd f x (some g)) (sz + 1) ∧ Kept (fun k => k = m) w w' ∧ w'.heap.size = w.heap.size := by
  obtain ⟨D, hown, hs, hf⟩ := h
  obtain ⟨w', hrun, ho, ht'⟩ := hown.store intKeyed ht hc (d := ptrD (some g)) (ps := []) (keyOf_int_mk Tryz.underlying3 hx) (ptrElem_mk (some g))
  have hg := ht'.grown
  refine ⟨w', hrun, PtrMap.put_own hown.isMap (hown.tidy intKeyed) hs hf hfx ho, ⟨hg.os, hg.tape, hg.output, hg.size, fun i hi hn => hg.block i hi (fun e => hn (by simpa using e))⟩, ?_⟩
  obtain ⟨_, _, _, _, _, rfl⟩ := ht'
  simp [ChangeMaps.setBlock]

theorem PtrMap.drop {t e ty : TypeId} {w : World} {m c sz : Nat} {f : Int → Option Nat} (h : PtrMap w m c f sz) (ht : Tryz.prog.underlying t = some (.map 3 e)) (x : Int) (hx : (Lit.int .i64 x).wf = true) :
    ∃ w' sz', (Builtin.delete_ #[t, 3] ty #[.map (some m), .int .i64 x]).run Tryz.prog w = .ok (.tuple #[]) w' ∧ PtrMap w' m c (upd f x none) sz' ∧ Kept (fun k => k = m) w w' := by
  obtain ⟨D, hown, hs, hf⟩ := h
  obtain ⟨w', hrun, ho, hg⟩ := hown.drop intKeyed ht (keyOf_int_mk Tryz.underlying3 hx) ty
  obtain ⟨sz', hp⟩ := PtrMap.del_own hf ho
  have hg := hg.grown
  exact ⟨w', sz', hrun, hp, hg.os, hg.tape, hg.output, hg.size, fun i hi hn => hg.block i hi (fun e => hn (by simpa using e))⟩

theorem PtrMap.len {t e ty : TypeId} {w : World} {m c sz : Nat} {f : Int → Option Nat} (h : PtrMap w m c f sz) (ht : Tryz.prog.underlying t = some (.map 3 e)) :
    (Builtin.len_ #[t] ty #[.map (some m)]).run Tryz.prog w = .ok (.int .i64 (sz : Int)) w := by
  obtain ⟨D, hown, hs, hf⟩ := h
  rw [hown.len ht ty, hs]
end Go.Proofs.YtjhnippfepbjmaaGreatDoor
