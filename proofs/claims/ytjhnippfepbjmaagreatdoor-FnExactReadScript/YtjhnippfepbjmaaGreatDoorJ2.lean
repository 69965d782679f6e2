/-
  Texts of this claim, one behind the other: GrBase, GrBox, GrGrown, GrVB, GrRd.
-/
import Derived.Test.YtjhnippfepbjmaaGreatDoorProg
import Derived.Test.YtjhnippfepbjmaaGreatDoorJ1
import Derived.Handy
import Derived.Deep.AppendLies
import Derived.BigQuiet

/-
  What texts over rows of numbers lean on: what is as it was but for some blocks; lists that are written over from their beginning. Of its own namespace, so that no other text's names meet it.
-/
namespace Go.Proofs.YtjhnippfepbjmaaGreatDoor
namespace Gr
open Go.RowKit

/-- Nothing of old memory is turned but blocks in S. -/
def Kept (S : Nat → Prop) (w w' : World) : Prop :=
  w'.os = w.os ∧ w'.tape = w.tape ∧ w'.output = w.output ∧ w.heap.size ≤ w'.heap.size ∧ ∀ i, i < w.heap.size → ¬ S i → w'.heap[i]? = w.heap[i]?

theorem Kept.refl (S : Nat → Prop) (w : World) : Kept S w w := ⟨rfl, rfl, rfl, Nat.le_refl _, fun _ _ _ => rfl⟩

theorem Kept.trans {S : Nat → Prop} {a b c : World} (h : Kept S a b) (k : Kept S b c) : Kept S a c :=
  ⟨k.1.trans h.1, k.2.1.trans h.2.1, k.2.2.1.trans h.2.2.1, Nat.le_trans h.2.2.2.1 k.2.2.2.1, fun i hi hn => (k.2.2.2.2 i (Nat.lt_of_lt_of_le hi h.2.2.2.1) hn).trans (h.2.2.2.2 i hi hn)⟩

theorem Kept.weak {S T : Nat → Prop} {w w' : World} (h : Kept S w w') (hST : ∀ i, S i → T i) : Kept T w w' :=
  ⟨h.1, h.2.1, h.2.2.1, h.2.2.2.1, fun i hi hn => h.2.2.2.2 i hi (fun hs => hn (hST i hs))⟩

theorem Kept.of_below {S : Nat → Prop} {w w' : World} (h : Below w.heap.size w w') : Kept S w w' :=
  ⟨h.os, h.tape, h.output, h.size, fun i hi _ => h.block i hi⟩

theorem Kept.below {S : Nat → Prop} {w w' : World} {B : Nat} (h : Kept S w w') (hB : B ≤ w.heap.size) (hS : ∀ i, S i → B ≤ i) : Below B w w' :=
  ⟨h.1, h.2.1, h.2.2.1, h.2.2.2.1, fun i hi => h.2.2.2.2 i (by omega) (fun hs => by have := hS i hs; omega)⟩

theorem Kept.set {S : Nat → Prop} (w : World) (g j : Nat) (v : Value) (hg : S g) : Kept S w (w.setCell ⟨g, j, none⟩ v) :=
  ⟨rfl, rfl, rfl, by simp [World.setCell], fun i _ hn => Below.heap_setCell _ _ _ _ (fun e => hn (by rw [e]; exact hg))⟩

theorem Kept.drew {S : Nat → Prop} {w w' : World} (h : Kept S w w') : Kept S w w'.drew := h

theorem Kept.own {S : Nat → Prop} {w w' : World} {B e size n : Nat} {v : Value} {xs : List Value} (h : Kept S w w') (ho : w.ownsRow B e size v n xs) (hS : ∀ g, v.ownBlock = some g → ¬ S g) : w'.ownsRow B e size v n xs := by
  obtain ⟨h1, h2⟩ := ho
  refine ⟨h1, ?_⟩
  rcases h2 with h2 | ⟨g, cap, cur, rfl, a2, a3, a4⟩
  · exact .inl h2
  · refine .inr ⟨g, cap, cur, rfl, a2, ?_, a4⟩
    rw [h.2.2.2.2 g ?_ (hS g rfl)]
    · exact a3
    · rcases Nat.lt_or_ge g w.heap.size with h | h
      · exact h
      · rw [Array.getElem?_eq_none h] at a3; cases a3

/-- The first j of a list, and of another one the rest. -/
def over {α : Type} (M L : List α) (j : Nat) : List α := M.take j ++ L.drop j

theorem over_zero {α : Type} (M L : List α) : over M L 0 = L := by simp [over]
theorem over_all {α : Type} (M L : List α) (h : M.length = L.length) : over M L L.length = M := by simp [over, ← h]
theorem over_length {α : Type} (M L : List α) (j : Nat) (h : M.length = L.length) (hj : j ≤ L.length) : (over M L j).length = L.length := by simp [over]; omega

theorem over_set {α : Type} (M L : List α) (j : Nat) (h : M.length = L.length) (hj : j < L.length) : (over M L j).set j (M[j]'(by omega)) = over M L (j + 1) := by
  unfold over
  have e : (M.take j).length = j := by simp; omega
  rw [List.set_append_right _ _ (by omega), e, Nat.sub_self]
  have e2 : L.drop j = L[j] :: L.drop (j + 1) := (List.getElem_cons_drop hj).symm
  rw [e2, List.set_cons_zero, List.take_succ_eq_append_getElem (by omega), List.append_assoc]
  rfl

theorem Kept.of_grown {w w' : World} {row : Option Nat} (h : w.grownBy w' row) : Kept (fun k => row = some k) w w' :=
  ⟨h.os, h.tape, h.output, h.size, fun i hi hn => h.block i hi (fun e => hn e.symm)⟩

theorem own_below {B : Nat} {e : TypeId} {k : Nat} {v : Value} {n : Nat} {xs : List Value} {w w' : World} (h : w.ownsRow B e k v n xs) (hb : Below w.heap.size w w') : w'.ownsRow B e k v n xs :=
  h.kept (row := none) ⟨hb.os, hb.tape, hb.output, hb.size, fun j hj _ => hb.block j hj⟩ (by cases hv : v.ownBlock <;> simp)

theorem own_lower {w : World} {B C e size n : Nat} {v : Value} {xs : List Value} (hB : C ≤ B) (h : w.ownsRow B e size v n xs) : w.ownsRow C e size v n xs := by
  obtain ⟨h1, h2⟩ := h
  refine ⟨h1, ?_⟩
  rcases h2 with h2 | ⟨g, cap, cur, a1, a2, a3⟩
  · exact .inl h2
  · exact .inr ⟨g, cap, cur, a1, Nat.le_trans hB a2, a3⟩

theorem cells_of_two {w : World} {g : Nat} {x y : Value} {t : TypeId} (h : w.heap[g]? = some (.cells #[x, y] t (0, 0))) :
    w.cell? ⟨g, 0, none⟩ = some x ∧ w.cell? ⟨g, 1, none⟩ = some y ∧ ∀ j, w.frozen? ⟨g, j, none⟩ = false := by
  refine ⟨?_, ?_, fun j => ?_⟩
  · rw [cell_of_row w g 0 _ t (0, 0) h]; rfl
  · rw [cell_of_row w g 1 _ t (0, 0) h]; rfl
  · exact frozen_of_row w g j _ t h

theorem two_zero {w : World} {g : Nat} {x y : Value} {t : TypeId} (h : w.heap[g]? = some (.cells #[x, y] t (0, 0))) (u : Value) :
    (w.setCell ⟨g, 0, none⟩ u).heap[g]? = some (.cells #[u, y] t (0, 0)) := heap_setCell_same w g 0 _ t u h

theorem two_one {w : World} {g : Nat} {x y : Value} {t : TypeId} (h : w.heap[g]? = some (.cells #[x, y] t (0, 0))) (u : Value) :
    (w.setCell ⟨g, 1, none⟩ u).heap[g]? = some (.cells #[x, u] t (0, 0)) := heap_setCell_same w g 1 _ t u h

/-- The first k of a list, and something else up to its length. -/
def part {α : Type} (L : List α) (z : α) (k : Nat) : List α := L.take k ++ List.replicate (L.length - k) z

theorem part_zero {α : Type} (L : List α) (z : α) : part L z 0 = List.replicate L.length z := by simp [part]
theorem part_all {α : Type} (L : List α) (z : α) : part L z L.length = L := by simp [part]
theorem part_length {α : Type} (L : List α) (z : α) (k : Nat) (h : k ≤ L.length) : (part L z k).length = L.length := by simp [part]; omega

theorem part_set {α : Type} (L : List α) (z : α) (k : Nat) (h : k < L.length) : (part L z k).set k L[k] = part L z (k + 1) := by
  unfold part
  rw [List.set_append_right _ _ (by simp; omega)]
  have e : L.length - k = (L.length - (k + 1)) + 1 := by omega
  rw [e, List.replicate_succ, List.take_succ_eq_append_getElem h]
  have e2 : k - (L.take k).length = 0 := by simp; omega
  rw [e2, List.set_cons_zero, List.append_assoc]
  rfl

theorem below_new (w : World) (o : Obj) : Below w.heap.size w (w.alloc o) := (Below.refl _ _).alloc (Nat.le_refl _) _

theorem cells_int : Tryz.prog.cellsOf 3 = 1 := by kernel_rfl

end Gr
end Go.Proofs.YtjhnippfepbjmaaGreatDoor

/-
  A variable of some cells in a block of its own.
-/
namespace Go.Proofs.YtjhnippfepbjmaaGreatDoor
namespace Gr
open Go.RowKit

/-- A struct's variable in memory. -/
def CBox (w : World) (g : Nat) (cs : Array Value) (t : TypeId) : Prop := w.heap[g]? = some (.cells cs t (0, 0))

theorem CBox.lt {w : World} {g : Nat} {cs : Array Value} {t : TypeId} (h : CBox w g cs t) : g < w.heap.size := by
  rcases Nat.lt_or_ge g w.heap.size with h1 | h1
  · exact h1
  · unfold CBox at h; rw [Array.getElem?_eq_none h1] at h; cases h

theorem CBox.below {w w' : World} {g : Nat} {cs : Array Value} {t : TypeId} (h : CBox w g cs t) (hb : Below w.heap.size w w') : CBox w' g cs t := by
  unfold CBox; rw [hb.block g h.lt]; exact h

theorem CBox.kept {S : Nat → Prop} {w w' : World} {g : Nat} {cs : Array Value} {t : TypeId} (h : CBox w g cs t) (hk : Kept S w w') (hS : ¬ S g) : CBox w' g cs t := by
  unfold CBox; rw [hk.2.2.2.2 g h.lt hS]; exact h

theorem CBox.new (w : World) (cs : Array Value) (t : TypeId) : CBox (w.alloc (Obj.cells cs t)) w.heap.size cs t := heap_alloc_new w _

theorem CBox.cell {w : World} {g : Nat} {cs : Array Value} {t : TypeId} (h : CBox w g cs t) (i : Nat) : w.cell? ⟨g, i, none⟩ = cs[i]? := cell_of_row w g i cs t (0, 0) h

end Gr
end Go.Proofs.YtjhnippfepbjmaaGreatDoor

/-
  A region that draws its order, whose own operations only read and whose callees read and make new memory alone: walked once, in the order of the text. The class of worlds is: what the world at the region's beginning has become with nothing turned below N.
-/
namespace Go.Proofs.YtjhnippfepbjmaaGreatDoor
namespace Gr
open Go.RowKit

/-- A world that another one has become, nothing turned below N. -/
structure Grown (N : Nat) (W : World) where
  w : World
  below : Below N W w

instance (N : Nat) (W : World) : Nonempty (Grown N W) := ⟨⟨W, Below.refl _ _⟩⟩

theorem wp_region_grown {P : Program} {id : Nat} {Q : Exit → Act → World → Prop} {a : Act} {w : World} {l : List Oper} (N : Nat) (hm : P.follows .mixedOrders = true) (hB : Region.lexB .any l.toArray = true)
    (h : wpQuiet P l.toArray (fun w' => ∃ d : Grown N w, w' = d.w) (fun a' => ∀ w', (∃ d : Grown N w, w' = d.w) → Q .normal a' w') l a) : (Code.region id l.toArray true).wp P Q a w := by
  refine wp_region_quiet (C := fun w' => ∃ d : Grown N w, w' = d.w) hm hB ⟨⟨w.drew, (Below.refl N w).drew⟩, rfl⟩ ?_
  rw [List.toList_toArray]
  exact h

/-- A callee's contract, met in a grown world. -/
theorem Calls.grown {P : Program} {f : FuncId} {args : Array Value} {N : Nat} {W : World} {d : Grown N W} {v : Value} (hN : N ≤ W.heap.size)
    (h : Calls P f args d.w fun e w' => e = .returned v ∧ Below d.w.heap.size d.w w') : Calls P f args d.w fun e w'' => e = .returned v ∧ ∃ d' : Grown N W, w'' = d'.w :=
  h.mono fun _ w' ⟨he, hb⟩ => ⟨he, ⟨⟨w', d.below.trans (hb.mono (Nat.le_trans hN d.below.size))⟩, rfl⟩⟩

/-- .. of a callee that leaves the world alone. -/
theorem Calls.grown_same {P : Program} {f : FuncId} {args : Array Value} {N : Nat} {W : World} {d : Grown N W} {v : Value}
    (h : Calls P f args d.w fun e w' => e = .returned v ∧ w' = d.w) : Calls P f args d.w fun e w'' => e = .returned v ∧ ∃ d' : Grown N W, w'' = d'.w :=
  h.mono fun _ _ ⟨he, hw⟩ => ⟨he, d, hw⟩

theorem Grown.cell {N : Nat} {W : World} (d : Grown N W) {b o : Nat} {v : Value} (hb : b < N) (h : W.cell? ⟨b, o, none⟩ = some v) : d.w.cell? ⟨b, o, none⟩ = some v :=
  (d.below.cell (p := ⟨b, o, none⟩) hb).trans h

end Gr
end Go.Proofs.YtjhnippfepbjmaaGreatDoor

/-
  The bytes of a number.
-/
namespace Go.Proofs.YtjhnippfepbjmaaGreatDoor
namespace Gr
open Go.RowKit

/-- The bytes of a number. -/
def vB (n : Int) : ByteArray := ⟨(varB 4 n.toNat).toArray⟩

theorem varB_length : ∀ (f n : Nat), (varB f n).length ≤ f + 1
  | 0, _ => by simp [varB]
  | f + 1, n => by
    simp only [varB]
    split
    · have := varB_length f (n / 128)
      rw [List.length_cons]
      omega
    · simp

theorem vB_size (n : Int) : (vB n).size ≤ 5 := by
  show (varB 4 n.toNat).toArray.size ≤ 5
  rw [List.size_toArray]
  exact varB_length 4 _

end Gr
end Go.Proofs.YtjhnippfepbjmaaGreatDoor

/-
  Numbers of a text, read one behind the other; what was written is read back. Without a program.
-/
namespace Go.Proofs.YtjhnippfepbjmaaGreatDoor
namespace Gr
open Go.RowKit

/-- A reader: its place; whether a number was not there. -/
structure CS where
  p : Nat
  b : Bool

/-- A number, and the reader behind it. -/
def rd (t : ByteArray) (c : CS) : Int × CS := if c.b = true then (0, ⟨c.p, true⟩) else match readA t (c.p : Int) with | none => (0, ⟨c.p, true⟩) | some x => ((x.1 : Int), ⟨x.2, false⟩)

def rdInts (t : ByteArray) : Nat → CS → List Int × CS
  | 0, c => ([], c)
  | k + 1, c => if c.b = true then ([], c) else
    let a := rd t c
    let r := rdInts t k a.2
    (a.1 :: r.1, r.2)

theorem rd_bound (t : ByteArray) (c : CS) (hc : c.p ≤ t.size) : 0 ≤ (rd t c).1 ∧ (rd t c).1 ≤ 1000000000 ∧ (rd t c).2.p ≤ t.size := by
  unfold rd
  split
  · exact ⟨Int.le_refl _, by simp, hc⟩
  · split
    · exact ⟨Int.le_refl _, by simp, hc⟩
    · rename_i x h
      have := readA_bound (x := x.1) (e := x.2) h
      exact ⟨by simp, by simp; omega, by simp; omega⟩

/-- The bytes of a number, as a list. -/
def vL (n : Int) : List UInt8 := varB 4 n.toNat

theorem vB_list (n : Int) : (vB n).data.toList = vL n := by simp [vB, vL]

theorem app_list (a b : ByteArray) : (a ++ b).data.toList = a.data.toList ++ b.data.toList := by simp

theorem rd_back (t : ByteArray) (p r : List UInt8) (n : Int) (h0 : 0 ≤ n) (h1 : n ≤ 1000000000) (ht : t.data.toList = p ++ (vL n ++ r)) : rd t ⟨p.length, false⟩ = (n, ⟨(p ++ vL n).length, false⟩) := by
  obtain ⟨k, rfl⟩ := Int.eq_ofNat_of_zero_le h0
  have e : t = ⟨(p ++ varB 4 k ++ r).toArray⟩ := by
    apply ByteArray.ext
    rw [← Array.toList_inj, ht]
    simp [vL]
  have h := readA_var p r k (by omega)
  rw [← e] at h
  unfold rd
  rw [if_neg (by simp)]
  simp only [h]
  simp [vL]

def small (x : Int) : Prop := 0 ≤ x ∧ x ≤ 1000000000

theorem ints_back (t : ByteArray) : ∀ (Q : List Int) (p r : List UInt8), (∀ e ∈ Q, small e) → t.data.toList = p ++ (Q.flatMap vL ++ r) → rdInts t Q.length ⟨p.length, false⟩ = (Q, ⟨(p ++ Q.flatMap vL).length, false⟩)
  | [], p, r, _, _ => by simp [rdInts]
  | e :: Q, p, r, h, ht => by
    obtain ⟨a0, a1⟩ := h e (by simp)
    rw [List.flatMap_cons] at ht
    simp only [List.append_assoc] at ht
    have r1 := rd_back t p _ e a0 a1 ht
    have r6 := ints_back t Q (p ++ vL e) r (fun x hx => h x (by simp [hx])) (by rw [ht]; simp only [List.append_assoc] <;> rfl)
    rw [List.length_cons, rdInts, if_neg (by simp)]
    simp only [r1, r6]
    simp only [List.flatMap_cons, List.append_assoc]

end Gr
end Go.Proofs.YtjhnippfepbjmaaGreatDoor
