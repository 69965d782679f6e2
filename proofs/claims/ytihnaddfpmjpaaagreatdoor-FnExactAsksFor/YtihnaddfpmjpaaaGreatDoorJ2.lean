/-
 GrBase, GrGrown, GrBox, GrMark, GrVB, GrRd, WRdT, GrPre, GrHead.
-/
import Derived.Test.YtihnaddfpmjpaaaGreatDoorProg
import Derived.Test.YtihnaddfpmjpaaaGreatDoorJ1
import Derived.Handy
import Derived.Deep.AppendLies
import Derived.BigQuiet
namespace Go.Proofs.YtihnaddfpmjpaaaGreatDoor
namespace Gr
open Go.RowKit
def Kept (S : Nat → Prop) (w w' : World) : Prop :=
  w'.os = w.os ∧ w'.tape = w.tape ∧ w'.output = w.output ∧ w.heap.size ≤ w'.heap.size ∧ ∀ i, i < w.heap.size → ¬ S i → w'.heap[i]? = w.heap[i]?
theorem Kept.refl (S : Nat → Prop) (w : World) : Kept S w w := ⟨rfl, rfl, rfl, Nat.le_refl _, fun _ _ _ => rfl⟩
theorem Kept.trans {S : Nat → Prop} {a b c : World} (h : Kept S a b) (k : Kept S b c) : Kept S a c :=
  ⟨k.1.trans h.1, k.2.1.trans h.2.1, k.2.2.1.trans h.2.2.1, Nat.le_trans h.2.2.2.1 k.2.2.2.1, fun i hi hn => (k.2.2.2.2 i (Nat.lt_of_lt_of_le hi h.2.2.2.1) hn).trans (h.2.2.2.2 i hi hn)⟩
theorem Kept.weak {S T : Nat → Prop} {w w' : World} (h : Kept S w w') (hST : ∀ i, S i → T i) : Kept T w w' :=
  ⟨h.1, h.2.1, h.2.2.1, h.2.2.2.1, fun i hi hn => h.2.2.2.2 i hi (fun hs => hn (hST i hs))⟩
theorem Kept.of_below {S : Nat → Prop} {w w' : World} (h : Below w.heap.size w w') : Kept S w w' :=
  ⟨h.os, h.tape, h.output, h.size, fun i hi _ => h.block i hi⟩
theorem Kept.below {S : Nat → Prop} {w w' : World} {B : Nat} (h : Kept S w w') (hB : B ≤ w.heap.size) (hS : ∀ i, S i → B ≤ i) : Below B w w' :=
  ⟨h.1, h.2.1, h.2.2.1, h.2.2.2.1, fun i hi => h.2.2.2.2 i (by omega) (fun hs => by have := hS i hs; omega)⟩
theorem Kept.set {S : Nat → Prop} (w : World) (g j : Nat) (v : Value) (hg : S g) : Kept S w (w.setCell ⟨g, j, none⟩ v) :=
  ⟨rfl, rfl, rfl, by simp [World.setCell], fun i _ hn => Below.heap_setCell _ _ _ _ (fun e => hn (by rw [e]; exact hg))⟩
theorem Kept.drew {S : Nat → Prop} {w w' : World} (h : Kept S w w') : Kept S w w'.drew := h
theorem Kept.own {S : Nat → Prop} {w w' : World} {B e size n : Nat} {v : Value} {xs : List Value} (h : Kept S w w') (ho : w.ownsRow B e size v n xs) (hS : ∀ g, v.ownBlock = some g → ¬ S g) : w'.ownsRow B e size v n xs := by
  obtain ⟨h1, h2⟩ := ho
  refine ⟨h1, ?_⟩
  rcases h2 with h2 | ⟨g, cap, cur, rfl, a2, a3, a4⟩
  · exact .inl h2
  · refine .inr ⟨g, cap, cur, rfl, a2, ?_, a4⟩
    rw [h.2.2.2.2 g ?_ (hS g rfl)]
    · exact a3
    · rcases Nat.lt_or_ge g w.heap.size with h | h
      · exact h
      · rw [Array.getElem?_eq_none h] at a3; cases a3
def over {α : Type} (M L : List α) (j : Nat) : List α := M.take j ++ L.drop j
theorem over_zero {α : Type} (M L : List α) : over M L 0 = L := by simp [over]
theorem over_all {α : Type} (M L : List α) (h : M.length = L.length) : over M L L.length = M := by simp [over, ← h]
theorem over_length {α : Type} (M L : List α) (j : Nat) (h : M.length = L.length) (hj : j ≤ L.length) : (over M L j).length = L.length := by simp [over]; omega
theorem over_set {α : Type} (M L : List α) (j : Nat) (h : M.length = L.length) (hj : j < L.length) : (over M L j).set j (M[j]'(by omega)) = over M L (j + 1) := by
  unfold over
  have e : (M.take j).length = j := by simp; omega
  rw [List.set_append_right _ _ (by omega), e, Nat.sub_self]
  have e2 : L.drop j = L[j] :: L.drop (j + 1) := (List.getElem_cons_drop hj).symm
  rw [e2, List.set_cons_zero, List.take_succ_eq_append_getElem (by omega), List.append_assoc]
  rfl
theorem Kept.of_grown {w w' : World} {row : Option Nat} (h : w.grownBy w' row) : Kept (fun k => row = some k) w w' :=
  ⟨h.os, h.tape, h.output, h.size, fun i hi hn => h.block i hi (fun e => hn e.symm)⟩
theorem own_below {B : Nat} {e : TypeId} {k : Nat} {v : Value} {n : Nat} {xs : List Value} {w w' : World} (h : w.ownsRow B e k v n xs) (hb : Below w.heap.size w w') : w'.ownsRow B e k v n xs :=
  h.kept (row := none) ⟨hb.os, hb.tape, hb.output, hb.size, fun j hj _ => hb.block j hj⟩ (by cases hv : v.ownBlock <;> simp)
theorem own_lower {w : World} {B C e size n : Nat} {v : Value} {xs : List Value} (hB : C ≤ B) (h : w.ownsRow B e size v n xs) : w.ownsRow C e size v n xs := by
  obtain ⟨h1, h2⟩ := h
  refine ⟨h1, ?_⟩
  rcases h2 with h2 | ⟨g, cap, cur, a1, a2, a3⟩
  · exact .inl h2
  · exact .inr ⟨g, cap, cur, a1, Nat.le_trans hB a2, a3⟩
theorem cells_of_two {w : World} {g : Nat} {x y : Value} {t : TypeId} (h : w.heap[g]? = some (.cells #[x, y] t (0, 0))) :
    w.cell? ⟨g, 0, none⟩ = some x ∧ w.cell? ⟨g, 1, none⟩ = some y ∧ ∀ j, w.frozen? ⟨g, j, none⟩ = false := by
  refine ⟨?_, ?_, fun j => ?_⟩
  · rw [cell_of_row w g 0 _ t (0, 0) h]; rfl
  · rw [cell_of_row w g 1 _ t (0, 0) h]; rfl
  · exact frozen_of_row w g j _ t h
theorem two_zero {w : World} {g : Nat} {x y : Value} {t : TypeId} (h : w.heap[g]? = some (.cells #[x, y] t (0, 0))) (u : Value) :
    (w.setCell ⟨g, 0, none⟩ u).heap[g]? = some (.cells #[u, y] t (0, 0)) := heap_setCell_same w g 0 _ t u h
theorem two_one {w : World} {g : Nat} {x y : Value} {t : TypeId} (h : w.heap[g]? = some (.cells #[x, y] t (0, 0))) (u : Value) :
    (w.setCell ⟨g, 1, none⟩ u).heap[g]? = some (.cells #[x, u] t (0, 0)) := heap_setCell_same w g 1 _ t u h
def part {α : Type} (L : List α) (z : α) (k : Nat) : List α := L.take k ++ List.replicate (L.length - k) z
theorem part_zero {α : Type} (L : List α) (z : α) : part L z 0 = List.replicate L.length z := by simp [part]
theorem part_all {α : Type} (L : List α) (z : α) : part L z L.length = L := by simp [part]
theorem part_length {α : Type} (L : List α) (z : α) (k : Nat) (h : k ≤ L.length) : (part L z k).length = L.length := by simp [part]; omega
theorem part_set {α : Type} (L : List α) (z : α) (k : Nat) (h : k < L.length) : (part L z k).set k L[k] = part L z (k + 1) := by
  unfold part
  rw [List.set_append_right _ _ (by simp; omega)]
  have e : L.length - k = (L.length - (k + 1)) + 1 := by omega
  rw [e, List.replicate_succ, List.take_succ_eq_append_getElem h]
  have e2 : k - (L.take k).length = 0 := by simp; omega
  rw [e2, List.set_cons_zero, List.append_assoc]
  rfl
theorem below_new (w : World) (o : Obj) : Below w.heap.size w (w.alloc o) := (Below.refl _ _).alloc (Nat.le_refl _) _
/-- A world that another one has become, nothing turned below N. -/
structure Grown (N : Nat) (W : World) where
  w : World
  below : Below N W w
instance (N : Nat) (W : World) : Nonempty (Grown N W) := ⟨⟨W, Below.refl _ _⟩⟩
theorem wp_region_grown {P : Program} {id : Nat} {Q : Exit → Act → World → Prop} {a : Act} {w : World} {l : List Oper} (N : Nat) (hm : P.follows .mixedOrders = true) (hB : Region.lexB .any l.toArray = true)
    (h : wpQuiet P l.toArray (fun w' => ∃ d : Grown N w, w' = d.w) (fun a' => ∀ w', (∃ d : Grown N w, w' = d.w) → Q .normal a' w') l a) : (Code.region id l.toArray true).wp P Q a w := by
  refine wp_region_quiet (C := fun w' => ∃ d : Grown N w, w' = d.w) hm hB ⟨⟨w.drew, (Below.refl N w).drew⟩, rfl⟩ ?_
  rw [List.toList_toArray]
  exact h
theorem Calls.grown {P : Program} {f : FuncId} {args : Array Value} {N : Nat} {W : World} {d : Grown N W} {v : Value} (hN : N ≤ W.heap.size)
    (h : Calls P f args d.w fun e w' => e = .returned v ∧ Below d.w.heap.size d.w w') : Calls P f args d.w fun e w'' => e = .returned v ∧ ∃ d' : Grown N W, w'' = d'.w :=
  h.mono fun _ w' ⟨he, hb⟩ => ⟨he, ⟨⟨w', d.below.trans (hb.mono (Nat.le_trans hN d.below.size))⟩, rfl⟩⟩
theorem Calls.grown_same {P : Program} {f : FuncId} {args : Array Value} {N : Nat} {W : World} {d : Grown N W} {v : Value}
    (h : Calls P f args d.w fun e w' => e = .returned v ∧ w' = d.w) : Calls P f args d.w fun e w'' => e = .returned v ∧ ∃ d' : Grown N W, w'' = d'.w :=
  h.mono fun _ _ ⟨he, hw⟩ => ⟨he, d, hw⟩
theorem Grown.cell {N : Nat} {W : World} (d : Grown N W) {b o : Nat} {v : Value} (hb : b < N) (h : W.cell? ⟨b, o, none⟩ = some v) : d.w.cell? ⟨b, o, none⟩ = some v :=
  (d.below.cell (p := ⟨b, o, none⟩) hb).trans h
def CBox (w : World) (g : Nat) (cs : Array Value) (t : TypeId) : Prop := w.heap[g]? = some (.cells cs t (0, 0))
theorem CBox.lt {w : World} {g : Nat} {cs : Array Value} {t : TypeId} (h : CBox w g cs t) : g < w.heap.size := by
  rcases Nat.lt_or_ge g w.heap.size with h1 | h1
  · exact h1
  · unfold CBox at h; rw [Array.getElem?_eq_none h1] at h; cases h
theorem CBox.below {w w' : World} {g : Nat} {cs : Array Value} {t : TypeId} (h : CBox w g cs t) (hb : Below w.heap.size w w') : CBox w' g cs t := by
  unfold CBox; rw [hb.block g h.lt]; exact h
theorem CBox.kept {S : Nat → Prop} {w w' : World} {g : Nat} {cs : Array Value} {t : TypeId} (h : CBox w g cs t) (hk : Kept S w w') (hS : ¬ S g) : CBox w' g cs t := by
  unfold CBox; rw [hk.2.2.2.2 g h.lt hS]; exact h
theorem CBox.new (w : World) (cs : Array Value) (t : TypeId) : CBox (w.alloc (Obj.cells cs t)) w.heap.size cs t := heap_alloc_new w _
theorem CBox.cell {w : World} {g : Nat} {cs : Array Value} {t : TypeId} (h : CBox w g cs t) (i : Nat) : w.cell? ⟨g, i, none⟩ = cs[i]? := cell_of_row w g i cs t (0, 0) h
end Gr
end Go.Proofs.YtihnaddfpmjpaaaGreatDoor
namespace Go.Proofs.YtihnaddfpmjpaaaGreatDoor
open Go.RowKit
def fig1 (k : Nat) : ByteArray := ⟨#[UInt8.ofNat (48 + k % 10)]⟩
def mkT : Nat → Nat → ByteArray → ByteArray
  | 0, _, out => out
  | f + 1, k, out => if k = 0 then out else mkT f (k / 10) (fig1 k ++ out)
def markT (k : Nat) : ByteArray := ⟨#[109]⟩ ++ mkT 20 k ⟨#[]⟩
theorem mkT_step (f k : Nat) (out : ByteArray) (h : k ≠ 0) : mkT (f + 1) k out = mkT f (k / 10) (fig1 k ++ out) := if_neg h
theorem mkT_end (f : Nat) (out : ByteArray) : mkT f 0 out = out := by cases f <;> simp [mkT]
theorem fig_row (k : Nat) (w : World) :
    (convert 103 9 (.slice (some ⟨w.heap.size, 0, none⟩) 1 1)).run Tryz.prog (w.alloc (.cells #[.int .u8 (48 + (k : Int) % 10)] 5)) = .ok (.string (fig1 k)) (w.alloc (.cells #[.int .u8 (48 + (k : Int) % 10)] 5)) := by
  refine run_convert_bytes_back _ 103 9 5 ⟨w.heap.size, 0, none⟩ 1 [UInt8.ofNat (48 + k % 10)] Tryz.underlying103 Tryz.underlying5 Tryz.underlying9 fun j hj => ?_
  have hj0 : j = 0 := by simp at hj; omega
  subst hj0
  rw [Addr.add_lit, Nat.zero_add, cell_of_row _ w.heap.size 0 _ 5 (0, 0) (heap_alloc_new w _)]
  have h : ((UInt8.ofNat (48 + k % 10)).toNat : Int) = 48 + (k : Int) % 10 := by rw [toNat_ofNat_small _ (by omega)]; omega
  rw [← h]
  rfl
set_option maxRecDepth 100000 in
set_option maxHeartbeats 1000000 in
theorem markText_any (k : Nat) (h0 : 0 < k) (h1 : k ≤ 1000000000) (w : World) :
    Calls Tryz.prog 43 #[.int .i64 (k : Int)] w fun e w' => e = .returned (.string (markT k)) ∧ Below w.heap.size w w' := by
  have hk0 : ¬ (k : Int) ≤ 0 := by omega
  go_enter Tryz.func43, Tryz.ntmps43
  go_wp2_with fail
  go_loopw [0, 3] (fun a0 a3 wr => ∃ (y f : Nat) (out : ByteArray), a0 = .int .i64 y ∧ y ≤ 1000000000 ∧ y < 10 ^ f ∧ f ≤ 20 ∧ out.size + f ≤ 20 ∧ a3 = .string out ∧ Hid (mkT f y out = mkT 20 k ⟨#[]⟩) ∧ Below w.heap.size w wr) (fun a0 _ _ => (intOf a0).toNat)
  case atStart => exact ⟨k, 20, ⟨#[]⟩, rfl, h1, by omega, Nat.le_refl _, Nat.le_refl _, rfl, rfl, Below.refl _ _⟩
  case round =>
    obtain ⟨y, f, out, rfl, hy1, hyf, hf, hos, rfl, hm, hb⟩ := hrel
    by_cases hy : 0 < y
    · obtain ⟨f, rfl⟩ : ∃ f', f = f' + 1 := ⟨f - 1, by cases f with | zero => simp at hyf; omega | succ f => rfl⟩
      have hcv := fig_row y wr
      have hst := mkT_step f y out (by omega)
      have HM := hide (hst.symm.trans (unhide hm))
      have hyf2 : y / 10 < 10 ^ f := by rw [Nat.pow_succ] at hyf; omega
      have HYF := hide hyf2
      have hfs : (fig1 y).size = 1 := rfl
      generalize fig1 y = g at hcv HM hfs
      clear hst hm hyf hyf2
      have hy' : (0 : Int) < (y : Int) := by omega
      go_wp2
      go_roundw
      case rel => exact ⟨y / 10, f, g ++ out, by go_num, by omega, unhide HYF, by omega, by rw [ByteArray.size_append]; omega, rfl, unhide HM, hb.alloc hb.size _⟩
      case measure => simp [intOf]; omega
    · obtain rfl : y = 0 := by omega
      have hm2 := unhide hm
      rw [mkT_end] at hm2
      have HM := hide hm2
      clear hm hm2 hyf
      go_wp2
      go_ret
      refine ⟨?_, hb⟩
      unfold markT
      rw [← unhide HM]
      rfl
end Go.Proofs.YtihnaddfpmjpaaaGreatDoor
namespace Go.Proofs.YtihnaddfpmjpaaaGreatDoor
namespace Gr
open Go.RowKit
def vB (n : Int) : ByteArray := ⟨(varB 4 n.toNat).toArray⟩
theorem varB_length : ∀ (f n : Nat), (varB f n).length ≤ f + 1
  | 0, _ => by simp [varB]
  | f + 1, n => by
    simp only [varB]
    split
    · have := varB_length f (n / 128)
      rw [List.length_cons]
      omega
    · simp
theorem vB_size (n : Int) : (vB n).size ≤ 5 := by
  show (varB 4 n.toNat).toArray.size ≤ 5
  rw [List.size_toArray]
  exact varB_length 4 _
/-- A reader: its place; whether a number was not there. -/
structure CS where
  p : Nat
  b : Bool
def rd (t : ByteArray) (c : CS) : Int × CS := if c.b = true then (0, ⟨c.p, true⟩) else match readA t (c.p : Int) with | none => (0, ⟨c.p, true⟩) | some x => ((x.1 : Int), ⟨x.2, false⟩)
def rdInts (t : ByteArray) : Nat → CS → List Int × CS
  | 0, c => ([], c)
  | k + 1, c => if c.b = true then ([], c) else
    let a := rd t c
    let r := rdInts t k a.2
    (a.1 :: r.1, r.2)
theorem rd_bound (t : ByteArray) (c : CS) (hc : c.p ≤ t.size) : 0 ≤ (rd t c).1 ∧ (rd t c).1 ≤ 1000000000 ∧ (rd t c).2.p ≤ t.size := by
  unfold rd
  split
  · exact ⟨Int.le_refl _, by simp, hc⟩
  · split
    · exact ⟨Int.le_refl _, by simp, hc⟩
    · rename_i x h
      have := readA_bound (x := x.1) (e := x.2) h
      exact ⟨by simp, by simp; omega, by simp; omega⟩
def vL (n : Int) : List UInt8 := varB 4 n.toNat
theorem vB_list (n : Int) : (vB n).data.toList = vL n := by simp [vB, vL]
theorem app_list (a b : ByteArray) : (a ++ b).data.toList = a.data.toList ++ b.data.toList := by simp
theorem rd_back (t : ByteArray) (p r : List UInt8) (n : Int) (h0 : 0 ≤ n) (h1 : n ≤ 1000000000) (ht : t.data.toList = p ++ (vL n ++ r)) : rd t ⟨p.length, false⟩ = (n, ⟨(p ++ vL n).length, false⟩) := by
  obtain ⟨k, rfl⟩ := Int.eq_ofNat_of_zero_le h0
  have e : t = ⟨(p ++ varB 4 k ++ r).toArray⟩ := by
    apply ByteArray.ext
    rw [← Array.toList_inj, ht]
    simp [vL]
  have h := readA_var p r k (by omega)
  rw [← e] at h
  unfold rd
  rw [if_neg (by simp)]
  simp only [h]
  simp [vL]
def small (x : Int) : Prop := 0 ≤ x ∧ x ≤ 1000000000
theorem ints_back (t : ByteArray) : ∀ (Q : List Int) (p r : List UInt8), (∀ e ∈ Q, small e) → t.data.toList = p ++ (Q.flatMap vL ++ r) → rdInts t Q.length ⟨p.length, false⟩ = (Q, ⟨(p ++ Q.flatMap vL).length, false⟩)
  | [], p, r, _, _ => by simp [rdInts]
  | e :: Q, p, r, h, ht => by
    obtain ⟨a0, a1⟩ := h e (by simp)
    rw [List.flatMap_cons] at ht
    simp only [List.append_assoc] at ht
    have r1 := rd_back t p _ e a0 a1 ht
    have r6 := ints_back t Q (p ++ vL e) r (fun x hx => h x (by simp [hx])) (by rw [ht]; simp only [List.append_assoc] <;> rfl)
    rw [List.length_cons, rdInts, if_neg (by simp)]
    simp only [r1, r6]
    simp only [List.flatMap_cons, List.append_assoc]
theorem readV_text {s : ByteArray} {a : Nat} : ∀ {f i n sc x e : Nat}, readV s a f i n sc = some (x, e) → varB 4 x = (s.extract a e).toList ∧ i < e ∧ e ≤ s.size := by
  intro f
  induction f with
  | zero => intro i n sc x e h; simp [readV] at h
  | succ f ih =>
    intro i n sc x e h
    simp only [readV] at h
    split at h
    · split at h
      · split at h
        · simp at h
        · split at h
          · rename_i he
            simp at h
            obtain ⟨rfl, rfl⟩ := h
            exact ⟨he, by omega, by omega⟩
          · simp at h
      · have := ih h
        exact ⟨this.1, by omega, this.2.2⟩
    · simp at h
theorem readA_text {t : ByteArray} {p x e : Nat} (h : readA t (p : Int) = some (x, e)) : t.data.toList.take e = t.data.toList.take p ++ varB 4 x ∧ e ≤ t.size := by
  unfold readA at h
  split at h
  · rw [Int.toNat_natCast] at h
    obtain ⟨h1, h2, h3⟩ := readV_text h
    refine ⟨?_, h3⟩
    have e1 : (t.extract p e).toList = (t.data.toList.drop p).take (e - p) := by
      rw [ByteArray.toList_eq]
      simp [List.extract_eq_take_drop]
    have e2 : e = p + (e - p) := by omega
    rw [h1, e1]
    conv => lhs; rw [e2]
    exact List.take_add
  · simp at h
section
variable {P : Program} {md : Region.Mode} {ops : Array Oper} {C : World → Prop}
def preAll (K : Nat) (listed : Array Bool) : Bool := (List.range K).all fun i => listed.getD i false
def Shut (md : Region.Mode) (ops : Array Oper) (K : Nat) (listed : Array Bool) : Prop :=
  (∀ i o, ops[i]? = some o → listed.getD i false = true → ∀ e ∈ o.after, Region.binds md e = true → listed.getD e.on false = true) ∧ ∀ j, K ≤ j → listed.getD j false = false
def tailB (md : Region.Mode) (ops : Array Oper) (K : Nat) : Bool :=
  ((List.range ops.size).all fun j => decide (j ≤ K) || ((ops[j]?).map (·.after.any fun e => Region.binds md e && decide (K ≤ e.on))).getD false) &&
  ((List.range K).all fun i => (List.range (K + 1)).any fun i' => decide (i < i') && ((ops[i']?).map (·.after.any fun e => Region.binds md e && (e.on == i))).getD false)
theorem tail_waits {K : Nat} {listed : Array Bool} (hT : tailB md ops K = true) (hS : Shut md ops K listed) {j : Nat} (hj : j ∈ Region.ready md ops listed) (hK : K ≤ j) : preAll K listed = true := by
  unfold tailB at hT
  rw [Bool.and_eq_true, List.all_eq_true, List.all_eq_true] at hT
  obtain ⟨h1, h2⟩ := hT
  obtain ⟨hun, o, ho, hall⟩ := mem_ready.1 hj
  have hjs : j < ops.size := (Array.getElem?_eq_some_iff.1 ho).1
  have hjK : j = K := by
    have := h1 j (List.mem_range.2 hjs)
    rw [Bool.or_eq_true, decide_eq_true_eq] at this
    rcases this with h | h
    · omega
    · rw [ho] at h
      simp only [Option.map_some, Option.getD_some, Array.any_eq_true, Bool.and_eq_true, decide_eq_true_eq] at h
      obtain ⟨x, hx, hb, hk⟩ := h
      have := hall _ (Array.getElem_mem hx) hb
      rw [hS.2 _ hk] at this
      cases this
  subst hjK
  have key : ∀ n i, i < j → j - i ≤ n → listed.getD i false = true := by
    intro n
    induction n with
    | zero => intro i hi hn; omega
    | succ n ih =>
      intro i hi hn
      have := h2 i (List.mem_range.2 hi)
      rw [List.any_eq_true] at this
      obtain ⟨i', hi', hh⟩ := this
      rw [List.mem_range] at hi'
      rw [Bool.and_eq_true, decide_eq_true_eq] at hh
      obtain ⟨hlt, hh⟩ := hh
      cases ho' : ops[i']? with
      | none => rw [ho'] at hh; simp at hh
      | some o' =>
        rw [ho'] at hh
        simp only [Option.map_some, Option.getD_some, Array.any_eq_true, Bool.and_eq_true, beq_iff_eq] at hh
        obtain ⟨x, hx, hb, hk⟩ := hh
        rcases Nat.lt_or_ge i' j with h | h
        · have := hS.1 i' o' ho' (ih i' h (by omega)) _ (Array.getElem_mem hx) hb
          rw [hk] at this
          exact this
        · have e : i' = j := by omega
          subst e
          rw [ho] at ho'
          obtain rfl := Option.some.inj ho'
          have := hall _ (Array.getElem_mem hx) hb
          rw [hk] at this
          exact this
  unfold preAll
  rw [List.all_eq_true]
  intro i hi
  exact key j i (List.mem_range.1 hi) (by omega)
theorem Shut.add {K : Nat} {listed : Array Bool} (hS : Shut md ops K listed) {j : Nat} (hj : j ∈ Region.ready md ops listed) (hK : j < K) : Shut md ops K (listed.setIfInBounds j true) := by
  obtain ⟨hun, o, ho, hall⟩ := mem_ready.1 hj
  refine ⟨fun i oi hi hl e he hb => ?_, fun k hk => ?_⟩
  · by_cases hij : j = i
    · subst hij
      rw [ho] at hi
      obtain rfl := Option.some.inj hi
      exact getD_set_true (hall e he hb)
    · rw [getD_set_ne false hij] at hl
      exact getD_set_true (hS.1 i oi hi hl e he hb)
  · rw [getD_set_ne false (by omega)]
    exact hS.2 k hk
def wpPre (P : Program) (md : Region.Mode) (ops : Array Oper) (C : World → Prop) (K : Nat) (Q : Nat → Array Bool → Act → Prop) : Nat → Array Bool → Act → Prop
  | 0, listed, a => preAll K listed = true ∧ Q 0 listed a
  | fuel + 1, listed, a => (preAll K listed = true ∧ Q (fuel + 1) listed a) ∨ (preAll K listed = false ∧ Region.ready md ops listed ≠ [] ∧ ∀ i ∈ Region.ready md ops listed, qOp P ops C i (wpPre P md ops C K Q fuel (listed.setIfInBounds i true)) a)
theorem wpAny_of_pre {K : Nat} {Q : Nat → Array Bool → Act → Prop} {Q' : Exit → Act → World → Prop} (hQ : ∀ fuel listed a w, C w → Q fuel listed a → wpAny P md ops Q' fuel listed a w) : ∀ (fuel : Nat) (listed : Array Bool) (a : Act) (w : World), C w →
    wpPre P md ops C K Q fuel listed a → wpAny P md ops Q' fuel listed a w
  | 0, _, _, _, hw, h => hQ _ _ _ _ hw h.2
  | fuel + 1, _, _, _, hw, h => by
    rcases h with h | ⟨_, hne, h⟩
    · exact hQ _ _ _ _ hw h.2
    · exact ⟨fun h0 => absurd h0 hne, fun i hi => wpOp_of_qOp hw (fun a' w' hw' => wpAny_of_pre hQ fuel _ a' w' hw') (h i hi)⟩
theorem not_pre {K : Nat} {listed : Array Bool} {i : Nat} (hi : i < K) (hun : listed.getD i true = false) : preAll K listed = false := by
  rw [Bool.eq_false_iff]
  intro h
  unfold preAll at h
  rw [List.all_eq_true] at h
  have h1 := h i (List.mem_range.2 hi)
  rcases Nat.lt_or_ge i listed.size with h' | h'
  · simp [h'] at h1 hun
    rw [h1] at hun
    cases hun
  · simp [Array.getElem?_eq_none h'] at h1
theorem wpPre_first {K : Nat} {Q : Nat → Array Bool → Act → Prop} {i : Nat} {oi : Oper} {v : Value} (hT : tailB md ops K = true) (hiK : i < K) (hi : ops[i]? = some oi) (hsel : ∀ (j : Nat) (o : Oper) cs b, ops[j]? = some o → o.op ≠ .select cs b) :
    ∀ (fuel : Nat) (listed : Array Bool) (a : Act), Shut md ops K listed →
      (∀ j oj, ops[j]? = some oj → j ≠ i → listed.getD j true = false → (∀ e ∈ oj.after, Region.binds md e = true → e.on ≠ i) → oi.apart ops oj = true) →
      i ∈ Region.ready md ops listed → YieldsIn P ops C oi v a →
      wpPre P md ops C K Q fuel (listed.setIfInBounds i true) (a.put oi.dst v) → wpPre P md ops C K Q (fuel + 1) listed a := by
  intro fuel
  induction fuel with
  | zero =>
    intro listed a hS _ hr hy H
    have hun := (mem_ready.1 hr).1
    refine .inr ⟨not_pre hiK hun, fun h => (by rw [h] at hr; cases hr), fun j hj => ?_⟩
    by_cases hji : j = i
    · subst hji; exact hy.qOp hi H
    · have hjun := (mem_ready.1 hj).1
      have hjK : j < K := by
        rcases Nat.lt_or_ge j K with h | h
        · exact h
        · have := tail_waits hT hS hj h
          rw [not_pre hiK hun] at this
          cases this
      have := H.1
      rw [not_pre hjK (by rw [getD_set_ne true (Ne.symm hji)]; exact hjun)] at this
      cases this
  | succ fuel ih =>
    intro listed a hS hfree hr hy H
    have hun := (mem_ready.1 hr).1
    refine .inr ⟨not_pre hiK hun, fun h => (by rw [h] at hr; cases hr), fun j hj => ?_⟩
    by_cases hji : j = i
    · subst hji; exact hy.qOp hi H
    · have hjun' := (mem_ready.1 hj).1
      have hjK : j < K := by
        rcases Nat.lt_or_ge j K with h | h
        · exact h
        · have := tail_waits hT hS hj h
          rw [not_pre hiK hun] at this
          cases this
      rcases H with H | H
      · have := H.1
        rw [not_pre hjK (by rw [getD_set_ne true (Ne.symm hji)]; exact hjun')] at this
        cases this
      · have h1 := H.2.2 j (ready_mono hj hji)
        obtain ⟨hjun, oj, hoj, hall⟩ := mem_ready.1 hj
        have hnot : ∀ e ∈ oj.after, Region.binds md e = true → e.on ≠ i := fun e he hb heq => by
          have h1 := hall e he hb
          have h0 := (mem_ready.1 hr).1
          rw [heq] at h1
          rcases Nat.lt_or_ge i listed.size with h' | h'
          · simp [h'] at h0 h1; rw [h0] at h1; cases h1
          · simp [Array.getElem?_eq_none h'] at h1
        have h2 := qOp_put hoj (hfree j oj hoj hji hjun hnot) (fun cs b => hsel i oi cs b hi) (fun cs b => hsel j oj cs b hoj) hy h1
        have hfree' : ∀ k ok, ops[k]? = some ok → k ≠ i → (listed.setIfInBounds j true).getD k true = false →
            (∀ e ∈ ok.after, Region.binds md e = true → e.on ≠ i) → oi.apart ops ok = true := fun k ok hk hki hun hno => by
          refine hfree k ok hk hki ?_ hno
          by_cases hjk : j = k
          · subst hjk; exact hjun
          · rw [getD_set_ne true hjk] at hun; exact hun
        refine qOp_mono (fun a' h3 => ih (listed.setIfInBounds j true) a' (hS.add hj hjK) hfree' (ready_mono hr (Ne.symm hji)) h3.1 ?_) h2
        rw [Array.setIfInBounds_comm _ _ hji]
        exact h3.2
def preFrom (md : Region.Mode) (ops : Array Oper) (K : Nat) : Nat → Nat → Array Bool → Bool
  | 0, _, listed => preAll K listed
  | n + 1, k, listed => (Region.ready md ops listed).contains k && Region.free md ops listed k && preFrom md ops K n (k + 1) (listed.setIfInBounds k true)
def preEnd : Nat → Nat → Array Bool → Array Bool
  | 0, _, listed => listed
  | n + 1, k, listed => preEnd n (k + 1) (listed.setIfInBounds k true)
theorem wpPre_lex {K : Nat} {Q : Nat → Array Bool → Act → Prop} (m : Nat) (hs : Region.noSelect ops = true) (hT : tailB md ops K = true) : ∀ (l : List Oper) (k : Nat) (listed : Array Bool) (a : Act), k + l.length = K → (∀ j, j < l.length → l[j]? = ops[k + j]?) → Shut md ops K listed →
    preFrom md ops K l.length k listed = true → wpQuiet P ops C (Q m (preEnd l.length k listed)) l a → wpPre P md ops C K Q (l.length + m) listed a
  | [], _, _, _, _, _, _, hB, h => by
    rw [List.length_nil, Nat.zero_add]
    cases m with
    | zero => exact ⟨hB, h⟩
    | succ m => exact .inl ⟨hB, h⟩
  | o :: l, k, listed, a, hk, hl, hS, hB, h => by
    rw [List.length_cons] at hk
    have h0 : ops[k]? = some o := by simpa using (hl 0 (by simp)).symm
    simp only [List.length_cons, preFrom, Bool.and_eq_true] at hB
    obtain ⟨⟨hr, hf⟩, hB'⟩ := hB
    have hr' : k ∈ Region.ready md ops listed := by simpa using hr
    have hst : qOp P ops C k (wpQuiet P ops C (Q m (preEnd (l.length + 1) k listed)) l) a := by unfold qOp; simp only [h0]; exact h
    obtain ⟨v, hy, hK⟩ := yieldsIn_of_qOp h0 hst
    have e : (o :: l).length + m = (l.length + m) + 1 := by rw [List.length_cons]; omega
    rw [e]
    exact wpPre_first hT (by omega) h0 (Region.noSelect_spec hs) (l.length + m) listed a hS (Region.free_spec h0 hf) hr' hy
      (wpPre_lex m hs hT l (k + 1) _ _ (by omega) (fun j hj => by have := hl (j + 1) (by rw [List.length_cons]; omega); simpa [Nat.add_assoc, Nat.add_comm 1 j] using this) (hS.add hr' (by omega)) hB' hK)
theorem shut_none (md : Region.Mode) (ops : Array Oper) (K n : Nat) : Shut md ops K (Array.replicate n false) := by
  have h0 : ∀ i : Nat, (Array.replicate n false).getD i false = false := fun i => by
    rcases Nat.lt_or_ge i n with h | h
    · simp [h]
    · simp [h]
  exact ⟨fun i o _ hl => (by rw [h0] at hl; cases hl), fun j _ => h0 j⟩
end
theorem wp_region_pre {P : Program} {id : Nat} {Q : Exit → Act → World → Prop} {a : Act} {w : World} {l : List Oper} (N K m : Nat) (L : Array Bool) (hm : P.follows .mixedOrders = true) (hs : Region.noSelect l.toArray = true) (hT : tailB .any l.toArray K = true) (hP : preFrom .any l.toArray K K 0 (Array.replicate l.toArray.size false) = true) (hL : preEnd K 0 (Array.replicate l.toArray.size false) = L) (hsz : l.length = K + m)
    (h : wpQuiet P l.toArray (fun w' => ∃ d : Grown N w, w' = d.w) (fun a' => ∀ w', (∃ d : Grown N w, w' = d.w) → wpAny P .any l.toArray Q m L a' w') (l.take K) a) : (Code.region id l.toArray true).wp P Q a w := by
  refine wp_region_any hm ?_
  have hlen : (l.take K).length = K := by rw [List.length_take]; omega
  have := wpPre_lex (P := P) (md := .any) (ops := l.toArray) (C := fun w' => ∃ d : Grown N w, w' = d.w) (K := K) (Q := fun fuel listed a' => ∀ w', (∃ d : Grown N w, w' = d.w) → wpAny P .any l.toArray Q fuel listed a' w') m hs hT (l.take K) 0 (Array.replicate l.toArray.size false) a (by rw [hlen]; omega) (fun j hj => by
    rw [hlen] at hj
    rw [Nat.zero_add, List.getElem?_take_of_lt hj]
    simp) (shut_none _ _ _ _) (by rw [hlen]; exact hP) (by rw [hlen, hL]; exact h)
  rw [hlen] at this
  have e : l.toArray.size = K + m := by rw [List.size_toArray]; exact hsz
  have hfin := wpAny_of_pre (Q' := Q) (fun fuel listed a w' hw hq => hq w' hw) (K + m) (Array.replicate l.toArray.size false) a w.drew ⟨⟨w.drew, (Below.refl N w).drew⟩, rfl⟩ this
  rw [← e] at hfin
  exact hfin
end Gr
end Go.Proofs.YtihnaddfpmjpaaaGreatDoor
