/-
  What is kept of old memory; a page's variable in memory; what is read of a sealed text.
-/
import Derived.Test.YtajajfmaekdphaaPgEq
import Derived.Deep.AppendLies
namespace Go.Proofs.Ytajajfmaekdphaa
open Go.RowKit

/-- Nothing of old memory is turned but blocks in S. -/
def Kept (S : Nat → Prop) (w w' : World) : Prop :=
  w'.os = w.os ∧ w'.tape = w.tape ∧ w'.output = w.output ∧ w.heap.size ≤ w'.heap.size ∧ ∀ i, i < w.heap.size → ¬ S i → w'.heap[i]? = w.heap[i]?

theorem Kept.refl (S : Nat → Prop) (w : World) : Kept S w w := ⟨rfl, rfl, rfl, Nat.le_refl _, fun _ _ _ => rfl⟩

theorem Kept.trans {S : Nat → Prop} {a b c : World} (h : Kept S a b) (k : Kept S b c) : Kept S a c :=
  ⟨k.1.trans h.1, k.2.1.trans h.2.1, k.2.2.1.trans h.2.2.1, Nat.le_trans h.2.2.2.1 k.2.2.2.1, fun i hi hn => (k.2.2.2.2 i (Nat.lt_of_lt_of_le hi h.2.2.2.1) hn).trans (h.2.2.2.2 i hi hn)⟩

theorem Kept.weak {S T : Nat → Prop} {w w' : World} (h : Kept S w w') (hST : ∀ i, S i → T i) : Kept T w w' :=
  ⟨h.1, h.2.1, h.2.2.1, h.2.2.2.1, fun i hi hn => h.2.2.2.2 i hi (fun hs => hn (hST i hs))⟩

theorem Kept.of_below {S : Nat → Prop} {w w' : World} (h : Below w.heap.size w w') : Kept S w w' :=
  ⟨h.os, h.tape, h.output, h.size, fun i hi _ => h.block i hi⟩

theorem Kept.below {S : Nat → Prop} {w w' : World} {B : Nat} (h : Kept S w w') (hB : B ≤ w.heap.size) (hS : ∀ i, S i → B ≤ i) : Below B w w' :=
  ⟨h.1, h.2.1, h.2.2.1, h.2.2.2.1, fun i hi => h.2.2.2.2 i (by omega) (fun hs => by have := hS i hs; omega)⟩

theorem Kept.set {S : Nat → Prop} (w : World) (g j : Nat) (v : Value) (hg : S g) : Kept S w (w.setCell ⟨g, j, none⟩ v) :=
  ⟨rfl, rfl, rfl, by simp [World.setCell], fun i _ hn => Below.heap_setCell _ _ _ _ (fun e => hn (by rw [e]; exact hg))⟩

theorem Kept.drew {S : Nat → Prop} {w w' : World} (h : Kept S w w') : Kept S w w'.drew := h

theorem Kept.own {S : Nat → Prop} {w w' : World} {B e size n : Nat} {v : Value} {xs : List Value} (h : Kept S w w') (ho : w.ownsRow B e size v n xs) (hS : ∀ g, v.ownBlock = some g → ¬ S g) : w'.ownsRow B e size v n xs := by
  obtain ⟨h1, h2⟩ := ho
  refine ⟨h1, ?_⟩
  rcases h2 with h2 | ⟨g, cap, cur, rfl, a2, a3, a4⟩
  · exact .inl h2
  · refine .inr ⟨g, cap, cur, rfl, a2, ?_, a4⟩
    rw [h.2.2.2.2 g ?_ (hS g rfl)]
    · exact a3
    · rcases Nat.lt_or_ge g w.heap.size with h | h
      · exact h
      · rw [Array.getElem?_eq_none h] at a3; cases a3

theorem Kept.of_grown {w w' : World} {row : Option Nat} (h : w.grownBy w' row) : Kept (fun k => row = some k) w w' :=
  ⟨h.os, h.tape, h.output, h.size, fun i hi hn => h.block i hi (fun e => hn e.symm)⟩

/-- A page's variable in memory: its two fields in block g. -/
def Box (w : World) (g : Nat) (a b : Value) : Prop := w.heap[g]? = some (.cells #[a, b] 26 (0, 0))

theorem Box.lt {w : World} {g : Nat} {a b : Value} (h : Box w g a b) : g < w.heap.size := by
  rcases Nat.lt_or_ge g w.heap.size with h1 | h1
  · exact h1
  · unfold Box at h; rw [Array.getElem?_eq_none h1] at h; cases h

theorem Box.below {w w' : World} {g : Nat} {a b : Value} (h : Box w g a b) (hb : Below w.heap.size w w') : Box w' g a b := by
  unfold Box; rw [hb.block g h.lt]; exact h

theorem Box.below' {w w' : World} {g B : Nat} {a b : Value} (h : Box w g a b) (hb : Below B w w') (hg : g < B) : Box w' g a b := by
  unfold Box; rw [hb.block g hg]; exact h

theorem Box.kept {S : Nat → Prop} {w w' : World} {g : Nat} {a b : Value} (h : Box w g a b) (hk : Kept S w w') (hS : ¬ S g) : Box w' g a b := by
  unfold Box; rw [hk.2.2.2.2 g h.lt hS]; exact h

theorem Box.new (w : World) (a b : Value) : Box (w.alloc (Obj.cells #[a, b] 26)) w.heap.size a b := heap_alloc_new w _

theorem Box.cells {w : World} {g : Nat} {a b : Value} (h : Box w g a b) : w.cell? ⟨g, 0, none⟩ = some a ∧ w.cell? ⟨g, 1, none⟩ = some b :=
  ⟨(cells_of_two h).1, (cells_of_two h).2.1⟩

theorem Box.zero {w : World} {g : Nat} {a b : Value} (h : Box w g a b) (x : Value) : Box (w.setCell ⟨g, 0, none⟩ x) g x b := two_zero h x
theorem Box.one {w : World} {g : Nat} {a b : Value} (h : Box w g a b) (x : Value) : Box (w.setCell ⟨g, 1, none⟩ x) g a x := two_one h x
theorem Box.two {w : World} {g : Nat} {a b : Value} (h : Box w g a b) (x y : Value) : Box ((w.setCell ⟨g, 0, none⟩ x).setCell ⟨g, 1, none⟩ y) g x y :=
  two_one (two_zero h x) y
theorem Box.froz {w : World} {g : Nat} {a b : Value} (h : Box w g a b) (j : Nat) : w.frozen? ⟨g, j, none⟩ = false := (cells_of_two h).2.2 j

theorem grown_box {w w' : World} {row : Option Nat} {g : Nat} {a b : Value} (h : Box w g a b) (hg : w.grownBy w' row) (hr : row ≠ some g) : Box w' g a b := by
  unfold Box; rw [hg.block g h.lt (fun e => hr e.symm)]; exact h

theorem results_box {fn : Func} {p u : Tmp} (h : fn.results = #[.cell p 26, .tmp u]) (tmps : Array Value) (w : World) (g : Nat) (a b : Value) (hp : tmps.getD p undef = .pointer (some ⟨g, 0, none⟩)) (hg : Box w g a b) :
    (results fn tmps).run Try.prog w = .ok (.tuple #[.agg #[a, b], tmps.getD u undef]) w := by
  have hr := run_loadVar_row (P := Try.prog) w g 26 26 #[a, b] (0, 0) _ hg Try.underlying26 rfl (by kernel_rfl)
  rw [results_cell_tmp h, hp]
  simp [asAddr, hr, Result.andThen]

theorem pageNil (w : World) (B : Nat) : PageOwn w B (.agg #[.int .i64 0, .slice none 0 0]) 0 [] :=
  ⟨_, rfl, rfl, .inl ⟨rfl, rfl⟩⟩

def pgK (o : Option (Int × List It)) : Int := (o.map Prod.fst).getD 0
def pgQ (o : Option (Int × List It)) : List It := (o.map Prod.snd).getD []

/-- What a reader of pages leaves. -/
def PagePost (w : World) (o : Option (Int × List It)) (e : Ending) (w' : World) : Prop :=
  (∃ d, e = .returned (.tuple #[d, .bool o.isSome]) ∧ PageOwn w' w.heap.size d (pgK o) (pgQ o)) ∧ Below w.heap.size w w'

/-- A page counts, where its text is this one. -/
def heldTo (text : ByteArray) (k : Int) (Q : List It) : Option (Int × List It) := if PageOk k Q ∧ sealB (pageTo k Q Q.length) = text then some (k, Q) else none

theorem heldTo_yes {text : ByteArray} {k : Int} {Q : List It} (h : PageOk k Q) (h2 : sealB (pageTo k Q Q.length) = text) : heldTo text k Q = some (k, Q) := if_pos ⟨h, h2⟩
theorem heldTo_no {text : ByteArray} {k : Int} {Q : List It} (h : ¬ PageOk k Q) : heldTo text k Q = none := if_neg (fun e => h e.1)
theorem heldTo_other {text : ByteArray} {k : Int} {Q : List It} (h2 : sealB (pageTo k Q Q.length) ≠ text) : heldTo text k Q = none := if_neg (fun e => h2 e.2)

/-- What Unsealed tells. -/
def unS (s : ByteArray) : Option ByteArray :=
  if 4 ≤ s.size ∧ s.size ≤ 8004 ∧ s.extract (s.size - 4) s.size = fourB (sumB (s.extract 0 (s.size - 4))) then some (s.extract 0 (s.size - 4)) else none

theorem unsealA_none {s : ByteArray} (h : unS s = none) : unsealA s = .tuple #[.string ⟨#[]⟩, .bool false] := by
  unfold unS at h
  unfold unsealA
  split at h
  · simp at h
  · rename_i hn
    split
    · rename_i h4
      unfold unsealOut
      rw [unOut_no (fun e => hn ⟨h4.1, h4.2, e⟩)]
    · rfl

theorem unsealA_some {s u : ByteArray} (h : unS s = some u) : unsealA s = .tuple #[.string u, .bool true] ∧ u.size ≤ 8000 := by
  unfold unS at h
  split at h
  · rename_i hn
    simp at h
    subst h
    refine ⟨?_, by simp [ByteArray.size_extract]; omega⟩
    unfold unsealA
    rw [if_pos ⟨hn.1, hn.2.1⟩]
    unfold unsealOut
    rw [unOut_yes hn.2.2]
  · simp at h

/-- What ReadPage tells. -/
def rpA (text : ByteArray) : Option (Int × List It) := (unS text).bind fun s => (pgA s).bind fun p => heldTo text p.1 p.2

theorem itsA_step {k : Int} {s : ByteArray} {n a : Nat} {x : It} {e : Nat} (h : itA k s a = some (x, e)) : itsA k s (n + 1) a = (itsA k s n e).map (x :: ·) := by
  simp only [itsA]; rw [h]; rfl
theorem itsA_stop {k : Int} {s : ByteArray} {n a : Nat} (h : itA k s a = none) : itsA k s (n + 1) a = none := by
  simp only [itsA]; rw [h]; rfl

theorem itsA_go {k : Int} {s : ByteArray} {n i a : Nat} {x : It} {e : Nat} {L : List It} {tot : Option (List It)} (hi : i < n) (ht : tot = (itsA k s (n - i) a).map (L ++ ·)) (h : itA k s a = some (x, e)) :
    tot = (itsA k s (n - (i + 1)) e).map ((L ++ [x]) ++ ·) := by
  have en : n - i = (n - (i + 1)) + 1 := by omega
  rw [ht, en, itsA_step h, Option.map_map]
  congr 1
  funext l
  simp

theorem itsA_fail {k : Int} {s : ByteArray} {n i a : Nat} {L : List It} {tot : Option (List It)} (hi : i < n) (ht : tot = (itsA k s (n - i) a).map (L ++ ·)) (h : itA k s a = none) : tot = none := by
  have en : n - i = (n - (i + 1)) + 1 := by omega
  rw [ht, en, itsA_stop h]
  rfl

theorem itsA_end {k : Int} {s : ByteArray} {n i a : Nat} {L : List It} {tot : Option (List It)} (hi : n ≤ i) (ht : tot = (itsA k s (n - i) a).map (L ++ ·)) : tot = some L := by
  have en : n - i = 0 := by omega
  rw [ht, en]
  simp [itsA]
end Go.Proofs.Ytajajfmaekdphaa
