/-
 GrInts, GrKInts, LkW, LkA, GrCC.
-/
import Derived.Test.YtnihoabminnbcaaJ2
import Derived.Test.YtnihoabminnbcaaJ5
import Derived.Deep.RegionHeld3
import Derived.Lib.SmallJoins
import Derived.SliceStrings
import Derived.ShutString
import Derived.BigQuiet
import Derived.Test.YtnihoabminnbcaaJ1
namespace Go.Proofs.Ytnihoabminnbcaa
namespace Gr
open Go.ChangeShapes Go.WideShapes Go.ChangeAt Go.RowKit
theorem info3 : (Try.prog.info? 3).map (fun i => (i.zero, i.size, i.bytes)) = some (some (.int .i64 0), 1, 8) := by kernel_rfl
def intsV (K : List Int) : List Value := K.map (Value.int .i64)
theorem intsV_set (K : List Int) (i : Nat) (x : Int) : (intsV K).set i (.int .i64 x) = intsV (K.set i x) := by simp [intsV, List.map_set]
theorem made_ints (n : Nat) (M : Array Value) (hM : M = madeCells (Value.int .i64 0).cells (n * 1)) : M.toList = intsV (List.replicate n 0) ∧ M.size = n * 1 := by
  constructor
  · rw [hM]
    simp [madeCells, intsV, Value.cells]
    refine List.eq_replicate_iff.2 ⟨by simp, fun b hb => ?_⟩
    obtain ⟨x, _, rfl⟩ := List.mem_map.1 hb
    simp [Nat.mod_one]
  · rw [hM, size_madeCells]
theorem intsAt_of_own {w : World} {B : Nat} {v : Value} {n : Nat} {K : List Int} (h : w.ownsRow B 3 1 v n (intsV K)) : ∃ a c, v = .slice a n c ∧ IntsAt w a n w.heap.size K := by
  have hl : K.length = n := by have := h.1; simp [intsV] at this; omega
  rcases h.2 with ⟨rfl, h0⟩ | ⟨g, cap, cur, rfl, hg, hh, _⟩
  · subst h0
    exact ⟨none, 0, rfl, hl, fun j hj => by omega⟩
  · refine ⟨_, _, rfl, hl, fun j hj => ⟨g, 0, rfl, (h.lt g rfl).2, ?_⟩⟩
    rw [Nat.zero_add, h.cellAt j (by omega)]
    simp [intsV, hj]
/-- The marks of n numbers from k on. -/
def marksN (k n : Nat) : List Int := (List.range n).map fun i => ((k + i : Nat) : Int)
theorem marksN_length (k n : Nat) : (marksN k n).length = n := by simp [marksN]
theorem marksN_at (k n i : Nat) (h : i < (marksN k n).length) : (marksN k n)[i] = ((k + i : Nat) : Int) := by simp [marksN]
theorem ints_open {H : Type} {enc : TypeId × Value → H} {W : World} {spare : Nat → Bool} {held : Bool} {fuel : Nat} {v : Value} {x : DataW H × List MemPlace} (hsp : ∀ b, spare b = true)
    (h : DataW.trod enc Try.prog W 0 spare held fuel 30 v.cells.toList = some x) :
    ∃ a n c K, v.cells.toList = [.slice a n c] ∧ IntsAt W a n W.heap.size K ∧ (∀ x ∈ K, (Lit.int .i64 x).wf = true) ∧ n ≤ 9223372036854775807 := by
  rcases open_ints Try.underlying30 Try.underlying3 cells_int h with ⟨hcs, _⟩ | ⟨a, len, cap, zs, hcs, _, hl, hm, hz, _, hcell, hwz⟩
  · exact ⟨none, 0, 0, [], hcs, ⟨rfl, fun j hj => by simp at hj⟩, by simp, by omega⟩
  · rw [if_pos (hsp _)] at hz
    refine ⟨some a, len, cap, zs.take len, hcs, ⟨by simp; omega, fun j hj => ?_⟩, fun x hx => hwz x (List.mem_of_mem_take hx), ?_⟩
    · have hj1 : j < len := by simp at hj; omega
      have hc := hcell j (by omega)
      obtain ⟨b, off, spot⟩ := a
      have hspot : spot = none := by simpa [Addr.add] using World.cell?_spot (hcell 0 (by omega))
      subst hspot
      rw [Addr.add_lit] at hc
      refine ⟨b, off, rfl, by simpa using World.block_lt_of_cell? W _ hc, ?_⟩
      rw [hc]
      have hjs : j < zs.length := by omega
      simp [hjs]
    · unfold maxLen at hm
      omega
def InAt (w : World) (v : Value) (B : Nat) (K : List Int) : Prop := ∃ a c, v = .slice a K.length c ∧ IntsAt w a K.length B K
def InOwn (w : World) (B : Nat) (v : Value) (K : List Int) : Prop := w.ownsRow B 3 1 v K.length (intsV K)
def InBlk (v : Value) (g : Nat) : Prop := v.ownBlock = some g
theorem InAt.shape {w : World} {v : Value} {B : Nat} {K : List Int} (h : InAt w v B K) : ∃ a c, v = .slice a K.length c := by
  obtain ⟨a, c, rfl, _⟩ := h
  exact ⟨a, c, rfl⟩
theorem InAt.below {w w' : World} {v : Value} {B C : Nat} {K : List Int} (h : InAt w v B K) (hb : Below C w w') (hC : B ≤ C) : InAt w' v B K := by
  obtain ⟨a, c, rfl, hQ⟩ := h
  exact ⟨a, c, rfl, hQ.below hb hC⟩
theorem InAt.mono {w : World} {v : Value} {B C : Nat} {K : List Int} (h : InAt w v B K) (hC : B ≤ C) : InAt w v C K := by
  obtain ⟨a, c, rfl, h1, h2⟩ := h
  refine ⟨a, c, rfl, h1, fun j hj => ?_⟩
  obtain ⟨b, off, e, hb, hc⟩ := h2 j hj
  exact ⟨b, off, e, by omega, hc⟩
theorem InOwn.at {w : World} {B : Nat} {v : Value} {K : List Int} (h : InOwn w B v K) : InAt w v w.heap.size K := by
  obtain ⟨a, c, rfl, hQ⟩ := intsAt_of_own h
  exact ⟨a, c, rfl, hQ⟩
theorem InOwn.below {w w' : World} {B : Nat} {v : Value} {K : List Int} (h : InOwn w B v K) (hb : Below w.heap.size w w') : InOwn w' B v K := own_below h hb
theorem InOwn.lower {w : World} {B C : Nat} {v : Value} {K : List Int} (h : InOwn w B v K) (hC : C ≤ B) : InOwn w C v K := own_lower hC h
theorem InOwn.blk {w : World} {B : Nat} {v : Value} {K : List Int} (h : InOwn w B v K) : ∀ g, InBlk v g → B ≤ g ∧ g < w.heap.size := fun g hg => World.ownsRow.lt h g hg
theorem InOwn.kept {S : Nat → Prop} {w w' : World} {B : Nat} {v : Value} {K : List Int} (h : InOwn w B v K) (hk : Kept S w w') (hS : ∀ g, InBlk v g → ¬ S g) : InOwn w' B v K := hk.own h hS
set_option maxRecDepth 100000 in
theorem ints_in {H : Type} {enc : TypeId × Value → H} {W : World} {r : Reach} {b0 : Nat} {v : Value} {d : DataW H} {p : List MemPlace}
    (hv : Value.okWide Try.prog W r b0 30 v) (h : DataW.Trod enc Try.prog W 0 (fun _ => true) true 30 v d p) : ∃ K, InAt W v W.heap.size K ∧ K.length ≤ 9223372036854775807 := by
  obtain ⟨a, n, c, rfl⟩ := okWide_slice Try.underlying30 hv
  obtain ⟨fuel, hf⟩ := h
  obtain ⟨a', n', c', K, hcs, hK, _, hn⟩ := ints_open (fun _ => rfl) hf
  simp [Value.cells] at hcs
  obtain ⟨rfl, rfl, rfl⟩ := hcs
  obtain rfl : n = K.length := hK.1.symm
  exact ⟨K, ⟨a, c, rfl, hK⟩, hn⟩
end Gr
end Go.Proofs.Ytnihoabminnbcaa
namespace Go.Proofs.Ytnihoabminnbcaa
namespace Lk
open Go.RowKit
open Gr (Kept own_below own_lower InOwn InAt intsV intsAt_of_own marksN marksN_length)
theorem infoRow : (Try.prog.info? 30).map (fun i => (i.zero, i.size, i.bytes)) = some (some (.slice none 0 0), 1, 24) := by kernel_rfl
/-- A row of rows of items, all of it made by a call: no block below B; the rows lie below C. -/
def Grps (w : World) (B C : Nat) (v : Value) (vs : List Value) (G : List (List Int)) : Prop :=
  vs.length = G.length ∧ w.ownsRow B 30 1 v G.length vs ∧ ∀ j (h1 : j < vs.length) (h2 : j < G.length), w.ownsRow B 3 1 vs[j] G[j].length (intsV G[j]) ∧ ∀ g, vs[j].ownBlock = some g → g < C
/-- No two of the rows lie in one block. -/
def Dist (vs : List Value) : Prop := ∀ i j (hi : i < vs.length) (hj : j < vs.length) g, vs[i].ownBlock = some g → vs[j].ownBlock = some g → i = j
theorem own_ne {w : World} {B B' n m g : Nat} {v u : Value} {xs ys : List Value} (h : w.ownsRow B 30 1 v n xs) (h' : w.ownsRow B' 3 1 u m ys) (hg : v.ownBlock = some g) (hg' : u.ownBlock = some g) : False := by
  rcases h.2 with ⟨rfl, _⟩ | ⟨g1, cap, cur, rfl, _, hh, _⟩
  · cases hg
  · rcases h'.2 with ⟨rfl, _⟩ | ⟨g2, cap2, cur2, rfl, _, hh2, _⟩
    · cases hg'
    · have e1 : g1 = g := Option.some.inj hg
      have e2 : g2 = g := Option.some.inj hg'
      subst e1 e2
      rw [hh] at hh2
      simp at hh2
theorem row_shape {w : World} {B e n : Nat} {v : Value} {xs : List Value} (h : w.ownsRow B e 1 v n xs) : ∃ A c, v = .slice A n c := by
  rcases h.2 with ⟨rfl, h0⟩ | ⟨g, cap, cur, rfl, _⟩
  · exact ⟨none, 0, by rw [h0]⟩
  · exact ⟨_, _, rfl⟩
theorem Grps.below {w w' : World} {B C : Nat} {v : Value} {vs : List Value} {G : List (List Int)} (h : Grps w B C v vs G) (hb : Below w.heap.size w w') : Grps w' B C v vs G :=
  ⟨h.1, own_below h.2.1 hb, fun j h1 h2 => ⟨own_below (h.2.2 j h1 h2).1 hb, (h.2.2 j h1 h2).2⟩⟩
theorem Grps.mono {w : World} {B C C' : Nat} {v : Value} {vs : List Value} {G : List (List Int)} (h : Grps w B C v vs G) (hC : C ≤ C') : Grps w B C' v vs G :=
  ⟨h.1, h.2.1, fun j h1 h2 => ⟨(h.2.2 j h1 h2).1, fun g hg => Nat.lt_of_lt_of_le ((h.2.2 j h1 h2).2 g hg) hC⟩⟩
theorem Grps.lower {w : World} {B B' C : Nat} {v : Value} {vs : List Value} {G : List (List Int)} (h : Grps w B C v vs G) (hB : B' ≤ B) : Grps w B' C v vs G :=
  ⟨h.1, own_lower hB h.2.1, fun j h1 h2 => ⟨own_lower hB (h.2.2 j h1 h2).1, (h.2.2 j h1 h2).2⟩⟩
theorem Grps.kept {S : Nat → Prop} {w w' : World} {B C : Nat} {v : Value} {vs : List Value} {G : List (List Int)} (h : Grps w B C v vs G) (hk : Kept S w w') (hS : ∀ g, v.ownBlock = some g → ¬ S g)
    (hT : ∀ j (h1 : j < vs.length) g, vs[j].ownBlock = some g → ¬ S g) : Grps w' B C v vs G :=
  ⟨h.1, hk.own h.2.1 hS, fun j h1 h2 => ⟨hk.own (h.2.2 j h1 h2).1 (hT j h1), (h.2.2 j h1 h2).2⟩⟩
/-- Every block of it lies at B or behind, and was there. -/
theorem Grps.blk {w : World} {B C : Nat} {v : Value} {vs : List Value} {G : List (List Int)} (h : Grps w B C v vs G) : (∀ g, v.ownBlock = some g → B ≤ g ∧ g < w.heap.size) ∧ ∀ j (h1 : j < vs.length) g, vs[j].ownBlock = some g → B ≤ g ∧ g < w.heap.size :=
  ⟨h.2.1.lt, fun j h1 => (h.2.2 j h1 (by rw [← h.1]; exact h1)).1.lt⟩
/-- What is turned outside of it leaves it as it is. -/
theorem Grps.keptB {S : Nat → Prop} {w w' : World} {B C : Nat} {v : Value} {vs : List Value} {G : List (List Int)} (h : Grps w B C v vs G) (hk : Kept S w w') (hS : ∀ g, B ≤ g → g < w.heap.size → ¬ S g) : Grps w' B C v vs G :=
  h.kept hk (fun g hg => hS g (h.blk.1 g hg).1 (h.blk.1 g hg).2) (fun j h1 g hg => hS g (h.blk.2 j h1 g hg).1 (h.blk.2 j h1 g hg).2)
theorem Grps.snoc {w w1 : World} {B C C' : Nat} {v v' u : Value} {vs : List Value} {G : List (List Int)} {q : List Int} (h : Grps w B C v vs G) (hu : w.ownsRow B 3 1 u q.length (intsV q)) (huC : ∀ g, u.ownBlock = some g → g < C') (hC : C ≤ C')
    (hown : w1.ownsRow B 30 1 v' (G.length + 1) (vs ++ [u])) (hk : Kept (fun g => v.ownBlock = some g) w w1) : Grps w1 B C' v' (vs ++ [u]) (G ++ [q]) := by
  refine ⟨by simp [h.1], by simpa using hown, fun j h1 h2 => ?_⟩
  have hl := h.1
  by_cases hj : j < vs.length
  · have hj2 : j < G.length := by omega
    have e1 : (vs ++ [u])[j] = vs[j] := List.getElem_append_left hj
    have e2 : (G ++ [q])[j] = G[j] := List.getElem_append_left hj2
    rw [e1, e2]
    obtain ⟨ho, hc⟩ := h.2.2 j hj hj2
    exact ⟨hk.own ho (fun g hg hg' => own_ne h.2.1 ho hg' hg), fun g hg => Nat.lt_of_lt_of_le (hc g hg) hC⟩
  · have hj3 : j = vs.length := by simp at h1; omega
    subst hj3
    have e1 : (vs ++ [u])[vs.length] = u := by simp
    have e2 : (G ++ [q])[vs.length] = q := by rw [List.getElem_append_right (by omega)]; simp [hl]
    rw [e1, e2]
    exact ⟨hk.own hu (fun g hg hg' => own_ne h.2.1 hu hg' hg), huC⟩
theorem Dist.nil : Dist [] := fun i _ hi => by simp at hi
theorem Dist.snoc {vs : List Value} {u : Value} {C : Nat} (h : Dist vs) (hC : ∀ j (h1 : j < vs.length) g, vs[j].ownBlock = some g → g < C) (hu : ∀ g, u.ownBlock = some g → C ≤ g) : Dist (vs ++ [u]) := by
  intro i j hi hj g hgi hgj
  by_cases hi' : i < vs.length
  · rw [List.getElem_append_left hi'] at hgi
    by_cases hj' : j < vs.length
    · rw [List.getElem_append_left hj'] at hgj
      exact h i j hi' hj' g hgi hgj
    · have e : j = vs.length := by simp at hj; omega
      subst e
      have e1 : (vs ++ [u])[vs.length] = u := by simp
      rw [e1] at hgj
      have := hC i hi' g hgi
      have := hu g hgj
      omega
  · have e : i = vs.length := by simp at hi; omega
    subst e
    have e1 : (vs ++ [u])[vs.length] = u := by simp
    rw [e1] at hgi
    by_cases hj' : j < vs.length
    · rw [List.getElem_append_left hj'] at hgj
      have := hC j hj' g hgj
      have := hu g hgi
      omega
    · simp at hj; omega
/-- How many marks the groups ahead of the j-th take. -/
def offG (G : List (List Int)) (j : Nat) : Nat := ((G.take j).map List.length).sum
theorem offG_zero (G : List (List Int)) : offG G 0 = 0 := by simp [offG]
theorem offG_succ (G : List (List Int)) (j : Nat) (h : j < G.length) : offG G (j + 1) = offG G j + G[j].length := by
  unfold offG
  rw [List.take_succ_eq_append_getElem h, List.map_append, List.sum_append]
  simp
theorem offG_all (G : List (List Int)) : offG G G.length = G.flatten.length := by
  unfold offG
  rw [List.take_length, List.length_flatten]
theorem offG_le (G : List (List Int)) (j : Nat) : offG G j ≤ G.flatten.length := by
  have e : G.flatten = (G.take j).flatten ++ (G.drop j).flatten := by rw [← List.flatten_append, List.take_append_drop]
  unfold offG
  rw [e, List.length_append, List.length_flatten]
  omega
/-- The groups with the first j marked. -/
def mixG (k : Nat) (G : List (List Int)) (j : Nat) : List (List Int) := G.mapIdx fun i g => if i < j then marksN (k + offG G i) g.length else g
theorem mixG_length (k : Nat) (G : List (List Int)) (j : Nat) : (mixG k G j).length = G.length := by simp [mixG]
theorem mixG_at (k : Nat) (G : List (List Int)) (j i : Nat) (h : i < (mixG k G j).length) (h2 : i < G.length) : (mixG k G j)[i] = if i < j then marksN (k + offG G i) G[i].length else G[i] := by simp [mixG]
theorem mixG_zero (k : Nat) (G : List (List Int)) : mixG k G 0 = G := by
  apply List.ext_getElem
  · simp [mixG]
  · intro i h1 h2; rw [mixG_at k G 0 i h1 h2, if_neg (by omega)]
theorem mixG_len_at (k : Nat) (G : List (List Int)) (j i : Nat) (h : i < (mixG k G j).length) (h2 : i < G.length) : (mixG k G j)[i].length = G[i].length := by
  rw [mixG_at k G j i h h2]; split
  · exact marksN_length _ _
  · rfl
theorem Grps.marked {w w1 : World} {B C k j : Nat} {v : Value} {vs : List Value} {G : List (List Int)} (h : Grps w B C v vs (mixG k G j)) (hd : Dist vs) (hj : j < G.length) (hjv : j < vs.length)
    (ho : w1.ownsRow B 3 1 vs[j] G[j].length (intsV (marksN (k + offG G j) G[j].length))) (hk : Kept (fun g => vs[j].ownBlock = some g) w w1) : Grps w1 B C v vs (mixG k G (j + 1)) := by
  have hl := h.1
  rw [mixG_length] at hl
  have hjo := (h.2.2 j hjv (by rw [mixG_length]; exact hj)).1
  refine ⟨by rw [mixG_length]; exact hl, ?_, fun i h1 h2 => ?_⟩
  · have h0 := h.2.1
    rw [mixG_length] at h0 ⊢
    exact hk.own h0 (fun g hg hg' => own_ne h0 hjo hg hg')
  · have hi : i < G.length := by rw [mixG_length] at h2; exact h2
    obtain ⟨o, c⟩ := h.2.2 i h1 (by rw [mixG_length]; exact hi)
    rw [mixG_at k G j i _ hi] at o
    rw [mixG_at k G (j + 1) i h2 hi]
    refine ⟨?_, c⟩
    by_cases e : i = j
    · subst e
      rw [if_pos (by omega), marksN_length]
      exact ho
    · have o2 := hk.own o (fun g hg hg' => e (hd i j h1 hjv g hg hg'))
      by_cases e2 : i < j
      · rw [if_pos (by omega)]
        rw [if_pos e2] at o2
        exact o2
      · rw [if_neg (by omega)]
        rw [if_neg e2] at o2
        exact o2
end Lk
end Go.Proofs.Ytnihoabminnbcaa
namespace Go.Proofs.Ytnihoabminnbcaa
namespace Lk
open Go.RowKit
def aheadF : List Int → List Int → Bool
  | x :: a, y :: b => if x ≠ y then decide (x < y) else aheadF a b
  | [], b => decide (0 < b.length)
  | _ :: _, [] => false
theorem ahead_step (A B : List Int) (j : Nat) (ha : j < A.length) (hb : j < B.length) : aheadF (A.drop j) (B.drop j) = if A[j] ≠ B[j] then decide (A[j] < B[j]) else aheadF (A.drop (j + 1)) (B.drop (j + 1)) := by
  rw [List.drop_eq_getElem_cons ha, List.drop_eq_getElem_cons hb]
  rfl
theorem ahead_end (A B : List Int) (j : Nat) (hj : j ≤ A.length) (hj2 : j ≤ B.length) (h : ¬ (j < A.length ∧ j < B.length)) : aheadF (A.drop j) (B.drop j) = decide (A.length < B.length) := by
  by_cases ha : j < A.length
  · have hb : j = B.length := by omega
    rw [List.drop_eq_getElem_cons ha, List.drop_of_length_le (l := B) (by omega)]
    show false = _
    symm
    simp; omega
  · rw [List.drop_of_length_le (l := A) (by omega)]
    show decide (0 < (B.drop j).length) = _
    rw [List.length_drop]
    congr 1
    simp; omega
set_option maxRecDepth 100000 in
set_option maxHeartbeats 1000000 in
theorem ahead_any (w : World) (A B : List Int) (aA aB : Option Addr) (cA cB la lb BA BB : Nat) (hla : la ≤ 1048576) (hlb : lb ≤ 1048576) (hBA : BA ≤ w.heap.size) (hBB : BB ≤ w.heap.size) (hA : IntsAt w aA la BA A) (hB : IntsAt w aB lb BB B) :
    Calls Try.prog 39 #[.slice aA la cA, .slice aB lb cB] w fun u w' => u = .returned (.bool (aheadF A B)) ∧ Below w.heap.size w w' := by
  obtain ⟨lA, hcA⟩ := hA
  obtain ⟨lB, hcB⟩ := hB
  have HCA := hide hcA
  have HCB := hide hcB
  have HLA := hide lA
  have HLB := hide lB
  have HST := hide (ahead_step A B)
  have HEND := hide (ahead_end A B)
  have HT0 : Hid (aheadF A B = aheadF (A.drop 0) (B.drop 0)) := rfl
  generalize aheadF A B = T at HT0
  clear hcA hcB lA lB
  go_enter Try.func39, Try.ntmps39
  go_wp2_with fail
  go_loopw [5] (fun i wr => ∃ k : Nat, i = .int .i64 (k : Int) ∧ k ≤ la ∧ k ≤ lb ∧ Hid (T = aheadF (A.drop k) (B.drop k)) ∧ Below w.heap.size w wr) (fun i _ => la - (intOf i).toNat)
  case atStart => exact ⟨0, rfl, Nat.zero_le _, Nat.zero_le _, HT0, Below.refl _ _⟩
  case round =>
    obtain ⟨k, rfl, hka, hkb, HT, hb⟩ := hrel
    by_cases h1 : k < la
    · have hx0 : (0 : Int) ≤ (k : Int) := by omega
      have hx1 : (k : Int) < (la : Int) := by omega
      by_cases h2 : k < lb
      · have hx2 : (k : Int) < (lb : Int) := by omega
        have kA : k < A.length := by have := unhide HLA; omega
        have kB : k < B.length := by have := unhide HLB; omega
        obtain ⟨b1, o1, rfl, hb1, c1⟩ := unhide HCA k kA
        obtain ⟨b2, o2, rfl, hb2, c2⟩ := unhide HCB k kB
        rw [← hb.cell (p := ⟨b1, o1 + k, none⟩) (by simp; omega)] at c1
        rw [← hb.cell (p := ⟨b2, o2 + k, none⟩) (by simp; omega)] at c2
        have HT2 := hide ((unhide HT).trans (unhide HST k kA kB))
        generalize A[k] = x at c1 HT2
        generalize B[k] = y at c2 HT2
        by_cases hxy : x = y
        · subst hxy
          have HT3 : Hid (T = aheadF (A.drop (k + 1)) (B.drop (k + 1))) := (unhide HT2).trans (if_neg (fun h => h rfl))
          clear HT2 HT
          go_wp2_with fail
          go_quiet (fail)
          go_wp2
          go_roundw
          case rel => exact ⟨k + 1, by go_num, by omega, by omega, HT3, below_drewN hb _⟩
          case measure => simp [intOf]; omega
        · have hT : T = decide (x < y) := (unhide HT2).trans (if_pos hxy)
          subst hT
          have hne : (x == y) = false := by simp [hxy]
          clear HT2 HT
          go_wp2_with fail
          go_quiet (fail)
          go_wp2_with fail
          go_quiet (fail)
          go_wp2
          go_ret
          exact ⟨rfl, below_drewN (below_drewN hb _) _⟩
      · obtain rfl : k = lb := by omega
        have hx2 : ¬ (k : Int) < (k : Int) := by omega
        have hT : T = decide (la < k) := by
          rw [unhide HT, unhide HEND k (by have := unhide HLA; omega) (by have := unhide HLB; omega) (by have := unhide HLB; omega), unhide HLA, unhide HLB]
        have hf : T = false := by rw [hT]; simp; omega
        subst hf
        have hx3 : ¬ (la : Int) < (k : Int) := by omega
        clear hT HT
        go_wp2
        go_ret
        exact ⟨rfl, hb⟩
    · obtain rfl : k = la := by omega
      have hx1 : ¬ (k : Int) < (k : Int) := by omega
      have hT : T = decide (k < lb) := by
        rw [unhide HT, unhide HEND k (by have := unhide HLA; omega) (by have := unhide HLB; omega) (by have := unhide HLA; omega), unhide HLA, unhide HLB]
      have hT2 : T = decide ((k : Int) < (lb : Int)) := by rw [hT]; congr 1; simp
      subst hT2
      clear hT HT
      by_cases h3 : (k : Int) < (lb : Int)
      · go_wp2
        go_ret
        exact ⟨by first | rfl | (congr 2; simp; omega) | (congr 2; simpa using h3), hb⟩
      · go_wp2
        go_ret
        exact ⟨by first | rfl | (congr 2; simp; omega) | (congr 2; simpa using h3), hb⟩
end Lk
end Go.Proofs.Ytnihoabminnbcaa
namespace Go.Proofs.Ytnihoabminnbcaa
namespace Gr
open Go.RowKit
/-- A cursor, and the bytes that it reads. -/
def CC (a : Option Addr) (len cap g B : Nat) (w : World) : Prop := Cur a len cap g w ∧ Code a len B w
theorem grownK {w w' : World} {g : Nat} (h : w.grownBy w' (some g)) : Kept (fun k => k = g) w w' := (Kept.of_grown h).weak (fun i hi => by have := Option.some.inj hi; omega)
theorem CC.lt {a : Option Addr} {len cap g B : Nat} {w : World} (h : CC a len cap g B w) : g < w.heap.size := by
  obtain ⟨⟨i, x, _, h1⟩, _⟩ := h
  rcases Nat.lt_or_ge g w.heap.size with h2 | h2
  · exact h2
  · rw [Array.getElem?_eq_none h2] at h1; cases h1
theorem CC.kept {S : Nat → Prop} {a : Option Addr} {len cap g B : Nat} {w w' : World} (h : CC a len cap g B w) (hk : Kept S w w') (hB : B ≤ g) (hS : ∀ k, S k → g < k) : CC a len cap g B w' := by
  have hg := h.lt
  obtain ⟨⟨i, x, hi, h1⟩, h2⟩ := h
  refine ⟨⟨i, x, hi, by rw [hk.2.2.2.2 g hg (fun e => by have := hS _ e; omega)]; exact h1⟩, fun j hj => ?_⟩
  obtain ⟨b, off, z, e, hb, hc, hz⟩ := h2 j hj
  exact ⟨b, off, z, e, hb, by rw [(hk.below (B := g) (by omega) (fun i hi => by have := hS i hi; omega)).cell (p := ⟨b, off + j, none⟩) (by simp; omega)]; exact hc, hz⟩
theorem CC.below {a : Option Addr} {len cap g B : Nat} {w w' : World} (h : CC a len cap g B w) (hb : Below w.heap.size w w') (hB : B ≤ g) : CC a len cap g B w' :=
  h.kept (S := fun k => w.heap.size ≤ k) ⟨hb.os, hb.tape, hb.output, hb.size, fun i hi _ => hb.block i hi⟩ hB (fun k hk => by have := h.lt; omega)
theorem below_cc (a : Option Addr) (len cap g B : Nat) (n : Int) (hl : len ≤ 1048576) (hB : B ≤ g) (h0 : 0 < n) (w : World) (h : CC a len cap g B w) :
    Calls Try.prog 29 #[.pointer (some ⟨g, 0, none⟩), .int .i64 n] w fun e w' => (∃ x : Int, e = .returned (.int .i64 x) ∧ 0 ≤ x ∧ x < n) ∧ CC a len cap g B w' ∧ Kept (fun k => k = g) w w' := by
  refine (below_any a len cap g B n hl hB h0 w h.1 h.2).mono ?_
  rintro e w' ⟨x, rfl, hx0, hx1, hc, hg⟩
  exact ⟨⟨x, rfl, hx0, hx1⟩, ⟨hc, h.2.grown hB hg⟩, grownK hg⟩
theorem once_cc (a : Option Addr) (len cap g B : Nat) (n : Int) (hl : len ≤ 1048576) (hB : B ≤ g) (h0 : 0 < n) (w : World) (h : CC a len cap g B w) :
    Calls Try.prog 31 #[.pointer (some ⟨g, 0, none⟩), .int .i64 n] w fun e w' => (∃ b : Bool, e = .returned (.bool b)) ∧ CC a len cap g B w' ∧ Kept (fun k => k = g) w w' := by
  refine (once_any a len cap g B n hl hB h0 w h.1 h.2).mono ?_
  rintro e w' ⟨⟨b, rfl⟩, hc, hg⟩
  exact ⟨⟨b, rfl⟩, ⟨hc, h.2.grown hB hg⟩, grownK hg⟩
set_option maxRecDepth 100000 in
theorem pick_cc (P : Int → Prop) (a : Option Addr) (len cap g B b : Nat) (x0 x1 x2 : Int) (hl : len ≤ 1048576) (hB : B ≤ g) (hb : b ≠ g) (w : World) (h : CC a len cap g B w) (hx : w.heap[b]? = some (.cells #[.int .i64 x0, .int .i64 x1, .int .i64 x2] 3 (0, 0))) (h0 : P x0) (h1 : P x1) (h2 : P x2) :
    Calls Try.prog 30 #[.pointer (some ⟨g, 0, none⟩), .slice (some ⟨b, 0, none⟩) 3 3] w fun e w' => (∃ x, e = .returned (.int .i64 x) ∧ P x) ∧ CC a len cap g B w' ∧ Kept (fun k => k = g) w w' := by
  have H := hide (below_cc a len cap g B 3 hl hB (by omega) w h)
  have HX := hide hx
  have hbl : b < w.heap.size := by
    rcases Nat.lt_or_ge b w.heap.size with h | h
    · exact h
    · rw [Array.getElem?_eq_none h] at hx; cases hx
  clear h hx
  go_enter Try.func30, Try.ntmps30
  go_wp2_with fail
  refine (unhide H).mono ?_
  rintro e w1 ⟨⟨x, rfl, hx0, hx1⟩, hc1, hg1⟩
  obtain ⟨c0, c1, c2, _⟩ := cell_of_three (show w1.heap[b]? = some (.cells #[.int .i64 x0, .int .i64 x1, .int .i64 x2] 3 (0, 0)) by rw [hg1.2.2.2.2 b hbl hb]; exact unhide HX)
  have HC := hide hc1
  have HG := hide hg1
  clear hc1 hg1
  have hcase : x = 0 ∨ x = 1 ∨ x = 2 := by omega
  rcases hcase with rfl | rfl | rfl
  · go_wp2
    go_ret
    exact ⟨⟨x0, rfl, h0⟩, unhide HC, unhide HG⟩
  · go_wp2
    go_ret
    exact ⟨⟨x1, rfl, h1⟩, unhide HC, unhide HG⟩
  · go_wp2
    go_ret
    exact ⟨⟨x2, rfl, h2⟩, unhide HC, unhide HG⟩
end Gr
end Go.Proofs.Ytnihoabminnbcaa
