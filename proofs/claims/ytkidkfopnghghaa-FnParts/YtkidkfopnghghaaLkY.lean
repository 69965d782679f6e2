/-
  The specification's OddParts and PiecesOf; that both programs find the same parts.
-/
import Derived.Test.YtkidkfopnghghaaLkX
import Derived.Test.YtkidkfopnghghaaLkS
namespace Go.Proofs.Ytkidkfopnghghaa
namespace Lk
open Go.RowKit
open Gr (Kept EdgeI GrAt GBox below_new InOwn InAt own_below own_lower intsV intsAt_of_own info3 graphOk specGraph_any)

theorem nbF_is {Q : List EdgeI} (hq : Apart Q) : nbF Q = lnkF Q := by
  funext v u
  exact nb_is hq v u

theorem prts_mem (F : Nat → Nat → Bool) : ∀ (L : List Nat) (f : Nat → Bool), (∀ v ∈ L, v < 9) → ∀ p ∈ prts F L f, ∀ j, p j = true → f j = true
  | [], _, _, p, hp, _, _ => by cases hp
  | v :: r, f, hL, p, hp, j, hj => by
    have hv := hL v List.mem_cons_self
    cases h : f v
    · rw [prts_out h] at hp
      exact prts_mem F r f (fun x hx => hL x (List.mem_cons_of_mem _ hx)) p hp j hj
    · rw [prts_in h] at hp
      rcases List.mem_cons.1 hp with rfl | hp
      · by_cases e : j = v
        · subst e; exact h
        · exact rch_flag hv hj e
      · have := prts_mem F r _ (fun x hx => hL x (List.mem_cons_of_mem _ hx)) p hp j hj
        simp at this
        exact this.1

theorem rows_same {s : Int} {Q : List EdgeI} (hg : graphOk s Q = true) (K : List Int) : rowsS Q s.toNat K = (partsR s Q K).map fun p => setTo p 9 := by
  obtain ⟨s0, s9⟩ := ok_size hg
  obtain ⟨n, rfl⟩ := Int.eq_ofNat_of_zero_le s0
  rw [Int.toNat_natCast]
  have hq := apart_of hg
  unfold rowsS partsR
  rw [nbF_is hq, Int.toNat_natCast]
  have hn : n ≤ 9 := by omega
  have e1 := prts_same (F := lnkF Q) (f := leftF n K) (fun u w => lnkF_swap hq u w) (List.range' 0 n) (fun _ => false) (fun v hv => by have := List.mem_range'_1.1 hv; omega) (fun u w _ _ h => by cases h)
  have e2 : (fun j => leftF n K j && !(fun _ => false) j) = leftF n K := by funext j; simp
  rw [e1, e2]
  have e3 : List.range' 0 9 = List.range' 0 n ++ List.range' n (9 - n) := by
    have := List.range'_append_1 (s := 0) (m := n) (n := 9 - n)
    rw [show 9 = n + (9 - n) by omega, ← this]
    simp
  rw [e3, prts_app (lnkF Q) (List.range' 0 n) (List.range' n (9 - n)) (leftF n K) (fun v hv => by
    have := List.mem_range'_1.1 hv
    cases h : leftF n K v
    · rfl
    · have := left_lt h; omega)]
  refine List.map_congr_left (fun p hp => ?_)
  have hm := prts_mem (lnkF Q) (List.range' 0 n) (leftF n K) (fun v hv => by have := List.mem_range'_1.1 hv; omega) p hp
  obtain ⟨d, hd⟩ : ∃ d, 9 = n + d := ⟨9 - n, by omega⟩
  rw [hd, setTo_low p n d (fun j h _ => by
    cases hj : p j
    · rfl
    · have := left_lt (hm j hj); omega)]

/-- How many rows are of an odd length. -/
def oddL (G : List (List Int)) : Nat := (G.map fun r => r.length % 2).sum

theorem oddL_next (G : List (List Int)) (k : Nat) (h : k < G.length) : oddL (G.take (k + 1)) = oddL (G.take k) + G[k].length % 2 := by
  unfold oddL
  rw [List.take_succ_eq_append_getElem h, List.map_append, List.sum_append]
  simp

theorem oddL_le : ∀ (G : List (List Int)), oddL G ≤ G.length
  | [] => by simp [oddL]
  | p :: r => by
    have := oddL_le r
    unfold oddL at *
    simp only [List.map_cons, List.sum_cons, List.length_cons]
    omega

theorem odd_same (Ps : List (Nat → Bool)) : oddL (Ps.map fun p => setTo p 9) = oddN Ps := by
  unfold oddL oddN
  rw [List.map_map]
  rfl

theorem rowsS_length (Q : List EdgeI) (n : Nat) (K : List Int) : (rowsS Q n K).length ≤ n := by
  unfold rowsS
  rw [List.length_map]
  have := prtsS_length (nbF Q) (leftF n K) (List.range' 0 n) (fun _ => false)
  simpa using this

theorem rowsS_row (Q : List EdgeI) (n : Nat) (K : List Int) : ∀ r ∈ rowsS Q n K, r.length ≤ n := fun r hr => by
  unfold rowsS at hr
  obtain ⟨p, _, rfl⟩ := List.mem_map.1 hr
  exact setTo_length _ _

/-- What PiecesOf tells. -/
def piecesR (s : Int) (Q : List EdgeI) (K : List Int) : List (List Int) := if graphOk s Q = true then (partsR s Q K).map fun p => setTo p 9 else []

end Lk
end Go.Proofs.Ytkidkfopnghghaa
