/-
  Texts of this claim, one behind the other: Lk0, Lk1, GrFlags, LkLaw.
-/
import Derived.Test.YtfhclbpbjlbebaaJ16
import Derived.Test.YtfhclbpbjlbebaaJ8
import Derived.Test.YtfhclbpbjlbebaaJ13

/-
  Looking at graphs: the neighbours of a vertex; the contracts of spec.l17Next and spec.Neighbours.
-/
namespace Go.Proofs.Ytfhclbpbjlbebaa
namespace Lk
open Go.RowKit
open Gr (EdgeI GrAt GBox atFrom specAt_any below_new InOwn InAt own_below own_lower intsV intsAt_of_own info3 graphOk specGraph_any Kept)

/-- Is u beside v? -/
def nb (Q : List EdgeI) (v : Int) (u : Nat) : Bool := ((u : Int) != v) && decide (0 ≤ atFrom (u : Int) v 0 Q)

/-- The neighbours of v below k. -/
def nextTo (Q : List EdgeI) (v : Int) (k : Nat) : List Int := ((List.range k).filter (nb Q v)).map fun j => ((j : Nat) : Int)

theorem nextTo_in {Q : List EdgeI} {v : Int} {k : Nat} (h : nb Q v k = true) : nextTo Q v (k + 1) = nextTo Q v k ++ [(k : Int)] := by
  unfold nextTo
  rw [List.range_succ, List.filter_append]
  simp [h]
theorem nextTo_out {Q : List EdgeI} {v : Int} {k : Nat} (h : nb Q v k = false) : nextTo Q v (k + 1) = nextTo Q v k := by
  unfold nextTo
  rw [List.range_succ, List.filter_append]
  simp [h]
theorem nextTo_length (Q : List EdgeI) (v : Int) (k : Nat) : (nextTo Q v k).length ≤ k := by
  unfold nextTo
  rw [List.length_map]
  have := List.length_filter_le (nb Q v) (List.range k)
  simpa using this

theorem intsV_snocL (K : List Int) (x : Int) : intsV (K ++ [x]) = intsV K ++ [Value.int .i64 x] := by simp [intsV]
theorem one_intL (x : Int) : ∀ u, u ∈ [Value.int .i64 x] → u.oneCell' = true := by
  intro u hu; simp at hu; subst hu; rfl

set_option maxRecDepth 100000 in
set_option maxHeartbeats 2000000 in
theorem next_any (v : Value) (B n : Nat) (x : Int) (Q : List EdgeI) (h1 : Q.length ≤ 1048576) (hn : n ≤ 1048576) (w : World) (hB : B ≤ w.heap.size) (hv : GrAt w v B (n : Int) Q) :
    Calls Try.prog 90 #[v, .int .i64 x] w fun e w' => (∃ d, e = .returned d ∧ InOwn w' w.heap.size d (nextTo Q x n)) ∧ Below w.heap.size w w' := by
  obtain ⟨i0, hi, hz0, hz1, hz2⟩ := info_parts info3
  have AT := hide (fun (k : Nat) w1 (hb : Below w.heap.size w w1) => specAt_any v B (n : Int) (k : Int) x Q h1 w1 (by have := hb.size; omega) (hv.below hb hB))
  obtain ⟨a, m, c, rfl, _⟩ := hv
  go_enter Try.func90, Try.ntmps90
  go_wp2_with fail
  obtain ⟨V1, hV1⟩ : ∃ W, W = w.alloc (Obj.cells #[Value.int .i64 (n : Int), Value.slice a m c] 26) := ⟨_, rfl⟩
  rw [← hV1]
  have x1 : GBox V1 w.heap.size (n : Int) (.slice a m c) := by rw [hV1]; exact GBox.new _ _ _
  have b1 : Below w.heap.size w V1 := by rw [hV1]; exact below_new _ _
  have HS1 : Hid (V1.heap.size = w.heap.size + 1) := by show _ = _; rw [hV1]; simp
  clear hV1
  have z1 := x1.lt
  have X1 := hide x1
  go_loopw [5, 6] (fun out i wr => ∃ k : Nat, i = .int .i64 (k : Int) ∧ k ≤ n ∧ Hid (InOwn wr V1.heap.size out (nextTo Q x k)) ∧ Below V1.heap.size V1 wr) (fun _ i _ => n - (intOf i).toNat)
  case atStart =>
    refine ⟨0, rfl, Nat.zero_le _, ?_, (Below.refl _ _).alloc (Nat.le_refl _) _⟩
    have h := World.ownsRow_made V1 (e := 3) #[] 0 (Nat.le_refl _) (Nat.zero_le _) (show (#[] : Array Value).size = 0 * 1 from rfl)
    rw [show (⟨V1.heap.size, 0, none⟩ : Addr) = ⟨w.heap.size + 1, 0, none⟩ by rw [unhide HS1]] at h
    exact h
  case round =>
    obtain ⟨k, rfl, hk, HO, hb⟩ := hrel
    have hbw := b1.trans (hb.mono b1.size)
    obtain ⟨p0, p1⟩ := ((unhide X1).below hb).cells
    obtain ⟨A, cp, rfl, _⟩ := intsAt_of_own (unhide HO)
    by_cases hlt : k < n
    · have hx1 : (k : Int) < (n : Int) := by omega
      by_cases hne : (k : Int) = x
      · have hq : nb Q x k = false := by unfold nb; simp [hne]
        have HF := hide (nextTo_out hq)
        have t0 : ((k : Int) != x) = false := by simp [hne]
        clear hne
        go_wp2_with fail
        exact ⟨⟨k + 1, by go_num, by omega, (by rw [unhide HF]; exact unhide HO), hb⟩, by simp [intOf]; omega⟩
      · have t0 : ((k : Int) != x) = true := by simp [hne]
        have AK := hide (unhide AT k wr hbw)
        have HQ : Hid (nb Q x k = decide (0 ≤ atFrom (k : Int) x 0 Q)) := by show _ = _; unfold nb; rw [t0]; rfl
        have HNE := hide hne
        clear hne
        generalize atFrom (k : Int) x 0 Q = r at AK HQ
        go_wp2_with fail
        refine (unhide AK).mono ?_
        rintro e w2 ⟨rfl, hb2⟩
        have HO2 := hide ((unhide HO).below hb2)
        have hbb := hb.trans (hb2.mono hb.size)
        clear hb2 p0 p1
        by_cases hr : 0 ≤ r
        · have HF := hide (nextTo_in (by rw [unhide HQ]; simp [hr]))
          have hfl := nextTo_length Q x k
          have hown := unhide HO2
          unfold InOwn at hown
          go_wp2_with (at_builtin; refine wpList_append_own _ rfl _ _ 28 rfl V1.heap.size 3 i0 (.int .i64 0) 1 8 Try.underlying28 hi hz0 hz1 hz2 rfl (by decide) _ _ _ rfl (hown.alloc _) ⟨w2.heap.size, 0, none⟩ 1 1 [.int .i64 (k : Int)] rfl rfl (cell_one_new _ _ _) (one_intL _) ?_ ?_ ?_ ?_)
          · unfold maxLen; omega
          · omega
          · have := hbb.size; first | omega | (simp; omega)
          intro v' w4 hown' hgrow _
          have hb4 := below_append hbb (Nat.le_refl _) hown hgrow
          rw [← intsV_snocL, ← unhide HF] at hown'
          have hfe : (nextTo Q x k).length + 1 = (nextTo Q x (k + 1)).length := by rw [unhide HF]; simp
          rw [hfe] at hown'
          have HO4 : Hid (InOwn w4 V1.heap.size v' (nextTo Q x (k + 1))) := hown'
          clear hown' hgrow hown HO HO2 hbb hfe hfl
          go_wp2_with fail
          exact ⟨⟨k + 1, by go_num, by omega, unhide HO4, hb4⟩, by simp [intOf]; omega⟩
        · have HF := hide (nextTo_out (by rw [unhide HQ]; simp [hr]))
          go_wp2_with fail
          exact ⟨⟨k + 1, by go_num, by omega, (by rw [unhide HF]; exact unhide HO2), hbb⟩, by simp [intOf]; omega⟩
    · obtain rfl : k = n := by omega
      go_wp2
      go_ret
      exact ⟨⟨_, rfl, (unhide HO).lower (by omega)⟩, hbw⟩

/-- What Neighbours tells. -/
def nbrs (s : Int) (Q : List EdgeI) (x : Int) : List Int := if graphOk s Q = true ∧ 0 ≤ x ∧ x ≤ s - 1 then nextTo Q x s.toNat else []

theorem nbrs_length (s : Int) (Q : List EdgeI) (x : Int) : (nbrs s Q x).length ≤ s.toNat := by
  unfold nbrs
  split
  · exact nextTo_length _ _ _
  · simp

end Lk
end Go.Proofs.Ytfhclbpbjlbebaa

/-
  The contract of spec.Neighbours.
-/
namespace Go.Proofs.Ytfhclbpbjlbebaa
namespace Lk
open Go.RowKit
open Gr (EdgeI GrAt GBox atFrom below_new InOwn InAt own_below own_lower intsV graphOk specGraph_any l01In_is)

theorem ok_size {s : Int} {Q : List EdgeI} (h : graphOk s Q = true) : 0 ≤ s ∧ s ≤ 9 := by
  unfold graphOk at h
  simp at h
  omega

end Lk
end Go.Proofs.Ytfhclbpbjlbebaa

/-
  Nine flags, one a vertex: which ones are used.
-/
namespace Go.Proofs.Ytfhclbpbjlbebaa
namespace Gr
open Go.RowKit

/-- The flags of the used ones. -/
def flags (U : List Int) : Array Value := ((List.range 9).map fun (j : Nat) => Value.bool (inK U (j : Int))).toArray

theorem flags_at (U : List Int) (k : Nat) (h : k < 9) : (flags U)[k]? = some (.bool (inK U (k : Int))) := by
  unfold flags
  simp [h]

theorem flags_size (U : List Int) : (flags U).size = 9 := by unfold flags; simp

theorem flags_nil : flags [] = #[.bool false, .bool false, .bool false, .bool false, .bool false, .bool false, .bool false, .bool false, .bool false] := rfl

theorem flags_ext {C : Array Value} {U : List Int} (h : C.size = 9) (hk : ∀ k : Nat, k < 9 → C[k]? = some (.bool (inK U (k : Int)))) : C = flags U := by
  apply Array.ext_getElem?
  intro i
  rcases Nat.lt_or_ge i 9 with h' | h'
  · rw [hk i h', flags_at U i h']
  · rw [Array.getElem?_eq_none (by omega), Array.getElem?_eq_none (by rw [flags_size]; omega)]

theorem inK_pair (U : List Int) (x y z : Int) : inK (U ++ [x, y]) z = (inK U z || (decide (z = x) || decide (z = y))) := by
  rw [inK_app]
  congr 1
  unfold inK
  rw [Bool.eq_iff_iff]
  simp

/-- Two flags set. -/
theorem flags_two (U : List Int) (x y : Nat) (_hx : x < 9) (_hy : y < 9) : ((flags U).setIfInBounds x (.bool true)).setIfInBounds y (.bool true) = flags (U ++ [(x : Int), (y : Int)]) := by
  refine flags_ext (by simp [flags_size]) (fun k hk => ?_)
  rw [inK_pair]
  by_cases h2 : y = k
  · subst h2
    rw [Array.getElem?_setIfInBounds_self]
    simp [flags_size, hk]
  · rw [Array.getElem?_setIfInBounds_ne h2]
    by_cases h1 : x = k
    · subst h1
      rw [Array.getElem?_setIfInBounds_self]
      simp [flags_size, hk]
    · rw [Array.getElem?_setIfInBounds_ne h1, flags_at U k hk]
      have e1 : ¬ ((k : Int) = (x : Int)) := by omega
      have e2 : ¬ ((k : Int) = (y : Int)) := by omega
      simp [e1, e2]

/-- .. and taken back. -/
theorem flags_back (U : List Int) (x y : Nat) (_hx : x < 9) (_hy : y < 9) (h1 : inK U (x : Int) = false) (h2 : inK U (y : Int) = false) :
    ((flags (U ++ [(x : Int), (y : Int)])).setIfInBounds x (.bool false)).setIfInBounds y (.bool false) = flags U := by
  refine flags_ext (by simp [flags_size]) (fun k hk => ?_)
  by_cases h2' : y = k
  · subst h2'
    rw [Array.getElem?_setIfInBounds_self, h2]
    simp [flags_size, hk]
  · rw [Array.getElem?_setIfInBounds_ne h2']
    by_cases h1' : x = k
    · subst h1'
      rw [Array.getElem?_setIfInBounds_self, h1]
      simp [flags_size, hk]
    · rw [Array.getElem?_setIfInBounds_ne h1', flags_at _ k hk, inK_pair]
      have e1 : ¬ ((k : Int) = (x : Int)) := by omega
      have e2 : ¬ ((k : Int) = (y : Int)) := by omega
      simp [e1, e2]

theorem Kept.edges {S : Nat → Prop} {w w' : World} {a : Option Addr} {n B : Nat} {Q : List EdgeI} (hk : Kept S w w') (h : edgesAt w a n B Q) (hB : B ≤ w.heap.size) (hS : ∀ i, S i → B ≤ i) : edgesAt w' a n B Q :=
  h.below (hk.below hB hS) (Nat.le_refl _)

end Gr
end Go.Proofs.Ytfhclbpbjlbebaa

/-
  The specification's Neighbours in the laws' form.
-/
namespace Go.Proofs.Ytfhclbpbjlbebaa
namespace Lk
open Go.RowKit
open Gr (EdgeI GrAt InOwn graphOk)

theorem nbrs_len (s : Int) (Q : List EdgeI) (x : Int) : (nbrs s Q x).length ≤ 9 := by
  unfold nbrs
  split
  · rename_i h
    have := ok_size h.1
    exact Nat.le_trans (nextTo_length _ _ _) (by omega)
  · simp

end Lk
end Go.Proofs.Ytfhclbpbjlbebaa
