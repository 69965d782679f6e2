/-
  Looking at graphs: the neighbours of a vertex; the contracts of spec.l17Next and spec.Neighbours.
-/
import Derived.Test.YtejfknkcakeakaaGrGen
import Derived.Test.YtejfknkcakeakaaGrBlk
namespace Go.Proofs.Ytejfknkcakeakaa
namespace Lk
open Go.RowKit
open Gr (EdgeI GrAt GBox atFrom specAt_any below_new InOwn InAt own_below own_lower intsV intsAt_of_own info3 graphOk specGraph_any Kept)

/-- Is u beside v? -/
def nb (Q : List EdgeI) (v : Int) (u : Nat) : Bool := ((u : Int) != v) && decide (0 ≤ atFrom (u : Int) v 0 Q)

/-- The neighbours of v below k. -/
def nextTo (Q : List EdgeI) (v : Int) (k : Nat) : List Int := ((List.range k).filter (nb Q v)).map fun j => ((j : Nat) : Int)

theorem nextTo_in {Q : List EdgeI} {v : Int} {k : Nat} (h : nb Q v k = true) : nextTo Q v (k + 1) = nextTo Q v k ++ [(k : Int)] := by
  unfold nextTo
  rw [List.range_succ, List.filter_append]
  simp [h]
theorem nextTo_out {Q : List EdgeI} {v : Int} {k : Nat} (h : nb Q v k = false) : nextTo Q v (k + 1) = nextTo Q v k := by
  unfold nextTo
  rw [List.range_succ, List.filter_append]
  simp [h]
theorem nextTo_length (Q : List EdgeI) (v : Int) (k : Nat) : (nextTo Q v k).length ≤ k := by
  unfold nextTo
  rw [List.length_map]
  have := List.length_filter_le (nb Q v) (List.range k)
  simpa using this

theorem intsV_snocL (K : List Int) (x : Int) : intsV (K ++ [x]) = intsV K ++ [Value.int .i64 x] := by simp [intsV]
theorem one_intL (x : Int) : ∀ u, u ∈ [Value.int .i64 x] → u.oneCell' = true := by
  intro u hu; simp at hu; subst hu; rfl

set_option maxRecDepth 100000 in
set_option maxHeartbeats 2000000 in
theorem next_any (v : Value) (B n : Nat) (x : Int) (Q : List EdgeI) (h1 : Q.length ≤ 1048576) (hn : n ≤ 1048576) (w : World) (hB : B ≤ w.heap.size) (hv : GrAt w v B (n : Int) Q) :
    Calls Try.prog 42 #[v, .int .i64 x] w fun e w' => (∃ d, e = .returned d ∧ InOwn w' w.heap.size d (nextTo Q x n)) ∧ Below w.heap.size w w' := by
  obtain ⟨i0, hi, hz0, hz1, hz2⟩ := info_parts info3
  have AT := hide (fun (k : Nat) w1 (hb : Below w.heap.size w w1) => specAt_any v B (n : Int) (k : Int) x Q h1 w1 (by have := hb.size; omega) (hv.below hb hB))
  obtain ⟨a, m, c, rfl, _⟩ := hv
  go_enter Try.func42, Try.ntmps42
  go_wp2_with fail
  obtain ⟨V1, hV1⟩ : ∃ W, W = w.alloc (Obj.cells #[Value.int .i64 (n : Int), Value.slice a m c] 30) := ⟨_, rfl⟩
  rw [← hV1]
  have x1 : GBox V1 w.heap.size (n : Int) (.slice a m c) := by rw [hV1]; exact GBox.new _ _ _
  have b1 : Below w.heap.size w V1 := by rw [hV1]; exact below_new _ _
  have HS1 : Hid (V1.heap.size = w.heap.size + 1) := by show _ = _; rw [hV1]; simp
  clear hV1
  have z1 := x1.lt
  have X1 := hide x1
  go_loopw [5, 6] (fun out i wr => ∃ k : Nat, i = .int .i64 (k : Int) ∧ k ≤ n ∧ Hid (InOwn wr V1.heap.size out (nextTo Q x k)) ∧ Below V1.heap.size V1 wr) (fun _ i _ => n - (intOf i).toNat)
  case atStart =>
    refine ⟨0, rfl, Nat.zero_le _, ?_, (Below.refl _ _).alloc (Nat.le_refl _) _⟩
    have h := World.ownsRow_made V1 (e := 3) #[] 0 (Nat.le_refl _) (Nat.zero_le _) (show (#[] : Array Value).size = 0 * 1 from rfl)
    rw [show (⟨V1.heap.size, 0, none⟩ : Addr) = ⟨w.heap.size + 1, 0, none⟩ by rw [unhide HS1]] at h
    exact h
  case round =>
    obtain ⟨k, rfl, hk, HO, hb⟩ := hrel
    have hbw := b1.trans (hb.mono b1.size)
    obtain ⟨p0, p1⟩ := ((unhide X1).below hb).cells
    obtain ⟨A, cp, rfl, _⟩ := intsAt_of_own (unhide HO)
    by_cases hlt : k < n
    · have hx1 : (k : Int) < (n : Int) := by omega
      by_cases hne : (k : Int) = x
      · have hq : nb Q x k = false := by unfold nb; simp [hne]
        have HF := hide (nextTo_out hq)
        have t0 : ((k : Int) != x) = false := by simp [hne]
        clear hne
        go_wp2_with fail
        exact ⟨⟨k + 1, by go_num, by omega, (by rw [unhide HF]; exact unhide HO), hb⟩, by simp [intOf]; omega⟩
      · have t0 : ((k : Int) != x) = true := by simp [hne]
        have AK := hide (unhide AT k wr hbw)
        have HQ : Hid (nb Q x k = decide (0 ≤ atFrom (k : Int) x 0 Q)) := by show _ = _; unfold nb; rw [t0]; rfl
        have HNE := hide hne
        clear hne
        generalize atFrom (k : Int) x 0 Q = r at AK HQ
        go_wp2_with fail
        refine (unhide AK).mono ?_
        rintro e w2 ⟨rfl, hb2⟩
        have HO2 := hide ((unhide HO).below hb2)
        have hbb := hb.trans (hb2.mono hb.size)
        clear hb2 p0 p1
        by_cases hr : 0 ≤ r
        · have HF := hide (nextTo_in (by rw [unhide HQ]; simp [hr]))
          have hfl := nextTo_length Q x k
          have hown := unhide HO2
          unfold InOwn at hown
          go_wp2_with (at_builtin; refine wpList_append_own _ rfl _ _ 26 rfl V1.heap.size 3 i0 (.int .i64 0) 1 8 Try.underlying26 hi hz0 hz1 hz2 rfl (by decide) _ _ _ rfl (hown.alloc _) ⟨w2.heap.size, 0, none⟩ 1 1 [.int .i64 (k : Int)] rfl rfl (cell_one_new _ _ _) (one_intL _) ?_ ?_ ?_ ?_)
          · unfold maxLen; omega
          · omega
          · have := hbb.size; first | omega | (simp; omega)
          intro v' w4 hown' hgrow _
          have hb4 := below_append hbb (Nat.le_refl _) hown hgrow
          rw [← intsV_snocL, ← unhide HF] at hown'
          have hfe : (nextTo Q x k).length + 1 = (nextTo Q x (k + 1)).length := by rw [unhide HF]; simp
          rw [hfe] at hown'
          have HO4 : Hid (InOwn w4 V1.heap.size v' (nextTo Q x (k + 1))) := hown'
          clear hown' hgrow hown HO HO2 hbb hfe hfl
          go_wp2_with fail
          exact ⟨⟨k + 1, by go_num, by omega, unhide HO4, hb4⟩, by simp [intOf]; omega⟩
        · have HF := hide (nextTo_out (by rw [unhide HQ]; simp [hr]))
          go_wp2_with fail
          exact ⟨⟨k + 1, by go_num, by omega, (by rw [unhide HF]; exact unhide HO2), hbb⟩, by simp [intOf]; omega⟩
    · obtain rfl : k = n := by omega
      go_wp2
      go_ret
      exact ⟨⟨_, rfl, (unhide HO).lower (by omega)⟩, hbw⟩

/-- What Neighbours tells. -/
def nbrs (s : Int) (Q : List EdgeI) (x : Int) : List Int := if graphOk s Q = true ∧ 0 ≤ x ∧ x ≤ s - 1 then nextTo Q x s.toNat else []

theorem nbrs_length (s : Int) (Q : List EdgeI) (x : Int) : (nbrs s Q x).length ≤ s.toNat := by
  unfold nbrs
  split
  · exact nextTo_length _ _ _
  · simp

end Lk
end Go.Proofs.Ytejfknkcakeakaa
