/-
  What FreeOf tells; the contract of spec.FreeOf.
-/
import Derived.Test.YtdmcnojhjmadjaaTrInts
import Derived.Test.YtdmcnojhjmadjaaDevOkImpl
import Derived.Deep.RegionHeld3
namespace Go.Proofs.Ytdmcnojhjmadjaa
namespace Tr
open Go.RowKit

/-- The places from 2 on and below n that are not on a list. -/
def freeTo (U : List Int) (n : Nat) : List Int := ((List.range n).filter fun j : Nat => decide (2 ≤ j) && !inK U (j : Int)).map fun j => ((j : Nat) : Int)

theorem freeTo_two (U : List Int) (n : Nat) (h : n ≤ 2) : freeTo U n = [] := by
  have : (List.range n).filter (fun j : Nat => decide (2 ≤ j) && !inK U (j : Int)) = [] := by
    apply List.filter_eq_nil_iff.2
    intro j hj
    have := List.mem_range.1 hj
    simp
    omega
  unfold freeTo
  rw [this]
  rfl

theorem freeTo_in (U : List Int) (i : Nat) (h : inK U (i : Int) = true) : freeTo U (i + 1) = freeTo U i := by
  unfold freeTo
  rw [List.range_succ, List.filter_append]
  simp [h]

theorem freeTo_out (U : List Int) (i : Nat) (h2 : 2 ≤ i) (h : inK U (i : Int) = false) : freeTo U (i + 1) = freeTo U i ++ [(i : Int)] := by
  unfold freeTo
  rw [List.range_succ, List.filter_append]
  simp [h, h2]

theorem freeTo_length (U : List Int) (n : Nat) : (freeTo U n).length ≤ n := by
  unfold freeTo
  rw [List.length_map]
  have := List.length_filter_le (fun j : Nat => decide (2 ≤ j) && !inK U (j : Int)) (List.range n)
  simpa using this

/-- What FreeOf tells. -/
def freeL (L : List ByteArray) (Q : List (Int × ByteArray)) (U : List Int) : List Int := if devOk L Q = true then freeTo U L.length else []

theorem freeL_length (L : List ByteArray) (Q : List (Int × ByteArray)) (U : List Int) : (freeL L Q U).length ≤ L.length := by
  unfold freeL
  split
  · exact freeTo_length _ _
  · simp

theorem intsV_snoc1 (K : List Int) (x : Int) : intsV (K ++ [x]) = intsV K ++ [Value.int .i64 x] := by simp [intsV]
theorem one_int1 (x : Int) : ∀ u, u ∈ [Value.int .i64 x] → u.oneCell' = true := by
  intro u hu; simp at hu; subst hu; rfl

set_option maxRecDepth 100000 in
set_option maxHeartbeats 2000000 in
theorem specFree_any (v : Value) (B : Nat) (L : List ByteArray) (Q : List (Int × ByteArray)) (ua : Option Addr) (un uc : Nat) (U : List Int) (h1 : L.length ≤ 1048576) (h2 : Q.length ≤ 1048576) (hun : un ≤ 1048576) (hm : ∀ s ∈ L, s.size ≤ 9223372036854775807) (w : World) (hB : B ≤ w.heap.size) (hv : DevAt w v B L Q) (hU : IntsAt w ua un B U) :
    Calls Try.prog 21 #[v, .slice ua un uc] w fun e w' => (∃ r, e = .returned r ∧ w'.ownsRow w.heap.size 3 1 r (freeL L Q U).length (intsV (freeL L Q U))) ∧ Below w.heap.size w w' := by
  obtain ⟨i0, hi, hz0, hz1, hz2⟩ := info_parts info3
  have DK := hide (fun w1 (hb : Below w.heap.size w w1) => specDev_any v B L Q h1 h2 hm w1 (Nat.le_trans hB hb.size) (hv.below hb hB))
  have IN := hide (fun x w1 (hb : Below w.heap.size w w1) => l03In_any ua un uc B U x hun w1 (hU.below hb hB))
  obtain ⟨a, n, c, a', n', c', rfl, hL, _⟩ := hv
  have HL : Hid (n = L.length) := hL.1.symm
  have hn : n ≤ 1048576 := by have := unhide HL; omega
  have HE : Hid ((freeL L Q U) = if devOk L Q = true then freeTo U n else []) := by show _ = _; rw [unhide HL]; rfl
  clear hL hU hm h1 h2
  generalize freeL L Q U = R at HE
  generalize devOk L Q = ok at DK HE
  go_enter Try.func21, Try.ntmps21
  go_wp2_with fail
  obtain ⟨W1, hW1⟩ : ∃ W, W = w.alloc (Obj.cells #[Value.slice a n c, Value.slice a' n' c'] 49) := ⟨_, rfl⟩
  rw [← hW1]
  have hs1 : W1.heap.size = w.heap.size + 1 := by rw [hW1]; simp
  have b0 : W1.heap[w.heap.size]? = some (.cells #[Value.slice a n c, Value.slice a' n' c'] 49 (0, 0)) := by rw [hW1]; exact heap_alloc_new w _
  have hb1 : Below w.heap.size w W1 := by rw [hW1]; exact (Below.refl _ _).alloc (Nat.le_refl _) _
  have HB := hide b0
  have HS1 := hide hs1
  have hs2 : w.heap.size < W1.heap.size := by omega
  clear hW1 b0 hs1
  go_loopw [5, 6] (fun out a6 wr => ∃ i : Nat, a6 = .int .i64 i ∧ 2 ≤ i ∧ (i = 2 ∨ i ≤ n) ∧ (i = 2 ∨ ok = true) ∧ wr.ownsRow W1.heap.size 3 1 out (freeTo U i).length (intsV (freeTo U i)) ∧ Below W1.heap.size W1 wr) (fun _ a6 _ => n - (intOf a6).toNat)
  case atStart =>
    refine ⟨2, rfl, Nat.le_refl _, .inl rfl, .inl rfl, ?_, (Below.refl _ _).alloc (Nat.le_refl _) _⟩
    rw [freeTo_two U 2 (Nat.le_refl _), ← unhide HS1]
    exact World.ownsRow_made W1 #[] 0 (Nat.le_refl _) (Nat.zero_le _) (show (#[] : Array Value).size = 0 * 1 from rfl)
  case round =>
    obtain ⟨i, rfl, hi2, hin, hiok, hown, hb⟩ := hrel
    have hbw : Below w.heap.size w wr := hb1.trans (hb.mono hb1.size)
    have hz := hb.size
    obtain ⟨p0, p1, _⟩ := cells_of_two (show wr.heap[w.heap.size]? = _ by rw [hb.block _ (by omega)]; exact unhide HB)
    have HO := hide hown
    have HOK := hide hiok
    clear hown hiok
    by_cases hlt : i < n
    · have hx1 : (i : Int) < (n : Int) := by omega
      go_wp2_with fail
      refine (unhide DK wr hbw).mono ?_
      rintro e w1 ⟨rfl, hbn⟩
      have hb1' := hb.trans (hbn.mono hb.size)
      have hbw1 := hbw.trans (hbn.mono hbw.size)
      have HO1 := hide (own_below (unhide HO) hbn)
      clear hbn hb hbw p0 p1
      cases ok
      · have hi20 : i = 2 := by rcases unhide HOK with h | h; exact h; cases h
        obtain ⟨A, cp, rfl, _⟩ := IntsAt.of_own (unhide HO)
        go_wp2
        go_ret
        refine ⟨⟨_, rfl, ?_⟩, hbw1⟩
        have h := unhide HO1
        rw [hi20, freeTo_two U 2 (Nat.le_refl _)] at h
        rw [unhide HE]
        subst hi20
        have e : (freeTo U 2).length = 0 := by rw [freeTo_two U 2 (Nat.le_refl _)]; rfl
        simp only [e] at h ⊢
        exact own_lower (by omega) h
      · go_wp2_with fail
        refine (unhide IN (i : Int) w1 hbw1).mono ?_
        rintro e w2 ⟨rfl, rfl⟩
        cases hq : inK U (i : Int)
        · have HF := hide (freeTo_out U i hi2 hq)
          have hfl := freeTo_length U i
          have hown := unhide HO1
          go_wp2_with (at_builtin; refine wpList_append_own _ rfl _ _ 44 rfl W1.heap.size 3 i0 (.int .i64 0) 1 8 Try.underlying44 hi hz0 hz1 hz2 rfl (by decide) _ _ _ rfl (hown.alloc _) ⟨w2.heap.size, 0, none⟩ 1 1 [.int .i64 (i : Int)] rfl rfl (cell_one_new _ _ _) (one_int1 _) ?_ ?_ ?_ ?_)
          · unfold maxLen; omega
          · omega
          · have := hb1'.size; first | omega | (simp; omega)
          intro v' w4 hown' hgrow _
          have hb4 := below_append hb1' (Nat.le_refl _) hown hgrow
          rw [← intsV_snoc1, ← unhide HF] at hown'
          have hfe : (freeTo U i).length + 1 = (freeTo U (i + 1)).length := by rw [unhide HF]; simp
          rw [hfe] at hown'
          have HO4 := hide hown'
          clear hown' hgrow hown HO HO1 hb1' hbw1 hfe
          go_wp2
          go_roundw
          case rel => exact ⟨i + 1, by go_num, by omega, .inr (by omega), (by simp), unhide HO4, hb4⟩
          case measure => simp [intOf]; omega
        · have HF := hide (freeTo_in U i hq)
          go_wp2
          go_roundw
          case rel => exact ⟨i + 1, by go_num, by omega, .inr (by omega), (by simp), by rw [unhide HF]; exact unhide HO1, hb1'⟩
          case measure => simp [intOf]; omega
    · obtain ⟨A, cp, rfl, _⟩ := IntsAt.of_own (unhide HO)
      have hx1 : ¬ (i : Int) < (n : Int) := by omega
      go_wp2
      go_ret
      refine ⟨⟨_, rfl, ?_⟩, hbw⟩
      have h := own_lower (show w.heap.size ≤ W1.heap.size by omega) (unhide HO)
      have hR : R = freeTo U i := by
        rw [unhide HE]
        rcases hin with h2 | h2
        · subst h2
          rw [freeTo_two U 2 (Nat.le_refl _), freeTo_two U n (by omega)]
          split <;> rfl
        · rcases unhide HOK with h3 | h3
          · subst h3
            rw [freeTo_two U 2 (Nat.le_refl _), freeTo_two U n (by omega)]
            split <;> rfl
          · rw [if_pos h3]
            congr 1
            omega
      rw [hR]
      exact h
end Tr
end Go.Proofs.Ytdmcnojhjmadjaa
