/-
  The contract of impl.marksOf: a flag for each place that is on a list.
-/
import Derived.Test.YtdmcnojhjmadjaaTrFree
import Derived.Deep.MidRow
import Derived.Deep.WholeRow
import Derived.Laws.ResultCell
namespace Go.Proofs.Ytdmcnojhjmadjaa
namespace Tr
open Go.RowKit

/-- The flags of a list of places. -/
def markC (U : List Int) : Array Value := Array.ofFn (n := 400) fun i => Value.bool (inK U (i.val : Int))

theorem markC_size (U : List Int) : (markC U).size = 400 := by simp [markC]
theorem markC_at (U : List Int) (k : Nat) (h : k < 400) : (markC U)[k]? = some (.bool (inK U (k : Int))) := by simp [markC, h]
theorem markC_one (U : List Int) : (markC U).all (·.oneCell') = true := by
  apply Array.all_eq_true_iff_forall_mem.2
  intro v hv
  obtain ⟨i, rfl⟩ := Array.mem_ofFn.1 hv
  rfl

theorem zero_markC : Try.zeroCells83 = markC [] := by kernel_rfl

theorem inK_snoc (U : List Int) (x y : Int) : inK (U ++ [x]) y = (inK U y || y == x) := by
  have e : (y == x) = decide (y = x) := by by_cases h : y = x <;> simp [h]
  rw [e]
  simp [inK]

theorem markC_in (U : List Int) (k : Nat) (h : k < 400) (x : Int) (hx : x = (k : Int)) : (markC U).setIfInBounds k (.bool true) = markC (U ++ [x]) := by
  subst hx
  apply Array.ext_getElem?
  intro i
  by_cases hi : i < 400
  · rw [markC_at _ i hi, inK_snoc, Array.getElem?_setIfInBounds]
    by_cases e : k = i
    · subst e
      rw [if_pos rfl, if_pos (by rw [markC_size]; exact h)]
      simp
    · rw [if_neg e, markC_at _ i hi]
      have e2 : ((i : Int) == (k : Int)) = false := by simp; omega
      rw [e2, Bool.or_false]
  · rw [Array.getElem?_eq_none (by simp [markC]; omega), Array.getElem?_eq_none (by simp [markC]; omega)]

theorem markC_out (U : List Int) (x : Int) (hx : ¬ (0 ≤ x ∧ x < 400)) : markC (U ++ [x]) = markC U := by
  apply Array.ext_getElem?
  intro i
  by_cases hi : i < 400
  · rw [markC_at _ i hi, markC_at _ i hi, inK_snoc]
    have e2 : ((i : Int) == x) = false := by simp; omega
    rw [e2, Bool.or_false]
  · rw [Array.getElem?_eq_none (by simp [markC]; omega), Array.getElem?_eq_none (by simp [markC]; omega)]

theorem results_cell1 {fn : Func} {p : Tmp} {ty : TypeId} (h : fn.results = #[.cell p ty]) (tmps : Array Value) (P : Program) (w : World) :
    (results fn tmps).run P w = ((asAddr (tmps.getD p undef)).run P w).andThen fun a w₁ => (loadVar ty a).run P w₁ := by
  simp only [results, h]
  simp [Sem.run_bind, Result.andThen]

theorem infoMarks : (Try.prog.info? 83).map (·.size) = some 400 := by kernel_rfl

theorem below_setCells (C b : Nat) (hC : C ≤ b) : ∀ (vs : List Value) (o : Nat) (w w0 : World), Below C w0 w → Below C w0 (w.setCells b o vs)
  | [], _, _, _, h => h
  | v :: vs, o, w, w0, h => by
    rw [World.setCells]
    exact below_setCells C b hC vs (o + 1) _ _ (h.setCell (p := ⟨b, o, none⟩) hC v)

theorem there_new (w : World) (C : Array Value) (t : TypeId) : (w.alloc (.cells C t)).there w.heap.size 0 C.size := fun j hj => by
  have h : (w.alloc (.cells C t)).heap[w.heap.size]? = some (.cells C t (0, 0)) := heap_alloc_new w _
  refine ⟨?_, ?_⟩
  · rw [cell_of_row _ _ _ C t (0, 0) h]; simp [hj]
  · unfold World.frozen?
    simp only []
    rw [h]
    simp

set_option maxRecDepth 100000 in
set_option maxHeartbeats 1000000 in
theorem marksOf_any (ua : Option Addr) (un uc B : Nat) (U : List Int) (hun : un ≤ 1048576) (w : World) (hB : B ≤ w.heap.size) (hU : IntsAt w ua un B U) :
    Calls Try.prog 50 #[.slice ua un uc] w fun e w' => e = .returned (.agg (markC U)) ∧ Below w.heap.size w w' := by
  obtain ⟨hL, hc⟩ := hU
  have HC := hide hc
  have HL := hide hL
  clear hc hL
  go_enter Try.func50, Try.ntmps50
  go_wp2_with fail
  rw [zero_markC]
  obtain ⟨W0, hW0⟩ : ∃ W, W = w.alloc (Obj.cells (markC []) 83) := ⟨_, rfl⟩
  rw [← hW0]
  have hs0 : W0.heap.size = w.heap.size + 1 := by rw [hW0]; simp
  have ht0 : W0.there w.heap.size 0 400 := by rw [hW0]; have := there_new w (markC []) 83; rwa [markC_size] at this
  have hb0 : Below w.heap.size w W0 := by rw [hW0]; exact (Below.refl _ _).alloc (Nat.le_refl _) _
  rw [← hs0]
  have HS0 := hide hs0
  have hlt0 : w.heap.size < W0.heap.size := by omega
  clear hW0 hs0
  have HT0 := hide ht0
  clear ht0
  go_loopw [8] (fun i wr => ∃ j : Nat, i = .int .i64 j ∧ j ≤ un ∧ wr = W0.alloc (Obj.cells (markC (U.take j)) 83)) (fun i _ => un - (intOf i).toNat)
  case atStart => exact ⟨0, rfl, Nat.zero_le _, rfl⟩
  case round =>
    obtain ⟨j, rfl, hj, rfl⟩ := hrel
    by_cases hlt : j < un
    · have hjL : j < U.length := by have := unhide HL; omega
      obtain ⟨b, off, rfl, hbB, hcell⟩ := unhide HC j hjL
      have hbn : Below w.heap.size w (W0.alloc (Obj.cells (markC (U.take j)) 83)) := hb0.alloc hb0.size _
      rw [← hbn.cell (p := ⟨b, off + j, none⟩) (by simp; omega)] at hcell
      have hx0 : (0 : Int) ≤ (j : Int) := by omega
      have hx1 : (j : Int) < (un : Int) := by omega
      have hsn : U.take (j + 1) = U.take j ++ [U[j]] := List.take_succ_eq_append_getElem hjL
      have HIN := hide (fun (k : Nat) (h : k < 400) (hx : U[j] = (k : Int)) => (markC_in (U.take j) k h U[j] hx).trans (congrArg markC hsn.symm))
      have HOUT := hide (fun (hx : ¬ (0 ≤ U[j] ∧ U[j] < 400)) => (congrArg markC hsn).trans (markC_out (U.take j) U[j] hx))
      have HAT := hide (fun (k : Nat) (h : k < 400) => markC_at (U.take j) k h)
      clear hsn
      generalize U[j] = x at hcell HIN HOUT
      have HP := hide (fun w => isPlace_any x 400 w)
      cases hq : (decide (0 ≤ x) && decide (x < 400))
      · rw [hq] at HP
        have hno : ¬ (0 ≤ x ∧ x < 400) := by
          intro h
          rw [decide_eq_true h.1, decide_eq_true h.2] at hq
          cases hq
        have HE := hide (unhide HOUT hno)
        clear hq hno HIN HOUT HAT
        go_wp2_with fail
        refine (unhide HP _).mono ?_
        rintro e w2 ⟨rfl, rfl⟩
        go_wp2
        go_roundw
        case rel => exact ⟨j + 1, by go_num, by omega, by rw [unhide HE]⟩
        case measure => simp [intOf]; omega
      · rw [hq] at HP
        have hx2 : 0 ≤ x ∧ x < 400 := by
          rw [Bool.and_eq_true, decide_eq_true_eq, decide_eq_true_eq] at hq
          exact hq
        obtain ⟨k, rfl⟩ : ∃ k : Nat, x = (k : Int) := ⟨x.toNat, by omega⟩
        have hk : k < 400 := by omega
        have HE := hide (unhide HIN k hk rfl)
        have hat := unhide HAT k hk
        have hx3 : (k : Int) < 400 := by omega
        have hx4 : (0 : Int) ≤ (k : Int) := by omega
        generalize inK (U.take j) (k : Int) = bb at hat
        clear hq HIN HOUT HAT hx2
        go_wp2_with fail
        refine (unhide HP _).mono ?_
        rintro e w2 ⟨rfl, rfl⟩
        go_wp2
        go_roundw
        case rel => exact ⟨j + 1, by go_num, by omega, by rw [← unhide HE]⟩
        case measure => simp [intOf]; omega
    · have hje : U.take j = U := List.take_of_length_le (by have := unhide HL; omega)
      rw [hje]
      clear hje
      have hbn : Below w.heap.size w (W0.alloc (Obj.cells (markC U) 83)) := hb0.alloc hb0.size _
      have HBN := hide hbn
      have hr1 : (W0.alloc (Obj.cells (markC U) 83)).rangeAt W0.heap.size 0 (markC U).toList := by
        have h := World.rangeAt_of_block (heap_alloc_new W0 (Obj.cells (markC U) 83)) 0 400
        have e : (markC U).extract 0 (0 + 400) = markC U := by rw [Nat.zero_add, ← markC_size U, Array.extract_size]
        rwa [e] at h
      have ht1 : (W0.alloc (Obj.cells (markC U) 83)).there w.heap.size 0 (markC U).size := by rw [markC_size]; exact World.there_alloc (unhide HT0) _
      have HR1 := hide hr1
      have HT1 := hide ht1
      have hi1 : Hid ((Try.prog.info? 83).map (·.size) = some (markC U).toList.length) := by show _ = _; rw [infoMarks, Array.length_toList, markC_size]
      have hi2 : Hid ((Try.prog.info? 83).map (·.size) = some (markC U).size) := by show _ = _; rw [infoMarks, markC_size]
      have h1 := hide (markC_one U)
      generalize hCe : markC U = C at HR1 HT1 hi1 hi2 h1 HBN ⊢
      have HCE := hide hCe
      clear hCe
      clear hr1 ht1 hbn
      generalize W0.alloc (Obj.cells C 83) = W at HR1 HT1 HBN ⊢
      go_wp2_with (first
        | refine wpList_load_mid rfl 83 _ rfl W0.heap.size 0 rfl C.toList (.array 400 4) (unhide HR1) Try.underlying83 rfl (unhide hi1) ?_
        | refine wpList_store_mid rfl 83 _ _ rfl w.heap.size 0 C rfl rfl (unhide HT1) (unhide hi2) (unhide h1) ?_)
      have hld : (loadVar 83 ⟨w.heap.size, 0, none⟩).run Try.prog (W.setCells w.heap.size 0 C.toList) = .ok (.agg C) (W.setCells w.heap.size 0 C.toList) := by
        have h := run_loadVar_mid (P := Try.prog) (W.setCells w.heap.size 0 C.toList) w.heap.size 0 83 C.toList (.array 400 4) (World.rangeAt_setCells_same _ _ _ _ (by rw [Array.length_toList]; exact unhide HT1)) Try.underlying83 rfl (unhide hi1)
        rwa [Array.toArray_toList] at h
      refine bodyPost_ret (v := .agg C) ?_ rfl ⟨by rw [unhide HCE], below_setCells _ _ (Nat.le_refl _) _ _ _ _ (unhide HBN)⟩
      rw [results_cell1 rfl]
      show ((asAddr (Value.pointer (some ⟨w.heap.size, 0, none⟩))).run Try.prog _).andThen _ = _
      simp [asAddr, Result.andThen, hld]

set_option maxRecDepth 100000 in
set_option maxHeartbeats 2000000 in
theorem implFree_any (v : Value) (B : Nat) (L : List ByteArray) (Q : List (Int × ByteArray)) (ua : Option Addr) (un uc : Nat) (U : List Int) (h1 : L.length ≤ 1048576) (h2 : Q.length ≤ 1048576) (hun : un ≤ 1048576) (hm : ∀ s ∈ L, s.size ≤ 9223372036854775807) (w : World) (hB : B ≤ w.heap.size) (hv : DevAt w v B L Q) (hU : IntsAt w ua un B U) :
    Calls Try.prog 24 #[v, .slice ua un uc] w fun e w' => (∃ r, e = .returned r ∧ w'.ownsRow w.heap.size 3 1 r (freeL L Q U).length (intsV (freeL L Q U))) ∧ Below w.heap.size w w' := by
  obtain ⟨i0, hi, hz0, hz1, hz2⟩ := info_parts info3
  have DK := hide (fun w1 (hb : Below w.heap.size w w1) => implDev_any v B L Q h1 h2 hm w1 (Nat.le_trans hB hb.size) (hv.below hb hB))
  have MK := hide (fun w1 (hb : Below w.heap.size w w1) => marksOf_any ua un uc B U hun w1 (Nat.le_trans hB hb.size) (hU.below hb hB))
  obtain ⟨a, n, c, a', n', c', rfl, hL, _⟩ := hv
  have HL : Hid (n = L.length) := hL.1.symm
  have hn : n ≤ 1048576 := by have := unhide HL; omega
  have HE : Hid ((freeL L Q U) = if devOk L Q = true then freeTo U n else []) := by show _ = _; rw [unhide HL]; rfl
  have HN : Hid (devOk L Q = true → n ≤ 400) := fun h => by
    have h2 := unhide HL
    unfold devOk at h
    simp at h
    omega
  clear hL hU hm h1 h2
  generalize freeL L Q U = R at HE
  generalize devOk L Q = ok at DK HE HN
  go_enter Try.func24, Try.ntmps24
  go_wp2_with fail
  obtain ⟨W1, hW1⟩ : ∃ W, W = w.alloc (Obj.cells #[Value.slice a n c, Value.slice a' n' c'] 49) := ⟨_, rfl⟩
  rw [← hW1]
  have hs1 : W1.heap.size = w.heap.size + 1 := by rw [hW1]; simp
  have b0 : W1.heap[w.heap.size]? = some (.cells #[Value.slice a n c, Value.slice a' n' c'] 49 (0, 0)) := by rw [hW1]; exact heap_alloc_new w _
  have hb1 : Below w.heap.size w W1 := by rw [hW1]; exact (Below.refl _ _).alloc (Nat.le_refl _) _
  have HB := hide b0
  have hs2 : w.heap.size < W1.heap.size := by omega
  clear hW1 b0 hs1
  refine (unhide DK W1 hb1).mono ?_
  rintro e w2 ⟨rfl, hb2⟩
  have hbw2 := hb1.trans (hb2.mono hb1.size)
  have HB2 := hide (show w2.heap[w.heap.size]? = _ from (hb2.block _ hs2).trans (unhide HB))
  have hs3 : w.heap.size < w2.heap.size := Nat.lt_of_lt_of_le hs2 hb2.size
  clear hb2 hb1
  cases ok
  · go_wp2
    go_ret
    refine ⟨⟨_, rfl, ?_⟩, hbw2⟩
    rw [unhide HE]
    exact World.ownsRow_nil _ _ _ _
  · have hn400 := unhide HN rfl
    go_wp2_with fail
    refine (unhide MK w2 hbw2).mono ?_
    rintro e w3 ⟨rfl, hb3⟩
    have hbw3 := hbw2.trans (hb3.mono hbw2.size)
    have HB3 := hide (show w3.heap[w.heap.size]? = _ from (hb3.block _ hs3).trans (unhide HB2))
    have hs4 : w.heap.size < w3.heap.size := Nat.lt_of_lt_of_le hs3 hb3.size
    clear hb3 hbw2 HB2 hs3
    have ht : Hid ((w3.alloc (Obj.cells Try.zeroCells83 83)).there w3.heap.size 0 (markC U).size) := by
      have h := there_new w3 Try.zeroCells83 83
      rw [zero_markC, markC_size] at h
      rw [zero_markC, markC_size]
      exact h
    have hi2 : Hid ((Try.prog.info? 83).map (·.size) = some (markC U).size) := by show _ = _; rw [infoMarks, markC_size]
    have h1 := hide (markC_one U)
    have HAT : Hid (∀ k, k < 400 → (((w3.alloc (Obj.cells Try.zeroCells83 83)).setCells w3.heap.size 0 (markC U).toList).cell? ⟨w3.heap.size, k, none⟩ = some (.bool (inK U (k : Int))))) := fun k hk => by
      have h := World.rangeAt_setCells_same (w3.alloc (Obj.cells Try.zeroCells83 83)) w3.heap.size 0 (markC U).toList (by rw [Array.length_toList]; exact unhide ht) k (.bool (inK U (k : Int))) (by rw [Array.getElem?_toList]; exact markC_at U k hk)
      rwa [Nat.zero_add] at h
    have HBS : Hid (Below w3.heap.size w3 ((w3.alloc (Obj.cells Try.zeroCells83 83)).setCells w3.heap.size 0 (markC U).toList)) := below_setCells _ _ (Nat.le_refl _) _ _ _ _ (below_new _ _)
    have HSZ : Hid (w3.heap.size < ((w3.alloc (Obj.cells Try.zeroCells83 83)).setCells w3.heap.size 0 (markC U).toList).heap.size) := by
      have h := unhide HAT 0 (by omega)
      exact World.block_lt_of_cell? _ _ h
    generalize markC U = C at ht hi2 h1 HAT HBS HSZ
    go_wp2_with (refine wpList_store_mid rfl 83 _ _ rfl w3.heap.size 0 C rfl rfl (unhide ht) (unhide hi2) (unhide h1) ?_)
    generalize ((w3.alloc (Obj.cells Try.zeroCells83 83)).setCells w3.heap.size 0 C.toList) = W4 at HAT HBS HSZ ⊢
    have hbw4 : Below w.heap.size w W4 := hbw3.trans ((unhide HBS).mono hbw3.size)
    have HB4 := hide (show W4.heap[w.heap.size]? = _ from ((unhide HBS).block _ hs4).trans (unhide HB3))
    have hsz4 : w3.heap.size < W4.heap.size := unhide HSZ
    have hs5 : w.heap.size < W4.heap.size := by omega
    clear HBS HSZ HB3 hbw3 ht h1 hi2
    go_loopw [6, 7] (fun out a7 wr => ∃ i : Nat, a7 = .int .i64 i ∧ 2 ≤ i ∧ (i = 2 ∨ i ≤ n) ∧ wr.ownsRow W4.heap.size 3 1 out (freeTo U i).length (intsV (freeTo U i)) ∧ Below W4.heap.size W4 wr) (fun _ a7 _ => n - (intOf a7).toNat)
    case atStart =>
      refine ⟨2, rfl, Nat.le_refl _, .inl rfl, ?_, Below.refl _ _⟩
      rw [freeTo_two U 2 (Nat.le_refl _)]
      exact World.ownsRow_nil _ _ _ _
    case round =>
      obtain ⟨i, rfl, hi2, hin, hown, hb⟩ := hrel
      have hbw : Below w.heap.size w wr := hbw4.trans (hb.mono hbw4.size)
      obtain ⟨p0, p1, _⟩ := cells_of_two (show wr.heap[w.heap.size]? = _ from (hb.block _ hs5).trans (unhide HB4))
      have HO := hide hown
      clear hown
      by_cases hlt : i < n
      · have hx1 : (i : Int) < (n : Int) := by omega
        have hx2 : (i : Int) < 400 := by omega
        have hx0 : (0 : Int) ≤ (i : Int) := by omega
        have hcm := (hb.cell (p := ⟨w3.heap.size, i, none⟩) hsz4).trans (unhide HAT i (by omega))
        cases hq : inK U (i : Int)
        · rw [hq] at hcm
          have HF := hide (freeTo_out U i hi2 hq)
          have hfl := freeTo_length U i
          have hown := unhide HO
          clear hq
          go_wp2_with (at_builtin; refine wpList_append_own _ rfl _ _ 44 rfl W4.heap.size 3 i0 (.int .i64 0) 1 8 Try.underlying44 hi hz0 hz1 hz2 rfl (by decide) _ _ _ rfl (hown.alloc _) ⟨wr.heap.size, 0, none⟩ 1 1 [.int .i64 (i : Int)] rfl rfl (cell_one_new _ _ _) (one_int1 _) ?_ ?_ ?_ ?_)
          · unfold maxLen; omega
          · omega
          · have := hb.size; first | omega | (simp; omega)
          intro v' w4 hown' hgrow _
          have hb4 := below_append hb (Nat.le_refl _) hown hgrow
          rw [← intsV_snoc1, ← unhide HF] at hown'
          have hfe : (freeTo U i).length + 1 = (freeTo U (i + 1)).length := by rw [unhide HF]; simp
          rw [hfe] at hown'
          have HO4 := hide hown'
          clear hown' hgrow hown HO hb hbw hfe p0 p1 hcm
          go_wp2
          go_roundw
          case rel => exact ⟨i + 1, by go_num, by omega, .inr (by omega), unhide HO4, hb4⟩
          case measure => simp [intOf]; omega
        · rw [hq] at hcm
          have HF := hide (freeTo_in U i hq)
          clear hq
          go_wp2
          go_roundw
          case rel => exact ⟨i + 1, by go_num, by omega, .inr (by omega), by rw [unhide HF]; exact unhide HO, hb⟩
          case measure => simp [intOf]; omega
      · obtain ⟨A, cp, rfl, _⟩ := IntsAt.of_own (unhide HO)
        have hx1 : ¬ (i : Int) < (n : Int) := by omega
        go_wp2
        go_ret
        refine ⟨⟨_, rfl, ?_⟩, hbw⟩
        have h := own_lower (show w.heap.size ≤ W4.heap.size by omega) (unhide HO)
        have hR : R = freeTo U i := by
          rw [unhide HE, if_pos (by simp)]
          rcases hin with h2 | h2
          · subst h2
            rw [freeTo_two U 2 (Nat.le_refl _), freeTo_two U n (by omega)]
          · congr 1
            omega
        rw [hR]
        exact h
end Tr
end Go.Proofs.Ytdmcnojhjmadjaa
