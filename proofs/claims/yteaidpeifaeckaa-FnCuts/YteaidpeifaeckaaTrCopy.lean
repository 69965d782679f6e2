/-
  The contract of impl.copyOfItems: a row of its own with the same items.
-/
import Derived.Test.YteaidpeifaeckaaTrGrp
import Derived.Test.YteaidpeifaeckaaCloneTxt
import Derived.Test.YteaidpeifaeckaaStepCall
import Derived.Deep.DeepCutAuto
namespace Go.Proofs.Yteaidpeifaeckaa
namespace Tr
open Go.RowKit
open Go.Proofs.Yteaidpeifaeckaa.Pg

theorem itsV_take (Q : List It) (j : Nat) (h : j < Q.length) : itsV (Q.take (j + 1)) = itsV (Q.take j) ++ [.string Q[j].key, .string Q[j].val, .int .i64 Q[j].pg] := by
  rw [List.take_succ_eq_append_getElem h, itsV_snoc]

set_option maxRecDepth 100000 in
set_option maxHeartbeats 2000000 in
theorem copyItems_any (a : Option Addr) (len cap B : Nat) (Q : List It) (hlen : len ≤ 1048576) (hsm : ∀ x ∈ Q, x.key.size ≤ 1048576 ∧ x.val.size ≤ 1048576) (w : World) (hB : B ≤ w.heap.size) (hs : ItemsAt w a len B Q) :
    Calls Try.prog 14 #[.slice a len cap] w fun e w' => (∃ v, e = .returned v ∧ w'.ownsRow w.heap.size 30 3 v len (itsV Q)) ∧ Below w.heap.size w w' := by
  obtain ⟨i1, hj1, hy0, hy1, hy2⟩ := info_parts infoItem
  obtain ⟨hL, hc⟩ := hs
  have HC := hide hc
  have HL := hide hL
  have HSM := hide hsm
  clear hc hL hsm
  go_enter Try.func14, Try.ntmps14
  go_wp2_with fail
  go_loopw [3, 8] (fun out i wr => ∃ (j : Nat) (A : Option Addr) (C : Nat), i = .int .i64 (j : Int) ∧ j ≤ len ∧ out = .slice A j C ∧ wr.ownsRow w.heap.size 30 3 (.slice A j C) j (itsV (Q.take j)) ∧ Below w.heap.size w wr) (fun _ i _ => len - (intOf i).toNat)
  case atStart => exact ⟨0, none, 0, rfl, Nat.zero_le _, rfl, World.ownsRow_nil _ _ _ _, Below.refl _ _⟩
  case round =>
    obtain ⟨j, A, C, rfl, hj, rfl, hown, hb⟩ := hrel
    by_cases hlt : j < len
    · have hjL : j < Q.length := by have := unhide HL; omega
      obtain ⟨b, off, rfl, hbB, hc0, hc1, hc2⟩ := unhide HC j hjL
      rw [← hb.cell (p := ⟨b, off + j * 3, none⟩) (by simp; omega)] at hc0
      rw [← hb.cell (p := ⟨b, off + j * 3 + 1, none⟩) (by simp; omega)] at hc1
      rw [← hb.cell (p := ⟨b, off + j * 3 + 2, none⟩) (by simp; omega)] at hc2
      have hx0 : (0 : Int) ≤ (j : Int) := by omega
      have hx1 : (j : Int) < (len : Int) := by omega
      have hsm := unhide HSM _ (List.getElem_mem hjL)
      have HCK := hide (fun w => clone_txt Q[j].key (by omega) w)
      have HCV := hide (fun w => clone_txt Q[j].val (by omega) w)
      have HT := hide (itsV_take Q j hjL)
      generalize Q[j] = x at hc0 hc1 hc2 HCK HCV HT
      obtain ⟨kx, vx, px⟩ := x
      simp only at hc0 hc1 hc2 HCK HCV HT
      obtain ⟨W, hW⟩ : ∃ W, W = wr.alloc (Obj.cells #[Value.string kx, Value.string vx, Value.int .i64 px] 30) := ⟨_, rfl⟩
      have hblk : W.heap[wr.heap.size]? = some (.cells #[Value.string kx, Value.string vx, Value.int .i64 px] 30 (0, 0)) := by rw [hW]; exact heap_alloc_new wr _
      have HCUR : Hid (W.ownsRow w.heap.size 30 3 (.slice A j C) j (itsV (Q.take j)) ∧ Below w.heap.size w W) := by
        show _ ∧ _
        rw [hW]; exact ⟨hown.alloc _, hb.alloc hb.size _⟩
      have p0 : W.cell? ⟨wr.heap.size, 0, none⟩ = some (.string kx) := by rw [cell_of_row _ _ _ _ _ _ hblk]; rfl
      have p1 : W.cell? ⟨wr.heap.size, 1, none⟩ = some (.string vx) := by rw [cell_of_row _ _ _ _ _ _ hblk]; rfl
      have p2 : W.cell? ⟨wr.heap.size, 2, none⟩ = some (.int .i64 px) := by rw [cell_of_row _ _ _ _ _ _ hblk]; rfl
      have hsW : wr.heap.size < W.heap.size := by rw [hW]; simp
      have hws := hb.size
      have HW := hide hW
      have hjm : j + 1 ≤ maxLen := by unfold maxLen; omega
      clear hown hblk hW hsm
      go_upto_region 5 with fail
      rw [← unhide HW]
      clear hc0 hc1 hc2 HW
      go_region_law
        (first
          | (refine step_call (by rfl) 24 #[.tmp 14] _ (by rfl) #[.string kx] (by first | rfl | (simp [Act.eval]; done)) enterClone _ (unhide HCK _) ?_; rintro e wk ⟨rfl, hbk⟩; refine ⟨_, rfl, ?_⟩; have p0 := (hbk.cell (p := ⟨wr.heap.size, 0, none⟩) hsW).trans p0; have p1 := (hbk.cell (p := ⟨wr.heap.size, 1, none⟩) hsW).trans p1; have p2 := (hbk.cell (p := ⟨wr.heap.size, 2, none⟩) hsW).trans p2; have hsW := Nat.lt_of_lt_of_le hsW hbk.size; have HCUR : Hid (wk.ownsRow w.heap.size 30 3 (.slice A j C) j (itsV (Q.take j)) ∧ Below w.heap.size w wk) := (by first | exact ⟨own_below (unhide HCUR).1 hbk, (unhide HCUR).2.trans (hbk.mono (unhide HCUR).2.size)⟩ | exact ⟨own_below (unhide HCUR).1.drew hbk, (unhide HCUR).2.drew.trans (hbk.mono (unhide HCUR).2.size)⟩))
          | (refine step_call (by rfl) 24 #[.tmp 17] _ (by rfl) #[.string vx] (by first | rfl | (simp [Act.eval]; done)) enterClone _ (unhide HCV _) ?_; rintro e wk ⟨rfl, hbk⟩; refine ⟨_, rfl, ?_⟩; have p0 := (hbk.cell (p := ⟨wr.heap.size, 0, none⟩) hsW).trans p0; have p1 := (hbk.cell (p := ⟨wr.heap.size, 1, none⟩) hsW).trans p1; have p2 := (hbk.cell (p := ⟨wr.heap.size, 2, none⟩) hsW).trans p2; have hsW := Nat.lt_of_lt_of_le hsW hbk.size; have HCUR : Hid (wk.ownsRow w.heap.size 30 3 (.slice A j C) j (itsV (Q.take j)) ∧ Below w.heap.size w wk) := (by first | exact ⟨own_below (unhide HCUR).1 hbk, (unhide HCUR).2.trans (hbk.mono (unhide HCUR).2.size)⟩ | exact ⟨own_below (unhide HCUR).1.drew hbk, (unhide HCUR).2.drew.trans (hbk.mono (unhide HCUR).2.size)⟩))
          | (refine step_append_lies _ (by rfl) _ _ _ (by rfl) w.heap.size 30 i1 _ 3 40 Try.underlying24 hj1 hy0 hy1 hy2 rfl (by omega) (.slice A j C) j (itsV (Q.take j)) (by rfl) (by first | exact (unhide HCUR).1.alloc _ | exact ((unhide HCUR).1.alloc _).drew) ⟨wk.heap.size, 0, none⟩ 1 1 [.string kx, .string vx, .int .i64 px] (by rfl) (by rfl) (World.news_of_block (cs := #[.string kx, .string vx, .int .i64 px]) (t := 30) (fr := (0, 0)) (heap_alloc_new wk _)) (by simp [Value.oneCell']) (by omega) hjm (by omega) (by have := (unhide HCUR).2.size; simp; omega) (wk.heap.size + 1) (by simp) ?_; intro g cap' w2 hown2 hgrow2 hat2 hlt3))
      all_goals
        have hbe := below_append (unhide HCUR).2 (Nat.le_refl _) (unhide HCUR).1 hgrow2
        rw [← unhide HT] at hown2
        have HO2 := hide hown2
        clear hown2 hgrow2 hat2 hlt3 HCUR hb
        go_wp2
        go_roundw
        case rel => exact ⟨j + 1, some ⟨g, 0, none⟩, cap', by go_num, by omega, rfl, unhide HO2, hbe⟩
        case measure => simp [intOf]; omega
    · have hx1 : ¬ (j : Int) < (len : Int) := by omega
      have HO := hide hown
      clear hown
      go_wp2
      go_ret
      refine ⟨⟨_, rfl, ?_⟩, hb⟩
      obtain rfl : j = len := by omega
      have h := unhide HO
      rw [List.take_of_length_le (by have := unhide HL; omega)] at h
      exact h
end Tr
end Go.Proofs.Yteaidpeifaeckaa
