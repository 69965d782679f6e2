/-
  The contracts of impl's linkTable.turn and linksOf.
-/
import Derived.Test.YtejfknkcakeakaaLkF
import Derived.Test.YtejfknkcakeakaaGrGen
import Derived.Test.YtejfknkcakeakaaGrOkMath
namespace Go.Proofs.Ytejfknkcakeakaa
namespace Lk
open Go.RowKit
open Gr (Blk Kept EdgeI GrAt GBox below_new below_setCells results_cell1 setMany setMany_all)

set_option maxRecDepth 100000 in
set_option maxHeartbeats 2000000 in
theorem turn_any (T a b : Nat) (F : Nat → Nat → Bool) (ha : a < 9) (hb : b < 9) (hne : a ≠ b) (w : World) (h : Blk w T (tb F) 65) :
    Calls Try.prog 67 #[.pointer (some ⟨T, 0, none⟩), .int .i64 (a : Int), .int .i64 (b : Int)] w fun e w' => e = .returned (.tuple #[]) ∧ Blk w' T (tb (turnF F a b)) 65 ∧ Kept (fun g => g = T) w w' := by
  have hl := h.lt
  have c0 := h.cell (a * 9 + b) _ (tb_in F a b ha hb)
  have f0 := h.froz (a * 9 + b)
  have h2 := h.set (a * 9 + b) (.bool (!F a b))
  have c1 : (w.setCell ⟨T, a * 9 + b, none⟩ (.bool (!F a b))).cell? ⟨T, b * 9 + a, none⟩ = some (.bool (F b a)) := h2.cell (b * 9 + a) _ (by rw [Array.getElem?_setIfInBounds_ne (by omega)]; exact tb_in F b a hb ha)
  have f1 := h2.froz (b * 9 + a)
  have HE : Hid (Blk ((w.setCell ⟨T, a * 9 + b, none⟩ (.bool (!F a b))).setCell ⟨T, b * 9 + a, none⟩ (.bool (!F b a))) T (tb (turnF F a b)) 65) := by
    show Blk _ _ _ _
    rw [← tb_turn F a b ha hb hne]
    exact h2.set _ _
  have HK : Hid (Kept (fun g => g = T) w ((w.setCell ⟨T, a * 9 + b, none⟩ (.bool (!F a b))).setCell ⟨T, b * 9 + a, none⟩ (.bool (!F b a)))) := Gr.Kept.trans (Gr.Kept.set _ _ _ _ rfl) (Gr.Kept.set _ _ _ _ rfl)
  have hx0 : (0 : Int) ≤ (a : Int) := by omega
  have hx1 : (a : Int) < 9 := by omega
  have hy0 : (0 : Int) ≤ (b : Int) := by omega
  have hy1 : (b : Int) < 9 := by omega
  clear h h2 hne
  generalize F a b = x at c0 c1 f1 HE HK
  generalize F b a = y at c1 HE HK
  go_enter Try.func67, Try.ntmps67
  go_wp2_with fail
  go_region
  go_wp2_with fail
  go_region
  go_wp2_with fail
  go_returns
  exact ⟨rfl, unhide HE, unhide HK⟩

/-- The table of the first edges. -/
def lnk (Q : List EdgeI) (k : Nat) : Nat → Nat → Bool := (Q.take k).foldl (fun F e => turnF F e.A.toNat e.B.toNat) (fun _ _ => false)

theorem lnk_next (Q : List EdgeI) (k : Nat) (h : k < Q.length) : lnk Q (k + 1) = turnF (lnk Q k) Q[k].A.toNat Q[k].B.toNat := by
  unfold lnk
  rw [List.take_succ_eq_append_getElem h, List.foldl_append]
  rfl

theorem lnk_zero (Q : List EdgeI) : (tb fun _ _ => false) = tb (lnk Q 0) := by
  refine tb_congr (fun i j _ _ => ?_)
  unfold lnk
  rw [List.take_zero, List.foldl_nil]

/-- The table of the edges. -/
def lnkF (Q : List EdgeI) : Nat → Nat → Bool := lnk Q Q.length

set_option maxRecDepth 100000 in
set_option maxHeartbeats 2000000 in
theorem links_any (B : Nat) (v : Value) (s : Int) (Q : List EdgeI) (h1 : Q.length ≤ 1048576) (hQ : ∀ e ∈ Q, 0 ≤ e.A ∧ e.A < e.B ∧ e.B < 9) (w : World) (hB : B ≤ w.heap.size) (hv : GrAt w v B s Q) :
    Calls Try.prog 46 #[v] w fun e w' => e = .returned (.agg (tb (lnkF Q))) ∧ Below w.heap.size w w' := by
  obtain ⟨a, n, c, rfl, hE⟩ := hv
  obtain ⟨hL, hc⟩ := hE
  have HC := hide hc
  have HL := hide hL
  have HQ := hide hQ
  have HN := hide (fun k h => lnk_next Q k h)
  have hzv := zero_tb
  have HZ : Hid (Array.size (tb fun _ _ => false) = 81) := tb_size _
  have H0 : Hid ((tb fun _ _ => false) = tb (lnk Q 0)) := lnk_zero Q
  have hn : n ≤ 1048576 := by omega
  have hR : lnkF Q = lnk Q n := by unfold lnkF; rw [hL]
  rw [hR]
  generalize (tb fun _ _ => false) = Z at hzv HZ H0
  clear hc hL hQ hR h1
  go_enter Try.func46, Try.ntmps46
  go_wp2_with fail
  obtain ⟨V0, hV0⟩ : ∃ W, W = w.alloc (Obj.cells #[Value.int .i64 s, Value.slice a n c] 30) := ⟨_, rfl⟩
  obtain ⟨V1, hV1⟩ : ∃ W, W = V0.alloc (Obj.cells Z 65) := ⟨_, rfl⟩
  obtain ⟨V2, hV2⟩ : ∃ W, W = V1.alloc (Obj.cells Z 65) := ⟨_, rfl⟩
  rw [← hV0, ← hV1, ← hV2]
  have x2 : GBox V2 w.heap.size s (.slice a n c) := by rw [hV2, hV1, hV0]; exact ((GBox.new _ _ _).below (below_new _ _)).below (below_new _ _)
  have b2 : Below w.heap.size w V2 := by rw [hV2, hV1, hV0]; exact ((below_new _ _).alloc (by simp) _).alloc (by simp; omega) _
  have HR2 : Hid (Blk V2 (w.heap.size + 1) Z 65) := by show Blk _ _ _ _; rw [hV2, hV1, hV0]; exact Gr.Blk.new1.alloc
  have HT2 : Hid (Blk V2 (w.heap.size + 1 + 1) (tb (lnk Q 0)) 65) := by show Blk _ _ _ _; rw [← unhide H0, hV2, hV1, hV0]; exact Gr.Blk.new2
  obtain ⟨p0, p1⟩ := x2.cells
  clear hV0 hV1 hV2 H0 x2
  go_loopw [9] (fun i wr => ∃ j : Nat, i = .int .i64 (j : Int) ∧ j ≤ n ∧ Hid (Blk wr (w.heap.size + 1 + 1) (tb (lnk Q j)) 65) ∧ Hid (Blk wr (w.heap.size + 1) Z 65) ∧ Below w.heap.size w wr) (fun i _ => n - (intOf i).toNat)
  case atStart => exact ⟨0, rfl, Nat.zero_le _, HT2, HR2, b2⟩
  case round =>
    obtain ⟨j, rfl, hj, HT, HR, hb⟩ := hrel
    by_cases hlt : j < n
    · have hjL : j < Q.length := by have := unhide HL; omega
      obtain ⟨b, off, rfl, hbB, c0, c1, c2, c3, c4⟩ := unhide HC j hjL
      rw [← hb.cell (p := ⟨b, off + j * 5, none⟩) (by simp; omega)] at c0
      rw [← hb.cell (p := ⟨b, off + j * 5 + 1, none⟩) (by simp; omega)] at c1
      rw [← hb.cell (p := ⟨b, off + j * 5 + 2, none⟩) (by simp; omega)] at c2
      rw [← hb.cell (p := ⟨b, off + j * 5 + 3, none⟩) (by simp; omega)] at c3
      rw [← hb.cell (p := ⟨b, off + j * 5 + 4, none⟩) (by simp; omega)] at c4
      have hq := unhide HQ _ (List.getElem_mem hjL)
      have HS := hide (unhide HN j hjL)
      generalize Q[j] = q at c0 c1 c2 c3 c4 hq HS
      obtain ⟨y0, y1, y2, y3, y4⟩ := q
      simp only at c0 c1 c2 c3 c4 hq HS
      obtain ⟨q0, q1, q2⟩ := hq
      obtain ⟨z0, rfl⟩ := Int.eq_ofNat_of_zero_le q0
      obtain ⟨z1, rfl⟩ := Int.eq_ofNat_of_zero_le (show 0 ≤ y1 by omega)
      have TU := hide (fun W hW => turn_any (w.heap.size + 1 + 1) z0 z1 (lnk Q j) (by omega) (by omega) (by omega) W hW)
      have hx2 : (j : Int) < (n : Int) := by omega
      have hx0 : (0 : Int) ≤ (j : Int) := by omega
      have hwl := (unhide HT).lt
      clear q0 q1 q2
      go_wp2_with fail
      obtain ⟨V3, hV3⟩ : ∃ W, W = wr.alloc (Obj.cells #[Value.int .i64 (z0 : Int), Value.int .i64 (z1 : Int), Value.int .i64 y2, Value.int .i64 y3, Value.int .i64 y4] 76) := ⟨_, rfl⟩
      rw [← hV3]
      have n3 : Below wr.heap.size wr V3 := by rw [hV3]; exact below_new _ _
      have b3 := hb.trans (n3.mono hb.size)
      clear hV3
      refine (unhide TU V3 ((unhide HT).below n3)).mono ?_
      rintro e w4 ⟨rfl, hT4, hk4⟩
      have b4 : Below w.heap.size w w4 := b3.trans (hk4.below b3.size (fun i hi => by omega))
      have HT4 : Hid (Blk w4 (w.heap.size + 1 + 1) (tb (lnk Q (j + 1))) 65) := by
        show Blk _ _ _ _
        rw [unhide HS]
        exact hT4
      have HR4 := hide (((unhide HR).below n3).kept hk4 (show ¬ w.heap.size + 1 = w.heap.size + 1 + 1 by omega))
      clear hT4 hk4 n3 HS TU b3
      go_wp2_with fail
      exact ⟨⟨j + 1, by go_num, by omega, HT4, HR4, b4⟩, by simp [intOf]; omega⟩
    · obtain rfl : j = n := by omega
      have HR1 := hide (unhide HT).range
      have HR5 : Hid (wr.there (w.heap.size + 1) 0 (tb (lnk Q j)).size) := (unhide HR).there 0 _ (by rw [tb_size, unhide HZ]; omega)
      have hi1 := hide (infoTL (lnk Q j))
      have hi2 := hide (infoTF (lnk Q j))
      have h1 := hide (tb_one (lnk Q j))
      have HB : Hid (Blk (wr.setCells (w.heap.size + 1) 0 (tb (lnk Q j)).toList) (w.heap.size + 1) (tb (lnk Q j)) 65) := by
        have h := Gr.Blk.many (tb (lnk Q j)).toList 0 (unhide HR)
        rwa [setMany_all _ _ (by rw [tb_size, unhide HZ])] at h
      have HLD := hide (load_tb (unhide HB))
      generalize hC : tb (lnk Q j) = C at HR1 HR5 hi1 hi2 h1 HLD
      have HCE := hide hC
      clear hC HB
      go_wp2_with (first
        | refine wpList_load_mid rfl 65 _ rfl (w.heap.size + 1 + 1) 0 rfl C.toList _ (unhide HR1) Try.underlying65 rfl (unhide hi1) ?_
        | refine wpList_store_mid rfl 65 _ _ rfl (w.heap.size + 1) 0 C rfl rfl (unhide HR5) (unhide hi2) (unhide h1) ?_)
      refine bodyPost_ret (v := .agg C) ?_ rfl ⟨(by rw [unhide HCE]), below_setCells _ _ (by omega) _ _ _ _ hb⟩
      have hld := unhide HLD
      rw [results_cell1 rfl]
      show ((asAddr (Value.pointer (some ⟨w.heap.size + 1, 0, none⟩))).run Try.prog _).andThen _ = _
      simp [asAddr, Result.andThen, hld]

end Lk
end Go.Proofs.Ytejfknkcakeakaa
