/-
  The contract of impl's linkTable.ends.
-/
import Derived.Test.YtejfknkcakeakaaLkD0
import Derived.Test.YtejfknkcakeakaaLkQ
namespace Go.Proofs.Ytejfknkcakeakaa
namespace Lk
open Go.RowKit
open Gr (Blk Kept below_new setMany setMany_all below_setCells results_cell1)

theorem cells_boolL : Try.prog.cellsOf 4 = 1 := by kernel_rfl

theorem infoBL : ∃ i, Try.prog.info? 4 = some i := by
  cases h : Try.prog.info? 4 with
  | some i => exact ⟨i, rfl⟩
  | none =>
    have e : (Try.prog.info? 4).isSome = true := by kernel_rfl
    rw [h] at e
    cases e

theorem part_flL (f : Nat → Bool) (W : World) : ∀ j, j < 9 → (Go.part 4 (fl f) (j * 1)).run Try.prog W = .ok (.bool (f j)) W
  | 0, _ => by kernel_rfl
  | 1, _ => by kernel_rfl
  | 2, _ => by kernel_rfl
  | 3, _ => by kernel_rfl
  | 4, _ => by kernel_rfl
  | 5, _ => by kernel_rfl
  | 6, _ => by kernel_rfl
  | 7, _ => by kernel_rfl
  | 8, _ => by kernel_rfl
  | n + 9, h => absurd h (by omega)

theorem items_flL (f g : Nat → Bool) (d : Nat) (W : World) : ∀ (L : List Nat), (∀ j ∈ L, j < 9) → (Op.eqItems (d + 1) 4 1 (fl f) (fl g) L).run Try.prog W = .ok (L.all fun j => f j == g j) W
  | [], _ => by simp [Op.eqItems]
  | j :: r, h => by
    have h1 := part_flL f W j (h j List.mem_cons_self)
    have h2 := part_flL g W j (h j List.mem_cons_self)
    have h3 := items_flL f g d W r (fun x hx => h x (List.mem_cons_of_mem _ hx))
    simp only [Op.eqItems, Sem.run_bind, h1, h2, Result.andThen_ok, run_equalIn_bool W d 4 (f j) (g j) Try.underlying4, List.all_cons]
    cases (f j == g j)
    · simp
    · simp [h3]

theorem eq_flL (f g : Nat → Bool) (W : World) : (Op.equalIn 10000 63 (.agg (fl f)) (.agg (fl g))).run Try.prog W = .ok ((List.range 9).all fun j => f j == g j) W := by
  obtain ⟨i, hi⟩ := infoBL
  have h := run_equalIn_array W 9999 (fl f) (fl g) Try.underlying63 hi
  rw [show (10000 : Nat) = 9999 + 1 from rfl, h, cells_boolL]
  exact items_flL f g 9998 W (List.range 9) (fun j hj => List.mem_range.1 hj)

/-- No flag is set. -/
def none9 (f : Nat → Bool) : Bool := (List.range 9).all fun j => f j == false

theorem none_end (F : Nat → Nat → Bool) (v : Nat) : endF F v = !none9 (F v) := by
  unfold endF none9
  rw [List.not_all_eq_any_not]
  congr 1
  funext u
  cases F v u <;> rfl

theorem zero_nine : fl (fun _ => false) = #[.bool false, .bool false, .bool false, .bool false, .bool false, .bool false, .bool false, .bool false, .bool false] := rfl

/-- The first k ends. -/
def endTo (F : Nat → Nat → Bool) (k : Nat) : Nat → Bool := fun v => decide (v < k) && endF F v

theorem end_next (F : Nat → Nat → Bool) (k : Nat) : (fl (endTo F k)).setIfInBounds k (.bool (endF F k)) = fl (endTo F (k + 1)) := by
  rw [fl_set]
  refine fl_congr (fun v _ => ?_)
  unfold endTo
  by_cases h : v = k
  · subst h; simp
  · have : v < k + 1 ↔ v < k := by omega
    simp [h, this]

set_option maxRecDepth 100000 in
set_option maxHeartbeats 4000000 in
theorem ends_any (F : Nat → Nat → Bool) (T : Nat) (w : World) (hT : Blk w T (tb F) 65) :
    Calls Try.prog 68 #[.pointer (some ⟨T, 0, none⟩)] w fun e w' => e = .returned (.agg (fl (endF F))) ∧ Below w.heap.size w w' := by
  have HN := hide (fun k => end_next F k)
  have HEQ := hide (fun k W => eq_flL (F k) (fun _ => false) W)
  have HNE := hide (fun k => none_end F k)
  have HTB := hide (fun k (hk : k < 9) j (hj : j < 9) => tb_in F k j hk hj)
  have HAT : Hid (∀ (j k : Nat), k < 9 → (fl (endTo F j))[k]? = some (.bool (endTo F j k))) := fun j k h => fl_at _ k h
  have HEND : Hid (fl (endTo F 9) = fl (endF F)) := fl_congr (fun v hv => by unfold endTo; simp [hv])
  have H0 : Hid (fl (fun _ => false) = fl (endTo F 0)) := fl_congr (fun v _ => by unfold endTo; simp)
  have hiR := hide (infoVF (endF F))
  have hiRL := hide (infoVL (endF F))
  have h1R := hide (fl_one (endF F))
  have HRS := hide (fl_size (endF F))
  have HLR := hide (fun W b (h : Blk W b (fl (endF F)) 63) => load_fl h)
  generalize fl (endF F) = R at HEND hiR hiRL h1R HRS HLR ⊢
  have hTl := hT.lt
  have HT := hide hT
  rw [zero_nine] at H0
  clear hT
  go_enter Try.func68, Try.ntmps68
  go_wp2_with fail
  obtain ⟨Z, hZ⟩ : ∃ Z : Array Value, Z = #[.bool false, .bool false, .bool false, .bool false, .bool false, .bool false, .bool false, .bool false, .bool false] := ⟨_, rfl⟩
  obtain ⟨V1, hV1⟩ : ∃ W, W = w.alloc (Obj.cells #[.bool false, .bool false, .bool false, .bool false, .bool false, .bool false, .bool false, .bool false, .bool false] 63) := ⟨_, rfl⟩
  obtain ⟨V2, hV2⟩ : ∃ W, W = V1.alloc (Obj.cells #[.bool false, .bool false, .bool false, .bool false, .bool false, .bool false, .bool false, .bool false, .bool false] 63) := ⟨_, rfl⟩
  rw [← hV1, ← hV2]
  have b2 : Below w.heap.size w V2 := by rw [hV2, hV1]; exact (below_new _ _).alloc (by simp) _
  have HR2 : Hid (Blk V2 w.heap.size Z 63) := by show Blk _ _ _ _; rw [hZ, hV2, hV1]; exact Gr.Blk.new0.alloc
  have HE2 : Hid (Blk V2 (w.heap.size + 1) (fl (endTo F 0)) 63) := by show Blk _ _ _ _; rw [← unhide H0, hV2, hV1]; exact Gr.Blk.new1
  have HT2 : Hid (Blk V2 T (tb F) 65) := by show Blk _ _ _ _; rw [hV2, hV1]; exact (unhide HT).alloc.alloc
  have HZ9 : Hid (Z.size = 9) := by show _ = _; rw [hZ]; rfl
  have HZE := hide hZ
  clear hV1 hV2 H0 HT hZ
  go_loopw [8] (fun i wr => ∃ k : Nat, i = .int .i64 (k : Int) ∧ k ≤ 9 ∧ Hid (Blk wr (w.heap.size + 1) (fl (endTo F k)) 63) ∧ Hid (Blk wr w.heap.size Z 63) ∧ Hid (Blk wr T (tb F) 65) ∧ Below w.heap.size w wr) (fun i _ => 9 - (intOf i).toNat)
  case atStart => exact ⟨0, rfl, Nat.zero_le _, HE2, HR2, HT2, b2⟩
  case round =>
    clear HE2 HR2 HT2 b2
    obtain ⟨k, rfl, hk, HE, HR, HT, hb⟩ := hrel
    have hTl := (unhide HT).lt
    have hEl := (unhide HE).lt
    have hzb := hb.size
    by_cases hlt : k < 9
    · have hx1 : (k : Int) < 9 := by omega
      have hx0 : (0 : Int) ≤ (k : Int) := by omega
      have c0 : wr.cell? ⟨T, k * 9, none⟩ = some (.bool (F k 0)) := (unhide HT).cell (k * 9) _ (unhide HTB k hlt 0 (by omega))
      have c1 : wr.cell? ⟨T, k * 9 + 1, none⟩ = some (.bool (F k 1)) := (unhide HT).cell (k * 9 + 1) _ (unhide HTB k hlt 1 (by omega))
      have c2 : wr.cell? ⟨T, k * 9 + 2, none⟩ = some (.bool (F k 2)) := (unhide HT).cell (k * 9 + 2) _ (unhide HTB k hlt 2 (by omega))
      have c3 : wr.cell? ⟨T, k * 9 + 3, none⟩ = some (.bool (F k 3)) := (unhide HT).cell (k * 9 + 3) _ (unhide HTB k hlt 3 (by omega))
      have c4 : wr.cell? ⟨T, k * 9 + 4, none⟩ = some (.bool (F k 4)) := (unhide HT).cell (k * 9 + 4) _ (unhide HTB k hlt 4 (by omega))
      have c5 : wr.cell? ⟨T, k * 9 + 5, none⟩ = some (.bool (F k 5)) := (unhide HT).cell (k * 9 + 5) _ (unhide HTB k hlt 5 (by omega))
      have c6 : wr.cell? ⟨T, k * 9 + 6, none⟩ = some (.bool (F k 6)) := (unhide HT).cell (k * 9 + 6) _ (unhide HTB k hlt 6 (by omega))
      have c7 : wr.cell? ⟨T, k * 9 + 7, none⟩ = some (.bool (F k 7)) := (unhide HT).cell (k * 9 + 7) _ (unhide HTB k hlt 7 (by omega))
      have c8 : wr.cell? ⟨T, k * 9 + 8, none⟩ = some (.bool (F k 8)) := (unhide HT).cell (k * 9 + 8) _ (unhide HTB k hlt 8 (by omega))
      have HQ := hide (unhide HEQ k)
      have HNK := hide (unhide HNE k)
      have HS := hide (unhide HN k)
      have e9 : fl (F k) = #[.bool (F k 0), .bool (F k 1), .bool (F k 2), .bool (F k 3), .bool (F k 4), .bool (F k 5), .bool (F k 6), .bool (F k 7), .bool (F k 8)] := rfl
      have HQ2 : Hid (∀ W, (Op.equalIn 10000 63 (.agg (fl (F k))) (.agg (fl fun _ => false))).run Try.prog W = .ok (none9 (F k)) W) := unhide HQ
      rw [e9, zero_nine] at HQ2
      rw [unhide HNK] at HS
      generalize none9 (F k) = nk at HQ2 HS
      generalize F k 0 = f0 at c0 HQ2
      generalize F k 1 = f1 at c1 HQ2
      generalize F k 2 = f2 at c2 HQ2
      generalize F k 3 = f3 at c3 HQ2
      generalize F k 4 = f4 at c4 HQ2
      generalize F k 5 = f5 at c5 HQ2
      generalize F k 6 = f6 at c6 HQ2
      generalize F k 7 = f7 at c7 HQ2
      generalize F k 8 = f8 at c8 HQ2
      clear e9 HQ HNK
      go_wp2_with fail
      go_region
      obtain ⟨V5, hV5⟩ : ∃ W, W = (wr.alloc (Obj.cells #[Value.bool f0, Value.bool f1, Value.bool f2, Value.bool f3, Value.bool f4, Value.bool f5, Value.bool f6, Value.bool f7, Value.bool f8] 63)).drew := ⟨_, rfl⟩
      rw [← hV5]
      have n5 : Below wr.heap.size wr V5 := by rw [hV5]; exact (below_new _ _).drew
      have u5 : Blk V5 wr.heap.size #[Value.bool f0, Value.bool f1, Value.bool f2, Value.bool f3, Value.bool f4, Value.bool f5, Value.bool f6, Value.bool f7, Value.bool f8] 63 := by rw [hV5]; exact Gr.Blk.new0.drew
      have hE5 := (unhide HE).below n5
      have hR5 := (unhide HR).below n5
      have hT5 := (unhide HT).below n5
      have b5 := hb.trans (n5.mono hb.size)
      have r5 := hide u5.range
      have q0 := hE5.cell k _ (unhide HAT k k hlt)
      have fz := hE5.froz k
      generalize endTo F k k = old at q0
      have HE6 : Hid (Blk (V5.setCell ⟨w.heap.size + 1, k, none⟩ (.bool (!nk))) (w.heap.size + 1) (fl (endTo F (k + 1))) 63) := by
        show Blk _ _ _ _
        rw [← unhide HS]
        exact hE5.set k _
      have HR6 : Hid (Blk (V5.setCell ⟨w.heap.size + 1, k, none⟩ (.bool (!nk))) w.heap.size Z 63) := hR5.set_other (by omega) k _
      have HT6 : Hid (Blk (V5.setCell ⟨w.heap.size + 1, k, none⟩ (.bool (!nk))) T (tb F) 65) := hT5.set_other (tbl_ne hT5 hE5) k _
      have b6 : Below w.heap.size w (V5.setCell ⟨w.heap.size + 1, k, none⟩ (.bool (!nk))) := b5.setCell (p := ⟨w.heap.size + 1, k, none⟩) (by simp) _
      have hq := unhide HQ2
      have iN : (Try.prog.info? 63).map (·.size) = some 9 := infoV
      clear hV5 n5 u5 hE5 hR5 hT5 b5 c0 c1 c2 c3 c4 c5 c6 c7 c8 HE HR HT HQ2 HS hb
      go_wp2_with (first
        | refine wpList_load_mid rfl 63 _ rfl wr.heap.size 0 rfl [Value.bool f0, Value.bool f1, Value.bool f2, Value.bool f3, Value.bool f4, Value.bool f5, Value.bool f6, Value.bool f7, Value.bool f8] _ (unhide r5) Try.underlying63 rfl iN ?_)
      exact ⟨⟨k + 1, by go_num, by omega, HE6, HR6, HT6, b6⟩, by simp [intOf]; omega⟩
    · obtain rfl : k = 9 := by omega
      have HT' : Hid (Blk wr (w.heap.size + 1) R 63) := by show Blk _ _ _ _; rw [← unhide HEND]; exact unhide HE
      have HR1 := hide (unhide HT').range
      have HR5 : Hid (wr.there w.heap.size 0 R.size) := (unhide HR).there 0 _ (by rw [unhide HZ9, unhide HRS]; omega)
      have HB : Hid (Blk (wr.setCells w.heap.size 0 R.toList) w.heap.size R 63) := by
        have h := Gr.Blk.many R.toList 0 (unhide HR)
        rwa [setMany_all _ _ (by rw [unhide HZ9, unhide HRS])] at h
      have HLD := hide (unhide HLR _ _ (unhide HB))
      clear HB HT'
      go_wp2_with (first
        | refine wpList_load_mid rfl 63 _ rfl (w.heap.size + 1) 0 rfl R.toList _ (unhide HR1) Try.underlying63 rfl (unhide hiRL) ?_
        | refine wpList_store_mid rfl 63 _ _ rfl w.heap.size 0 R rfl rfl (unhide HR5) (unhide hiR) (unhide h1R) ?_)
      refine bodyPost_ret (v := .agg R) ?_ rfl ⟨rfl, below_setCells _ _ (Nat.le_refl _) _ _ _ _ hb⟩
      have hld := unhide HLD
      rw [results_cell1 rfl]
      show ((asAddr (Value.pointer (some ⟨w.heap.size, 0, none⟩))).run Try.prog _).andThen _ = _
      simp [asAddr, Result.andThen, hld]

end Lk
end Go.Proofs.Ytejfknkcakeakaa
