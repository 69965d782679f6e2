/-
 GrSets1, GrSets2, GrSets3, GrSets4.
-/
import Derived.Test.YtkjclkelnheheaaJ16
import Derived.Test.YtkjclkelnheheaaJ34
import Derived.ChangeKeysEq
import Derived.Test.YtkjclkelnheheaaJ2
import Derived.Test.YtkjclkelnheheaaJ14
namespace Go.Proofs.Ytkjclkelnheheaa
namespace Gr
open Go.RowKit
def fl (f : Nat → Bool) : Array Value := ((List.range 9).map fun (j : Nat) => Value.bool (f j)).toArray
theorem fl_at (f : Nat → Bool) (k : Nat) (h : k < 9) : (fl f)[k]? = some (.bool (f k)) := by
  unfold fl
  simp [h]
theorem fl_size (f : Nat → Bool) : (fl f).size = 9 := by unfold fl; simp
theorem fl_one (f : Nat → Bool) : (fl f).all (·.oneCell') = true := by
  apply Array.all_eq_true_iff_forall_mem.2
  intro v hv
  unfold fl at hv
  simp only [List.mem_toArray, List.mem_map] at hv
  obtain ⟨j, _, rfl⟩ := hv
  rfl
theorem fl_ext {C : Array Value} {f : Nat → Bool} (h : C.size = 9) (hk : ∀ k : Nat, k < 9 → C[k]? = some (.bool (f k))) : C = fl f := by
  apply Array.ext_getElem?
  intro i
  rcases Nat.lt_or_ge i 9 with h' | h'
  · rw [hk i h', fl_at f i h']
  · rw [Array.getElem?_eq_none (by omega), Array.getElem?_eq_none (by rw [fl_size]; omega)]
theorem fl_congr {f g : Nat → Bool} (h : ∀ j, j < 9 → f j = g j) : fl f = fl g := fl_ext (fl_size f) (fun k hk => by rw [fl_at f k hk, h k hk])
theorem fl_set (f : Nat → Bool) (k : Nat) (b : Bool) : (fl f).setIfInBounds k (.bool b) = fl (fun j => if j = k then b else f j) := by
  refine fl_ext (by simp [fl_size]) (fun i hi => ?_)
  by_cases h : k = i
  · subst h
    rw [Array.getElem?_setIfInBounds_self]
    simp [fl_size, hi]
  · rw [Array.getElem?_setIfInBounds_ne h, fl_at f i hi]
    have : ¬ i = k := fun e => h e.symm
    simp [this]
theorem infoSet : (Try.prog.info? 60).map (·.size) = some 9 := by kernel_rfl
theorem infoSetF (f : Nat → Bool) : (Try.prog.info? 60).map (·.size) = some (fl f).size := by rw [infoSet, fl_size]
theorem infoSetL (f : Nat → Bool) : (Try.prog.info? 60).map (·.size) = some (fl f).toList.length := by rw [Array.length_toList, fl_size]; exact infoSet
theorem zero_set (W : World) : (zeroValue 60).run Try.prog W = .ok (.agg (fl fun _ => false)) W := by kernel_rfl
theorem load_set {W : World} {g : Nat} {f : Nat → Bool} (h : Blk W g (fl f) 60) : (loadVar 60 ⟨g, 0, none⟩).run Try.prog W = .ok (.agg (fl f)) W := by
  have h1 := run_loadVar_mid (P := Try.prog) W g 0 60 (fl f).toList _ h.range Try.underlying60 rfl (infoSetL f)
  rwa [Array.toArray_toList] at h1
set_option maxRecDepth 100000 in
set_option maxHeartbeats 1000000 in
theorem setOf_any (a : Option Addr) (n c B : Nat) (K : List Int) (hn : n ≤ 1048576) (hK9 : ∀ x ∈ K, 0 ≤ x ∧ x < 9) (w : World) (hB : B ≤ w.heap.size) (hK : IntsAt w a n B K) :
    Calls Try.prog 53 #[.slice a n c] w fun e w' => e = .returned (.agg (fl (onF K))) ∧ Below w.heap.size w w' := by
  obtain ⟨hL, hc⟩ := hK
  have HC := hide hc
  have HL := hide hL
  have HK9 := hide hK9
  have HST : Hid (∀ j (h : j < K.length) (k : Nat), K[j] = (k : Int) → (fl (onF (K.take j))).setIfInBounds k (.bool true) = fl (onF (K.take (j + 1)))) := fun j h k hk => by
    rw [fl_set]
    refine fl_congr (fun i hi => ?_)
    unfold onF
    rw [List.take_succ_eq_append_getElem h, hk]
    unfold inK
    by_cases e : i = k
    · subst e; simp
    · have e2 : ¬ ((i : Int) = (k : Int)) := by omega
      simp [e, e2]
  have HAT : Hid (∀ (j k : Nat), k < 9 → ∃ b : Bool, (fl (onF (K.take j)))[k]? = some (.bool b)) := fun j k h => ⟨_, fl_at _ k h⟩
  clear hc hL hK9
  have hzv := zero_set
  have HZ : Hid (Array.size (fl fun _ => false) = 9) := fl_size _
  have H0 : Hid ((fl fun _ => false) = fl (onF (K.take 0))) := fl_congr (fun j _ => by unfold onF inK; simp)
  generalize (fl fun _ => false) = Z at hzv HZ H0
  go_enter Try.func53, Try.ntmps53
  go_wp2_with fail
  obtain ⟨V1, hV1⟩ : ∃ W, W = w.alloc (Obj.cells Z 60) := ⟨_, rfl⟩
  obtain ⟨V2, hV2⟩ : ∃ W, W = V1.alloc (Obj.cells Z 60) := ⟨_, rfl⟩
  rw [← hV1, ← hV2]
  have b2 : Below w.heap.size w V2 := by rw [hV2, hV1]; exact (below_new _ _).alloc (by simp) _
  have HR2 : Hid (Blk V2 w.heap.size Z 60) := by show Blk _ _ _ _; rw [hV2, hV1]; exact Blk.new0.alloc
  have HT2 : Hid (Blk V2 (w.heap.size + 1) (fl (onF (K.take 0))) 60) := by show Blk _ _ _ _; rw [← unhide H0, hV2, hV1]; exact Blk.new1
  clear hV1 hV2 H0
  go_loopw [8] (fun i wr => ∃ j : Nat, i = .int .i64 (j : Int) ∧ j ≤ n ∧ Hid (Blk wr (w.heap.size + 1) (fl (onF (K.take j))) 60) ∧ Hid (Blk wr w.heap.size Z 60) ∧ Below w.heap.size w wr) (fun i _ => n - (intOf i).toNat)
  case atStart => exact ⟨0, rfl, Nat.zero_le _, HT2, HR2, b2⟩
  case round =>
    obtain ⟨j, rfl, hj, HT, HR, hb⟩ := hrel
    by_cases hlt : j < n
    · have hjL : j < K.length := by have := unhide HL; omega
      obtain ⟨b, off, rfl, hbB, c1⟩ := unhide HC j hjL
      rw [← hb.cell (p := ⟨b, off + j, none⟩) (by simp; omega)] at c1
      have h9 := unhide HK9 _ (List.getElem_mem hjL)
      have HS := hide (unhide HST j hjL)
      generalize K[j] = x at c1 h9 HS
      obtain ⟨k, rfl⟩ := Int.eq_ofNat_of_zero_le h9.1
      obtain ⟨b0, hb0⟩ := unhide HAT j k (by omega)
      have q0 := (unhide HT).cell k _ hb0
      have f0 := (unhide HT).froz k
      have hx0 : (0 : Int) ≤ (k : Int) := by omega
      have hx1 : (k : Int) < 9 := by omega
      have hx2 : (j : Int) < (n : Int) := by omega
      have HT3 : Hid (Blk (wr.setCell ⟨w.heap.size + 1, k, none⟩ (.bool true)) (w.heap.size + 1) (fl (onF (K.take (j + 1)))) 60) := by
        show Blk _ _ _ _
        rw [← unhide HS k rfl]
        exact (unhide HT).set k _
      have HR3 : Hid (Blk (wr.setCell ⟨w.heap.size + 1, k, none⟩ (.bool true)) w.heap.size Z 60) := (unhide HR).set_other (by omega) k _
      have hb3 : Below w.heap.size w (wr.setCell ⟨w.heap.size + 1, k, none⟩ (.bool true)) := hb.setCell (p := ⟨w.heap.size + 1, k, none⟩) (by simp) _
      clear hb0 h9 HS
      go_wp2_with fail
      exact ⟨⟨j + 1, by go_num, by omega, HT3, HR3, hb3⟩, by simp [intOf]; omega⟩
    · have hje : K.take j = K := List.take_of_length_le (by have := unhide HL; omega)
      rw [hje] at HT
      clear hje
      have HR1 := hide (unhide HT).range
      have HR5 : Hid (wr.there w.heap.size 0 (fl (onF K)).size) := (unhide HR).there 0 _ (by rw [fl_size, unhide HZ]; omega)
      have hi1 := hide (infoSetL (onF K))
      have hi2 := hide (infoSetF (onF K))
      have h1 := hide (fl_one (onF K))
      have HB : Hid (Blk (wr.setCells w.heap.size 0 (fl (onF K)).toList) w.heap.size (fl (onF K)) 60) := by
        have h := Blk.many (fl (onF K)).toList 0 (unhide HR)
        rwa [setMany_all _ _ (by rw [fl_size, unhide HZ])] at h
      have HLD := hide (load_set (unhide HB))
      generalize hC : fl (onF K) = C at HR1 HR5 hi1 hi2 h1 HLD
      have HCE := hide hC
      clear hC HB
      go_wp2_with (first
        | refine wpList_load_mid rfl 60 _ rfl (w.heap.size + 1) 0 rfl C.toList _ (unhide HR1) Try.underlying60 rfl (unhide hi1) ?_
        | refine wpList_store_mid rfl 60 _ _ rfl w.heap.size 0 C rfl rfl (unhide HR5) (unhide hi2) (unhide h1) ?_)
      refine bodyPost_ret (v := .agg C) ?_ rfl ⟨(by rw [unhide HCE]), below_setCells _ _ (Nat.le_refl _) _ _ _ _ hb⟩
      have hld := unhide HLD
      rw [results_cell1 rfl]
      show ((asAddr (Value.pointer (some ⟨w.heap.size, 0, none⟩))).run Try.prog _).andThen _ = _
      simp [asAddr, Result.andThen, hld]
def bothTo (f g : Nat → Bool) (k : Nat) : Nat → Bool := fun j => if j < k then f j && g j else false
theorem bothTo_step (f g : Nat → Bool) (k : Nat) : (fl (bothTo f g k)).setIfInBounds k (.bool (f k && g k)) = fl (bothTo f g (k + 1)) := by
  rw [fl_set]
  refine fl_congr (fun j _ => ?_)
  unfold bothTo
  by_cases h : j = k
  · subst h; simp
  · have : j < k + 1 ↔ j < k := by omega
    simp [h, this]
theorem bothTo_end (f g : Nat → Bool) : fl (bothTo f g 9) = fl (fun j => f j && g j) := fl_congr (fun j hj => by unfold bothTo; simp [hj])
set_option maxRecDepth 100000 in
set_option maxHeartbeats 1000000 in
theorem inBoth_any (f g : Nat → Bool) (w : World) :
    Calls Try.prog 69 #[.agg (fl f), .agg (fl g)] w fun e w' => e = .returned (.agg (fl (fun j => f j && g j))) ∧ Below w.heap.size w w' := by
  have HST := hide (fun k => bothTo_step f g k)
  have HEND := hide (bothTo_end f g)
  have HAF := hide (fl_at f)
  have HAG := hide (fl_at g)
  have HAB : Hid (∀ (j k : Nat), k < 9 → ∃ b : Bool, (fl (bothTo f g j))[k]? = some (.bool b)) := fun j k h => ⟨_, fl_at _ k h⟩
  have hzv := zero_set
  have HZ : Hid (Array.size (fl fun _ => false) = 9) := fl_size _
  have H0 : Hid ((fl fun _ => false) = fl (bothTo f g 0)) := fl_congr (fun j _ => by unfold bothTo; simp)
  generalize (fl fun _ => false) = Z at hzv HZ H0
  generalize fl f = F at HAF ⊢
  generalize fl g = G at HAG ⊢
  go_enter Try.func69, Try.ntmps69
  go_wp2_with fail
  obtain ⟨V0, hV0⟩ : ∃ W, W = w.alloc (Obj.cells F 60) := ⟨_, rfl⟩
  obtain ⟨V1, hV1⟩ : ∃ W, W = V0.alloc (Obj.cells G 60) := ⟨_, rfl⟩
  obtain ⟨V2, hV2⟩ : ∃ W, W = V1.alloc (Obj.cells Z 60) := ⟨_, rfl⟩
  obtain ⟨V3, hV3⟩ : ∃ W, W = V2.alloc (Obj.cells Z 60) := ⟨_, rfl⟩
  rw [← hV0, ← hV1, ← hV2, ← hV3]
  have b3 : Below w.heap.size w V3 := by rw [hV3, hV2, hV1, hV0]; exact (((below_new _ _).alloc (by simp) _).alloc (by simp; omega) _).alloc (by simp; omega) _
  have HF3 : Hid (Blk V3 w.heap.size F 60) := by show Blk _ _ _ _; rw [hV3, hV2, hV1, hV0]; exact Blk.new0.alloc.alloc.alloc
  have HG3 : Hid (Blk V3 (w.heap.size + 1) G 60) := by show Blk _ _ _ _; rw [hV3, hV2, hV1, hV0]; exact Blk.new1.alloc.alloc
  have HR3 : Hid (Blk V3 (w.heap.size + 1 + 1) Z 60) := by show Blk _ _ _ _; rw [hV3, hV2, hV1, hV0]; exact Blk.new2.alloc
  have HT3 : Hid (Blk V3 (w.heap.size + 1 + 1 + 1) (fl (bothTo f g 0)) 60) := by show Blk _ _ _ _; rw [← unhide H0, hV3]; exact Blk.new (by rw [hV2, hV1, hV0]; simp)
  clear hV0 hV1 hV2 hV3 H0
  go_loopw [7] (fun i wr => ∃ k : Nat, i = .int .i64 (k : Int) ∧ k ≤ 9 ∧ Hid (Blk wr (w.heap.size + 1 + 1 + 1) (fl (bothTo f g k)) 60) ∧ Hid (Blk wr (w.heap.size + 1 + 1) Z 60) ∧ Hid (Blk wr (w.heap.size + 1) G 60) ∧ Hid (Blk wr w.heap.size F 60) ∧ Below w.heap.size w wr) (fun i _ => 9 - (intOf i).toNat)
  case atStart => exact ⟨0, rfl, Nat.zero_le _, HT3, HR3, HG3, HF3, b3⟩
  case round =>
    obtain ⟨k, rfl, hk, HT, HR, HG, HF, hb⟩ := hrel
    by_cases hlt : k < 9
    · obtain ⟨b0, hb0⟩ := unhide HAB k k hlt
      have q0 := (unhide HT).cell k _ hb0
      have f0 := (unhide HT).froz k
      have q1 := (unhide HF).cell k _ (unhide HAF k hlt)
      have q2 := (unhide HG).cell k _ (unhide HAG k hlt)
      have hx0 : (0 : Int) ≤ (k : Int) := by omega
      have hx1 : (k : Int) < 9 := by omega
      have HS := hide (unhide HST k)
      clear hb0
      generalize f k = fk at q1 HS
      generalize g k = gk at q2 HS
      have HT4 : Hid (Blk (wr.setCell ⟨w.heap.size + 1 + 1 + 1, k, none⟩ (.bool (fk && gk))) (w.heap.size + 1 + 1 + 1) (fl (bothTo f g (k + 1))) 60) := by
        show Blk _ _ _ _
        rw [← unhide HS]
        exact (unhide HT).set k _
      have HR4 : Hid (Blk (wr.setCell ⟨w.heap.size + 1 + 1 + 1, k, none⟩ (.bool (fk && gk))) (w.heap.size + 1 + 1) Z 60) := (unhide HR).set_other (by omega) k _
      have HG4 : Hid (Blk (wr.setCell ⟨w.heap.size + 1 + 1 + 1, k, none⟩ (.bool (fk && gk))) (w.heap.size + 1) G 60) := (unhide HG).set_other (by omega) k _
      have HF4 : Hid (Blk (wr.setCell ⟨w.heap.size + 1 + 1 + 1, k, none⟩ (.bool (fk && gk))) w.heap.size F 60) := (unhide HF).set_other (by omega) k _
      have hb4 : Below w.heap.size w (wr.setCell ⟨w.heap.size + 1 + 1 + 1, k, none⟩ (.bool (fk && gk))) := hb.setCell (p := ⟨w.heap.size + 1 + 1 + 1, k, none⟩) (by simp; omega) _
      clear HS HT HR HG HF
      cases fk with
      | true =>
        rw [Bool.true_and] at *
        go_wp2_with fail
        exact ⟨⟨k + 1, by go_num, by omega, HT4, HR4, HG4, HF4, hb4⟩, by simp [intOf]; omega⟩
      | false =>
        rw [Bool.false_and] at *
        go_wp2_with fail
        exact ⟨⟨k + 1, by go_num, by omega, HT4, HR4, HG4, HF4, hb4⟩, by simp [intOf]; omega⟩
    · obtain rfl : k = 9 := by omega
      rw [unhide HEND] at HT
      have HR1 := hide (unhide HT).range
      have HR5 : Hid (wr.there (w.heap.size + 1 + 1) 0 (fl (fun j => f j && g j)).size) := (unhide HR).there 0 _ (by rw [fl_size, unhide HZ]; omega)
      have hi1 := hide (infoSetL (fun j => f j && g j))
      have hi2 := hide (infoSetF (fun j => f j && g j))
      have h1 := hide (fl_one (fun j => f j && g j))
      have HB : Hid (Blk (wr.setCells (w.heap.size + 1 + 1) 0 (fl (fun j => f j && g j)).toList) (w.heap.size + 1 + 1) (fl (fun j => f j && g j)) 60) := by
        have h := Blk.many (fl (fun j => f j && g j)).toList 0 (unhide HR)
        rwa [setMany_all _ _ (by rw [fl_size, unhide HZ])] at h
      have HLD := hide (load_set (unhide HB))
      generalize hC : fl (fun j => f j && g j) = C at HR1 HR5 hi1 hi2 h1 HLD
      have HCE := hide hC
      clear hC HB
      go_wp2_with (first
        | refine wpList_load_mid rfl 60 _ rfl (w.heap.size + 1 + 1 + 1) 0 rfl C.toList _ (unhide HR1) Try.underlying60 rfl (unhide hi1) ?_
        | refine wpList_store_mid rfl 60 _ _ rfl (w.heap.size + 1 + 1) 0 C rfl rfl (unhide HR5) (unhide hi2) (unhide h1) ?_)
      refine bodyPost_ret (v := .agg C) ?_ rfl ⟨(by rw [unhide HCE]), below_setCells _ _ (by omega) _ _ _ _ hb⟩
      have hld := unhide HLD
      rw [results_cell1 rfl]
      show ((asAddr (Value.pointer (some ⟨w.heap.size + 1 + 1, 0, none⟩))).run Try.prog _).andThen _ = _
      simp [asAddr, Result.andThen, hld]
theorem cells_bool : Try.prog.cellsOf 4 = 1 := by kernel_rfl
theorem infoB : ∃ i, Try.prog.info? 4 = some i := by
  cases h : Try.prog.info? 4 with
  | some i => exact ⟨i, rfl⟩
  | none =>
    have e : (Try.prog.info? 4).isSome = true := by kernel_rfl
    rw [h] at e
    cases e
theorem part_fl (f : Nat → Bool) (W : World) : ∀ j, j < 9 → (Go.part 4 (fl f) (j * 1)).run Try.prog W = .ok (.bool (f j)) W
  | 0, _ => by kernel_rfl
  | 1, _ => by kernel_rfl
  | 2, _ => by kernel_rfl
  | 3, _ => by kernel_rfl
  | 4, _ => by kernel_rfl
  | 5, _ => by kernel_rfl
  | 6, _ => by kernel_rfl
  | 7, _ => by kernel_rfl
  | 8, _ => by kernel_rfl
  | n + 9, h => absurd h (by omega)
theorem items_fl (f g : Nat → Bool) (d : Nat) (W : World) : ∀ (L : List Nat), (∀ j ∈ L, j < 9) → (Op.eqItems (d + 1) 4 1 (fl f) (fl g) L).run Try.prog W = .ok (L.all fun j => f j == g j) W
  | [], _ => by simp [Op.eqItems]
  | j :: r, h => by
    have h1 := part_fl f W j (h j List.mem_cons_self)
    have h2 := part_fl g W j (h j List.mem_cons_self)
    have h3 := items_fl f g d W r (fun x hx => h x (List.mem_cons_of_mem _ hx))
    simp only [Op.eqItems, Sem.run_bind, h1, h2, Result.andThen_ok, run_equalIn_bool W d 4 (f j) (g j) Try.underlying4, List.all_cons]
    cases (f j == g j)
    · simp
    · simp [h3]
theorem eq_fl (f g : Nat → Bool) (W : World) : (Op.equalIn 10000 60 (.agg (fl f)) (.agg (fl g))).run Try.prog W = .ok (all9 fun j => f j == g j) W := by
  obtain ⟨i, hi⟩ := infoB
  have h := run_equalIn_array W 9999 (fl f) (fl g) Try.underlying60 hi
  rw [show (10000 : Nat) = 9999 + 1 from rfl, h, cells_bool]
  exact items_fl f g 9998 W (List.range 9) (fun j hj => List.mem_range.1 hj)
set_option maxRecDepth 100000 in
set_option maxHeartbeats 1000000 in
theorem overlaps_any (f g : Nat → Bool) (w : World) :
    Calls Try.prog 52 #[.agg (fl f), .agg (fl g)] w fun e w' => e = .returned (.bool (ov f g)) ∧ Below w.heap.size w w' := by
  have IB := hide (fun w => inBoth_any f g w)
  have E1 := hide (eq_fl (fun j => f j && g j) f)
  have E2 := hide (eq_fl (fun j => f j && g j) g)
  have E3 := hide (eq_fl (fun j => f j && g j) (fun _ => false))
  have hR : ov f g = (!all9 (fun j => (f j && g j) == f j) && (!all9 (fun j => (f j && g j) == g j) && !all9 (fun j => (f j && g j) == false))) := rfl
  generalize ov f g = R at hR ⊢
  have hiF := hide (infoSetL f)
  have hiG := hide (infoSetL g)
  have hiC := hide (infoSetL (fun j => f j && g j))
  have hiS := hide (infoSetF (fun j => f j && g j))
  have hC := hide (fl_size (fun j => f j && g j))
  have h1C := hide (fl_one (fun j => f j && g j))
  have hzv := zero_set
  have hZ : Hid (Array.size (fl fun _ => false) = 9) := fl_size _
  generalize (fl fun _ => false) = Z at hzv hZ E3
  generalize fl (fun j => f j && g j) = C at IB E1 E2 E3 hC h1C hiC hiS
  generalize fl f = F at IB E1 hiF ⊢
  generalize fl g = G at IB E2 hiG ⊢
  generalize all9 (fun j => (f j && g j) == f j) = r1 at E1 hR
  generalize all9 (fun j => (f j && g j) == g j) = r2 at E2 hR
  generalize all9 (fun j => (f j && g j) == false) = r3 at E3 hR
  have hu := Try.underlying60
  have HU := hide hu
  clear hu
  go_enter Try.func52, Try.ntmps52
  obtain ⟨V1, hV1⟩ : ∃ W, W = (w.alloc (Obj.cells F 60)).alloc (Obj.cells G 60) := ⟨_, rfl⟩
  have b1 : Below w.heap.size w V1 := by rw [hV1]; exact (below_new _ _).alloc (by simp) _
  have HF1 : Hid (Blk V1 w.heap.size F 60) := by show Blk _ _ _ _; rw [hV1]; exact Blk.new0.alloc
  have HG1 : Hid (Blk V1 (w.heap.size + 1) G 60) := by show Blk _ _ _ _; rw [hV1]; exact Blk.new1
  have l1 := hide (unhide HF1).range
  have l2 := hide (unhide HG1).range
  rw [hV1] at l1 l2
  go_wp2_with (first
    | refine wpList_load_mid rfl 60 _ rfl w.heap.size 0 rfl F.toList _ (unhide l1) (unhide HU) rfl (unhide hiF) ?_
    | refine wpList_load_mid rfl 60 _ rfl (w.heap.size + 1) 0 rfl G.toList _ (unhide l2) (unhide HU) rfl (unhide hiG) ?_)
  rw [← hV1]
  clear hV1 l1 l2
  refine (unhide IB V1).mono ?_
  rintro e w2 ⟨rfl, hb2⟩
  have b2 := b1.trans (hb2.mono b1.size)
  have HF2 := hide ((unhide HF1).below hb2)
  have HG2 := hide ((unhide HG1).below hb2)
  have z2 := (unhide HG2).lt
  obtain ⟨V3, hV3⟩ : ∃ W, W = w2.alloc (Obj.cells Z 60) := ⟨_, rfl⟩
  have HB3 : Hid (Blk V3 w2.heap.size Z 60) := by show Blk _ _ _ _; rw [hV3]; exact Blk.new0
  have t3 : Hid (V3.there w2.heap.size 0 C.size) := (unhide HB3).there 0 _ (by rw [unhide hZ, unhide hC]; omega)
  obtain ⟨V4, hV4⟩ : ∃ W, W = V3.setCells w2.heap.size 0 C.toList := ⟨_, rfl⟩
  have HC4 : Hid (Blk V4 w2.heap.size C 60) := by
    have h := Blk.many C.toList 0 (unhide HB3)
    rw [setMany_all _ _ (by rw [unhide hZ, unhide hC])] at h
    rw [hV4]
    exact h
  have HF4 : Hid (Blk V4 w.heap.size F 60) := by
    show Blk _ _ _ _
    rw [hV4, hV3]
    exact Blk.many_other (by omega) _ _ (unhide HF2).alloc
  have HG4 : Hid (Blk V4 (w.heap.size + 1) G 60) := by
    show Blk _ _ _ _
    rw [hV4, hV3]
    exact Blk.many_other (by omega) _ _ (unhide HG2).alloc
  have b4 : Below w.heap.size w V4 := by rw [hV4, hV3]; exact below_setCells _ _ b2.size _ _ _ _ (b2.alloc b2.size _)
  have l1 := hide (unhide HF4).range
  have l2 := hide (unhide HG4).range
  have l3 := hide (unhide HC4).range
  have e1 := unhide E1 V4
  have e2 := unhide E2 V4
  have e3 := unhide E3 V4
  rw [hV3] at hV4 t3
  rw [hV4] at l1 l2 l3 e1 e2 e3 b4
  clear hV4 hV3 HB3 HF1 HG1 HF2 HG2 HF4 HG4 HC4 hb2 z2 E1 E2 E3 b1 b2
  cases r1 with
  | true =>
    have hR1 : R = false := by rw [hR]; rfl
    clear hR
    subst hR1
    go_wp2_with (first
      | refine wpList_store_mid rfl 60 _ _ rfl w2.heap.size 0 C rfl rfl (unhide t3) (unhide hiS) (unhide h1C) ?_
      | refine wpList_load_mid rfl 60 _ rfl w2.heap.size 0 rfl C.toList _ (unhide l3) (unhide HU) rfl (unhide hiC) ?_
      | refine wpList_load_mid rfl 60 _ rfl w.heap.size 0 rfl F.toList _ (unhide l1) (unhide HU) rfl (unhide hiF) ?_)
    go_ret
    exact ⟨rfl, b4⟩
  | false =>
    cases r2 with
    | true =>
      have hR1 : R = false := by rw [hR]; rfl
      clear hR
      subst hR1
      go_wp2_with (first
        | refine wpList_store_mid rfl 60 _ _ rfl w2.heap.size 0 C rfl rfl (unhide t3) (unhide hiS) (unhide h1C) ?_
        | refine wpList_load_mid_g (by rfl) 60 _ rfl w2.heap.size 0 rfl C.toList _ (unhide l3) (unhide HU) rfl (unhide hiC) ?_
        | refine wpList_load_mid_g (by rfl) 60 _ rfl (w.heap.size + 1) 0 rfl G.toList _ (unhide l2) (unhide HU) rfl (unhide hiG) ?_
        | refine wpList_load_mid_g (by rfl) 60 _ rfl w.heap.size 0 rfl F.toList _ (unhide l1) (unhide HU) rfl (unhide hiF) ?_)
      go_ret
      exact ⟨rfl, b4⟩
    | false =>
      have hR1 : R = !r3 := by rw [hR]; rfl
      clear hR
      subst hR1
      go_wp2_with (first
        | refine wpList_store_mid rfl 60 _ _ rfl w2.heap.size 0 C rfl rfl (unhide t3) (unhide hiS) (unhide h1C) ?_
        | refine wpList_load_mid_g (by rfl) 60 _ rfl w2.heap.size 0 rfl C.toList _ (unhide l3) (unhide HU) rfl (unhide hiC) ?_
        | refine wpList_load_mid_g (by rfl) 60 _ rfl (w.heap.size + 1) 0 rfl G.toList _ (unhide l2) (unhide HU) rfl (unhide hiG) ?_
        | refine wpList_load_mid_g (by rfl) 60 _ rfl w.heap.size 0 rfl F.toList _ (unhide l1) (unhide HU) rfl (unhide hiF) ?_)
      go_ret
      exact ⟨rfl, b4⟩
set_option maxRecDepth 100000 in
set_option maxHeartbeats 1000000 in
theorem hasEnds_any (f : Nat → Bool) (e : EdgeI) (x0 x1 : Nat) (h0 : e.A = (x0 : Int)) (h1 : e.B = (x1 : Int)) (hx0 : x0 < 9) (hx1 : x1 < 9) (w : World) :
    Calls Try.prog 70 #[.agg (fl f), e.v] w fun r w' => r = .returned (.bool (f x0 && f x1)) ∧ Below w.heap.size w w' := by
  have a0 := fl_at f x0 hx0
  have a1 := fl_at f x1 hx1
  obtain ⟨eA, eB, e2, e3, e4⟩ := e
  simp only at h0 h1
  subst h0 h1
  unfold EdgeI.v
  simp only
  generalize fl f = F at a0 a1 ⊢
  generalize f x0 = b0 at a0 ⊢
  generalize f x1 = b1 at a1 ⊢
  have y0 : (x0 : Int) < 9 := by omega
  have y1 : (x1 : Int) < 9 := by omega
  have q0 : ((w.alloc (Obj.cells F 60)).alloc (Obj.cells #[Value.int .i64 (x0 : Int), Value.int .i64 (x1 : Int), Value.int .i64 e2, Value.int .i64 e3, Value.int .i64 e4] 68)).cell? ⟨w.heap.size, x0, none⟩ = some (.bool b0) := (Blk.new0 (t := 60)).alloc.cell x0 _ a0
  have q1 : ((w.alloc (Obj.cells F 60)).alloc (Obj.cells #[Value.int .i64 (x0 : Int), Value.int .i64 (x1 : Int), Value.int .i64 e2, Value.int .i64 e3, Value.int .i64 e4] 68)).cell? ⟨w.heap.size, x1, none⟩ = some (.bool b1) := (Blk.new0 (t := 60)).alloc.cell x1 _ a1
  have hb : Below w.heap.size w ((w.alloc (Obj.cells F 60)).alloc (Obj.cells #[Value.int .i64 (x0 : Int), Value.int .i64 (x1 : Int), Value.int .i64 e2, Value.int .i64 e3, Value.int .i64 e4] 68)) := (below_new _ _).alloc (by simp) _
  cases b0 with
  | true =>
    go_enter Try.func70, Try.ntmps70
    go_wp2_with fail
    go_ret
    exact ⟨rfl, hb⟩
  | false =>
    go_enter Try.func70, Try.ntmps70
    go_wp2_with fail
    go_ret
    exact ⟨rfl, hb⟩
def fs (F : Nat → Nat → Bool) : Array Value := ((List.range 72).map fun (i : Nat) => Value.bool (F (i / 9) (i % 9))).toArray
theorem fs_at (F : Nat → Nat → Bool) (k : Nat) (h : k < 72) : (fs F)[k]? = some (.bool (F (k / 9) (k % 9))) := by
  unfold fs
  simp [h]
theorem fs_size (F : Nat → Nat → Bool) : (fs F).size = 72 := by unfold fs; simp
theorem fs_one (F : Nat → Nat → Bool) : (fs F).all (·.oneCell') = true := by
  apply Array.all_eq_true_iff_forall_mem.2
  intro v hv
  unfold fs at hv
  simp only [List.mem_toArray, List.mem_map] at hv
  obtain ⟨j, _, rfl⟩ := hv
  rfl
theorem fs_ext {C : Array Value} {F : Nat → Nat → Bool} (h : C.size = 72) (hk : ∀ k : Nat, k < 72 → C[k]? = some (.bool (F (k / 9) (k % 9)))) : C = fs F := by
  apply Array.ext_getElem?
  intro i
  rcases Nat.lt_or_ge i 72 with h' | h'
  · rw [hk i h', fs_at F i h']
  · rw [Array.getElem?_eq_none (by omega), Array.getElem?_eq_none (by rw [fs_size]; omega)]
theorem fs_congr {F F' : Nat → Nat → Bool} (h : ∀ i j, i < 8 → j < 9 → F i j = F' i j) : fs F = fs F' := fs_ext (fs_size F) (fun k hk => by rw [fs_at F k hk, h _ _ (by omega) (by omega)])
theorem fs_put (F : Nat → Nat → Bool) (i : Nat) (_hi : i < 8) (f : Nat → Bool) : setMany (fs F) (i * 9) (fl f).toList = fs (fun k => if k = i then f else F k) := by
  refine fs_ext (by rw [setMany_size, fs_size]) (fun k hk => ?_)
  rw [setMany_at]
  simp only [Array.length_toList, fl_size, fs_size]
  by_cases h : k / 9 = i
  · rw [if_pos (by omega)]
    have e : k - i * 9 = k % 9 := by omega
    rw [e, Array.getElem?_toList, fl_at f _ (by omega)]
    simp [h]
  · rw [if_neg (by omega), fs_at F k hk]
    simp [h]
theorem infoSets : (Try.prog.info? 62).map (·.size) = some 72 := by kernel_rfl
theorem infoSetsF (F : Nat → Nat → Bool) : (Try.prog.info? 62).map (·.size) = some (fs F).size := by rw [infoSets, fs_size]
theorem infoSetsL (F : Nat → Nat → Bool) : (Try.prog.info? 62).map (·.size) = some (fs F).toList.length := by rw [Array.length_toList, fs_size]; exact infoSets
theorem zero_sets (W : World) : (zeroValue 62).run Try.prog W = .ok (.agg (fs fun _ _ => false)) W := by kernel_rfl
theorem load_sets {W : World} {g : Nat} {F : Nat → Nat → Bool} (h : Blk W g (fs F) 62) : (loadVar 62 ⟨g, 0, none⟩).run Try.prog W = .ok (.agg (fs F)) W := by
  have h1 := run_loadVar_mid (P := Try.prog) W g 0 62 (fs F).toList _ h.range Try.underlying62 rfl (infoSetsL F)
  rwa [Array.toArray_toList] at h1
theorem setF_end (G : List GrpI) (i : Nat) (h : G.length ≤ i) : setF G i = fun _ => false := by unfold setF; simp [h, onF_nil]
theorem setF_at (G : List GrpI) (i : Nat) (h : i < G.length) : setF G i = onF G[i].M := by unfold setF; simp [h]
def setTo (G : List GrpI) (k : Nat) : Nat → Nat → Bool := fun i => if i < k then setF G i else fun _ => false
theorem setTo_step (G : List GrpI) (k : Nat) (h : k < G.length) (h8 : k < 8) : setMany (fs (setTo G k)) (k * 9) (fl (onF G[k].M)).toList = fs (setTo G (k + 1)) := by
  rw [fs_put _ k h8]
  refine fs_congr (fun i j _ _ => ?_)
  unfold setTo
  by_cases e : i = k
  · subst e; simp [setF_at G i h]
  · have : i < k + 1 ↔ i < k := by omega
    simp [e, this]
theorem setTo_end (G : List GrpI) : fs (setTo G G.length) = fs (setF G) := fs_congr (fun i j _ _ => by
  unfold setTo
  by_cases h : i < G.length
  · simp [h]
  · simp [h, setF_end G i (by omega)])
set_option maxRecDepth 100000 in
set_option maxHeartbeats 1000000 in
theorem setsOf_any (a : Option Addr) (n c B : Nat) (G : List GrpI) (hn : n ≤ 8) (hG : ∀ q ∈ G, q.M.length ≤ 1048576 ∧ ∀ x ∈ q.M, 0 ≤ x ∧ x < 9) (w : World) (hB : B ≤ w.heap.size) (hA : groupsAt w a n B G) :
    Calls Try.prog 26 #[.slice a n c] w fun e w' => e = .returned (.agg (fs (setF G))) ∧ Below w.heap.size w w' := by
  obtain ⟨hL, hc⟩ := hA
  have HC := hide hc
  have HL := hide hL
  have HGM := hide hG
  have HST : Hid (∀ k (h : k < G.length), setMany (fs (setTo G k)) (k * 9) (fl (onF G[k].M)).toList = fs (setTo G (k + 1))) := fun k h => setTo_step G k h (by omega)
  have HEND : Hid (fs (setTo G n) = fs (setF G)) := by show _ = _; rw [← hL]; exact setTo_end G
  have hzv := zero_sets
  have HZ : Hid (Array.size (fs fun _ _ => false) = 72) := fs_size _
  have H0 : Hid ((fs fun _ _ => false) = fs (setTo G 0)) := fs_congr (fun i j _ _ => by unfold setTo; simp)
  generalize (fs fun _ _ => false) = Z at hzv HZ H0
  clear hc hL hG
  go_enter Try.func26, Try.ntmps26
  go_wp2_with fail
  obtain ⟨V1, hV1⟩ : ∃ W, W = w.alloc (Obj.cells Z 62) := ⟨_, rfl⟩
  obtain ⟨V2, hV2⟩ : ∃ W, W = V1.alloc (Obj.cells Z 62) := ⟨_, rfl⟩
  rw [← hV1, ← hV2]
  have b2 : Below w.heap.size w V2 := by rw [hV2, hV1]; exact (below_new _ _).alloc (by simp) _
  have HR2 : Hid (Blk V2 w.heap.size Z 62) := by show Blk _ _ _ _; rw [hV2, hV1]; exact Blk.new0.alloc
  have HT2 : Hid (Blk V2 (w.heap.size + 1) (fs (setTo G 0)) 62) := by show Blk _ _ _ _; rw [← unhide H0, hV2, hV1]; exact Blk.new1
  clear hV1 hV2 H0
  go_loopw [8] (fun i wr => ∃ j : Nat, i = .int .i64 (j : Int) ∧ j ≤ n ∧ Hid (Blk wr (w.heap.size + 1) (fs (setTo G j)) 62) ∧ Hid (Blk wr w.heap.size Z 62) ∧ Below w.heap.size w wr) (fun i _ => n - (intOf i).toNat)
  case atStart => exact ⟨0, rfl, Nat.zero_le _, HT2, HR2, b2⟩
  case round =>
    obtain ⟨j, rfl, hj, HT, HR, hb⟩ := hrel
    by_cases hlt : j < n
    · have hjL : j < G.length := by have := unhide HL; omega
      obtain ⟨b, off, a2, c2, rfl, hbB, d0, d1, hI⟩ := unhide HC j hjL
      rw [← hb.cell (p := ⟨b, off + j * 2, none⟩) (by simp; omega)] at d0
      rw [← hb.cell (p := ⟨b, off + j * 2 + 1, none⟩) (by simp; omega)] at d1
      obtain ⟨hm1, hm2⟩ := unhide HGM _ (List.getElem_mem hjL)
      have SO := hide (fun w1 (hb1 : Below w.heap.size w w1) => setOf_any a2 _ c2 B _ hm1 hm2 w1 (by have := hb1.size; omega) (hI.below hb1 hB))
      have HS := hide (unhide HST j hjL)
      have h1C := hide (fl_one (onF G[j].M))
      have hiS := hide (infoSetF (onF G[j].M))
      have hCs := hide (fl_size (onF G[j].M))
      generalize G[j] = q at d0 d1 SO HS h1C hiS hCs
      generalize fl (onF q.M) = C at SO HS h1C hiS hCs
      have hx2 : (j : Int) < (n : Int) := by omega
      have hx8 : (j : Int) < 8 := by omega
      clear hI hm1 hm2
      go_wp2_with fail
      obtain ⟨V3, hV3⟩ : ∃ W, W = wr.alloc (Obj.cells #[Value.slice a2 q.M.length c2, Value.int .i64 q.Z] 54) := ⟨_, rfl⟩
      rw [← hV3]
      have n3 : Below wr.heap.size wr V3 := by rw [hV3]; exact below_new _ _
      have b3 := hb.trans (n3.mono hb.size)
      clear hV3
      refine (unhide SO V3 b3).mono ?_
      rintro e w4 ⟨rfl, hb4⟩
      have b4 := b3.trans (hb4.mono b3.size)
      have HT4 := hide (((unhide HT).below n3).below hb4)
      have HR4 := hide (((unhide HR).below n3).below hb4)
      have t4 : Hid (w4.there (w.heap.size + 1) (j * 9) C.size) := (unhide HT4).there _ _ (by rw [unhide hCs, fs_size]; omega)
      have HT5 : Hid (Blk (w4.setCells (w.heap.size + 1) (j * 9) C.toList) (w.heap.size + 1) (fs (setTo G (j + 1))) 62) := by
        show Blk _ _ _ _
        rw [← unhide HS]
        exact Blk.many _ _ (unhide HT4)
      have HR5 : Hid (Blk (w4.setCells (w.heap.size + 1) (j * 9) C.toList) w.heap.size Z 62) := Blk.many_other (by omega) _ _ (unhide HR4)
      have b5 : Below w.heap.size w (w4.setCells (w.heap.size + 1) (j * 9) C.toList) := below_setCells _ _ (by omega) _ _ _ _ b4
      clear hb4 n3 SO HS b3
      go_wp2_with (first
        | refine wpList_store_mid rfl 60 _ _ rfl (w.heap.size + 1) (j * 9) C rfl rfl (unhide t4) (unhide hiS) (unhide h1C) ?_)
      exact ⟨⟨j + 1, by go_num, by omega, HT5, HR5, b5⟩, by simp [intOf]; omega⟩
    · obtain rfl : j = n := by omega
      rw [unhide HEND] at HT
      have HR1 := hide (unhide HT).range
      have HR5 : Hid (wr.there w.heap.size 0 (fs (setF G)).size) := (unhide HR).there 0 _ (by rw [fs_size, unhide HZ]; omega)
      have hi1 := hide (infoSetsL (setF G))
      have hi2 := hide (infoSetsF (setF G))
      have h1 := hide (fs_one (setF G))
      have HB : Hid (Blk (wr.setCells w.heap.size 0 (fs (setF G)).toList) w.heap.size (fs (setF G)) 62) := by
        have h := Blk.many (fs (setF G)).toList 0 (unhide HR)
        rwa [setMany_all _ _ (by rw [fs_size, unhide HZ])] at h
      have HLD := hide (load_sets (unhide HB))
      generalize hC : fs (setF G) = C at HR1 HR5 hi1 hi2 h1 HLD
      have HCE := hide hC
      clear hC HB
      go_wp2_with (first
        | refine wpList_load_mid rfl 62 _ rfl (w.heap.size + 1) 0 rfl C.toList _ (unhide HR1) Try.underlying62 rfl (unhide hi1) ?_
        | refine wpList_store_mid rfl 62 _ _ rfl w.heap.size 0 C rfl rfl (unhide HR5) (unhide hi2) (unhide h1) ?_)
      refine bodyPost_ret (v := .agg C) ?_ rfl ⟨(by rw [unhide HCE]), below_setCells _ _ (Nat.le_refl _) _ _ _ _ hb⟩
      have hld := unhide HLD
      rw [results_cell1 rfl]
      show ((asAddr (Value.pointer (some ⟨w.heap.size, 0, none⟩))).run Try.prog _).andThen _ = _
      simp [asAddr, Result.andThen, hld]
theorem index_fs (F : Nat → Nat → Bool) (W : World) : ∀ k : Nat, k < 8 → (Instr.index 62 (.agg (fs F)) (.int .i64 (k : Int))).run Try.prog W = .ok (.agg (fl (F k))) W
  | 0, _ => by kernel_rfl
  | 1, _ => by kernel_rfl
  | 2, _ => by kernel_rfl
  | 3, _ => by kernel_rfl
  | 4, _ => by kernel_rfl
  | 5, _ => by kernel_rfl
  | 6, _ => by kernel_rfl
  | 7, _ => by kernel_rfl
  | n + 8, h => absurd h (by omega)
theorem slice_sets (b : Nat) (W : World) : ∀ i : Nat, i ≤ 8 → (Instr.sliceAt 62 (.pointer (some ⟨b, 0, none⟩)) none (some (.int .i64 (i : Int))) none).run Try.prog W = .ok (.slice (some ⟨b, 0, none⟩) i 8) W
  | 0, _ => by kernel_rfl
  | 1, _ => by kernel_rfl
  | 2, _ => by kernel_rfl
  | 3, _ => by kernel_rfl
  | 4, _ => by kernel_rfl
  | 5, _ => by kernel_rfl
  | 6, _ => by kernel_rfl
  | 7, _ => by kernel_rfl
  | 8, _ => by kernel_rfl
  | n + 9, h => absurd h (by omega)
theorem fs_part (F : Nat → Nat → Bool) (k : Nat) (h : k < 8) : ∀ j, j < (fl (F k)).size → (fs F)[k * 9 + j]? = (fl (F k))[j]? := fun j hj => by
  rw [fl_size] at hj
  rw [fs_at F _ (by omega), fl_at _ j hj, show (k * 9 + j) / 9 = k by omega, show (k * 9 + j) % 9 = j by omega]
set_option maxRecDepth 100000 in
set_option maxHeartbeats 1000000 in
theorem doOverlap_any (F : Nat → Nat → Bool) (w : World) :
    Calls Try.prog 25 #[.agg (fs F)] w fun e w' => e = .returned (.bool (doOv F)) ∧ Below w.heap.size w w' := by
  have OV := hide (fun i k w => overlaps_any (F i) (F k) w)
  have HIX := hide (fun k (h : k < 8) W => index_fs F W k h)
  have HPT := hide (fun k (h : k < 8) => fs_part F k h)
  have HYES : Hid (∀ i k, i < 8 → k < i → ov (F i) (F k) = true → doOv F = true) := fun i k h1 h2 h3 => (doOv_iff F).2 ⟨i, k, h1, h2, h3⟩
  have HNO : Hid ((∀ i k, i < 8 → k < i → ov (F i) (F k) = false) → doOv F = false) := fun h => by
    rw [Bool.eq_false_iff]
    intro h'
    obtain ⟨i, k, h1, h2, h3⟩ := (doOv_iff F).1 h'
    rw [h i k h1 h2] at h3
    cases h3
  generalize doOv F = R at HYES HNO ⊢
  have hiL := hide (infoSetsL F)
  have hsz := hide (fs_size F)
  have hzv := zero_set
  have HZ : Hid (Array.size (fl fun _ => false) = 9) := fl_size _
  generalize (fl fun _ => false) = Z at hzv HZ
  generalize fs F = FF at HIX HPT hiL hsz ⊢
  go_enter Try.func25, Try.ntmps25
  have HB1 : Hid (Blk (w.alloc (Obj.cells FF 62)) w.heap.size FF 62) := Blk.new0
  have hr1 := hide (unhide HB1).range
  have HBL : Hid (Below w.heap.size w (w.alloc (Obj.cells FF 62))) := below_new _ _
  go_wp2_with (first
    | refine wpList_load_mid rfl 62 _ rfl w.heap.size 0 rfl FF.toList _ (unhide hr1) Try.underlying62 rfl (unhide hiL) ?_)
  go_loopw [8] (fun i wr => ∃ j : Nat, i = .int .i64 (j : Int) ∧ j ≤ 8 ∧ Hid (∀ i' k', i' < j → k' < i' → ov (F i') (F k') = false) ∧ Hid (Blk wr w.heap.size FF 62) ∧ Hid (Below w.heap.size w wr)) (fun i _ => 8 - (intOf i).toNat)
  case atStart => exact ⟨0, rfl, Nat.zero_le _, (fun _ _ h => absurd h (by omega)), HB1, HBL⟩
  case round =>
    obtain ⟨i, rfl, hi, HI, HB, HBW⟩ := hrel
    by_cases hlt : i < 8
    · have hix := unhide HIX i hlt
      have hx1 : (i : Int) < 8 := by omega
      have hx0 : (0 : Int) ≤ (i : Int) := by omega
      have HLi := hide (infoSetL (F i))
      have HFi := hide (infoSetF (F i))
      have H1i := hide (fl_one (F i))
      have HSi := hide (fl_size (F i))
      have OVi := hide (fun k w => unhide OV i k w)
      generalize fl (F i) = Fi at hix HLi HFi H1i HSi OVi
      obtain ⟨V3, hV3⟩ : ∃ W, W = wr.alloc (Obj.cells Z 60) := ⟨_, rfl⟩
      have HB3 : Hid (Blk V3 wr.heap.size Z 60) := by show Blk _ _ _ _; rw [hV3]; exact Blk.new0
      have t3 : Hid (V3.there wr.heap.size 0 Fi.size) := (unhide HB3).there 0 _ (by rw [unhide HZ, unhide HSi]; omega)
      obtain ⟨V4, hV4⟩ : ∃ W, W = V3.setCells wr.heap.size 0 Fi.toList := ⟨_, rfl⟩
      have HF4 : Hid (Blk V4 wr.heap.size Fi 60) := by
        have h := Blk.many Fi.toList 0 (unhide HB3)
        rw [setMany_all _ _ (by rw [unhide HZ, unhide HSi])] at h
        rw [hV4]
        exact h
      have zr := (unhide HB).lt
      have HB4 : Hid (Blk V4 w.heap.size FF 62) := by
        show Blk _ _ _ _
        rw [hV4, hV3]
        exact Blk.many_other (by omega) _ _ (unhide HB).alloc
      have b4 : Hid (Below w.heap.size w V4) := by
        show Below _ _ _
        rw [hV4, hV3]
        exact below_setCells _ _ (by omega) _ _ _ _ ((unhide HBW).alloc (by omega) _)
      rw [hV3] at t3 hV4
      have hsl := slice_sets w.heap.size V4 i hi
      rw [hV4] at hsl
      clear hV3 HB3
      go_wp2_with (first
        | refine wpList_store_mid rfl 60 _ _ rfl wr.heap.size 0 Fi rfl rfl (unhide t3) (unhide HFi) (unhide H1i) ?_)
      rw [← hV4]
      clear hV4 t3 hix
      have zq := (unhide HF4).lt
      generalize wr.heap.size = qb at HF4 zr zq
      clear HB HBW hsl
      go_loopw [15] (fun x wr => ∃ k : Nat, x = .int .i64 (k : Int) ∧ k ≤ i ∧ Hid (∀ k', k' < k → ov (F i) (F k') = false) ∧ Hid (Blk wr qb Fi 60) ∧ Hid (Blk wr w.heap.size FF 62) ∧ Hid (Below w.heap.size w wr)) (fun x _ => i - (intOf x).toNat)
      case atStart => exact ⟨0, rfl, Nat.zero_le _, (fun _ h => absurd h (by omega)), HF4, HB4, b4⟩
      case round =>
        obtain ⟨k, rfl, hk, HK, HF, HB, HBW⟩ := hrel
        by_cases hlt2 : k < i
        · have hk8 : k < 8 := by omega
          have hx2 : (k : Int) < (i : Int) := by omega
          have hx3 : (0 : Int) ≤ (k : Int) := by omega
          have HLk := hide (infoSetL (F k))
          have HFk := hide (infoSetF (F k))
          have H1k := hide (fl_one (F k))
          have HSk := hide (fl_size (F k))
          have OVk := hide (fun w => unhide OVi k w)
          have HPk := hide ((unhide HB).part (k * 9) (fl (F k)) (unhide HPT k hk8))
          have HKY := hide (unhide HYES i k hlt hlt2)
          have HKN : Hid (ov (F i) (F k) = false → ∀ k', k' < k + 1 → ov (F i) (F k') = false) := fun h k' hk' => by
            rcases Nat.lt_or_ge k' k with h' | h'
            · exact unhide HK k' h'
            · obtain rfl : k' = k := by omega
              exact h
          generalize fl (F k) = Fk at HLk HFk H1k HSk OVk HPk
          generalize ov (F i) (F k) = o at OVk HKY HKN
          obtain ⟨V5, hV5⟩ : ∃ W, W = wr.alloc (Obj.cells Z 60) := ⟨_, rfl⟩
          have HB5 : Hid (Blk V5 wr.heap.size Z 60) := by show Blk _ _ _ _; rw [hV5]; exact Blk.new0
          have t5 : Hid (V5.there wr.heap.size 0 Fk.size) := (unhide HB5).there 0 _ (by rw [unhide HZ, unhide HSk]; omega)
          obtain ⟨V6, hV6⟩ : ∃ W, W = V5.setCells wr.heap.size 0 Fk.toList := ⟨_, rfl⟩
          have HK6 : Hid (Blk V6 wr.heap.size Fk 60) := by
            have h := Blk.many Fk.toList 0 (unhide HB5)
            rw [setMany_all _ _ (by rw [unhide HZ, unhide HSk])] at h
            rw [hV6]
            exact h
          have zr := (unhide HB).lt
          have zf := (unhide HF).lt
          have HB6 : Hid (Blk V6 w.heap.size FF 62) := by
            show Blk _ _ _ _
            rw [hV6, hV5]
            exact Blk.many_other (by omega) _ _ (unhide HB).alloc
          have HF6 : Hid (Blk V6 qb Fi 60) := by
            show Blk _ _ _ _
            rw [hV6, hV5]
            exact Blk.many_other (by omega) _ _ (unhide HF).alloc
          have b6 : Hid (Below w.heap.size w V6) := by
            show Below _ _ _
            rw [hV6, hV5]
            exact below_setCells _ _ (by omega) _ _ _ _ ((unhide HBW).alloc (by omega) _)
          have l1 := hide (unhide HF6).range
          have l2 := hide (unhide HK6).range
          rw [hV5] at t5 hV6
          rw [hV6] at l1 l2
          clear hV5 HB5
          go_wp2_with (first
            | refine wpList_store_mid rfl 60 _ _ rfl wr.heap.size 0 Fk rfl rfl (unhide t5) (unhide HFk) (unhide H1k) ?_
            | refine wpList_load_mid rfl 60 _ rfl w.heap.size (k * 9) rfl Fk.toList _ (unhide HPk) Try.underlying60 rfl (unhide HLk) ?_
            | refine wpList_load_mid rfl 60 _ rfl qb 0 rfl Fi.toList _ (unhide l1) Try.underlying60 rfl (unhide HLi) ?_
            | refine wpList_load_mid rfl 60 _ rfl wr.heap.size 0 rfl Fk.toList _ (unhide l2) Try.underlying60 rfl (unhide HLk) ?_)
          rw [← hV6]
          clear hV6 l1 l2 t5
          refine (unhide OVk V6).mono ?_
          rintro e w7 ⟨rfl, hb7⟩
          have b7 := (unhide b6).trans (hb7.mono (unhide b6).size)
          have HF7 := hide ((unhide HF6).below hb7)
          have HB7 := hide ((unhide HB6).below hb7)
          clear hb7
          cases o with
          | true =>
            have hR := unhide HKY rfl
            subst hR
            go_wp2_with fail
            go_ret
            exact ⟨rfl, b7⟩
          | false =>
            have HK2 : Hid (∀ k', k' < k + 1 → ov (F i) (F k') = false) := unhide HKN rfl
            clear HKN HKY
            go_wp2_with fail
            exact ⟨⟨k + 1, by go_num, by omega, HK2, HF7, HB7, b7⟩, by simp [intOf]; omega⟩
        · obtain rfl : k = i := by omega
          go_wp2_with fail
          exact ⟨⟨k + 1, by go_num, by omega, (fun i' k' h1 h2 => by
            rcases Nat.lt_or_ge i' k with h' | h'
            · exact unhide HI i' k' h' h2
            · obtain rfl : i' = k := by omega
              exact unhide HK k' h2), HB, HBW⟩, by simp [intOf]; omega⟩
    · obtain rfl : i = 8 := by omega
      have hR := unhide HNO (unhide HI)
      subst hR
      go_wp2_with fail
      go_ret
      exact ⟨rfl, unhide HBW⟩
end Gr
end Go.Proofs.Ytkjclkelnheheaa
