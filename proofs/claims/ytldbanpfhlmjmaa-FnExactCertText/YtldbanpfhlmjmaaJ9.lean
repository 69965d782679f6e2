/-
  Texts of this claim, one behind the other: GrSets3, GrSets4, GrCk0, GrCk1, GrCk2.
-/
import Derived.Test.YtldbanpfhlmjmaaJ8
import Derived.Test.YtldbanpfhlmjmaaJ3
import Derived.Test.YtldbanpfhlmjmaaJ5
import Derived.Test.YtldbanpfhlmjmaaJ7

/-
  The contracts of impl.memberSet.hasEnds and impl.setsOf.
-/
namespace Go.Proofs.Ytldbanpfhlmjmaa
namespace Gr
open Go.RowKit

set_option maxRecDepth 100000 in
set_option maxHeartbeats 1000000 in
theorem hasEnds_any (f : Nat → Bool) (e : EdgeI) (x0 x1 : Nat) (h0 : e.A = (x0 : Int)) (h1 : e.B = (x1 : Int)) (hx0 : x0 < 9) (hx1 : x1 < 9) (w : World) :
    Calls Try.prog 92 #[.agg (fl f), e.v] w fun r w' => r = .returned (.bool (f x0 && f x1)) ∧ Below w.heap.size w w' := by
  have a0 := fl_at f x0 hx0
  have a1 := fl_at f x1 hx1
  obtain ⟨eA, eB, e2, e3, e4⟩ := e
  simp only at h0 h1
  subst h0 h1
  unfold EdgeI.v
  simp only
  generalize fl f = F at a0 a1 ⊢
  generalize f x0 = b0 at a0 ⊢
  generalize f x1 = b1 at a1 ⊢
  have y0 : (x0 : Int) < 9 := by omega
  have y1 : (x1 : Int) < 9 := by omega
  have q0 : ((w.alloc (Obj.cells F 113)).alloc (Obj.cells #[Value.int .i64 (x0 : Int), Value.int .i64 (x1 : Int), Value.int .i64 e2, Value.int .i64 e3, Value.int .i64 e4] 58)).cell? ⟨w.heap.size, x0, none⟩ = some (.bool b0) := (Blk.new0 (t := 113)).alloc.cell x0 _ a0
  have q1 : ((w.alloc (Obj.cells F 113)).alloc (Obj.cells #[Value.int .i64 (x0 : Int), Value.int .i64 (x1 : Int), Value.int .i64 e2, Value.int .i64 e3, Value.int .i64 e4] 58)).cell? ⟨w.heap.size, x1, none⟩ = some (.bool b1) := (Blk.new0 (t := 113)).alloc.cell x1 _ a1
  have hb : Below w.heap.size w ((w.alloc (Obj.cells F 113)).alloc (Obj.cells #[Value.int .i64 (x0 : Int), Value.int .i64 (x1 : Int), Value.int .i64 e2, Value.int .i64 e3, Value.int .i64 e4] 58)) := (below_new _ _).alloc (by simp) _
  cases b0 with
  | true =>
    go_enter Try.func92, Try.ntmps92
    go_wp2_with fail
    go_ret
    exact ⟨rfl, hb⟩
  | false =>
    go_enter Try.func92, Try.ntmps92
    go_wp2_with fail
    go_ret
    exact ⟨rfl, hb⟩

/-- Eight sets of nine flags. -/
def fs (F : Nat → Nat → Bool) : Array Value := ((List.range 72).map fun (i : Nat) => Value.bool (F (i / 9) (i % 9))).toArray

theorem fs_at (F : Nat → Nat → Bool) (k : Nat) (h : k < 72) : (fs F)[k]? = some (.bool (F (k / 9) (k % 9))) := by
  unfold fs
  simp [h]

theorem fs_size (F : Nat → Nat → Bool) : (fs F).size = 72 := by unfold fs; simp

theorem fs_one (F : Nat → Nat → Bool) : (fs F).all (·.oneCell') = true := by
  apply Array.all_eq_true_iff_forall_mem.2
  intro v hv
  unfold fs at hv
  simp only [List.mem_toArray, List.mem_map] at hv
  obtain ⟨j, _, rfl⟩ := hv
  rfl

theorem fs_ext {C : Array Value} {F : Nat → Nat → Bool} (h : C.size = 72) (hk : ∀ k : Nat, k < 72 → C[k]? = some (.bool (F (k / 9) (k % 9)))) : C = fs F := by
  apply Array.ext_getElem?
  intro i
  rcases Nat.lt_or_ge i 72 with h' | h'
  · rw [hk i h', fs_at F i h']
  · rw [Array.getElem?_eq_none (by omega), Array.getElem?_eq_none (by rw [fs_size]; omega)]

theorem fs_congr {F F' : Nat → Nat → Bool} (h : ∀ i j, i < 8 → j < 9 → F i j = F' i j) : fs F = fs F' := fs_ext (fs_size F) (fun k hk => by rw [fs_at F k hk, h _ _ (by omega) (by omega)])

/-- A set put in its place. -/
theorem fs_put (F : Nat → Nat → Bool) (i : Nat) (_hi : i < 8) (f : Nat → Bool) : setMany (fs F) (i * 9) (fl f).toList = fs (fun k => if k = i then f else F k) := by
  refine fs_ext (by rw [setMany_size, fs_size]) (fun k hk => ?_)
  rw [setMany_at]
  simp only [Array.length_toList, fl_size, fs_size]
  by_cases h : k / 9 = i
  · rw [if_pos (by omega)]
    have e : k - i * 9 = k % 9 := by omega
    rw [e, Array.getElem?_toList, fl_at f _ (by omega)]
    simp [h]
  · rw [if_neg (by omega), fs_at F k hk]
    simp [h]

theorem infoSets : (Try.prog.info? 115).map (·.size) = some 72 := by kernel_rfl

theorem infoSetsF (F : Nat → Nat → Bool) : (Try.prog.info? 115).map (·.size) = some (fs F).size := by rw [infoSets, fs_size]

theorem infoSetsL (F : Nat → Nat → Bool) : (Try.prog.info? 115).map (·.size) = some (fs F).toList.length := by rw [Array.length_toList, fs_size]; exact infoSets

theorem zero_sets (W : World) : (zeroValue 115).run Try.prog W = .ok (.agg (fs fun _ _ => false)) W := by kernel_rfl

theorem load_sets {W : World} {g : Nat} {F : Nat → Nat → Bool} (h : Blk W g (fs F) 115) : (loadVar 115 ⟨g, 0, none⟩).run Try.prog W = .ok (.agg (fs F)) W := by
  have h1 := run_loadVar_mid (P := Try.prog) W g 0 115 (fs F).toList _ h.range Try.underlying115 rfl (infoSetsL F)
  rwa [Array.toArray_toList] at h1

theorem setF_end (G : List GrpI) (i : Nat) (h : G.length ≤ i) : setF G i = fun _ => false := by unfold setF; simp [h, onF_nil]

theorem setF_at (G : List GrpI) (i : Nat) (h : i < G.length) : setF G i = onF G[i].M := by unfold setF; simp [h]

/-- The sets of the first k groups. -/
def setTo (G : List GrpI) (k : Nat) : Nat → Nat → Bool := fun i => if i < k then setF G i else fun _ => false

theorem setTo_step (G : List GrpI) (k : Nat) (h : k < G.length) (h8 : k < 8) : setMany (fs (setTo G k)) (k * 9) (fl (onF G[k].M)).toList = fs (setTo G (k + 1)) := by
  rw [fs_put _ k h8]
  refine fs_congr (fun i j _ _ => ?_)
  unfold setTo
  by_cases e : i = k
  · subst e; simp [setF_at G i h]
  · have : i < k + 1 ↔ i < k := by omega
    simp [e, this]

theorem setTo_end (G : List GrpI) : fs (setTo G G.length) = fs (setF G) := fs_congr (fun i j _ _ => by
  unfold setTo
  by_cases h : i < G.length
  · simp [h]
  · simp [h, setF_end G i (by omega)])

set_option maxRecDepth 100000 in
set_option maxHeartbeats 1000000 in
theorem setsOf_any (a : Option Addr) (n c B : Nat) (G : List GrpI) (hn : n ≤ 8) (hG : ∀ q ∈ G, q.M.length ≤ 1048576 ∧ ∀ x ∈ q.M, 0 ≤ x ∧ x < 9) (w : World) (hB : B ≤ w.heap.size) (hA : groupsAt w a n B G) :
    Calls Try.prog 68 #[.slice a n c] w fun e w' => e = .returned (.agg (fs (setF G))) ∧ Below w.heap.size w w' := by
  obtain ⟨hL, hc⟩ := hA
  have HC := hide hc
  have HL := hide hL
  have HGM := hide hG
  have HST : Hid (∀ k (h : k < G.length), setMany (fs (setTo G k)) (k * 9) (fl (onF G[k].M)).toList = fs (setTo G (k + 1))) := fun k h => setTo_step G k h (by omega)
  have HEND : Hid (fs (setTo G n) = fs (setF G)) := by show _ = _; rw [← hL]; exact setTo_end G
  have hzv := zero_sets
  have HZ : Hid (Array.size (fs fun _ _ => false) = 72) := fs_size _
  have H0 : Hid ((fs fun _ _ => false) = fs (setTo G 0)) := fs_congr (fun i j _ _ => by unfold setTo; simp)
  generalize (fs fun _ _ => false) = Z at hzv HZ H0
  clear hc hL hG
  go_enter Try.func68, Try.ntmps68
  go_wp2_with fail
  obtain ⟨V1, hV1⟩ : ∃ W, W = w.alloc (Obj.cells Z 115) := ⟨_, rfl⟩
  obtain ⟨V2, hV2⟩ : ∃ W, W = V1.alloc (Obj.cells Z 115) := ⟨_, rfl⟩
  rw [← hV1, ← hV2]
  have b2 : Below w.heap.size w V2 := by rw [hV2, hV1]; exact (below_new _ _).alloc (by simp) _
  have HR2 : Hid (Blk V2 w.heap.size Z 115) := by show Blk _ _ _ _; rw [hV2, hV1]; exact Blk.new0.alloc
  have HT2 : Hid (Blk V2 (w.heap.size + 1) (fs (setTo G 0)) 115) := by show Blk _ _ _ _; rw [← unhide H0, hV2, hV1]; exact Blk.new1
  clear hV1 hV2 H0
  go_loopw [8] (fun i wr => ∃ j : Nat, i = .int .i64 (j : Int) ∧ j ≤ n ∧ Hid (Blk wr (w.heap.size + 1) (fs (setTo G j)) 115) ∧ Hid (Blk wr w.heap.size Z 115) ∧ Below w.heap.size w wr) (fun i _ => n - (intOf i).toNat)
  case atStart => exact ⟨0, rfl, Nat.zero_le _, HT2, HR2, b2⟩
  case round =>
    obtain ⟨j, rfl, hj, HT, HR, hb⟩ := hrel
    by_cases hlt : j < n
    · have hjL : j < G.length := by have := unhide HL; omega
      obtain ⟨b, off, a2, c2, rfl, hbB, d0, d1, hI⟩ := unhide HC j hjL
      rw [← hb.cell (p := ⟨b, off + j * 2, none⟩) (by simp; omega)] at d0
      rw [← hb.cell (p := ⟨b, off + j * 2 + 1, none⟩) (by simp; omega)] at d1
      obtain ⟨hm1, hm2⟩ := unhide HGM _ (List.getElem_mem hjL)
      have SO := hide (fun w1 (hb1 : Below w.heap.size w w1) => setOf_any a2 _ c2 B _ hm1 hm2 w1 (by have := hb1.size; omega) (hI.below hb1 hB))
      have HS := hide (unhide HST j hjL)
      have h1C := hide (fl_one (onF G[j].M))
      have hiS := hide (infoSetF (onF G[j].M))
      have hCs := hide (fl_size (onF G[j].M))
      generalize G[j] = q at d0 d1 SO HS h1C hiS hCs
      generalize fl (onF q.M) = C at SO HS h1C hiS hCs
      have hx2 : (j : Int) < (n : Int) := by omega
      have hx8 : (j : Int) < 8 := by omega
      clear hI hm1 hm2
      go_wp2_with fail
      obtain ⟨V3, hV3⟩ : ∃ W, W = wr.alloc (Obj.cells #[Value.slice a2 q.M.length c2, Value.int .i64 q.Z] 62) := ⟨_, rfl⟩
      rw [← hV3]
      have n3 : Below wr.heap.size wr V3 := by rw [hV3]; exact below_new _ _
      have b3 := hb.trans (n3.mono hb.size)
      clear hV3
      refine (unhide SO V3 b3).mono ?_
      rintro e w4 ⟨rfl, hb4⟩
      have b4 := b3.trans (hb4.mono b3.size)
      have HT4 := hide (((unhide HT).below n3).below hb4)
      have HR4 := hide (((unhide HR).below n3).below hb4)
      have t4 : Hid (w4.there (w.heap.size + 1) (j * 9) C.size) := (unhide HT4).there _ _ (by rw [unhide hCs, fs_size]; omega)
      have HT5 : Hid (Blk (w4.setCells (w.heap.size + 1) (j * 9) C.toList) (w.heap.size + 1) (fs (setTo G (j + 1))) 115) := by
        show Blk _ _ _ _
        rw [← unhide HS]
        exact Blk.many _ _ (unhide HT4)
      have HR5 : Hid (Blk (w4.setCells (w.heap.size + 1) (j * 9) C.toList) w.heap.size Z 115) := Blk.many_other (by omega) _ _ (unhide HR4)
      have b5 : Below w.heap.size w (w4.setCells (w.heap.size + 1) (j * 9) C.toList) := below_setCells _ _ (by omega) _ _ _ _ b4
      clear hb4 n3 SO HS b3
      go_wp2_with (first
        | refine wpList_store_mid rfl 113 _ _ rfl (w.heap.size + 1) (j * 9) C rfl rfl (unhide t4) (unhide hiS) (unhide h1C) ?_)
      exact ⟨⟨j + 1, by go_num, by omega, HT5, HR5, b5⟩, by simp [intOf]; omega⟩
    · obtain rfl : j = n := by omega
      rw [unhide HEND] at HT
      have HR1 := hide (unhide HT).range
      have HR5 : Hid (wr.there w.heap.size 0 (fs (setF G)).size) := (unhide HR).there 0 _ (by rw [fs_size, unhide HZ]; omega)
      have hi1 := hide (infoSetsL (setF G))
      have hi2 := hide (infoSetsF (setF G))
      have h1 := hide (fs_one (setF G))
      have HB : Hid (Blk (wr.setCells w.heap.size 0 (fs (setF G)).toList) w.heap.size (fs (setF G)) 115) := by
        have h := Blk.many (fs (setF G)).toList 0 (unhide HR)
        rwa [setMany_all _ _ (by rw [fs_size, unhide HZ])] at h
      have HLD := hide (load_sets (unhide HB))
      generalize hC : fs (setF G) = C at HR1 HR5 hi1 hi2 h1 HLD
      have HCE := hide hC
      clear hC HB
      go_wp2_with (first
        | refine wpList_load_mid rfl 115 _ rfl (w.heap.size + 1) 0 rfl C.toList _ (unhide HR1) Try.underlying115 rfl (unhide hi1) ?_
        | refine wpList_store_mid rfl 115 _ _ rfl w.heap.size 0 C rfl rfl (unhide HR5) (unhide hi2) (unhide h1) ?_)
      refine bodyPost_ret (v := .agg C) ?_ rfl ⟨(by rw [unhide HCE]), below_setCells _ _ (Nat.le_refl _) _ _ _ _ hb⟩
      have hld := unhide HLD
      rw [results_cell1 rfl]
      show ((asAddr (Value.pointer (some ⟨w.heap.size, 0, none⟩))).run Try.prog _).andThen _ = _
      simp [asAddr, Result.andThen, hld]
end Gr
end Go.Proofs.Ytldbanpfhlmjmaa

/-
  The contract of impl.doOverlap.
-/
namespace Go.Proofs.Ytldbanpfhlmjmaa
namespace Gr
open Go.RowKit

theorem index_fs (F : Nat → Nat → Bool) (W : World) : ∀ k : Nat, k < 8 → (Instr.index 115 (.agg (fs F)) (.int .i64 (k : Int))).run Try.prog W = .ok (.agg (fl (F k))) W
  | 0, _ => by kernel_rfl
  | 1, _ => by kernel_rfl
  | 2, _ => by kernel_rfl
  | 3, _ => by kernel_rfl
  | 4, _ => by kernel_rfl
  | 5, _ => by kernel_rfl
  | 6, _ => by kernel_rfl
  | 7, _ => by kernel_rfl
  | n + 8, h => absurd h (by omega)

theorem slice_sets (b : Nat) (W : World) : ∀ i : Nat, i ≤ 8 → (Instr.sliceAt 115 (.pointer (some ⟨b, 0, none⟩)) none (some (.int .i64 (i : Int))) none).run Try.prog W = .ok (.slice (some ⟨b, 0, none⟩) i 8) W
  | 0, _ => by kernel_rfl
  | 1, _ => by kernel_rfl
  | 2, _ => by kernel_rfl
  | 3, _ => by kernel_rfl
  | 4, _ => by kernel_rfl
  | 5, _ => by kernel_rfl
  | 6, _ => by kernel_rfl
  | 7, _ => by kernel_rfl
  | 8, _ => by kernel_rfl
  | n + 9, h => absurd h (by omega)

theorem fs_part (F : Nat → Nat → Bool) (k : Nat) (h : k < 8) : ∀ j, j < (fl (F k)).size → (fs F)[k * 9 + j]? = (fl (F k))[j]? := fun j hj => by
  rw [fl_size] at hj
  rw [fs_at F _ (by omega), fl_at _ j hj, show (k * 9 + j) / 9 = k by omega, show (k * 9 + j) % 9 = j by omega]

set_option maxRecDepth 100000 in
set_option maxHeartbeats 1000000 in
theorem doOverlap_any (F : Nat → Nat → Bool) (w : World) :
    Calls Try.prog 67 #[.agg (fs F)] w fun e w' => e = .returned (.bool (doOv F)) ∧ Below w.heap.size w w' := by
  have OV := hide (fun i k w => overlaps_any (F i) (F k) w)
  have HIX := hide (fun k (h : k < 8) W => index_fs F W k h)
  have HPT := hide (fun k (h : k < 8) => fs_part F k h)
  have HYES : Hid (∀ i k, i < 8 → k < i → ov (F i) (F k) = true → doOv F = true) := fun i k h1 h2 h3 => (doOv_iff F).2 ⟨i, k, h1, h2, h3⟩
  have HNO : Hid ((∀ i k, i < 8 → k < i → ov (F i) (F k) = false) → doOv F = false) := fun h => by
    rw [Bool.eq_false_iff]
    intro h'
    obtain ⟨i, k, h1, h2, h3⟩ := (doOv_iff F).1 h'
    rw [h i k h1 h2] at h3
    cases h3
  generalize doOv F = R at HYES HNO ⊢
  have hiL := hide (infoSetsL F)
  have hsz := hide (fs_size F)
  have hzv := zero_set
  have HZ : Hid (Array.size (fl fun _ => false) = 9) := fl_size _
  generalize (fl fun _ => false) = Z at hzv HZ
  generalize fs F = FF at HIX HPT hiL hsz ⊢
  go_enter Try.func67, Try.ntmps67
  have HB1 : Hid (Blk (w.alloc (Obj.cells FF 115)) w.heap.size FF 115) := Blk.new0
  have hr1 := hide (unhide HB1).range
  have HBL : Hid (Below w.heap.size w (w.alloc (Obj.cells FF 115))) := below_new _ _
  go_wp2_with (first
    | refine wpList_load_mid rfl 115 _ rfl w.heap.size 0 rfl FF.toList _ (unhide hr1) Try.underlying115 rfl (unhide hiL) ?_)
  go_loopw [8] (fun i wr => ∃ j : Nat, i = .int .i64 (j : Int) ∧ j ≤ 8 ∧ Hid (∀ i' k', i' < j → k' < i' → ov (F i') (F k') = false) ∧ Hid (Blk wr w.heap.size FF 115) ∧ Hid (Below w.heap.size w wr)) (fun i _ => 8 - (intOf i).toNat)
  case atStart => exact ⟨0, rfl, Nat.zero_le _, (fun _ _ h => absurd h (by omega)), HB1, HBL⟩
  case round =>
    obtain ⟨i, rfl, hi, HI, HB, HBW⟩ := hrel
    by_cases hlt : i < 8
    · have hix := unhide HIX i hlt
      have hx1 : (i : Int) < 8 := by omega
      have hx0 : (0 : Int) ≤ (i : Int) := by omega
      have HLi := hide (infoSetL (F i))
      have HFi := hide (infoSetF (F i))
      have H1i := hide (fl_one (F i))
      have HSi := hide (fl_size (F i))
      have OVi := hide (fun k w => unhide OV i k w)
      generalize fl (F i) = Fi at hix HLi HFi H1i HSi OVi
      obtain ⟨V3, hV3⟩ : ∃ W, W = wr.alloc (Obj.cells Z 113) := ⟨_, rfl⟩
      have HB3 : Hid (Blk V3 wr.heap.size Z 113) := by show Blk _ _ _ _; rw [hV3]; exact Blk.new0
      have t3 : Hid (V3.there wr.heap.size 0 Fi.size) := (unhide HB3).there 0 _ (by rw [unhide HZ, unhide HSi]; omega)
      obtain ⟨V4, hV4⟩ : ∃ W, W = V3.setCells wr.heap.size 0 Fi.toList := ⟨_, rfl⟩
      have HF4 : Hid (Blk V4 wr.heap.size Fi 113) := by
        have h := Blk.many Fi.toList 0 (unhide HB3)
        rw [setMany_all _ _ (by rw [unhide HZ, unhide HSi])] at h
        rw [hV4]
        exact h
      have zr := (unhide HB).lt
      have HB4 : Hid (Blk V4 w.heap.size FF 115) := by
        show Blk _ _ _ _
        rw [hV4, hV3]
        exact Blk.many_other (by omega) _ _ (unhide HB).alloc
      have b4 : Hid (Below w.heap.size w V4) := by
        show Below _ _ _
        rw [hV4, hV3]
        exact below_setCells _ _ (by omega) _ _ _ _ ((unhide HBW).alloc (by omega) _)
      rw [hV3] at t3 hV4
      have hsl := slice_sets w.heap.size V4 i hi
      rw [hV4] at hsl
      clear hV3 HB3
      go_wp2_with (first
        | refine wpList_store_mid rfl 113 _ _ rfl wr.heap.size 0 Fi rfl rfl (unhide t3) (unhide HFi) (unhide H1i) ?_)
      rw [← hV4]
      clear hV4 t3 hix
      have zq := (unhide HF4).lt
      generalize wr.heap.size = qb at HF4 zr zq
      clear HB HBW hsl
      go_loopw [15] (fun x wr => ∃ k : Nat, x = .int .i64 (k : Int) ∧ k ≤ i ∧ Hid (∀ k', k' < k → ov (F i) (F k') = false) ∧ Hid (Blk wr qb Fi 113) ∧ Hid (Blk wr w.heap.size FF 115) ∧ Hid (Below w.heap.size w wr)) (fun x _ => i - (intOf x).toNat)
      case atStart => exact ⟨0, rfl, Nat.zero_le _, (fun _ h => absurd h (by omega)), HF4, HB4, b4⟩
      case round =>
        obtain ⟨k, rfl, hk, HK, HF, HB, HBW⟩ := hrel
        by_cases hlt2 : k < i
        · have hk8 : k < 8 := by omega
          have hx2 : (k : Int) < (i : Int) := by omega
          have hx3 : (0 : Int) ≤ (k : Int) := by omega
          have HLk := hide (infoSetL (F k))
          have HFk := hide (infoSetF (F k))
          have H1k := hide (fl_one (F k))
          have HSk := hide (fl_size (F k))
          have OVk := hide (fun w => unhide OVi k w)
          have HPk := hide ((unhide HB).part (k * 9) (fl (F k)) (unhide HPT k hk8))
          have HKY := hide (unhide HYES i k hlt hlt2)
          have HKN : Hid (ov (F i) (F k) = false → ∀ k', k' < k + 1 → ov (F i) (F k') = false) := fun h k' hk' => by
            rcases Nat.lt_or_ge k' k with h' | h'
            · exact unhide HK k' h'
            · obtain rfl : k' = k := by omega
              exact h
          generalize fl (F k) = Fk at HLk HFk H1k HSk OVk HPk
          generalize ov (F i) (F k) = o at OVk HKY HKN
          obtain ⟨V5, hV5⟩ : ∃ W, W = wr.alloc (Obj.cells Z 113) := ⟨_, rfl⟩
          have HB5 : Hid (Blk V5 wr.heap.size Z 113) := by show Blk _ _ _ _; rw [hV5]; exact Blk.new0
          have t5 : Hid (V5.there wr.heap.size 0 Fk.size) := (unhide HB5).there 0 _ (by rw [unhide HZ, unhide HSk]; omega)
          obtain ⟨V6, hV6⟩ : ∃ W, W = V5.setCells wr.heap.size 0 Fk.toList := ⟨_, rfl⟩
          have HK6 : Hid (Blk V6 wr.heap.size Fk 113) := by
            have h := Blk.many Fk.toList 0 (unhide HB5)
            rw [setMany_all _ _ (by rw [unhide HZ, unhide HSk])] at h
            rw [hV6]
            exact h
          have zr := (unhide HB).lt
          have zf := (unhide HF).lt
          have HB6 : Hid (Blk V6 w.heap.size FF 115) := by
            show Blk _ _ _ _
            rw [hV6, hV5]
            exact Blk.many_other (by omega) _ _ (unhide HB).alloc
          have HF6 : Hid (Blk V6 qb Fi 113) := by
            show Blk _ _ _ _
            rw [hV6, hV5]
            exact Blk.many_other (by omega) _ _ (unhide HF).alloc
          have b6 : Hid (Below w.heap.size w V6) := by
            show Below _ _ _
            rw [hV6, hV5]
            exact below_setCells _ _ (by omega) _ _ _ _ ((unhide HBW).alloc (by omega) _)
          have l1 := hide (unhide HF6).range
          have l2 := hide (unhide HK6).range
          rw [hV5] at t5 hV6
          rw [hV6] at l1 l2
          clear hV5 HB5
          go_wp2_with (first
            | refine wpList_store_mid rfl 113 _ _ rfl wr.heap.size 0 Fk rfl rfl (unhide t5) (unhide HFk) (unhide H1k) ?_
            | refine wpList_load_mid rfl 113 _ rfl w.heap.size (k * 9) rfl Fk.toList _ (unhide HPk) Try.underlying113 rfl (unhide HLk) ?_
            | refine wpList_load_mid rfl 113 _ rfl qb 0 rfl Fi.toList _ (unhide l1) Try.underlying113 rfl (unhide HLi) ?_
            | refine wpList_load_mid rfl 113 _ rfl wr.heap.size 0 rfl Fk.toList _ (unhide l2) Try.underlying113 rfl (unhide HLk) ?_)
          rw [← hV6]
          clear hV6 l1 l2 t5
          refine (unhide OVk V6).mono ?_
          rintro e w7 ⟨rfl, hb7⟩
          have b7 := (unhide b6).trans (hb7.mono (unhide b6).size)
          have HF7 := hide ((unhide HF6).below hb7)
          have HB7 := hide ((unhide HB6).below hb7)
          clear hb7
          cases o with
          | true =>
            have hR := unhide HKY rfl
            subst hR
            go_wp2_with fail
            go_ret
            exact ⟨rfl, b7⟩
          | false =>
            have HK2 : Hid (∀ k', k' < k + 1 → ov (F i) (F k') = false) := unhide HKN rfl
            clear HKN HKY
            go_wp2_with fail
            exact ⟨⟨k + 1, by go_num, by omega, HK2, HF7, HB7, b7⟩, by simp [intOf]; omega⟩
        · obtain rfl : k = i := by omega
          go_wp2_with fail
          exact ⟨⟨k + 1, by go_num, by omega, (fun i' k' h1 h2 => by
            rcases Nat.lt_or_ge i' k with h' | h'
            · exact unhide HI i' k' h' h2
            · obtain rfl : i' = k := by omega
              exact unhide HK k' h2), HB, HBW⟩, by simp [intOf]; omega⟩
    · obtain rfl : i = 8 := by omega
      have hR := unhide HNO (unhide HI)
      subst hR
      go_wp2_with fail
      go_ret
      exact ⟨rfl, unhide HBW⟩
end Gr
end Go.Proofs.Ytldbanpfhlmjmaa

/-
  The contracts of impl.areProofYs, impl.isProofGroup, impl.areProofGroups.
-/
namespace Go.Proofs.Ytldbanpfhlmjmaa
namespace Gr
open Go.RowKit

set_option maxRecDepth 100000 in
set_option maxHeartbeats 1000000 in
theorem areYs_is (a : Option Addr) (n c B : Nat) (Y : List Int) (s : Int) (hn : n ≤ 1048576) (w : World) (hY : IntsAt w a n B Y) :
    Calls Try.prog 65 #[.slice a n c, .int .i64 s] w fun e w' => e = .returned (.bool (yOk Y && decide ((Y.length : Int) = s))) ∧ w' = w := by
  obtain ⟨hL, hc⟩ := hY
  have HST := hide (fun k h => yOk_step Y k h)
  have HEND : Hid (yOk (Y.drop n) = true) := by show _ = _; rw [← hL, List.drop_length]; rfl
  have H0 : Hid (yOk Y = yOk (Y.drop 0)) := rfl
  have HC := hide hc
  have HL := hide hL
  have hRR : (yOk Y && decide ((Y.length : Int) = s)) = (yOk Y && decide ((n : Int) = s)) := by rw [hL]
  rw [hRR]
  clear hRR
  obtain ⟨R, hR⟩ : ∃ R, R = (yOk Y && decide ((n : Int) = s)) := ⟨_, rfl⟩
  rw [← hR]
  have HRR := hide hR
  generalize yOk Y = r at H0 HRR
  clear hc hL hR
  go_enter Try.func65, Try.ntmps65
  go_wp2_with fail
  go_loop [9] (fun i => ∃ k : Nat, i = .int .i64 k ∧ k ≤ n ∧ Hid (r = yOk (Y.drop k))) (fun i => n - (intOf i).toNat)
  case atStart => exact ⟨0, rfl, Nat.zero_le _, unhide H0⟩
  case round =>
    obtain ⟨k, rfl, hk, HR⟩ := hrel
    by_cases hlt : k < n
    · have hkL : k < Y.length := by have := unhide HL; omega
      obtain ⟨b, off, rfl, hbB, hcell⟩ := unhide HC k hkL
      have hx0 : (0 : Int) ≤ (k : Int) := by omega
      have hx1 : (k : Int) < (n : Int) := by omega
      have hr := (unhide HR).trans (unhide HST k hkL)
      generalize hrest : yOk (Y.drop (k + 1)) = rest at hr
      have HREST := hide hrest
      generalize Y[k] = y at hcell hr
      clear hrest HR
      by_cases t0 : y < 0
      · have : decide (0 ≤ y) = false := decide_eq_false (by omega)
        rw [this] at hr
        simp only [Bool.false_and] at hr
        have hR : R = false := by rw [unhide HRR, hr]; rfl
        clear this hr HRR H0
        subst hR
        go_wp2
        go_ret
        exact ⟨rfl, rfl⟩
      · have h0 : decide (0 ≤ y) = true := decide_eq_true (by omega)
        by_cases t1 : 1000000000 < y
        · have : decide (y ≤ 1000000000) = false := decide_eq_false (by omega)
          rw [this, h0] at hr
          simp only [Bool.and_false, Bool.false_and] at hr
          have hR : R = false := by rw [unhide HRR, hr]; rfl
          clear this h0 hr HRR H0
          subst hR
          go_wp2
          go_ret
          exact ⟨rfl, rfl⟩
        · have : decide (y ≤ 1000000000) = true := decide_eq_true (by omega)
          rw [this, h0] at hr
          simp only [Bool.true_and] at hr
          have HR2 : Hid (r = yOk (Y.drop (k + 1))) := by show _ = _; rw [hr, unhide HREST]
          clear this h0 hr
          go_wp2
          go_round
          case rel => exact ⟨k + 1, by go_num, by omega, HR2⟩
          case measure => simp [intOf]; omega
    · obtain rfl : k = n := by omega
      have hr := (unhide HR).trans (unhide HEND)
      have hR : R = decide ((k : Int) = s) := by rw [unhide HRR, hr, Bool.true_and]
      clear H0 HEND HR HST HRR hr
      by_cases t : (k : Int) = s
      · rw [decide_eq_true t] at hR
        have e1 : ((k : Int) == s) = true := by simp; exact t
        have T := hide t
        clear t
        subst hR
        go_wp2
        go_ret
        exact ⟨rfl, rfl⟩
      · rw [decide_eq_false t] at hR
        have e1 : ((k : Int) == s) = false := by simp; exact t
        have T := hide t
        clear t
        subst hR
        go_wp2
        go_ret
        exact ⟨rfl, rfl⟩

set_option maxRecDepth 100000 in
set_option maxHeartbeats 1000000 in
/-- A group by value. -/
theorem isPG_any (a : Option Addr) (c B : Nat) (q : GrpI) (s : Int) (hn : q.M.length ≤ 1048576) (w : World) (hB : B ≤ w.heap.size) (hM : IntsAt w a q.M.length B q.M) :
    Calls Try.prog 80 #[.agg #[.slice a q.M.length c, .int .i64 q.Z], .int .i64 s] w fun e w' => e = .returned (.bool (isPG s q)) ∧ Below w.heap.size w w' := by
  have AS := hide (fun w1 (hb : Below w.heap.size w w1) => isAsc_any a _ c B q.M hn w1 (by have := hb.size; omega) (hM.below hb hB))
  have PL := hide (fun w1 (hb : Below w.heap.size w w1) => arePlaces_is a _ c B q.M s hn w1 (hM.below hb hB))
  have hR : isPG s q = ((decide (3 ≤ q.M.length) && (decide (q.M.length % 2 = 1) && (decide (1 ≤ q.Z) && decide (q.Z ≤ 1000000000)))) && (chainFrom none q.M && allIn s q.M)) := by
    rw [← asc_parts]
    rfl
  generalize isPG s q = R at hR ⊢
  obtain ⟨M, Z⟩ := q
  simp only at hR AS PL hn ⊢
  generalize chainFrom none M = r1 at AS hR
  generalize allIn s M = r2 at PL hR
  generalize M.length = n at hR AS PL hn ⊢
  clear hM
  have hb : Below w.heap.size w (w.alloc (Obj.cells #[Value.slice a n c, Value.int .i64 Z] 62)) := below_new _ _
  by_cases t1 : n < 3
  · rw [decide_eq_false (by omega)] at hR
    simp only [Bool.false_and] at hR
    subst hR
    have e1 : (n : Int) < 3 := by omega
    go_enter Try.func80, Try.ntmps80
    go_wp2_with fail
    go_ret
    exact ⟨rfl, hb⟩
  rw [decide_eq_true (by omega)] at hR
  have e1 : ¬ (n : Int) < 3 := by omega
  by_cases t2 : n % 2 = 0
  · rw [decide_eq_false (by omega)] at hR
    simp only [Bool.true_and, Bool.false_and] at hR
    subst hR
    have e2 : ((n : Int) % 2 == 0) = true := by simp; omega
    go_enter Try.func80, Try.ntmps80
    go_wp2_with fail
    go_ret
    exact ⟨rfl, hb⟩
  rw [decide_eq_true (by omega)] at hR
  have e2 : ((n : Int) % 2 == 0) = false := by simp; omega
  by_cases t3 : Z < 1
  · rw [decide_eq_false (by omega)] at hR
    simp only [Bool.true_and, Bool.false_and] at hR
    subst hR
    go_enter Try.func80, Try.ntmps80
    go_wp2_with fail
    go_ret
    exact ⟨rfl, hb⟩
  rw [decide_eq_true (by omega)] at hR
  by_cases t4 : 1000000000 < Z
  · rw [decide_eq_false (by omega)] at hR
    simp only [Bool.true_and, Bool.false_and] at hR
    subst hR
    go_enter Try.func80, Try.ntmps80
    go_wp2_with fail
    go_ret
    exact ⟨rfl, hb⟩
  rw [decide_eq_true (by omega)] at hR
  simp only [Bool.true_and] at hR
  have HRR := hide hR
  clear hR t2
  go_enter Try.func80, Try.ntmps80
  go_wp2_with fail
  obtain ⟨V, hV⟩ : ∃ W, W = w.alloc (Obj.cells #[Value.slice a n c, Value.int .i64 Z] 62) := ⟨_, rfl⟩
  rw [← hV] at hb ⊢
  have HBk : Hid (Blk V w.heap.size #[Value.slice a n c, Value.int .i64 Z] 62) := by show Blk _ _ _ _; rw [hV]; exact Blk.new0
  clear hV
  refine (unhide AS V hb).mono ?_
  rintro e w2 ⟨rfl, hb2⟩
  have b2 := hb.trans (hb2.mono hb.size)
  have p0 : w2.cell? ⟨w.heap.size, 0, none⟩ = some (.slice a n c) := ((unhide HBk).below hb2).cell 0 _ rfl
  clear hb2
  cases r1 with
  | false =>
    have hR : R = false := by rw [unhide HRR]; rfl
    subst hR
    go_wp2_with fail
    go_ret
    exact ⟨rfl, b2⟩
  | true =>
    have hR : R = r2 := by rw [unhide HRR, Bool.true_and]
    subst hR
    go_wp2_with fail
    refine (unhide PL w2 b2).mono ?_
    rintro e w3 ⟨rfl, rfl⟩
    go_wp2_with fail
    go_ret
    exact ⟨rfl, b2⟩

theorem allPG_step (s : Int) (G : List GrpI) (k : Nat) (h : k < G.length) : allPG s (G.drop k) = (isPG s G[k] && allPG s (G.drop (k + 1))) := by rw [drop_step G k h]; rfl

set_option maxRecDepth 100000 in
set_option maxHeartbeats 1000000 in
theorem areGroups_any (a : Option Addr) (n c B : Nat) (G : List GrpI) (s : Int) (hn : n ≤ 1048576) (hm : ∀ q ∈ G, q.M.length ≤ 1048576) (w : World) (hB : B ≤ w.heap.size) (hA : groupsAt w a n B G) :
    Calls Try.prog 66 #[.slice a n c, .int .i64 s] w fun e w' => e = .returned (.bool (allPG s G && decide (G.length ≤ 8))) ∧ Below w.heap.size w w' := by
  obtain ⟨hL, hc⟩ := hA
  have HC := hide hc
  have HL := hide hL
  have HM := hide hm
  have HST := hide (fun k h => allPG_step s G k h)
  have HEND : Hid (allPG s (G.drop n) = true) := by show _ = _; rw [← hL, List.drop_length]; rfl
  have H0 : Hid (allPG s G = allPG s (G.drop 0)) := rfl
  obtain ⟨R, hR⟩ : ∃ R, R = (allPG s G && decide (G.length ≤ 8)) := ⟨_, rfl⟩
  rw [← hR]
  rw [hL] at hR
  have HRR := hide hR
  generalize allPG s G = r at H0 HRR
  clear hc hL hm hR
  go_enter Try.func66, Try.ntmps66
  go_wp2_with fail
  go_loopw [9] (fun i wr => ∃ k : Nat, i = .int .i64 (k : Int) ∧ k ≤ n ∧ Hid (r = allPG s (G.drop k)) ∧ Below w.heap.size w wr) (fun i _ => n - (intOf i).toNat)
  case atStart => exact ⟨0, rfl, Nat.zero_le _, unhide H0, Below.refl _ _⟩
  case round =>
    obtain ⟨k, rfl, hk, HR, hb⟩ := hrel
    by_cases hlt : k < n
    · have hkL : k < G.length := by have := unhide HL; omega
      obtain ⟨b, off, a2, c2, rfl, hbB, d0, d1, hI⟩ := unhide HC k hkL
      rw [← hb.cell (p := ⟨b, off + k * 2, none⟩) (by simp; omega)] at d0
      rw [← hb.cell (p := ⟨b, off + k * 2 + 1, none⟩) (by simp; omega)] at d1
      have hm1 := unhide HM _ (List.getElem_mem hkL)
      have PG := hide (fun w1 (hb1 : Below w.heap.size w w1) => isPG_any a2 c2 B G[k] s hm1 w1 (by have := hb1.size; omega) (hI.below hb1 hB))
      have HR2 := hide ((unhide HR).trans (unhide HST k hkL))
      generalize G[k] = q at d0 d1 PG HR2
      generalize isPG s q = o at PG HR2
      have hx2 : (k : Int) < (n : Int) := by omega
      clear hI hm1
      go_wp2_with fail
      obtain ⟨V3, hV3⟩ : ∃ W, W = wr.alloc (Obj.cells #[Value.slice a2 q.M.length c2, Value.int .i64 q.Z] 62) := ⟨_, rfl⟩
      rw [← hV3]
      have n3 : Below wr.heap.size wr V3 := by rw [hV3]; exact below_new _ _
      have b3 := hb.trans (n3.mono hb.size)
      clear hV3
      refine (unhide PG V3 b3).mono ?_
      rintro e w4 ⟨rfl, hb4⟩
      have b4 := b3.trans (hb4.mono b3.size)
      clear hb4 n3 PG b3
      cases o with
      | false =>
        have hR : R = false := by rw [unhide HRR, unhide HR2]; rfl
        subst hR
        go_wp2_with fail
        go_ret
        exact ⟨rfl, b4⟩
      | true =>
        have HR3 : Hid (r = allPG s (G.drop (k + 1))) := unhide HR2
        clear HR2
        go_wp2_with fail
        exact ⟨⟨k + 1, by go_num, by omega, HR3, b4⟩, by simp [intOf]; omega⟩
    · obtain rfl : k = n := by omega
      have hr := (unhide HR).trans (unhide HEND)
      have hR : R = decide (k ≤ 8) := by rw [unhide HRR, hr, Bool.true_and]
      clear H0 HEND HR HST HRR hr
      have e : decide ((k : Int) ≤ 8) = decide (k ≤ 8) := by rw [decide_eq_decide]; omega
      rw [← e] at hR
      subst hR
      clear e
      go_wp2_with fail
      go_ret
      exact ⟨(by first | rfl | (congr 2; rw [decide_eq_decide]; omega)), hb⟩
end Gr
end Go.Proofs.Ytldbanpfhlmjmaa

/-
  The contracts of impl.isShort and impl.isAnyShort.
-/
namespace Go.Proofs.Ytldbanpfhlmjmaa
namespace Gr
open Go.RowKit

set_option maxRecDepth 100000 in
set_option maxHeartbeats 4000000 in
theorem isShort_any (v : Value) (B : Nat) (s : Int) (Y : List Int) (G : List GrpI) (e : EdgeI) (hYs : (Y.length : Int) = s) (h9 : s ≤ 9) (hY : ∀ y ∈ Y, 0 ≤ y ∧ y ≤ 1000000000) (hq : ∀ q ∈ G, grpHead s q = true) (hG8 : G.length ≤ 8) (he : edgeOk s e = true) (w : World) (hB : B ≤ w.heap.size) (hv : PrAt w v B Y G) :
    Calls Try.prog 83 #[e.v, v, .agg (fs (setF G))] w fun r w' => r = .returned (.bool (decide (slackI Y G e < 0))) ∧ Below w.heap.size w w' := by
  obtain ⟨q0, q1, q2, _, _, _⟩ := (edgeOk_iff s e).1 he
  have hsc := scal_range he
  have SC := hide (fun w => implScalar_any e w)
  have hR : slackI Y G e = slackG e (yAt Y e.A + yAt Y e.B - 2 * scal e) G := rfl
  generalize slackI Y G e = R at hR ⊢
  obtain ⟨a, n, c, a', n', c', rfl, hYA, hGA, _⟩ := hv
  have hYn := hYA.1
  obtain ⟨x0, hx0⟩ := Int.eq_ofNat_of_zero_le q0
  obtain ⟨x1, hx1⟩ := Int.eq_ofNat_of_zero_le (show 0 ≤ e.B by omega)
  have hl0 : x0 < Y.length := by omega
  have hl1 : x1 < Y.length := by omega
  obtain ⟨by0, oy, rfl, hbyB, y0⟩ := hYA.2 x0 hl0
  obtain ⟨by1, oy1, ey, _, y1⟩ := hYA.2 x1 hl1
  simp at ey
  obtain ⟨rfl, rfl⟩ := ey
  have ea : yAt Y e.A = Y[x0] := by unfold yAt; rw [hx0]; simp [hl0]
  have eb : yAt Y e.B = Y[x1] := by unfold yAt; rw [hx1]; simp [hl1]
  rw [ea, eb] at hR
  have r0 := hY _ (List.getElem_mem hl0)
  have r1 := hY _ (List.getElem_mem hl1)
  generalize Y[x0] = ya at y0 hR r0
  generalize Y[x1] = yb at y1 hR r1
  generalize scal e = sc at SC hR hsc
  have HCG := hide hGA.2
  have HGL := hide hGA.1
  have HE := hide (fun i (w : World) => hasEnds_any (setF G i) e x0 x1 hx0 hx1 (by omega) (by omega) w)
  have HST : Hid (∀ S k (h : k < G.length), slackG e S (G.drop k) = slackG e (if (setF G k x0 && setF G k x1) = true then S + G[k].Z else S) (G.drop (k + 1))) := fun S k h => by
    rw [drop_step G k h, setF_at G k h]
    show slackG e (if (inK G[k].M e.A && inK G[k].M e.B) = true then S + G[k].Z else S) (G.drop (k + 1)) = _
    rw [hx0, hx1]
    rfl
  have HEND : Hid (∀ S, slackG e S (G.drop n') = S) := fun S => by rw [← hGA.1, List.drop_length]; rfl
  have H0 : Hid (R = slackG e (ya + yb - 2 * sc) (G.drop 0)) := hR
  have HQ := hide hq
  have HPT := hide (fun k (h : k < 8) => fs_part (setF G) k h)
  have HIL := hide (fun k => infoSetL (setF G k))
  have hsz := hide (fs_size (setF G))
  clear hR ea eb hYA hGA hY hq he
  generalize hslk : slackG e = FF at HST HEND H0
  clear hslk
  generalize fs (setF G) = C at HPT hsz ⊢
  obtain ⟨eA, eB, e2, e3, e4⟩ := e
  simp only at hx0 hx1 q1 q2
  subst hx0 hx1
  unfold EdgeI.v at SC HE ⊢
  simp only at SC HE ⊢
  have w1 : IntKind.i64.wrap (ya + yb) = ya + yb := wrap_in _ (by omega)
  have w2 : IntKind.i64.wrap (2 * sc) = 2 * sc := wrap_in _ (by omega)
  have w3 : IntKind.i64.wrap (ya + yb - 2 * sc) = ya + yb - 2 * sc := wrap_in _ (by omega)
  have hin0 : (x0 : Int) < (n : Int) := by omega
  have hin1 : (x1 : Int) < (n : Int) := by omega
  have hn8 : n' ≤ 8 := by have := unhide HGL; omega
  go_enter Try.func83, Try.ntmps83
  go_wp2_with fail
  obtain ⟨V, hV⟩ : ∃ W, W = ((w.alloc (Obj.cells #[Value.int .i64 (x0 : Int), Value.int .i64 (x1 : Int), Value.int .i64 e2, Value.int .i64 e3, Value.int .i64 e4] 58)).alloc (Obj.cells #[Value.slice (some ⟨by0, oy, none⟩) n c, Value.slice a' n' c'] 41)).alloc (Obj.cells C 115) := ⟨_, rfl⟩
  rw [← hV]
  have bV : Below w.heap.size w V := by rw [hV]; exact ((below_new _ _).alloc (by simp) _).alloc (by simp; omega) _
  have m1 : Blk V w.heap.size #[Value.int .i64 (x0 : Int), Value.int .i64 (x1 : Int), Value.int .i64 e2, Value.int .i64 e3, Value.int .i64 e4] 58 := by rw [hV]; exact Blk.new0.alloc.alloc
  have m0 : Blk V (w.heap.size + 1) #[Value.slice (some ⟨by0, oy, none⟩) n c, Value.slice a' n' c'] 41 := by rw [hV]; exact Blk.new1.alloc
  have m2 : Blk V (w.heap.size + 1 + 1) C 115 := by rw [hV]; exact Blk.new2
  clear hV
  have z0 := m0.lt
  have z1 := m1.lt
  have z2 := m2.lt
  have HM0 := hide m0
  have HM1 := hide m1
  have HM2 := hide m2
  have P0 : ∀ d : Grown V.heap.size V, d.w.cell? ⟨w.heap.size + 1, 0, none⟩ = some (.slice (some ⟨by0, oy, none⟩) n c) := fun d => d.cell z0 (m0.cell 0 _ rfl)
  have E0 : ∀ d : Grown V.heap.size V, d.w.cell? ⟨w.heap.size, 0, none⟩ = some (.int .i64 (x0 : Int)) := fun d => d.cell z1 (m1.cell 0 _ rfl)
  have E1 : ∀ d : Grown V.heap.size V, d.w.cell? ⟨w.heap.size, 1, none⟩ = some (.int .i64 (x1 : Int)) := fun d => d.cell z1 (m1.cell 1 _ rfl)
  have E2 : ∀ d : Grown V.heap.size V, d.w.cell? ⟨w.heap.size, 2, none⟩ = some (.int .i64 e2) := fun d => d.cell z1 (m1.cell 2 _ rfl)
  have E3 : ∀ d : Grown V.heap.size V, d.w.cell? ⟨w.heap.size, 3, none⟩ = some (.int .i64 e3) := fun d => d.cell z1 (m1.cell 3 _ rfl)
  have E4 : ∀ d : Grown V.heap.size V, d.w.cell? ⟨w.heap.size, 4, none⟩ = some (.int .i64 e4) := fun d => d.cell z1 (m1.cell 4 _ rfl)
  have Y0 : ∀ d : Grown V.heap.size V, d.w.cell? ⟨by0, oy + x0, none⟩ = some (.int .i64 ya) := fun d => d.cell (by omega) ((bV.cell (p := ⟨by0, oy + x0, none⟩) (by simp; omega)).trans y0)
  have Y1 : ∀ d : Grown V.heap.size V, d.w.cell? ⟨by0, oy + x1, none⟩ = some (.int .i64 yb) := fun d => d.cell (by omega) ((bV.cell (p := ⟨by0, oy + x1, none⟩) (by simp; omega)).trans y1)
  clear m0 m1 m2 y0 y1
  refine wp_region_grown V.heap.size (by kernel_rfl) (by kernel_rfl) ?_
  repeat (go_big_quiet_step (first | (go_at_call 71; exact Calls.grown (Nat.le_refl _) (unhide SC _))))
  refine wpQuiet_nil ?_
  rintro w5 ⟨d5, rfl⟩
  obtain ⟨W5, hb5⟩ := d5
  dsimp only
  clear P0 E0 E1 E2 E3 E4 Y0 Y1 SC
  have p1 : W5.cell? ⟨w.heap.size + 1, 1, none⟩ = some (.slice a' n' c') := ((unhide HM0).below hb5).cell 1 _ rfl
  go_wp2_with fail
  clear p1
  go_loopw [7, 30] (fun t i wr => ∃ (k : Nat) (S : Int), i = .int .i64 (k : Int) ∧ t = .int .i64 S ∧ k ≤ n' ∧ -9030100 ≤ S ∧ S ≤ 2000000000 + 1000000000 * (k : Int) ∧ Hid (R = FF S (G.drop k)) ∧ Below V.heap.size V wr) (fun _ i _ => n' - (intOf i).toNat)
  case atStart => exact ⟨0, ya + yb - 2 * sc, rfl, rfl, Nat.zero_le _, by omega, by omega, unhide H0, hb5⟩
  case round =>
    obtain ⟨k, S, rfl, rfl, hk, hS0, hS1, HS, hbr⟩ := hrel
    have hzr := hbr.size
    have bw : Below w.heap.size w wr := bV.trans (hbr.mono bV.size)
    by_cases hlt : k < n'
    · have hkL : k < G.length := by have := unhide HGL; omega
      obtain ⟨b, off, a2, c2, rfl, hbB, d0, d1, hI⟩ := unhide HCG k hkL
      obtain ⟨_, _, hM9, hZ1, hZ2⟩ := (grpHead_iff s _).1 (unhide HQ _ (List.getElem_mem hkL))
      have HSK := hide ((unhide HS).trans (unhide HST S k hkL))
      have HEk := hide (unhide HE k)
      have HPk := hide (fun W (hB2 : Blk W (w.heap.size + 1 + 1) C 115) => hB2.part (k * 9) (fl (setF G k)) (unhide HPT k (by omega)))
      have HLk := hide (unhide HIL k)
      generalize fl (setF G k) = Fk at HEk HPk HLk
      generalize (setF G k x0 && setF G k x1) = o at HEk HSK
      generalize G[k] = q at d0 d1 hM9 hZ1 hZ2 HSK
      clear hI
      have hkn : (k : Int) < (n' : Int) := by omega
      have hk8 : (k : Int) < 8 := by omega
      rw [← bw.cell (p := ⟨b, off + k * 2, none⟩) (by simp; omega)] at d0
      rw [← bw.cell (p := ⟨b, off + k * 2 + 1, none⟩) (by simp; omega)] at d1
      go_wp2_with fail
      obtain ⟨V3, hV3⟩ : ∃ W, W = wr.alloc (Obj.cells #[Value.slice a2 q.M.length c2, Value.int .i64 q.Z] 62) := ⟨_, rfl⟩
      rw [← hV3]
      have n3 : Below wr.heap.size wr V3 := by rw [hV3]; exact below_new _ _
      have HG3 : Hid (Blk V3 wr.heap.size #[Value.slice a2 q.M.length c2, Value.int .i64 q.Z] 62) := by show Blk _ _ _ _; rw [hV3]; exact Blk.new0
      have b3 : Below V.heap.size V V3 := hbr.trans (n3.mono hbr.size)
      have m13 := (unhide HM1).below b3
      have m23 := (unhide HM2).below b3
      clear hV3 d0 d1
      have y1 := m13.lt
      have y2 := m23.lt
      have hr3 : Hid (∀ W, (∃ d : Grown V3.heap.size V3, W = d.w) → W.rangeAt (w.heap.size + 1 + 1) (k * 9) Fk.toList) := by
        rintro W ⟨d, rfl⟩
        exact unhide HPk d.w (m23.below d.below)
      have F0 : ∀ d : Grown V3.heap.size V3, d.w.cell? ⟨w.heap.size, 0, none⟩ = some (.int .i64 (x0 : Int)) := fun d => d.cell y1 (m13.cell 0 _ rfl)
      have F1 : ∀ d : Grown V3.heap.size V3, d.w.cell? ⟨w.heap.size, 1, none⟩ = some (.int .i64 (x1 : Int)) := fun d => d.cell y1 (m13.cell 1 _ rfl)
      have F2 : ∀ d : Grown V3.heap.size V3, d.w.cell? ⟨w.heap.size, 2, none⟩ = some (.int .i64 e2) := fun d => d.cell y1 (m13.cell 2 _ rfl)
      have F3 : ∀ d : Grown V3.heap.size V3, d.w.cell? ⟨w.heap.size, 3, none⟩ = some (.int .i64 e3) := fun d => d.cell y1 (m13.cell 3 _ rfl)
      have F4 : ∀ d : Grown V3.heap.size V3, d.w.cell? ⟨w.heap.size, 4, none⟩ = some (.int .i64 e4) := fun d => d.cell y1 (m13.cell 4 _ rfl)
      clear m13 m23
      refine wp_region_grown V3.heap.size (by kernel_rfl) (by kernel_rfl) ?_
      repeat (first
        | (refine wpQuiet_load_mid (by rfl) 113 _ rfl (w.heap.size + 1 + 1) (k * 9) rfl Fk.toList _ (unhide hr3) Try.underlying113 rfl (unhide HLk) ?_
           (conv => arg 6; simp [Act.put]))
        | go_big_quiet_step (first
          | (go_at_call 92; exact Calls.grown (Nat.le_refl _) (unhide HEk _))))
      refine wpQuiet_nil ?_
      rintro w6 ⟨d6, rfl⟩
      clear F0 F1 F2 F3 F4 hr3
      have b6 : Below V.heap.size V d6.w := b3.trans (d6.below.mono b3.size)
      cases o with
      | false =>
        have HSK2 : Hid (R = FF S (G.drop (k + 1))) := unhide HSK
        clear HSK
        go_wp2_with fail
        exact ⟨⟨k + 1, S, by go_num, rfl, by omega, by omega, by omega, HSK2, b6⟩, by simp [intOf]; omega⟩
      | true =>
        have HSK2 : Hid (R = FF (S + q.Z) (G.drop (k + 1))) := unhide HSK
        clear HSK
        have j2 : d6.w.cell? ⟨wr.heap.size, 1, none⟩ = some (.int .i64 q.Z) := ((unhide HG3).below d6.below).cell 1 _ rfl
        have w4 : IntKind.i64.wrap (S + q.Z) = S + q.Z := wrap_in _ (by omega)
        go_wp2_with fail
        exact ⟨⟨k + 1, S + q.Z, by go_num, rfl, by omega, by omega, by omega, HSK2, b6⟩, by simp [intOf]; omega⟩
    · obtain rfl : k = n' := by omega
      have hRS := (unhide HS).trans (unhide HEND S)
      subst hRS
      go_wp2_with fail
      go_ret
      exact ⟨rfl, bw⟩
end Gr
end Go.Proofs.Ytldbanpfhlmjmaa

/-
  The contracts of impl.isAnyShort and impl.twiceBound.
-/
namespace Go.Proofs.Ytldbanpfhlmjmaa
namespace Gr
open Go.RowKit

set_option maxRecDepth 100000 in
set_option maxHeartbeats 4000000 in
theorem isAnyShort_any (B : Nat) (v : Value) (s : Int) (Q : List EdgeI) (u : Value) (Y : List Int) (G : List GrpI) (h1 : Q.length ≤ 1048576) (hQ : ∀ e ∈ Q, edgeOk s e = true) (hYs : (Y.length : Int) = s) (h9 : s ≤ 9) (hY : ∀ y ∈ Y, 0 ≤ y ∧ y ≤ 1000000000) (hq : ∀ q ∈ G, grpHead s q = true) (hm : ∀ q ∈ G, ∀ x ∈ q.M, 0 ≤ x ∧ x < 9) (hG8 : G.length ≤ 8) (w : World) (hB : B ≤ w.heap.size) (hv : GrAt w v B s Q) (hu : PrAt w u B Y G) :
    Calls Try.prog 69 #[v, u] w fun e w' => e = .returned (.bool (!slacksOk Y G Q)) ∧ Below w.heap.size w w' := by
  have SH := hide (fun e (he : edgeOk s e = true) w1 (hb : Below w.heap.size w w1) => isShort_any u B s Y G e hYs h9 hY hq hG8 he w1 (by have := hb.size; omega) (hu.below hb hB))
  have HEO := hide hQ
  have HST := hide (fun k h => slacksOk_step Y G Q k h)
  have H0 : Hid (slacksOk Y G Q = slacksOk Y G (Q.drop 0)) := rfl
  generalize slacksOk Y G Q = R at H0 ⊢
  obtain ⟨a0, n0, c0, rfl, hE⟩ := hv
  obtain ⟨a, n, c, a', n', c', rfl, hYA, hGA, _⟩ := hu
  have HEND : Hid (slacksOk Y G (Q.drop n0) = true) := by show _ = _; rw [← hE.1, List.drop_length]; rfl
  have SO := hide (fun w1 (hb : Below w.heap.size w w1) => setsOf_any a' n' c' B G (by have := hGA.1; omega) (fun q h => ⟨(by have h3 := ((grpHead_iff s q).1 (hq q h)).2.2.1; omega), hm q h⟩) w1 (by have := hb.size; omega) (hGA.below hb hB))
  have HCE := hide hE.2
  have HEL := hide hE.1
  have hn0 : n0 ≤ 1048576 := by have := hE.1; omega
  have hiS := hide (infoSetsF (setF G))
  have hiL := hide (infoSetsL (setF G))
  have h1S := hide (fs_one (setF G))
  have hsS := hide (fs_size (setF G))
  generalize fs (setF G) = C at SO SH hiS hiL h1S hsS
  have hzv := zero_sets
  have HZ : Hid (Array.size (fs fun _ _ => false) = 72) := fs_size _
  generalize (fs fun _ _ => false) = Z at hzv HZ
  clear hYA hGA hE hQ hYs h9 hY hq hm hG8 h1
  go_enter Try.func69, Try.ntmps69
  go_wp2_with fail
  obtain ⟨V, hV⟩ : ∃ W, W = (w.alloc (Obj.cells #[Value.int .i64 s, Value.slice a0 n0 c0] 37)).alloc (Obj.cells #[Value.slice a n c, Value.slice a' n' c'] 41) := ⟨_, rfl⟩
  rw [← hV]
  have bV : Below w.heap.size w V := by rw [hV]; exact (below_new _ _).alloc (by simp) _
  have m0 : Blk V w.heap.size #[Value.int .i64 s, Value.slice a0 n0 c0] 37 := by rw [hV]; exact Blk.new0.alloc
  have m1 : Blk V (w.heap.size + 1) #[Value.slice a n c, Value.slice a' n' c'] 41 := by rw [hV]; exact Blk.new1
  clear hV
  refine (unhide SO V bV).mono ?_
  rintro e w3 ⟨rfl, hb3⟩
  have b3 := bV.trans (hb3.mono bV.size)
  have n0' := m0.below hb3
  have n1' := m1.below hb3
  have z1 := n1'.lt
  clear m0 m1 hb3 bV SO
  obtain ⟨V3, hV3⟩ : ∃ W, W = w3.alloc (Obj.cells Z 115) := ⟨_, rfl⟩
  have HB3 : Hid (Blk V3 w3.heap.size Z 115) := by show Blk _ _ _ _; rw [hV3]; exact Blk.new0
  have t3 : Hid (V3.there w3.heap.size 0 C.size) := (unhide HB3).there 0 _ (by rw [unhide HZ, unhide hsS]; omega)
  obtain ⟨V4, hV4⟩ : ∃ W, W = V3.setCells w3.heap.size 0 C.toList := ⟨_, rfl⟩
  have HC4 : Hid (Blk V4 w3.heap.size C 115) := by
    have h := Blk.many C.toList 0 (unhide HB3)
    rw [setMany_all _ _ (by rw [unhide HZ, unhide hsS])] at h
    rw [hV4]
    exact h
  have HM0 : Hid (Blk V4 w.heap.size #[Value.int .i64 s, Value.slice a0 n0 c0] 37) := by
    show Blk _ _ _ _
    rw [hV4, hV3]
    exact Blk.many_other (by omega) _ _ n0'.alloc
  have HM1 : Hid (Blk V4 (w.heap.size + 1) #[Value.slice a n c, Value.slice a' n' c'] 41) := by
    show Blk _ _ _ _
    rw [hV4, hV3]
    exact Blk.many_other (by omega) _ _ n1'.alloc
  have b4 : Below w.heap.size w V4 := by rw [hV4, hV3]; exact below_setCells _ _ b3.size _ _ _ _ (b3.alloc b3.size _)
  have p1 : V4.cell? ⟨w.heap.size, 1, none⟩ = some (.slice a0 n0 c0) := (unhide HM0).cell 1 _ rfl
  rw [hV3] at t3 hV4
  rw [hV4] at p1
  clear HB3 hV3 n0' n1' b3
  go_wp2_with (first
    | refine wpList_store_mid rfl 115 _ _ rfl w3.heap.size 0 C rfl rfl (unhide t3) (unhide hiS) (unhide h1S) ?_)
  rw [← hV4]
  have z4 := (unhide HC4).lt
  have z0 := (unhide HM1).lt
  clear hV4 t3 p1
  generalize w3.heap.size = sb at HC4 z4
  go_loopw [14] (fun i wr => ∃ k : Nat, i = .int .i64 (k : Int) ∧ k ≤ n0 ∧ Hid (R = slacksOk Y G (Q.drop k)) ∧ Below V4.heap.size V4 wr) (fun i _ => n0 - (intOf i).toNat)
  case atStart => exact ⟨0, rfl, Nat.zero_le _, unhide H0, Below.refl _ _⟩
  case round =>
    obtain ⟨k, rfl, hk, HR, hbr⟩ := hrel
    have bw : Below w.heap.size w wr := b4.trans (hbr.mono b4.size)
    have hzr := hbr.size
    by_cases hlt : k < n0
    · have hkL : k < Q.length := by have := unhide HEL; omega
      obtain ⟨b, off, rfl, hbB, d0, d1, d2, d3, d4⟩ := unhide HCE k hkL
      rw [← bw.cell (p := ⟨b, off + k * 5, none⟩) (by simp; omega)] at d0
      rw [← bw.cell (p := ⟨b, off + k * 5 + 1, none⟩) (by simp; omega)] at d1
      rw [← bw.cell (p := ⟨b, off + k * 5 + 2, none⟩) (by simp; omega)] at d2
      rw [← bw.cell (p := ⟨b, off + k * 5 + 3, none⟩) (by simp; omega)] at d3
      rw [← bw.cell (p := ⟨b, off + k * 5 + 4, none⟩) (by simp; omega)] at d4
      have HR2 := hide ((unhide HR).trans (unhide HST k hkL))
      have SHk := hide (unhide SH Q[k] (unhide HEO _ (List.getElem_mem hkL)))
      generalize Q[k] = q at d0 d1 d2 d3 d4 HR2 SHk
      have hsd : decide (0 ≤ slackI Y G q) = !decide (slackI Y G q < 0) := by
        rw [Bool.eq_iff_iff]
        simp
      rw [hsd] at HR2
      generalize decide (slackI Y G q < 0) = o at SHk HR2
      clear hsd
      obtain ⟨y0, y1, y2, y3, y4⟩ := q
      unfold EdgeI.v at SHk
      simp only at d0 d1 d2 d3 d4 SHk
      have hx2 : (k : Int) < (n0 : Int) := by omega
      have hx3 : (0 : Int) ≤ (k : Int) := by omega
      obtain ⟨V6, hV6⟩ : ∃ W, W = wr.alloc (Obj.cells #[Value.int .i64 y0, Value.int .i64 y1, Value.int .i64 y2, Value.int .i64 y3, Value.int .i64 y4] 58) := ⟨_, rfl⟩
      have n6 : Below wr.heap.size wr V6 := by rw [hV6]; exact below_new _ _
      have b6 : Below V4.heap.size V4 V6 := hbr.trans (n6.mono hbr.size)
      have l6 := hide ((unhide HC4).below b6).range
      have k0 : V6.cell? ⟨w.heap.size + 1, 0, none⟩ = some (.slice a n c) := ((unhide HM1).below b6).cell 0 _ rfl
      have k1 : V6.cell? ⟨w.heap.size + 1, 1, none⟩ = some (.slice a' n' c') := ((unhide HM1).below b6).cell 1 _ rfl
      rw [hV6] at l6 k0 k1
      go_wp2_with (first
        | refine wpList_load_mid rfl 115 _ rfl sb 0 rfl C.toList _ (unhide l6) Try.underlying115 rfl (unhide hiL) ?_)
      rw [← hV6]
      have bw6 : Below w.heap.size w V6 := b4.trans (b6.mono b4.size)
      clear hV6 l6 k0 k1 d0 d1 d2 d3 d4
      refine (unhide SHk V6 bw6).mono ?_
      rintro e w7 ⟨rfl, hb7⟩
      have b7 : Below V4.heap.size V4 w7 := b6.trans (hb7.mono b6.size)
      have bw7 : Below w.heap.size w w7 := b4.trans (b7.mono b4.size)
      clear hb7 b6 n6
      cases o with
      | true =>
        have hR : R = false := by rw [unhide HR2]; rfl
        subst hR
        go_wp2_with fail
        go_ret
        exact ⟨rfl, bw7⟩
      | false =>
        have HR3 : Hid (R = slacksOk Y G (Q.drop (k + 1))) := unhide HR2
        clear HR2
        go_wp2_with fail
        exact ⟨⟨k + 1, by go_num, by omega, HR3, b7⟩, by simp [intOf]; omega⟩
    · obtain rfl : k = n0 := by omega
      have hR := (unhide HR).trans (unhide HEND)
      subst hR
      go_wp2_with fail
      go_ret
      exact ⟨rfl, bw⟩

set_option maxRecDepth 100000 in
set_option maxHeartbeats 4000000 in
theorem twice_any (v : Value) (B : Nat) (s : Int) (Y : List Int) (G : List GrpI) (hYs : (Y.length : Int) = s) (h9 : s ≤ 9) (hY : ∀ y ∈ Y, 0 ≤ y ∧ y ≤ 1000000000) (hq : ∀ q ∈ G, grpHead s q = true) (hG8 : G.length ≤ 8) (w : World) (hB : B ≤ w.heap.size) (hv : PrAt w v B Y G) :
    Calls Try.prog 47 #[v] w fun r w' => r = .returned (.int .i64 (sumI Y G)) ∧ Below w.heap.size w w' := by
  have hR : sumI Y G = gSum (ySum 0 Y) G := rfl
  generalize sumI Y G = R at hR ⊢
  obtain ⟨a, n, c, a', n', c', rfl, hYA, hGA, _⟩ := hv
  have HSY : Hid (∀ S k (h : k < Y.length), ySum S (Y.drop k) = ySum (S + Y[k]) (Y.drop (k + 1))) := fun S k h => by rw [drop_step Y k h]; rfl
  have HEY : Hid (∀ S, ySum S (Y.drop n) = S) := fun S => by rw [← hYA.1, List.drop_length]; rfl
  have HSG : Hid (∀ S k (h : k < G.length), gSum S (G.drop k) = gSum (S + G[k].Z * ((G[k].M.length / 2 : Nat) : Int)) (G.drop (k + 1))) := fun S k h => by rw [drop_step G k h]; rfl
  have HEG : Hid (∀ S, gSum S (G.drop n') = S) := fun S => by rw [← hGA.1, List.drop_length]; rfl
  have HY := hide hY
  have HQ := hide hq
  have HYL := hide hYA.1
  have HGL := hide hGA.1
  have HCY := hide hYA.2
  have HCG := hide hGA.2
  have H0 : Hid (ySum 0 Y = ySum 0 (Y.drop 0)) := rfl
  have HR := hide hR
  generalize ySum 0 Y = T at H0 HR
  have hn9 : n ≤ 9 := by have := hYA.1; omega
  have hn8 : n' ≤ 8 := by have := hGA.1; omega
  clear hY hq hYA hGA hR
  have p0 : (w.alloc (Obj.cells #[Value.slice a n c, Value.slice a' n' c'] 41)).cell? ⟨w.heap.size, 0, none⟩ = some (.slice a n c) := (Blk.new0 (t := 41)).cell 0 _ rfl
  go_enter Try.func47, Try.ntmps47
  go_wp2_with fail
  obtain ⟨V, hV⟩ : ∃ W, W = w.alloc (Obj.cells #[Value.slice a n c, Value.slice a' n' c'] 41) := ⟨_, rfl⟩
  rw [← hV]
  have bV : Below w.heap.size w V := by rw [hV]; exact below_new _ _
  have m0 : Blk V w.heap.size #[Value.slice a n c, Value.slice a' n' c'] 41 := by rw [hV]; exact Blk.new0
  clear hV p0
  have z0 := m0.lt
  have HM0 := hide m0
  clear m0
  go_loopw [3, 11] (fun t i wr => ∃ (k : Nat) (S : Int), i = .int .i64 (k : Int) ∧ t = .int .i64 S ∧ k ≤ n ∧ 0 ≤ S ∧ S ≤ 1000000000 * (k : Int) ∧ Hid (T = ySum S (Y.drop k)) ∧ V = wr) (fun _ i _ => n - (intOf i).toNat)
  case atStart => exact ⟨0, 0, rfl, rfl, Nat.zero_le _, by omega, by omega, unhide H0, rfl⟩
  case round =>
    obtain ⟨k, S, rfl, rfl, hk, hS0, hS1, HS, rfl⟩ := hrel
    by_cases hlt : k < n
    · have hkL : k < Y.length := by have := unhide HYL; omega
      obtain ⟨b, off, rfl, hbB, c0⟩ := unhide HCY k hkL
      rw [← bV.cell (p := ⟨b, off + k, none⟩) (by simp; omega)] at c0
      have hy := unhide HY _ (List.getElem_mem hkL)
      have HS2 := hide ((unhide HS).trans (unhide HSY S k hkL))
      generalize Y[k] = y at c0 hy HS2
      have w1 : IntKind.i64.wrap (S + y) = S + y := wrap_in _ (by omega)
      go_wp2_with fail
      exact ⟨⟨k + 1, S + y, by go_num, rfl, by omega, by omega, by omega, unhide HS2, trivial⟩, by simp [intOf]; omega⟩
    · obtain rfl : k = n := by omega
      have hTS := (unhide HS).trans (unhide HEY S)
      have HR2 : Hid (R = gSum S (G.drop 0)) := by show _ = _; rw [unhide HR, hTS]; rfl
      have p1 : V.cell? ⟨w.heap.size, 1, none⟩ = some (.slice a' n' c') := (unhide HM0).cell 1 _ rfl
      clear hTS HS HR H0
      go_wp2_with fail
      clear p1
      go_loopw [3, 22] (fun t i wr => ∃ (j : Nat) (U : Int), i = .int .i64 (j : Int) ∧ t = .int .i64 U ∧ j ≤ n' ∧ 0 ≤ U ∧ U ≤ 9000000000 + 4000000000 * (j : Int) ∧ Hid (R = gSum U (G.drop j)) ∧ Below V.heap.size V wr) (fun _ i _ => n' - (intOf i).toNat)
      case atStart => exact ⟨0, S, rfl, rfl, Nat.zero_le _, by omega, by omega, unhide HR2, Below.refl _ _⟩
      case round =>
        obtain ⟨j, U, rfl, rfl, hj, hU0, hU1, HU, hbr⟩ := hrel
        have hzr := hbr.size
        have bw : Below w.heap.size w wr := bV.trans (hbr.mono bV.size)
        by_cases hlt : j < n'
        · have hjL : j < G.length := by have := unhide HGL; omega
          obtain ⟨b, off, a2, c2, rfl, hbB, d0, d1, _⟩ := unhide HCG j hjL
          rw [← bw.cell (p := ⟨b, off + j * 2, none⟩) (by simp; omega)] at d0
          rw [← bw.cell (p := ⟨b, off + j * 2 + 1, none⟩) (by simp; omega)] at d1
          have hh := half_bounds (unhide HQ _ (List.getElem_mem hjL)) h9
          obtain ⟨hM3, hM2, hM9, hZ1, hZ2⟩ := (grpHead_iff s _).1 (unhide HQ _ (List.getElem_mem hjL))
          have HU2 := hide ((unhide HU).trans (unhide HSG U j hjL))
          generalize G[j] = q at d0 d1 hh hM3 hM2 hM9 hZ1 hZ2 HU2
          have hjn : (j : Int) < (n' : Int) := by omega
          have wl : IntKind.i64.wrap ((q.M.length : Int) - 1) = ((q.M.length - 1 : Nat) : Int) := by rw [wrap_in _ (by omega)]; omega
          have wh : (((q.M.length - 1 : Nat) : Int)) / 2 = ((q.M.length / 2 : Nat) : Int) := by omega
          obtain ⟨pz, hpz⟩ : ∃ pz, pz = q.Z * ((q.M.length / 2 : Nat) : Int) := ⟨_, rfl⟩
          rw [← hpz] at hh HU2
          have HWH : Hid (wrap64 (U + wrap64 (q.Z * (((q.M.length : Nat) : Int) / 2))) = U + pz) := by
            show _ = _
            rw [show ((q.M.length : Nat) : Int) / 2 = ((q.M.length / 2 : Nat) : Int) by omega, ← hpz, wrap64_in pz (by omega), wrap64_in _ (by omega)]
          clear hpz
          go_wp2_with fail
          exact ⟨⟨j + 1, U + pz, by go_num, (by rw [unhide HWH]), by omega, by omega, by omega, unhide HU2, hbr.alloc hbr.size _⟩, by simp [intOf]; omega⟩
        · obtain rfl : j = n' := by omega
          have hRS := (unhide HU).trans (unhide HEG U)
          subst hRS
          go_wp2_with fail
          go_ret
          exact ⟨rfl, bw⟩
end Gr
end Go.Proofs.Ytldbanpfhlmjmaa
