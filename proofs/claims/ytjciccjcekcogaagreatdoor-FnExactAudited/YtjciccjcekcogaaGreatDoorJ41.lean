/-
  Texts of this claim, one behind the other: Au1.
-/
import Derived.Test.YtjciccjcekcogaaGreatDoorJ20
import Derived.Test.YtjciccjcekcogaaGreatDoorJ39
import Derived.Test.YtjciccjcekcogaaGreatDoorJ40
import Derived.ChangeKeysEq

/-
  The contracts of impl.coupledOf and of the register's pairedIn: twelve flags by value.
-/
namespace Go.Proofs.YtjciccjcekcogaaGreatDoor
namespace Rg
open Go.RowKit
open Gr (Blk Kept below_new below_setCells setMany_all results_cell1 couplesAt)

/-- Twelve flags. -/
def fm (f : Nat → Bool) : Array Value := ((List.range 12).map fun (j : Nat) => Value.bool (f j)).toArray

theorem fm_at (f : Nat → Bool) (k : Nat) (h : k < 12) : (fm f)[k]? = some (.bool (f k)) := by
  unfold fm
  simp [h]

theorem fm_size (f : Nat → Bool) : (fm f).size = 12 := by unfold fm; simp

theorem fm_one (f : Nat → Bool) : (fm f).all (·.oneCell') = true := by
  apply Array.all_eq_true_iff_forall_mem.2
  intro v hv
  unfold fm at hv
  simp only [List.mem_toArray, List.mem_map] at hv
  obtain ⟨j, _, rfl⟩ := hv
  rfl

theorem fm_ext {C : Array Value} {f : Nat → Bool} (h : C.size = 12) (hk : ∀ k : Nat, k < 12 → C[k]? = some (.bool (f k))) : C = fm f := by
  apply Array.ext_getElem?
  intro i
  rcases Nat.lt_or_ge i 12 with h' | h'
  · rw [hk i h', fm_at f i h']
  · rw [Array.getElem?_eq_none (by omega), Array.getElem?_eq_none (by rw [fm_size]; omega)]

theorem fm_congr {f g : Nat → Bool} (h : ∀ j, j < 12 → f j = g j) : fm f = fm g := fm_ext (fm_size f) (fun k hk => by rw [fm_at f k hk, h k hk])

theorem fm_set (f : Nat → Bool) (k : Nat) (b : Bool) : (fm f).setIfInBounds k (.bool b) = fm (fun j => if j = k then b else f j) := by
  refine fm_ext (by simp [fm_size]) (fun i hi => ?_)
  by_cases h : k = i
  · subst h
    rw [Array.getElem?_setIfInBounds_self]
    simp [fm_size, hi]
  · rw [Array.getElem?_setIfInBounds_ne h, fm_at f i hi]
    have : ¬ i = k := fun e => h e.symm
    simp [this]

theorem infoFm : (Tryz.prog.info? 100).map (·.size) = some 12 := by kernel_rfl

theorem infoFmF (f : Nat → Bool) : (Tryz.prog.info? 100).map (·.size) = some (fm f).size := by rw [infoFm, fm_size]

theorem infoFmL (f : Nat → Bool) : (Tryz.prog.info? 100).map (·.size) = some (fm f).toList.length := by rw [Array.length_toList, fm_size]; exact infoFm

theorem zero_fm (W : World) : (zeroValue 100).run Tryz.prog W = .ok (.agg (fm fun _ => false)) W := by kernel_rfl

theorem load_fm {W : World} {g : Nat} {f : Nat → Bool} (h : Blk W g (fm f) 100) : (loadVar 100 ⟨g, 0, none⟩).run Tryz.prog W = .ok (.agg (fm f)) W := by
  have h1 := run_loadVar_mid (P := Tryz.prog) W g 0 100 (fm f).toList _ h.range Tryz.underlying100 rfl (infoFmL f)
  rwa [Array.toArray_toList] at h1

theorem cF_step (K : List Int) (M : List Gr.CoupleI) (j : Nat) (h : j < M.length) (x y : Nat) (hx : kat K M[j].A = (x : Int)) (hy : kat K M[j].B = (y : Int)) : ((fm (cF K (M.take j))).setIfInBounds x (.bool true)).setIfInBounds y (.bool true) = fm (cF K (M.take (j + 1))) := by
  rw [fm_set, fm_set]
  refine fm_congr (fun i _ => ?_)
  unfold cF
  rw [List.take_succ_eq_append_getElem h, List.any_append]
  simp only [List.any_cons, List.any_nil, Bool.or_false, hx, hy]
  by_cases e1 : i = y
  · subst e1; simp
  · by_cases e2 : i = x
    · subst e2; simp
    · have a1 : ¬ ((y : Int) = (i : Int)) := by omega
      have a2 : ¬ ((x : Int) = (i : Int)) := by omega
      simp [e1, e2, a1, a2]

set_option maxRecDepth 100000 in
set_option maxHeartbeats 2000000 in
theorem coupled_any (a : Option Addr) (n c B : Nat) (K : List Int) (a' : Option Addr) (n' c' B' : Nat) (M : List Gr.CoupleI) (_hn : n ≤ 1048576) (_hn' : n' ≤ 1048576) (hK12 : ∀ x ∈ K, 0 ≤ x ∧ x < 12) (hM : ∀ x ∈ M, 0 ≤ x.A ∧ x.A < (K.length : Int) ∧ 0 ≤ x.B ∧ x.B < (K.length : Int)) (w : World) (hB : B ≤ w.heap.size) (hB' : B' ≤ w.heap.size) (hK : IntsAt w a n B K) (hC : couplesAt w a' n' B' M) :
    Calls Tryz.prog 46 #[.slice a n c, .slice a' n' c'] w fun e w' => e = .returned (.agg (fm (cF K M))) ∧ Below w.heap.size w w' := by
  obtain ⟨hL, hc⟩ := hK
  obtain ⟨hL', hc'⟩ := hC
  have HC := hide hc
  have HC' := hide hc'
  have HL := hide hL
  have HL' := hide hL'
  have HM := hide hM
  have HKT : Hid (∀ (i : Int), 0 ≤ i → i < (K.length : Int) → ∃ (k x : Nat) (h : k < K.length), i = (k : Int) ∧ K[k] = (x : Int) ∧ x < 12 ∧ kat K i = (x : Int)) := fun i h0 h1 => by
    have h : i.toNat < K.length := by omega
    have h2 := hK12 _ (List.getElem_mem h)
    refine ⟨i.toNat, K[i.toNat].toNat, h, by omega, by omega, by omega, ?_⟩
    unfold kat
    rw [List.getD_eq_getElem?_getD, List.getElem?_eq_getElem h]
    show K[i.toNat] = _
    omega
  have HST := hide (fun j h x y hx hy => cF_step K M j h x y hx hy)
  have HAT : Hid (∀ (j k : Nat), k < 12 → ∃ b : Bool, (fm (cF K (M.take j)))[k]? = some (.bool b)) := fun j k h => ⟨_, fm_at _ k h⟩
  have HAT2 : Hid (∀ (j k x : Nat), k < 12 → ∃ b : Bool, ((fm (cF K (M.take j))).setIfInBounds x (.bool true))[k]? = some (.bool b)) := fun j k x h => by rw [fm_set]; exact ⟨_, fm_at _ k h⟩
  clear hc hL hK12 hM hc' hL'
  have hzv := zero_fm
  have HZ : Hid (Array.size (fm fun _ => false) = 12) := fm_size _
  have H0 : Hid ((fm fun _ => false) = fm (cF K (M.take 0))) := fm_congr (fun j _ => by unfold cF; simp)
  generalize (fm fun _ => false) = Z at hzv HZ H0
  go_enter Tryz.func46, Tryz.ntmps46
  go_wp2_with fail
  obtain ⟨V1, hV1⟩ : ∃ W, W = w.alloc (Obj.cells Z 100) := ⟨_, rfl⟩
  obtain ⟨V2, hV2⟩ : ∃ W, W = V1.alloc (Obj.cells Z 100) := ⟨_, rfl⟩
  rw [← hV1, ← hV2]
  have b2 : Below w.heap.size w V2 := by rw [hV2, hV1]; exact (below_new _ _).alloc (by simp) _
  have HR2 : Hid (Blk V2 w.heap.size Z 100) := by show Blk _ _ _ _; rw [hV2, hV1]; exact Gr.Blk.new0.alloc
  have HT2 : Hid (Blk V2 (w.heap.size + 1) (fm (cF K (M.take 0))) 100) := by show Blk _ _ _ _; rw [← unhide H0, hV2, hV1]; exact Gr.Blk.new1
  clear hV1 hV2 H0
  go_loopw [10] (fun i wr => ∃ j : Nat, i = .int .i64 (j : Int) ∧ j ≤ n' ∧ Hid (Blk wr (w.heap.size + 1) (fm (cF K (M.take j))) 100) ∧ Hid (Blk wr w.heap.size Z 100) ∧ Below w.heap.size w wr) (fun i _ => n' - (intOf i).toNat)
  case atStart => exact ⟨0, rfl, Nat.zero_le _, HT2, HR2, b2⟩
  case round =>
    obtain ⟨j, rfl, hj, HT, HR, hb⟩ := hrel
    by_cases hlt : j < n'
    · have hjL : j < M.length := by have := unhide HL'; omega
      obtain ⟨b, off, rfl, hbB, c0, c1⟩ := unhide HC' j hjL
      rw [← hb.cell (p := ⟨b, off + j * 2, none⟩) (by simp; omega)] at c0
      rw [← hb.cell (p := ⟨b, off + j * 2 + 1, none⟩) (by simp; omega)] at c1
      obtain ⟨a0, a1, b0, b1⟩ := unhide HM _ (List.getElem_mem hjL)
      obtain ⟨kA, xA, hkA, eA, gA, lA, tA⟩ := unhide HKT _ a0 a1
      obtain ⟨kB, xB, hkB, eB, gB, lB, tB⟩ := unhide HKT _ b0 b1
      have HS := hide (unhide HST j hjL xA xB tA tB)
      rw [eA] at c0
      rw [eB] at c1
      obtain ⟨b3, off3, hae, hb3, d0⟩ := unhide HC kA hkA
      obtain ⟨b4, off4, hae', hb4, d1⟩ := unhide HC kB hkB
      rw [hae] at hae'
      cases hae'
      subst hae
      rw [gA] at d0
      rw [gB] at d1
      rw [← hb.cell (p := ⟨b3, off3 + kA, none⟩) (by simp; omega)] at d0
      rw [← hb.cell (p := ⟨b3, off3 + kB, none⟩) (by simp; omega)] at d1
      obtain ⟨f0, hf0⟩ := unhide HAT j xA lA
      obtain ⟨f1, hf1⟩ := unhide HAT j xB lB
      have q0 := (unhide HT).cell xA _ hf0
      have q1 := (unhide HT).cell xB _ hf1
      have z0 := (unhide HT).froz xA
      have z1 := (unhide HT).froz xB
      have kAn : (kA : Int) < (n : Int) := by have := unhide HL; omega
      have kBn : (kB : Int) < (n : Int) := by have := unhide HL; omega
      have xA0 : (xA : Int) < 12 := by omega
      have xB0 : (xB : Int) < 12 := by omega
      have hx2 : (j : Int) < (n' : Int) := by omega
      have hgt : w.heap.size + 1 < wr.heap.size := (unhide HT).lt
      clear a0 a1 b0 b1 eA eB gA gB tA tB hkA hkB
      obtain ⟨V, hV⟩ : ∃ W, W = wr.alloc (Obj.cells #[Value.int .i64 (kA : Int), Value.int .i64 (kB : Int)] 51) := ⟨_, rfl⟩
      have HTV : Blk V (w.heap.size + 1) (fm (cF K (M.take j))) 100 := by rw [hV]; exact (unhide HT).alloc
      have HRV : Blk V w.heap.size Z 100 := by rw [hV]; exact (unhide HR).alloc
      have HPV : Blk V wr.heap.size #[Value.int .i64 (kA : Int), Value.int .i64 (kB : Int)] 51 := by rw [hV]; exact Gr.Blk.new0
      have hbV : Below w.heap.size w V := by rw [hV]; exact hb.alloc hb.size _
      have bV : Below wr.heap.size wr V := by rw [hV]; exact below_new _ _
      have hbs := hb.size
      have g0 := (bV.cell (p := ⟨b3, off3 + kA, none⟩) (by simp; omega)).trans d0
      have g1 := (bV.cell (p := ⟨b3, off3 + kB, none⟩) (by simp; omega)).trans d1
      have p0 : V.cell? ⟨wr.heap.size, 0, none⟩ = some (.int .i64 (kA : Int)) := HPV.cell 0 _ rfl
      have p1 : V.cell? ⟨wr.heap.size, 1, none⟩ = some (.int .i64 (kB : Int)) := HPV.cell 1 _ rfl
      have q0 := HTV.cell xA _ hf0
      have q1 := HTV.cell xB _ hf1
      have z0 := HTV.froz xA
      have z1 := HTV.froz xB
      have HT1 := HTV.set xA (.bool true)
      have k1 : Kept (fun g => g = w.heap.size + 1) V (V.setCell ⟨w.heap.size + 1, xA, none⟩ (.bool true)) := Kept.set (S := fun g => g = w.heap.size + 1) _ _ _ _ rfl
      obtain ⟨f2, hf2⟩ := unhide HAT2 j xB xA lB
      have q2 := HT1.cell xB _ hf2
      have z2 := HT1.froz xB
      have HP1 := HPV.kept k1 (by omega)
      have r1 : (V.setCell ⟨w.heap.size + 1, xA, none⟩ (.bool true)).cell? ⟨wr.heap.size, 1, none⟩ = some (.int .i64 (kB : Int)) := HP1.cell 1 _ rfl
      have g2 : (V.setCell ⟨w.heap.size + 1, xA, none⟩ (.bool true)).cell? ⟨b3, off3 + kB, none⟩ = some (.int .i64 (xB : Int)) := ((k1.below (B := w.heap.size + 1) (by have := hbV.size; have := HTV.lt; omega) (fun i hi => by omega)).cell (p := ⟨b3, off3 + kB, none⟩) (by simp; omega)).trans g1
      have HT3 : Hid (Blk ((V.setCell ⟨w.heap.size + 1, xA, none⟩ (.bool true)).setCell ⟨w.heap.size + 1, xB, none⟩ (.bool true)) (w.heap.size + 1) (fm (cF K (M.take (j + 1)))) 100) := by
        show Blk _ _ _ _
        rw [← unhide HS]
        exact HT1.set xB _
      have HR3 : Hid (Blk ((V.setCell ⟨w.heap.size + 1, xA, none⟩ (.bool true)).setCell ⟨w.heap.size + 1, xB, none⟩ (.bool true)) w.heap.size Z 100) := (HRV.set_other (by omega) xA _).set_other (by omega) xB _
      have hb3 : Below w.heap.size w ((V.setCell ⟨w.heap.size + 1, xA, none⟩ (.bool true)).setCell ⟨w.heap.size + 1, xB, none⟩ (.bool true)) := (hbV.setCell (p := ⟨w.heap.size + 1, xA, none⟩) (by simp) _).setCell (p := ⟨w.heap.size + 1, xB, none⟩) (by simp) _
      clear HTV HRV HPV HP1 HT1 k1 bV hf0 hf1 hf2 HS
      go_wp2_with fail
      rw [← hV]
      clear hV c0 c1 d0 d1
      go_region
      go_wp2_with fail
      exact ⟨⟨j + 1, by go_num, by omega, HT3, HR3, hb3.drew⟩, by simp [intOf]; omega⟩
    · have hje : M.take j = M := List.take_of_length_le (by have := unhide HL'; omega)
      rw [hje] at HT
      clear hje
      have HR1 := hide (unhide HT).range
      have HR5 : Hid (wr.there w.heap.size 0 (fm (cF K M)).size) := (unhide HR).there 0 _ (by rw [fm_size, unhide HZ]; omega)
      have hi1 := hide (infoFmL (cF K M))
      have hi2 := hide (infoFmF (cF K M))
      have h1 := hide (fm_one (cF K M))
      have HB : Hid (Blk (wr.setCells w.heap.size 0 (fm (cF K M)).toList) w.heap.size (fm (cF K M)) 100) := by
        have h := Gr.Blk.many (fm (cF K M)).toList 0 (unhide HR)
        rwa [setMany_all _ _ (by rw [fm_size, unhide HZ])] at h
      have HLD := hide (load_fm (unhide HB))
      generalize hC : fm (cF K M) = C at HR1 HR5 hi1 hi2 h1 HLD
      have HCE := hide hC
      clear hC HB
      go_wp2_with (first
        | refine wpList_load_mid rfl 100 _ rfl (w.heap.size + 1) 0 rfl C.toList _ (unhide HR1) Tryz.underlying100 rfl (unhide hi1) ?_
        | refine wpList_store_mid rfl 100 _ _ rfl w.heap.size 0 C rfl rfl (unhide HR5) (unhide hi2) (unhide h1) ?_)
      refine bodyPost_ret (v := .agg C) ?_ rfl ⟨(by rw [unhide HCE]), below_setCells _ _ (Nat.le_refl _) _ _ _ _ hb⟩
      have hld := unhide HLD
      rw [results_cell1 rfl]
      show ((asAddr (Value.pointer (some ⟨w.heap.size, 0, none⟩))).run Tryz.prog _).andThen _ = _
      simp [asAddr, Result.andThen, hld]

/-- The flags of the first ids. -/
def pTo (R : Rgs) (r k : Nat) : Nat → Bool := fun a => if a < k then pF R r a else false

theorem pTo_step (R : Rgs) (r k : Nat) : (fm (pTo R r k)).setIfInBounds k (.bool (pF R r k)) = fm (pTo R r (k + 1)) := by
  rw [fm_set]
  refine fm_congr (fun j _ => ?_)
  unfold pTo
  by_cases h : j = k
  · subst h; simp
  · have : j < k + 1 ↔ j < k := by omega
    simp [h, this]

theorem pTo_end (R : Rgs) (r : Nat) : fm (pTo R r 12) = fm (pF R r) := fm_congr (fun j hj => by unfold pTo; simp [hj])

/-- The cells of what became of the ids. -/
def memC (R : Rgs) : Array Value := ((List.range 24).map (cellR R undef)).toArray

theorem memC_size (R : Rgs) : (memC R).size = 24 := by unfold memC; simp

theorem memC_at (R : Rgs) (v : Value) (i : Nat) (h : i < 24) : (regC R v)[0 + i]? = (memC R)[i]? := by
  rw [Nat.zero_add, regC_at _ _ _ (by omega)]
  unfold memC
  simp only [List.getElem?_toArray, List.getElem?_map, List.getElem?_range h, Option.map_some]
  unfold cellR
  rw [if_pos h, if_pos h]

theorem infoMem : (Tryz.prog.info? 64).map (·.size) = some 24 := by kernel_rfl

theorem infoMemL (R : Rgs) : (Tryz.prog.info? 64).map (·.size) = some (memC R).toList.length := by rw [Array.length_toList, memC_size]; exact infoMem

theorem index_mem (R : Rgs) (W : World) : ∀ k : Nat, k < 12 → (Instr.index 64 (.agg (memC R)) (.int .i64 (k : Int))).run Tryz.prog W = .ok (.agg #[.int .i64 (((R.mem k).1 : Nat) : Int), .int .i64 (((R.mem k).2 : Nat) : Int)]) W
  | 0, _ => by kernel_rfl
  | 1, _ => by kernel_rfl
  | 2, _ => by kernel_rfl
  | 3, _ => by kernel_rfl
  | 4, _ => by kernel_rfl
  | 5, _ => by kernel_rfl
  | 6, _ => by kernel_rfl
  | 7, _ => by kernel_rfl
  | 8, _ => by kernel_rfl
  | 9, _ => by kernel_rfl
  | 10, _ => by kernel_rfl
  | 11, _ => by kernel_rfl
  | k + 12, h => absurd h (by omega)

set_option maxRecDepth 100000 in
set_option maxHeartbeats 2000000 in
theorem paired_any (B g : Nat) (R : Rgs) (r : Nat) (w : World) (hR : RegAt w B g R) (hg : g < w.heap.size) :
    Calls Tryz.prog 45 #[.pointer (some ⟨g, 0, none⟩), .int .i64 (r : Int)] w fun e w' => e = .returned (.agg (fm (pF R r))) ∧ Below w.heap.size w w' := by
  obtain ⟨_, v, vs, hk, _⟩ := hR
  have HP0 : Hid (∀ W, Below w.heap.size w W → W.rangeAt g 0 (memC R).toList) := fun W hb => Gr.Blk.part ((hb.block g hg).trans hk : Blk W g _ _) 0 (memC R) (fun j hj => memC_at R v j (by rw [memC_size] at hj; exact hj))
  have hiM := hide (infoMemL R)
  have HIX := hide (index_mem R)
  have HST := hide (fun k => pTo_step R r k)
  have HEND := hide (pTo_end R r)
  have HAT : Hid (∀ (j k : Nat), k < 12 → ∃ b : Bool, (fm (pTo R r j))[k]? = some (.bool b)) := fun j k h => ⟨_, fm_at _ k h⟩
  have hzv := zero_fm
  have HZ : Hid (Array.size (fm fun _ => false) = 12) := fm_size _
  have H0 : Hid ((fm fun _ => false) = fm (pTo R r 0)) := fm_congr (fun j _ => by unfold pTo; simp)
  generalize (fm fun _ => false) = Z at hzv HZ H0
  obtain ⟨C, hC⟩ : ∃ C, C = memC R := ⟨_, rfl⟩
  rw [← hC] at HP0 hiM HIX
  have HCE := hide hC
  clear hC hk
  go_enter Tryz.func45, Tryz.ntmps45
  obtain ⟨V2, hV2⟩ : ∃ W, W = (w.alloc (Obj.cells Z 100)).alloc (Obj.cells Z 100) := ⟨_, rfl⟩
  have b2 : Below w.heap.size w V2 := by rw [hV2]; exact (below_new _ _).alloc (by simp) _
  have HR2 : Hid (Blk V2 w.heap.size Z 100) := by show Blk _ _ _ _; rw [hV2]; exact Gr.Blk.new0.alloc
  have HT2 : Hid (Blk V2 (w.heap.size + 1) (fm (pTo R r 0)) 100) := by show Blk _ _ _ _; rw [← unhide H0, hV2]; exact Gr.Blk.new1
  have hrg := hide (unhide HP0 V2 b2)
  rw [hV2] at hrg
  go_wp2_with (refine wpList_load_mid rfl 64 _ rfl g 0 rfl C.toList _ (unhide hrg) Tryz.underlying64 rfl (unhide hiM) ?_)
  rw [← hV2]
  clear hV2 H0 hrg
  go_loopw [12] (fun i wr => ∃ j : Nat, i = .int .i64 (j : Int) ∧ j ≤ 12 ∧ Hid (Blk wr (w.heap.size + 1) (fm (pTo R r j)) 100) ∧ Hid (Blk wr w.heap.size Z 100) ∧ Below w.heap.size w wr) (fun i _ => 12 - (intOf i).toNat)
  case atStart => exact ⟨0, rfl, Nat.zero_le _, HT2, HR2, b2⟩
  case round =>
    obtain ⟨j, rfl, hj, HT, HR, hb⟩ := hrel
    by_cases hlt : j < 12
    · have hji : (j : Int) < 12 := by omega
      have hix := fun W => unhide HIX W j hlt
      obtain ⟨m1, hm1⟩ : ∃ m : Int, m = (((R.mem j).1 : Nat) : Int) := ⟨_, rfl⟩
      obtain ⟨m2, hm2⟩ : ∃ m : Int, m = (((R.mem j).2 : Nat) : Int) := ⟨_, rfl⟩
      rw [← hm1, ← hm2] at hix
      have HS := hide (unhide HST j)
      have hpf : pF R r j = ((m1 == 3) && (m2 == (r : Int))) := by
        unfold pF
        rw [Bool.eq_iff_iff, decide_eq_true_eq, Bool.and_eq_true, beq_iff_eq, beq_iff_eq, hm1, hm2]
        constructor
        · intro e; rw [e]; exact ⟨rfl, rfl⟩
        · intro e; exact Prod.ext (by omega) (by omega)
      rw [hpf] at HS
      obtain ⟨f0, hf0⟩ := unhide HAT j j hlt
      clear hm1 hm2 hpf
      have q0 := (unhide HT).cell j _ hf0
      have z0 := (unhide HT).froz j
      have hgt : w.heap.size + 1 < wr.heap.size := (unhide HT).lt
      have HSET : Hid (∀ b, b = ((m1 == 3) && (m2 == (r : Int))) → ∀ o, Blk ((wr.setCell ⟨w.heap.size + 1, j, none⟩ (.bool b)).alloc o) (w.heap.size + 1) (fm (pTo R r (j + 1))) 100 ∧ Blk ((wr.setCell ⟨w.heap.size + 1, j, none⟩ (.bool b)).alloc o) w.heap.size Z 100 ∧ Below w.heap.size w ((wr.setCell ⟨w.heap.size + 1, j, none⟩ (.bool b)).alloc o)) := fun b hbe o => by
        subst hbe
        refine ⟨?_, ((unhide HR).set_other (by omega) j _).alloc, ?_⟩
        · rw [← unhide HS]
          exact ((unhide HT).set j _).alloc
        · have h := hb.setCell (p := ⟨w.heap.size + 1, j, none⟩) (by simp) (.bool ((m1 == 3) && (m2 == (r : Int))))
          exact h.alloc h.size _
      clear hf0 HS
      by_cases e1 : m1 = 3
      · subst e1
        by_cases e2 : m2 = (r : Int)
        · subst e2
          go_wp2_with fail
          obtain ⟨x1, x2, x3⟩ := unhide HSET true (by simp) _
          exact ⟨⟨j + 1, by go_num, by omega, x1, x2, x3⟩, by simp [intOf]; omega⟩
        · have e3 : (m2 == (r : Int)) = false := by simp [e2]
          go_wp2_with fail
          obtain ⟨x1, x2, x3⟩ := unhide HSET false (by simp [e2]) _
          exact ⟨⟨j + 1, by go_num, by omega, x1, x2, x3⟩, by simp [intOf]; omega⟩
      · have e3 : (m1 == 3) = false := by simp [e1]
        go_wp2_with fail
        obtain ⟨x1, x2, x3⟩ := unhide HSET false (by simp [e1]) _
        exact ⟨⟨j + 1, by go_num, by omega, x1, x2, x3⟩, by simp [intOf]; omega⟩
    · have hje : j = 12 := by omega
      rw [hje, unhide HEND] at HT
      clear hje
      have HR1 := hide (unhide HT).range
      have HR5 : Hid (wr.there w.heap.size 0 (fm (pF R r)).size) := (unhide HR).there 0 _ (by rw [fm_size, unhide HZ]; omega)
      have hi1 := hide (infoFmL (pF R r))
      have hi2 := hide (infoFmF (pF R r))
      have h1 := hide (fm_one (pF R r))
      have HB : Hid (Blk (wr.setCells w.heap.size 0 (fm (pF R r)).toList) w.heap.size (fm (pF R r)) 100) := by
        have h := Gr.Blk.many (fm (pF R r)).toList 0 (unhide HR)
        rwa [setMany_all _ _ (by rw [fm_size, unhide HZ])] at h
      have HLD := hide (load_fm (unhide HB))
      generalize hC : fm (pF R r) = D at HR1 HR5 hi1 hi2 h1 HLD
      have HDE := hide hC
      clear hC HB
      have hjn : ¬ (j : Int) < 12 := by omega
      go_wp2_with (first
        | refine wpList_load_mid rfl 100 _ rfl (w.heap.size + 1) 0 rfl D.toList _ (unhide HR1) Tryz.underlying100 rfl (unhide hi1) ?_
        | refine wpList_store_mid rfl 100 _ _ rfl w.heap.size 0 D rfl rfl (unhide HR5) (unhide hi2) (unhide h1) ?_)
      refine bodyPost_ret (v := .agg D) ?_ rfl ⟨(by rw [unhide HDE]), below_setCells _ _ (Nat.le_refl _) _ _ _ _ hb⟩
      have hld := unhide HLD
      rw [results_cell1 rfl]
      show ((asAddr (Value.pointer (some ⟨w.heap.size, 0, none⟩))).run Tryz.prog _).andThen _ = _
      simp [asAddr, Result.andThen, hld]

set_option maxRecDepth 100000 in
set_option maxHeartbeats 2000000 in
theorem isBest_any (B : Nat) (v : Value) (s : Int) (Q : List Gr.EdgeI) (u : Value) (M : List Gr.CoupleI) (h1 : Q.length ≤ 1048576) (h2 : M.length ≤ 1048576) (hm : Gr.matchOk s Q M = true) (hbs : Gr.sumsR s Q M = Gr.bestR s Q) (w : World) (hB : B ≤ w.heap.size) (hv : Gr.GrAt w v B s Q) (hu : Gr.CoAt w u B M) :
    Calls Tryz.prog 44 #[v, u] w fun e w' => e = .returned (.bool true) ∧ Below w.heap.size w w' := by
  have SU := hide (fun w1 (hb : Below w.heap.size w w1) => Gr.implSumsOf_gen B v s Q u M h1 h2 w1 (by have := hb.size; omega) (hv.below hb hB) (hu.below hb hB))
  have BE := hide (fun w1 (hb : Below w.heap.size w w1) => Gr.implBestSums_gen B v s Q h1 w1 (by have := hb.size; omega) (hv.below hb hB))
  rw [hm] at SU
  rw [← hbs] at BE
  generalize Gr.sumsR s Q M = x at SU BE
  generalize Gr.graphOk s Q = gk at BE
  obtain ⟨a, n, c, rfl, _⟩ := hv
  obtain ⟨a', c', rfl, _⟩ := hu
  clear h1 h2 hm hbs
  generalize M.length = n' at SU
  go_enter Tryz.func44, Tryz.ntmps44
  go_wp2_with fail
  obtain ⟨V1, hV1⟩ : ∃ W, W = w.alloc (Obj.cells #[Value.int .i64 s, Value.slice a n c] 36) := ⟨_, rfl⟩
  rw [← hV1]
  have b1 : Below w.heap.size w V1 := by rw [hV1]; exact below_new _ _
  have x1 : Blk V1 w.heap.size #[Value.int .i64 s, Value.slice a n c] 36 := by rw [hV1]; exact Gr.Blk.new0
  clear hV1
  refine (unhide SU V1 b1).mono ?_
  rintro e w2 ⟨⟨d, rfl, hd⟩, hb2⟩
  unfold Gr.SuOwn at hd
  subst hd
  unfold Gr.SumsI.v
  have b2 := b1.trans (hb2.mono b1.size)
  have x2 := x1.below hb2
  have c0 : w2.cell? ⟨w.heap.size, 0, none⟩ = some (.int .i64 s) := x2.cell 0 _ rfl
  have c1 : w2.cell? ⟨w.heap.size, 1, none⟩ = some (.slice a n c) := x2.cell 1 _ rfl
  have hlt := x2.lt
  clear hb2 x1 b1
  go_wp2_with fail
  obtain ⟨V3, hV3⟩ : ∃ W, W = w2.alloc (Obj.cells #[Value.int .i64 x.W1, Value.int .i64 x.W2, Value.int .i64 x.W3] 46) := ⟨_, rfl⟩
  rw [← hV3]
  have b3 : Below w.heap.size w V3 := by rw [hV3]; exact b2.alloc b2.size _
  have x3 : Blk V3 w2.heap.size #[Value.int .i64 x.W1, Value.int .i64 x.W2, Value.int .i64 x.W3] 46 := by rw [hV3]; exact Gr.Blk.new0
  clear hV3 c0 c1
  refine (unhide BE V3 b3).mono ?_
  rintro e w4 ⟨⟨d, rfl, hd⟩, hb4⟩
  unfold Gr.SuOwn at hd
  subst hd
  unfold Gr.SumsI.v
  have b4 := b3.trans (hb4.mono b3.size)
  have x4 := x3.below hb4
  have c0 : w4.cell? ⟨w2.heap.size, 0, none⟩ = some (.int .i64 x.W1) := x4.cell 0 _ rfl
  have c1 : w4.cell? ⟨w2.heap.size, 1, none⟩ = some (.int .i64 x.W2) := x4.cell 1 _ rfl
  have c2 : w4.cell? ⟨w2.heap.size, 2, none⟩ = some (.int .i64 x.W3) := x4.cell 2 _ rfl
  have hlt4 := x4.lt
  clear hb4 x3 b3
  go_wp2
  go_ret
  exact ⟨rfl, b4.alloc b4.size _⟩

end Rg
end Go.Proofs.YtjciccjcekcogaaGreatDoor
