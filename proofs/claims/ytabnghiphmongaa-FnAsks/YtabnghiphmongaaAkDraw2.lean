/-
  The contract of spec.l13Ask: some ask.
-/
import Derived.Test.YtabnghiphmongaaAkDraw
namespace Go.Proofs.Ytabnghiphmongaa
namespace Gr
open Go.RowKit

theorem ids_near (Q : Rg.PL) : ∀ y ∈ Rg.idsP [97] Q, nr y := by
  induction Q with
  | nil => intro y hy; simp [Rg.idsP] at hy
  | cons q Q ih =>
    intro y hy
    rw [Rg.idsP] at hy
    split at hy
    · rcases List.mem_cons.1 hy with rfl | hy
      · unfold Rg.oN nr
        cases h : Rg.numP (q.1.extract 1 q.1.size) with
        | none => simp
        | some n =>
          have := Rg.numP_le h
          simp
          omega
      · exact ih y hy
    · exact ih y hy

set_option maxRecDepth 100000 in
set_option maxHeartbeats 1000000 in
theorem l13Ask_any (a : Option Addr) (len cap g B : Nat) (hl : len ≤ 1048576) (hB : B ≤ g) (am : Option Addr) (mlen mcap Bm : Nat) (Q : Rg.PL) (hml : mlen ≤ 1048576) (hk : ∀ q ∈ Q, 1 ≤ q.1.size ∧ q.1.size ≤ 8) (w : World) (hc : CC a len cap g B w) (hBm : Bm ≤ w.heap.size) (hs : Tr.PairsAt w am mlen Bm Q) (hm : ∀ b off, am = some ⟨b, off, none⟩ → b ≠ g) :
    Calls Try.prog 26 #[.pointer (some ⟨g, 0, none⟩), .slice am mlen mcap] w fun e w' => (∃ x : AskI, e = .returned x.v ∧ okA x) ∧ CC a len cap g B w' ∧ Kept (fun k => k = g) w w' := by
  have hg := hc.lt
  have IDS := hide (fun w1 (hk1 : Kept (fun k => k = g) w w1) => Rg.ids_here am mlen mcap Bm Q hml hk w1 (by have := hk1.2.2.2.1; omega) (⟨hs.1, fun j hj => by
    obtain ⟨b, off, e, hbB, c0, c1⟩ := hs.2 j hj
    have hne := hm b off e
    have hh := hk1.2.2.2.2 b (by omega) hne
    refine ⟨b, off, e, hbB, ?_, ?_⟩
    · rw [show w1.cell? ⟨b, off + j * 2, none⟩ = w.cell? ⟨b, off + j * 2, none⟩ by unfold World.cell?; simp only; rw [hh]]; exact c0
    · rw [show w1.cell? ⟨b, off + j * 2 + 1, none⟩ = w.cell? ⟨b, off + j * 2 + 1, none⟩ by unfold World.cell?; simp only; rw [hh]]; exact c1⟩))
  have PK := hide (fun b C L h1 h2 h3 hb w1 hc1 hx => pick_list a len cap g B b C L h1 h2 h3 hl hB hb w1 hc1 hx)
  have BL := hide (fun n h0 w1 hc1 => below_cc a len cap g B n hl hB h0 w1 hc1)
  have HN := hide (ids_near Q)
  have hnb : (Rg.idsP [97] Q).length ≤ 1048576 := by have := Rg.ids_short [97] Q; have := hs.1; omega
  have HCC := hide hc
  clear hs hm hk hc
  go_enter Try.func26, Try.ntmps26
  go_wp2_with fail
  have P11 : Hid (∀ b w1, b ≠ g → CC a len cap g B w1 → Blk w1 b #[.int .i64 1, .int .i64 1, .int .i64 2, .int .i64 2, .int .i64 2, .int .i64 2, .int .i64 2, .int .i64 3, .int .i64 4, .int .i64 5, .int .i64 6] 3 → Calls Try.prog 28 #[.pointer (some ⟨g, 0, none⟩), .slice (some ⟨b, 0, none⟩) 11 11] w1 fun e w' => (∃ x, e = .returned (.int .i64 x) ∧ nr x) ∧ CC a len cap g B w' ∧ Kept (fun k => k = g) w1 w') := fun b w1 hb hc1 hx => by
    refine (unhide PK b _ [1, 1, 2, 2, 2, 2, 2, 3, 4, 5, 6] (by simp) (by simp) (fun j hj => by
      have : j < 11 := hj
      match j, this with
      | 0, _ => rfl
      | 1, _ => rfl
      | 2, _ => rfl
      | 3, _ => rfl
      | 4, _ => rfl
      | 5, _ => rfl
      | 6, _ => rfl
      | 7, _ => rfl
      | 8, _ => rfl
      | 9, _ => rfl
      | 10, _ => rfl) hb w1 hc1 hx).mono ?_
    rintro e w' ⟨⟨x, rfl, hx⟩, h⟩
    exact ⟨⟨x, rfl, by simp at hx; unfold nr; omega⟩, h⟩
  have P2 : Hid (∀ b w1, b ≠ g → CC a len cap g B w1 → Blk w1 b #[.int .i64 3, .int .i64 51] 3 → Calls Try.prog 28 #[.pointer (some ⟨g, 0, none⟩), .slice (some ⟨b, 0, none⟩) 2 2] w1 fun e w' => (∃ x, e = .returned (.int .i64 x) ∧ 1 ≤ x ∧ x ≤ 1000) ∧ CC a len cap g B w' ∧ Kept (fun k => k = g) w1 w') := fun b w1 hb hc1 hx => by
    refine (unhide PK b _ [3, 51] (by simp) (by simp) (fun j hj => by
      have : j < 2 := hj
      match j, this with
      | 0, _ => rfl
      | 1, _ => rfl) hb w1 hc1 hx).mono ?_
    rintro e w' ⟨⟨x, rfl, hx⟩, h⟩
    exact ⟨⟨x, rfl, by simp at hx; omega⟩, h⟩
  have P4 : Hid (∀ b w1, b ≠ g → CC a len cap g B w1 → Blk w1 b #[.int .i64 (-1), .int .i64 11, .int .i64 12, .int .i64 3] 3 → Calls Try.prog 28 #[.pointer (some ⟨g, 0, none⟩), .slice (some ⟨b, 0, none⟩) 4 4] w1 fun e w' => (∃ x, e = .returned (.int .i64 x) ∧ -1 ≤ x ∧ x ≤ 1000) ∧ CC a len cap g B w' ∧ Kept (fun k => k = g) w1 w') := fun b w1 hb hc1 hx => by
    refine (unhide PK b _ [-1, 11, 12, 3] (by simp) (by simp) (fun j hj => by
      have : j < 4 := hj
      match j, this with
      | 0, _ => rfl
      | 1, _ => rfl
      | 2, _ => rfl
      | 3, _ => rfl) hb w1 hc1 hx).mono ?_
    rintro e w' ⟨⟨x, rfl, hx⟩, h⟩
    exact ⟨⟨x, rfl, by simp at hx; omega⟩, h⟩
  have P3 : Hid (∀ b w1, b ≠ g → CC a len cap g B w1 → Blk w1 b #[.int .i64 (-1), .int .i64 50, .int .i64 51] 3 → Calls Try.prog 28 #[.pointer (some ⟨g, 0, none⟩), .slice (some ⟨b, 0, none⟩) 3 3] w1 fun e w' => (∃ x, e = .returned (.int .i64 x) ∧ -1 ≤ x ∧ x ≤ 1000) ∧ CC a len cap g B w' ∧ Kept (fun k => k = g) w1 w') := fun b w1 hb hc1 hx => by
    refine (unhide PK b _ [-1, 50, 51] (by simp) (by simp) (fun j hj => by
      have : j < 3 := hj
      match j, this with
      | 0, _ => rfl
      | 1, _ => rfl
      | 2, _ => rfl) hb w1 hc1 hx).mono ?_
    rintro e w' ⟨⟨x, rfl, hx⟩, h⟩
    exact ⟨⟨x, rfl, by simp at hx; omega⟩, h⟩
  have P07 : Hid (∀ b w1, b ≠ g → CC a len cap g B w1 → Blk w1 b #[.int .i64 0, .int .i64 7] 3 → Calls Try.prog 28 #[.pointer (some ⟨g, 0, none⟩), .slice (some ⟨b, 0, none⟩) 2 2] w1 fun e w' => (∃ x, e = .returned (.int .i64 x) ∧ -1 ≤ x ∧ x ≤ 1000) ∧ CC a len cap g B w' ∧ Kept (fun k => k = g) w1 w') := fun b w1 hb hc1 hx => by
    refine (unhide PK b _ [0, 7] (by simp) (by simp) (fun j hj => by
      have : j < 2 := hj
      match j, this with
      | 0, _ => rfl
      | 1, _ => rfl) hb w1 hc1 hx).mono ?_
    rintro e w' ⟨⟨x, rfl, hx⟩, h⟩
    exact ⟨⟨x, rfl, by simp at hx; omega⟩, h⟩
  obtain ⟨V, hV⟩ : ∃ W, W = (w.alloc (Obj.cells #[Value.int .i64 0, Value.int .i64 0, Value.int .i64 0, Value.int .i64 0, Value.int .i64 0, Value.int .i64 0] 26)).alloc (Obj.cells #[.int .i64 1, .int .i64 1, .int .i64 2, .int .i64 2, .int .i64 2, .int .i64 2, .int .i64 2, .int .i64 3, .int .i64 4, .int .i64 5, .int .i64 6] 3) := ⟨_, rfl⟩
  rw [← hV]
  have hVc : CC a len cap g B V := by rw [hV]; exact ((unhide HCC).alloc hB _).alloc hB _
  have hVb : Blk V (w.heap.size + 1) #[.int .i64 1, .int .i64 1, .int .i64 2, .int .i64 2, .int .i64 2, .int .i64 2, .int .i64 2, .int .i64 3, .int .i64 4, .int .i64 5, .int .i64 6] 3 := by rw [hV]; exact Blk.new1
  have hVr : Blk V w.heap.size akZ 26 := by rw [hV]; exact Blk.new0.alloc
  have hVk : Kept (fun k => k = g) w V := by rw [hV]; exact Kept.of_below ((below_new _ _).alloc (by simp) _)
  have hVs : w.heap.size + 1 < V.heap.size := hVb.lt
  clear hV
  refine (unhide P11 (w.heap.size + 1) V (by omega) hVc hVb).mono ?_
  rintro e w1 ⟨⟨x0, rfl, hx0⟩, hc1, hk1⟩
  have hr1 := hVr.kept hk1 (by omega)
  have hkw1 := hVk.trans hk1
  have hs1 := hk1.2.2.2.1
  clear hVc hVb hVr hVk P11
  go_wp2_with fail
  obtain ⟨X, hX⟩ : ∃ X, X = w1.heap.size := ⟨_, rfl⟩
  obtain ⟨U, hU⟩ : ∃ W, W = w1.alloc (Obj.cells #[Value.int .i64 x0, Value.int .i64 0, Value.int .i64 0, Value.int .i64 0, Value.int .i64 0, Value.int .i64 0] 26) := ⟨_, rfl⟩
  rw [← hU, ← hX]
  have hUQ : AQ a len cap g B w X U := by
    rw [hU, hX]
    exact ⟨by omega, ⟨⟨x0, 0, 0, 0, 0, 0⟩, ⟨hx0, by unfold nr; simp, by unfold nr; simp, by unfold nr; simp, by unfold nr; simp, by unfold nr; simp⟩, Blk.new0⟩, hr1.alloc, hc1.alloc hB _, hkw1.trans (Kept.of_below (below_new _ _))⟩
  have hUk : Kept (fun k => k = g) w U := hUQ.2.2.2.2
  have hXU : X < U.heap.size := hUQ.size
  have hgX : g < X := by omega
  have hwX : w.heap.size < X := by omega
  clear hU hX hr1 hc1 hk1 hkw1 hs1
  refine (unhide IDS U hUk).mono ?_
  rintro e w2 ⟨⟨d, rfl, hO⟩, hb2⟩
  have hQ2 := hUQ.below hB hb2
  have hR2 : RowQ X w2 d (Rg.idsP [97] Q).length := RowQ.of_own hO hXU (unhide HN)
  generalize (Rg.idsP [97] Q).length = n at hR2 hnb
  obtain ⟨ad, cd, rfl, hR3⟩ := hR2
  have HQ := hide hQ2
  have HR : Hid (RowQ X w2 (.slice ad n cd) n) := ⟨ad, cd, rfl, hR3⟩
  clear hO hb2 hQ2 hR3 hUQ hUk IDS
  have q0 := (unhide HQ).cell 0 (by omega)
  obtain ⟨⟨y0, hy0, c0⟩, _⟩ := q0
  have HY0 := hide hy0
  clear hy0
  go_upto_block 0 with fail
  clear c0
  go_cut [5] (fun p wx => p = .pointer (some ⟨X, 0, none⟩) ∧ Hid (AQ a len cap g B w X wx))
  case first =>
    have fin : ∀ W, Hid (AQ a len cap g B w X W) → (Value.pointer (some ⟨X, 0, none⟩) = .pointer (some ⟨X, 0, none⟩) ∧ Hid (AQ a len cap g B w X W)) := fun W h => ⟨rfl, h⟩
    by_cases k1 : y0 = 1
    · subst k1
      go_wp2_with fail
      refine (unhide BL 12 (by omega) _ (unhide HQ).cc).mono ?_
      rintro e w3 ⟨⟨y3, rfl, hy3, hz3⟩, hc3, hk3⟩
      have hQ3 := (unhide HQ).drawn hg hc3 hk3
      obtain ⟨⟨z3, _, cz3⟩, fz3⟩ := hQ3.cell 1 (by omega)
      have HQ3 := hide (hQ3.set hB hg 1 (by omega) y3 ⟨by omega, by omega⟩)
      clear hQ3 hc3 hk3
      go_wp2_with fail
      go_meet
      exact ⟨rfl, HQ3⟩
    have e1 : (y0 == 1) = false := by simp; exact k1
    by_cases k2 : y0 = 2
    · subst k2
      by_cases kn : 1 < n
      · have kn' : (1 : Int) < (n : Int) := by omega
        go_wp2_with fail
        refine (unhide BL (n : Int) (by omega) _ (unhide HQ).cc).mono ?_
        rintro e w3 ⟨⟨i3, rfl, hi3, hj3⟩, hc3, hk3⟩
        obtain ⟨iN, rfl⟩ := Int.eq_ofNat_of_zero_le hi3
        have hQ3 := (unhide HQ).drawn hg hc3 hk3
        have hR3 := (unhide HR).kept hk3 hgX
        obtain ⟨ad', cd', hv3, hr3⟩ := hR3
        obtain ⟨rfl, rfl⟩ : ad = ad' ∧ cd = cd' := by simpa using hv3
        obtain ⟨b3, C3, rfl, hXb, hB3, yy, hyy, hCy⟩ := hr3 iN (by omega)
        have cR : w3.cell? ⟨b3, iN, none⟩ = some (.int .i64 yy) := hB3.cell iN _ hCy
        obtain ⟨⟨z3, _, cz3⟩, fz3⟩ := hQ3.cell 1 (by omega)
        have HQ3 := hide (hQ3.set hB hg 1 (by omega) yy hyy)
        have HR3 : Hid (RowQ X (w3.setCell ⟨X, 1, none⟩ (.int .i64 yy)) (.slice (some ⟨b3, 0, none⟩) n cd) n) := RowQ.set ⟨_, _, rfl, hr3⟩ _ _
        have hxb3 : b3 ≠ X := by omega
        clear hQ3 hc3 hk3 hr3 hB3 hCy HQ HR hv3
        go_upto_region 10 with fail
        obtain ⟨N3, hN3⟩ : ∃ W, W = w3.setCell ⟨X, 1, none⟩ (.int .i64 yy) := ⟨_, rfl⟩
        rw [← hN3] at HQ3 HR3 ⊢
        clear hN3 cz3 fz3 cR
        go_wp2_with fail
        refine (unhide BL ((n : Int) - 1) (by omega) _ (unhide HQ3).cc).mono ?_
        rintro e w4 ⟨⟨i4, rfl, hi4, hj4⟩, hc4, hk4⟩
        have hQ4 := (unhide HQ3).drawn hg hc4 hk4
        obtain ⟨ad4, cd4, hv4, hr4⟩ := (unhide HR3).kept hk4 hgX
        obtain ⟨rfl, rfl⟩ : some ⟨b3, 0, none⟩ = ad4 ∧ cd = cd4 := by simpa using hv4
        obtain ⟨m4, hm4⟩ : ∃ m : Nat, (m : Int) = ((iN : Int) + 1 + i4) % (n : Int) := ⟨(((iN : Int) + 1 + i4) % (n : Int)).toNat, by have := Int.emod_nonneg ((iN : Int) + 1 + i4) (show (n : Int) ≠ 0 by omega); omega⟩
        have hm4n : m4 < n := by have := Int.emod_lt_of_pos ((iN : Int) + 1 + i4) (show (0 : Int) < (n : Int) by omega); omega
        obtain ⟨b4, C4, hb4, hXb4, hB4, y4, hy4, hC4⟩ := hr4 m4 hm4n
        obtain rfl : b3 = b4 := by simpa using hb4
        have cR : w4.cell? ⟨b3, m4, none⟩ = some (.int .i64 y4) := hB4.cell m4 _ hC4
        obtain ⟨⟨z4, _, cz4⟩, fz4⟩ := hQ4.cell 2 (by omega)
        have HQ4 := hide (hQ4.set hB hg 2 (by omega) y4 hy4)
        have hmod : (((iN : Int) + 1 + i4) % (n : Int)) = (m4 : Int) := hm4.symm
        have hmod2 : (((iN : Int) + 1 + i4).tmod (n : Int)) = (m4 : Int) := by rw [Int.tmod_eq_emod_of_nonneg (by omega)]; exact hmod
        have hm0 : (0 : Int) ≤ (m4 : Int) := by omega
        have hm1 : (m4 : Int) < (n : Int) := by omega
        clear hQ4 hc4 hk4 hr4 hB4 hC4 HQ3 HR3 hv4 hb4 hm4
        go_upto_region 11 with fail
        obtain ⟨N4, hN4⟩ : ∃ W, W = w4.setCell ⟨X, 2, none⟩ (.int .i64 y4) := ⟨_, rfl⟩
        rw [← hN4] at HQ4 ⊢
        clear hN4 cz4 fz4 cR
        go_wp2_with fail
        obtain ⟨Vp, hVp⟩ : ∃ W, W = World.alloc N4 (Obj.cells #[Value.int .i64 3, Value.int .i64 51] 3) := ⟨_, rfl⟩
        rw [← hVp]
        have HQpa : Hid (AQ a len cap g B w X Vp) := by show AQ _ _ _ _ _ _ _ _; rw [hVp]; exact (unhide HQ4).alloc hB _
        have hBp : Blk Vp (World.heap N4).size #[Value.int .i64 3, Value.int .i64 51] 3 := by rw [hVp]; exact Blk.new0
        have hnp : (World.heap N4).size ≠ g := by have := (unhide HQ4).size; omega
        clear hVp
        refine (unhide P2 _ _ hnp (unhide HQpa).cc hBp).mono ?_
        rintro e Wpa ⟨⟨mop, rfl, hmop⟩, hcpa, hkpa⟩
        have HQpb := hide ((unhide HQpa).drawn hg hcpa hkpa)
        clear hBp hnp hcpa hkpa HQpa
        go_wp2_with fail
        refine (unhide BL mop (by omega) _ (unhide HQpb).cc).mono ?_
        rintro e Wpc ⟨⟨ypc, rfl, hypc, hzpc⟩, hcpc, hkpc⟩
        have hQpc := (unhide HQpb).drawn hg hcpc hkpc
        obtain ⟨⟨zpc, _, czpc⟩, fzpc⟩ := hQpc.cell 3 (by omega)
        have HQpc := hide (hQpc.set hB hg 3 (by omega) ypc ⟨by omega, by omega⟩)
        clear hQpc hcpc hkpc HQpb
        go_upto_region 13 with fail
        obtain ⟨Npc, hNpc⟩ : ∃ W, W = Wpc.setCell ⟨X, 3, none⟩ (.int .i64 ypc) := ⟨_, rfl⟩
        rw [← hNpc] at HQpc ⊢
        clear hNpc czpc fzpc
        go_wp2_with fail
        refine (unhide BL mop (by omega) _ (unhide HQpc).cc).mono ?_
        rintro e Wpd ⟨⟨ypd, rfl, hypd, hzpd⟩, hcpd, hkpd⟩
        have hQpd := (unhide HQpc).drawn hg hcpd hkpd
        obtain ⟨⟨zpd, _, czpd⟩, fzpd⟩ := hQpd.cell 4 (by omega)
        have HQpd := hide (hQpd.set hB hg 4 (by omega) ypd ⟨by omega, by omega⟩)
        clear hQpd hcpd hkpd HQpc
        go_upto_region 14 with fail
        obtain ⟨Npd, hNpd⟩ : ∃ W, W = Wpd.setCell ⟨X, 4, none⟩ (.int .i64 ypd) := ⟨_, rfl⟩
        rw [← hNpd] at HQpd ⊢
        clear hNpd czpd fzpd
        go_wp2_with fail
        refine (unhide BL mop (by omega) _ (unhide HQpd).cc).mono ?_
        rintro e Wpe ⟨⟨ype, rfl, hype, hzpe⟩, hcpe, hkpe⟩
        have hQpe := (unhide HQpd).drawn hg hcpe hkpe
        obtain ⟨⟨zpe, _, czpe⟩, fzpe⟩ := hQpe.cell 5 (by omega)
        have HQpe := hide (hQpe.set hB hg 5 (by omega) ype ⟨by omega, by omega⟩)
        clear hQpe hcpe hkpe HQpd
        go_wp2_with fail
        go_meet
        exact ⟨rfl, HQpe⟩
      · have kn' : ¬ (1 : Int) < (n : Int) := by omega
        go_wp2_with fail
        obtain ⟨Vq, hVq⟩ : ∃ W, W = World.alloc w2 (Obj.cells #[Value.int .i64 3, Value.int .i64 51] 3) := ⟨_, rfl⟩
        rw [← hVq]
        have HQqa : Hid (AQ a len cap g B w X Vq) := by show AQ _ _ _ _ _ _ _ _; rw [hVq]; exact (unhide HQ).alloc hB _
        have hBq : Blk Vq (World.heap w2).size #[Value.int .i64 3, Value.int .i64 51] 3 := by rw [hVq]; exact Blk.new0
        have hnq : (World.heap w2).size ≠ g := by have := (unhide HQ).size; omega
        clear hVq
        refine (unhide P2 _ _ hnq (unhide HQqa).cc hBq).mono ?_
        rintro e Wqa ⟨⟨moq, rfl, hmoq⟩, hcqa, hkqa⟩
        have HQqb := hide ((unhide HQqa).drawn hg hcqa hkqa)
        clear hBq hnq hcqa hkqa HQqa
        go_wp2_with fail
        refine (unhide BL moq (by omega) _ (unhide HQqb).cc).mono ?_
        rintro e Wqc ⟨⟨yqc, rfl, hyqc, hzqc⟩, hcqc, hkqc⟩
        have hQqc := (unhide HQqb).drawn hg hcqc hkqc
        obtain ⟨⟨zqc, _, czqc⟩, fzqc⟩ := hQqc.cell 3 (by omega)
        have HQqc := hide (hQqc.set hB hg 3 (by omega) yqc ⟨by omega, by omega⟩)
        clear hQqc hcqc hkqc HQqb
        go_upto_region 13 with fail
        obtain ⟨Nqc, hNqc⟩ : ∃ W, W = Wqc.setCell ⟨X, 3, none⟩ (.int .i64 yqc) := ⟨_, rfl⟩
        rw [← hNqc] at HQqc ⊢
        clear hNqc czqc fzqc
        go_wp2_with fail
        refine (unhide BL moq (by omega) _ (unhide HQqc).cc).mono ?_
        rintro e Wqd ⟨⟨yqd, rfl, hyqd, hzqd⟩, hcqd, hkqd⟩
        have hQqd := (unhide HQqc).drawn hg hcqd hkqd
        obtain ⟨⟨zqd, _, czqd⟩, fzqd⟩ := hQqd.cell 4 (by omega)
        have HQqd := hide (hQqd.set hB hg 4 (by omega) yqd ⟨by omega, by omega⟩)
        clear hQqd hcqd hkqd HQqc
        go_upto_region 14 with fail
        obtain ⟨Nqd, hNqd⟩ : ∃ W, W = Wqd.setCell ⟨X, 4, none⟩ (.int .i64 yqd) := ⟨_, rfl⟩
        rw [← hNqd] at HQqd ⊢
        clear hNqd czqd fzqd
        go_wp2_with fail
        refine (unhide BL moq (by omega) _ (unhide HQqd).cc).mono ?_
        rintro e Wqe ⟨⟨yqe, rfl, hyqe, hzqe⟩, hcqe, hkqe⟩
        have hQqe := (unhide HQqd).drawn hg hcqe hkqe
        obtain ⟨⟨zqe, _, czqe⟩, fzqe⟩ := hQqe.cell 5 (by omega)
        have HQqe := hide (hQqe.set hB hg 5 (by omega) yqe ⟨by omega, by omega⟩)
        clear hQqe hcqe hkqe HQqd
        go_wp2_with fail
        go_meet
        exact ⟨rfl, HQqe⟩
    have e2 : (y0 == 2) = false := by simp; exact k2
    by_cases k3 : y0 = 3
    · subst k3
      by_cases kn : 0 < n
      · have kn' : (0 : Int) < (n : Int) := by omega
        go_wp2_with fail
        refine (unhide BL (n : Int) (by omega) _ (unhide HQ).cc).mono ?_
        rintro e w3 ⟨⟨i3, rfl, hi3, hj3⟩, hc3, hk3⟩
        obtain ⟨iN, rfl⟩ := Int.eq_ofNat_of_zero_le hi3
        have hQ3 := (unhide HQ).drawn hg hc3 hk3
        obtain ⟨ad', cd', hv3, hr3⟩ := (unhide HR).kept hk3 hgX
        obtain ⟨rfl, rfl⟩ : ad = ad' ∧ cd = cd' := by simpa using hv3
        obtain ⟨b3, C3, rfl, hXb, hB3, yy, hyy, hCy⟩ := hr3 iN (by omega)
        have cR : w3.cell? ⟨b3, iN, none⟩ = some (.int .i64 yy) := hB3.cell iN _ hCy
        obtain ⟨⟨z3, _, cz3⟩, fz3⟩ := hQ3.cell 1 (by omega)
        have HQ3 := hide (hQ3.set hB hg 1 (by omega) yy hyy)
        clear hQ3 hc3 hk3 hr3 hB3 hCy HQ HR hv3
        go_wp2_with fail
        go_meet
        exact ⟨rfl, HQ3⟩
      · have kn' : ¬ (0 : Int) < (n : Int) := by omega
        go_wp2_with fail
        go_meet
        exact ⟨rfl, HQ⟩
    have e3 : (y0 == 3) = false := by simp; exact k3
    by_cases k5 : y0 = 5
    · subst k5
      go_wp2_with fail
      refine (unhide BL 3 (by omega) _ (unhide HQ).cc).mono ?_
      rintro e w3 ⟨⟨y3, rfl, hy3, hz3⟩, hc3, hk3⟩
      have hQ3 := (unhide HQ).drawn hg hc3 hk3
      obtain ⟨⟨z3, _, cz3⟩, fz3⟩ := hQ3.cell 1 (by omega)
      have HQ3 := hide (hQ3.set hB hg 1 (by omega) y3 ⟨by omega, by omega⟩)
      clear hQ3 hc3 hk3
      go_wp2_with fail
      go_meet
      exact ⟨rfl, HQ3⟩
    · have e5 : (y0 == 5) = false := by simp; exact k5
      clear k1 k2 k3 k5
      go_wp2_with fail
      go_meet
      exact ⟨rfl, HQ⟩
  case rest =>
    obtain ⟨rfl, HQ9⟩ := hcut
    clear HQ HR
    go_wp2_with fail
    refine (unhide BL 30 (by omega) _ (unhide HQ9).cc).mono ?_
    rintro e w5 ⟨⟨s5, rfl, hs5, ht5⟩, hc5, hk5⟩
    have HQ5 := hide ((unhide HQ9).drawn hg hc5 hk5)
    clear hc5 hk5 HQ9
    go_upto_block 1 with fail
    go_cut [5] (fun p wx => p = .pointer (some ⟨X, 0, none⟩) ∧ Hid (AQ a len cap g B w X wx))
    case first =>
      by_cases k0 : s5 = 0
      · subst k0
        go_wp2_with fail
        obtain ⟨VA, hVA⟩ : ∃ W, W = w5.alloc (Obj.cells #[Value.int .i64 (-1), Value.int .i64 11, Value.int .i64 12, Value.int .i64 3] 3) := ⟨_, rfl⟩
        rw [← hVA]
        have HQa : Hid (AQ a len cap g B w X VA) := by show AQ _ _ _ _ _ _ _ _; rw [hVA]; exact (unhide HQ5).alloc hB _
        have hBa : Blk VA w5.heap.size #[Value.int .i64 (-1), Value.int .i64 11, Value.int .i64 12, Value.int .i64 3] 3 := by rw [hVA]; exact Blk.new0
        have hna : w5.heap.size ≠ g := by have := (unhide HQ5).size; omega
        clear hVA
        refine (unhide P4 _ _ hna (unhide HQa).cc hBa).mono ?_
        rintro e w6 ⟨⟨y6, rfl, hy6⟩, hc6, hk6⟩
        have hQ6 := (unhide HQa).drawn hg hc6 hk6
        obtain ⟨⟨z6, _, cz6⟩, fz6⟩ := hQ6.cell 1 (by omega)
        have HQ6 := hide (hQ6.set hB hg 1 (by omega) y6 ⟨by omega, by omega⟩)
        clear hQ6 hc6 hk6 HQa hBa hna
        go_wp2_with fail
        go_meet
        exact ⟨rfl, HQ6⟩
      have e0 : (s5 == 0) = false := by simp; exact k0
      by_cases k1 : s5 = 1
      · subst k1
        go_wp2_with fail
        obtain ⟨VB, hVB⟩ : ∃ W, W = w5.alloc (Obj.cells #[Value.int .i64 (-1), Value.int .i64 50, Value.int .i64 51] 3) := ⟨_, rfl⟩
        rw [← hVB]
        have HQa : Hid (AQ a len cap g B w X VB) := by show AQ _ _ _ _ _ _ _ _; rw [hVB]; exact (unhide HQ5).alloc hB _
        have hBa : Blk VB w5.heap.size #[Value.int .i64 (-1), Value.int .i64 50, Value.int .i64 51] 3 := by rw [hVB]; exact Blk.new0
        have hna : w5.heap.size ≠ g := by have := (unhide HQ5).size; omega
        clear hVB
        refine (unhide P3 _ _ hna (unhide HQa).cc hBa).mono ?_
        rintro e w6 ⟨⟨y6, rfl, hy6⟩, hc6, hk6⟩
        have hQ6 := (unhide HQa).drawn hg hc6 hk6
        obtain ⟨⟨z6, _, cz6⟩, fz6⟩ := hQ6.cell 3 (by omega)
        have HQ6 := hide (hQ6.set hB hg 3 (by omega) y6 ⟨by omega, by omega⟩)
        clear hQ6 hc6 hk6 HQa hBa hna
        go_wp2_with fail
        go_meet
        exact ⟨rfl, HQ6⟩
      have e1 : (s5 == 1) = false := by simp; exact k1
      by_cases k2 : s5 = 2
      · subst k2
        obtain ⟨⟨ya, hya, ca⟩, fa⟩ := (unhide HQ5).cell 1 (by omega)
        obtain ⟨⟨yb, _, cb⟩, fb⟩ := (unhide HQ5).cell 2 (by omega)
        have HQ6 := hide ((unhide HQ5).set hB hg 2 (by omega) ya hya)
        go_wp2_with fail
        go_meet
        exact ⟨rfl, HQ6⟩
      have e2 : (s5 == 2) = false := by simp; exact k2
      by_cases k3 : s5 = 3
      · subst k3
        go_wp2_with fail
        obtain ⟨VC, hVC⟩ : ∃ W, W = w5.alloc (Obj.cells #[Value.int .i64 0, Value.int .i64 7] 3) := ⟨_, rfl⟩
        rw [← hVC]
        have HQa : Hid (AQ a len cap g B w X VC) := by show AQ _ _ _ _ _ _ _ _; rw [hVC]; exact (unhide HQ5).alloc hB _
        have hBa : Blk VC w5.heap.size #[Value.int .i64 0, Value.int .i64 7] 3 := by rw [hVC]; exact Blk.new0
        have hna : w5.heap.size ≠ g := by have := (unhide HQ5).size; omega
        clear hVC
        refine (unhide P07 _ _ hna (unhide HQa).cc hBa).mono ?_
        rintro e w6 ⟨⟨y6, rfl, hy6⟩, hc6, hk6⟩
        have hQ6 := (unhide HQa).drawn hg hc6 hk6
        obtain ⟨⟨z6, _, cz6⟩, fz6⟩ := hQ6.cell 0 (by omega)
        have HQ6 := hide (hQ6.set hB hg 0 (by omega) y6 ⟨by omega, by omega⟩)
        clear hQ6 hc6 hk6 HQa hBa hna
        go_wp2_with fail
        go_meet
        exact ⟨rfl, HQ6⟩
      · have e3 : (s5 == 3) = false := by simp; exact k3
        clear k0 k1 k2 k3
        go_wp2_with fail
        go_meet
        exact ⟨rfl, HQ5⟩
    case rest =>
      obtain ⟨rfl, HQ7⟩ := hcut
      obtain ⟨_, ⟨⟨v0, v1, v2, v3, v4, v5⟩, hok, hXB⟩, hRB, hcc, hkk⟩ := unhide HQ7
      have zx := hXB.lt
      have zr := hRB.lt
      have g0 : wc.cell? ⟨X, 0, none⟩ = some (.int .i64 v0) := hXB.cell 0 _ rfl
      have g1 : wc.cell? ⟨X, 1, none⟩ = some (.int .i64 v1) := hXB.cell 1 _ rfl
      have g2 : wc.cell? ⟨X, 2, none⟩ = some (.int .i64 v2) := hXB.cell 2 _ rfl
      have g3 : wc.cell? ⟨X, 3, none⟩ = some (.int .i64 v3) := hXB.cell 3 _ rfl
      have g4 : wc.cell? ⟨X, 4, none⟩ = some (.int .i64 v4) := hXB.cell 4 _ rfl
      have g5 : wc.cell? ⟨X, 5, none⟩ = some (.int .i64 v5) := hXB.cell 5 _ rfl
      have r0 : wc.cell? ⟨w.heap.size, 0, none⟩ = some (.int .i64 0) := hRB.cell 0 _ rfl
      have f0 := hRB.froz 0
      have r1 : wc.cell? ⟨w.heap.size, 1, none⟩ = some (.int .i64 0) := hRB.cell 1 _ rfl
      have f1 := hRB.froz 1
      have r2 : wc.cell? ⟨w.heap.size, 2, none⟩ = some (.int .i64 0) := hRB.cell 2 _ rfl
      have f2 := hRB.froz 2
      have r3 : wc.cell? ⟨w.heap.size, 3, none⟩ = some (.int .i64 0) := hRB.cell 3 _ rfl
      have f3 := hRB.froz 3
      have r4 : wc.cell? ⟨w.heap.size, 4, none⟩ = some (.int .i64 0) := hRB.cell 4 _ rfl
      have f4 := hRB.froz 4
      have r5 : wc.cell? ⟨w.heap.size, 5, none⟩ = some (.int .i64 0) := hRB.cell 5 _ rfl
      have f5 := hRB.froz 5
      have HBF : Hid (Blk ((((((wc.setCell ⟨w.heap.size, 0, none⟩ (.int .i64 v0)).setCell ⟨w.heap.size, 1, none⟩ (.int .i64 v1)).setCell ⟨w.heap.size, 2, none⟩ (.int .i64 v2)).setCell ⟨w.heap.size, 3, none⟩ (.int .i64 v3)).setCell ⟨w.heap.size, 4, none⟩ (.int .i64 v4)).setCell ⟨w.heap.size, 5, none⟩ (.int .i64 v5)) w.heap.size #[.int .i64 v0, .int .i64 v1, .int .i64 v2, .int .i64 v3, .int .i64 v4, .int .i64 v5] 26) := ((((((hRB.set 0 _).set 1 _).set 2 _).set 3 _).set 4 _).set 5 _)
      have HCF : Hid (CC a len cap g B ((((((wc.setCell ⟨w.heap.size, 0, none⟩ (.int .i64 v0)).setCell ⟨w.heap.size, 1, none⟩ (.int .i64 v1)).setCell ⟨w.heap.size, 2, none⟩ (.int .i64 v2)).setCell ⟨w.heap.size, 3, none⟩ (.int .i64 v3)).setCell ⟨w.heap.size, 4, none⟩ (.int .i64 v4)).setCell ⟨w.heap.size, 5, none⟩ (.int .i64 v5))) := ((((((hcc.set hB hg _).set hB hg _).set hB hg _).set hB hg _).set hB hg _).set hB hg _)
      have HKF : Hid (Kept (fun k => k = g) w ((((((wc.setCell ⟨w.heap.size, 0, none⟩ (.int .i64 v0)).setCell ⟨w.heap.size, 1, none⟩ (.int .i64 v1)).setCell ⟨w.heap.size, 2, none⟩ (.int .i64 v2)).setCell ⟨w.heap.size, 3, none⟩ (.int .i64 v3)).setCell ⟨w.heap.size, 4, none⟩ (.int .i64 v4)).setCell ⟨w.heap.size, 5, none⟩ (.int .i64 v5))) := by
        have hb : Below w.heap.size wc ((((((wc.setCell ⟨w.heap.size, 0, none⟩ (.int .i64 v0)).setCell ⟨w.heap.size, 1, none⟩ (.int .i64 v1)).setCell ⟨w.heap.size, 2, none⟩ (.int .i64 v2)).setCell ⟨w.heap.size, 3, none⟩ (.int .i64 v3)).setCell ⟨w.heap.size, 4, none⟩ (.int .i64 v4)).setCell ⟨w.heap.size, 5, none⟩ (.int .i64 v5)) := Below.setCell (p := ⟨w.heap.size, 5, none⟩) (Below.setCell (p := ⟨w.heap.size, 4, none⟩) (Below.setCell (p := ⟨w.heap.size, 3, none⟩) (Below.setCell (p := ⟨w.heap.size, 2, none⟩) (Below.setCell (p := ⟨w.heap.size, 1, none⟩) (Below.setCell (p := ⟨w.heap.size, 0, none⟩) (Below.refl _ _) (Nat.le_refl _) _) (Nat.le_refl _) _) (Nat.le_refl _) _) (Nat.le_refl _) _) (Nat.le_refl _) _) (Nat.le_refl _) _
        obtain ⟨k1, k2, k3, k4, k5⟩ := hkk
        exact ⟨hb.os.trans k1, hb.tape.trans k2, hb.output.trans k3, Nat.le_trans k4 hb.size, fun i hi hS => (hb.block i hi).trans (k5 i hi hS)⟩
      have HOK := hide hok
      clear hok hXB hRB hcc hkk HQ7 HQ5
      go_wp2_with fail
      (try simp only [Exit.inBlock, Exit.then])
      refine bodyPost_ret (results_ask1 Try.results26 _ _ w.heap.size _ rfl (unhide HBF) rfl) rfl ?_
      exact ⟨⟨⟨v0, v1, v2, v3, v4, v5⟩, rfl, unhide HOK⟩, unhide HCF, unhide HKF⟩
end Gr
end Go.Proofs.Ytabnghiphmongaa
