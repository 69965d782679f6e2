/-
 GrCk0, GrCk1, GrCk2, GrCk3.
-/
import Derived.Test.YtkjclkelnheheaaJ35
import Derived.Test.YtkjclkelnheheaaJ17
import Derived.Test.YtkjclkelnheheaaJ12
namespace Go.Proofs.Ytkjclkelnheheaa
namespace Gr
open Go.RowKit
set_option maxRecDepth 100000 in
set_option maxHeartbeats 1000000 in
theorem areYs_is (a : Option Addr) (n c B : Nat) (Y : List Int) (s : Int) (hn : n ≤ 1048576) (w : World) (hY : IntsAt w a n B Y) :
    Calls Try.prog 23 #[.slice a n c, .int .i64 s] w fun e w' => e = .returned (.bool (yOk Y && decide ((Y.length : Int) = s))) ∧ w' = w := by
  obtain ⟨hL, hc⟩ := hY
  have HST := hide (fun k h => yOk_step Y k h)
  have HEND : Hid (yOk (Y.drop n) = true) := by show _ = _; rw [← hL, List.drop_length]; rfl
  have H0 : Hid (yOk Y = yOk (Y.drop 0)) := rfl
  have HC := hide hc
  have HL := hide hL
  have hRR : (yOk Y && decide ((Y.length : Int) = s)) = (yOk Y && decide ((n : Int) = s)) := by rw [hL]
  rw [hRR]
  clear hRR
  obtain ⟨R, hR⟩ : ∃ R, R = (yOk Y && decide ((n : Int) = s)) := ⟨_, rfl⟩
  rw [← hR]
  have HRR := hide hR
  generalize yOk Y = r at H0 HRR
  clear hc hL hR
  go_enter Try.func23, Try.ntmps23
  go_wp2_with fail
  go_loop [9] (fun i => ∃ k : Nat, i = .int .i64 k ∧ k ≤ n ∧ Hid (r = yOk (Y.drop k))) (fun i => n - (intOf i).toNat)
  case atStart => exact ⟨0, rfl, Nat.zero_le _, unhide H0⟩
  case round =>
    obtain ⟨k, rfl, hk, HR⟩ := hrel
    by_cases hlt : k < n
    · have hkL : k < Y.length := by have := unhide HL; omega
      obtain ⟨b, off, rfl, hbB, hcell⟩ := unhide HC k hkL
      have hx0 : (0 : Int) ≤ (k : Int) := by omega
      have hx1 : (k : Int) < (n : Int) := by omega
      have hr := (unhide HR).trans (unhide HST k hkL)
      generalize hrest : yOk (Y.drop (k + 1)) = rest at hr
      have HREST := hide hrest
      generalize Y[k] = y at hcell hr
      clear hrest HR
      by_cases t0 : y < 0
      · have : decide (0 ≤ y) = false := decide_eq_false (by omega)
        rw [this] at hr
        simp only [Bool.false_and] at hr
        have hR : R = false := by rw [unhide HRR, hr]; rfl
        clear this hr HRR H0
        subst hR
        go_wp2
        go_ret
        exact ⟨rfl, rfl⟩
      · have h0 : decide (0 ≤ y) = true := decide_eq_true (by omega)
        by_cases t1 : 1000000000 < y
        · have : decide (y ≤ 1000000000) = false := decide_eq_false (by omega)
          rw [this, h0] at hr
          simp only [Bool.and_false, Bool.false_and] at hr
          have hR : R = false := by rw [unhide HRR, hr]; rfl
          clear this h0 hr HRR H0
          subst hR
          go_wp2
          go_ret
          exact ⟨rfl, rfl⟩
        · have : decide (y ≤ 1000000000) = true := decide_eq_true (by omega)
          rw [this, h0] at hr
          simp only [Bool.true_and] at hr
          have HR2 : Hid (r = yOk (Y.drop (k + 1))) := by show _ = _; rw [hr, unhide HREST]
          clear this h0 hr
          go_wp2
          go_round
          case rel => exact ⟨k + 1, by go_num, by omega, HR2⟩
          case measure => simp [intOf]; omega
    · obtain rfl : k = n := by omega
      have hr := (unhide HR).trans (unhide HEND)
      have hR : R = decide ((k : Int) = s) := by rw [unhide HRR, hr, Bool.true_and]
      clear H0 HEND HR HST HRR hr
      by_cases t : (k : Int) = s
      · rw [decide_eq_true t] at hR
        have e1 : ((k : Int) == s) = true := by simp; exact t
        have T := hide t
        clear t
        subst hR
        go_wp2
        go_ret
        exact ⟨rfl, rfl⟩
      · rw [decide_eq_false t] at hR
        have e1 : ((k : Int) == s) = false := by simp; exact t
        have T := hide t
        clear t
        subst hR
        go_wp2
        go_ret
        exact ⟨rfl, rfl⟩
set_option maxRecDepth 100000 in
set_option maxHeartbeats 1000000 in
theorem isPG_any (a : Option Addr) (c B : Nat) (q : GrpI) (s : Int) (hn : q.M.length ≤ 1048576) (w : World) (hB : B ≤ w.heap.size) (hM : IntsAt w a q.M.length B q.M) :
    Calls Try.prog 51 #[.agg #[.slice a q.M.length c, .int .i64 q.Z], .int .i64 s] w fun e w' => e = .returned (.bool (isPG s q)) ∧ Below w.heap.size w w' := by
  have AS := hide (fun w1 (hb : Below w.heap.size w w1) => isAsc_any a _ c B q.M hn w1 (by have := hb.size; omega) (hM.below hb hB))
  have PL := hide (fun w1 (hb : Below w.heap.size w w1) => arePlaces_is a _ c B q.M s hn w1 (hM.below hb hB))
  have hR : isPG s q = ((decide (3 ≤ q.M.length) && (decide (q.M.length % 2 = 1) && (decide (1 ≤ q.Z) && decide (q.Z ≤ 1000000000)))) && (chainFrom none q.M && allIn s q.M)) := by
    rw [← asc_parts]
    rfl
  generalize isPG s q = R at hR ⊢
  obtain ⟨M, Z⟩ := q
  simp only at hR AS PL hn ⊢
  generalize chainFrom none M = r1 at AS hR
  generalize allIn s M = r2 at PL hR
  generalize M.length = n at hR AS PL hn ⊢
  clear hM
  have hb : Below w.heap.size w (w.alloc (Obj.cells #[Value.slice a n c, Value.int .i64 Z] 54)) := below_new _ _
  by_cases t1 : n < 3
  · rw [decide_eq_false (by omega)] at hR
    simp only [Bool.false_and] at hR
    subst hR
    have e1 : (n : Int) < 3 := by omega
    go_enter Try.func51, Try.ntmps51
    go_wp2_with fail
    go_ret
    exact ⟨rfl, hb⟩
  rw [decide_eq_true (by omega)] at hR
  have e1 : ¬ (n : Int) < 3 := by omega
  by_cases t2 : n % 2 = 0
  · rw [decide_eq_false (by omega)] at hR
    simp only [Bool.true_and, Bool.false_and] at hR
    subst hR
    have e2 : ((n : Int) % 2 == 0) = true := by simp; omega
    go_enter Try.func51, Try.ntmps51
    go_wp2_with fail
    go_ret
    exact ⟨rfl, hb⟩
  rw [decide_eq_true (by omega)] at hR
  have e2 : ((n : Int) % 2 == 0) = false := by simp; omega
  by_cases t3 : Z < 1
  · rw [decide_eq_false (by omega)] at hR
    simp only [Bool.true_and, Bool.false_and] at hR
    subst hR
    go_enter Try.func51, Try.ntmps51
    go_wp2_with fail
    go_ret
    exact ⟨rfl, hb⟩
  rw [decide_eq_true (by omega)] at hR
  by_cases t4 : 1000000000 < Z
  · rw [decide_eq_false (by omega)] at hR
    simp only [Bool.true_and, Bool.false_and] at hR
    subst hR
    go_enter Try.func51, Try.ntmps51
    go_wp2_with fail
    go_ret
    exact ⟨rfl, hb⟩
  rw [decide_eq_true (by omega)] at hR
  simp only [Bool.true_and] at hR
  have HRR := hide hR
  clear hR t2
  go_enter Try.func51, Try.ntmps51
  go_wp2_with fail
  obtain ⟨V, hV⟩ : ∃ W, W = w.alloc (Obj.cells #[Value.slice a n c, Value.int .i64 Z] 54) := ⟨_, rfl⟩
  rw [← hV] at hb ⊢
  have HBk : Hid (Blk V w.heap.size #[Value.slice a n c, Value.int .i64 Z] 54) := by show Blk _ _ _ _; rw [hV]; exact Blk.new0
  clear hV
  refine (unhide AS V hb).mono ?_
  rintro e w2 ⟨rfl, hb2⟩
  have b2 := hb.trans (hb2.mono hb.size)
  have p0 : w2.cell? ⟨w.heap.size, 0, none⟩ = some (.slice a n c) := ((unhide HBk).below hb2).cell 0 _ rfl
  clear hb2
  cases r1 with
  | false =>
    have hR : R = false := by rw [unhide HRR]; rfl
    subst hR
    go_wp2_with fail
    go_ret
    exact ⟨rfl, b2⟩
  | true =>
    have hR : R = r2 := by rw [unhide HRR, Bool.true_and]
    subst hR
    go_wp2_with fail
    refine (unhide PL w2 b2).mono ?_
    rintro e w3 ⟨rfl, rfl⟩
    go_wp2_with fail
    go_ret
    exact ⟨rfl, b2⟩
theorem allPG_step (s : Int) (G : List GrpI) (k : Nat) (h : k < G.length) : allPG s (G.drop k) = (isPG s G[k] && allPG s (G.drop (k + 1))) := by rw [drop_step G k h]; rfl
set_option maxRecDepth 100000 in
set_option maxHeartbeats 1000000 in
theorem areGroups_any (a : Option Addr) (n c B : Nat) (G : List GrpI) (s : Int) (hn : n ≤ 1048576) (hm : ∀ q ∈ G, q.M.length ≤ 1048576) (w : World) (hB : B ≤ w.heap.size) (hA : groupsAt w a n B G) :
    Calls Try.prog 24 #[.slice a n c, .int .i64 s] w fun e w' => e = .returned (.bool (allPG s G && decide (G.length ≤ 8))) ∧ Below w.heap.size w w' := by
  obtain ⟨hL, hc⟩ := hA
  have HC := hide hc
  have HL := hide hL
  have HM := hide hm
  have HST := hide (fun k h => allPG_step s G k h)
  have HEND : Hid (allPG s (G.drop n) = true) := by show _ = _; rw [← hL, List.drop_length]; rfl
  have H0 : Hid (allPG s G = allPG s (G.drop 0)) := rfl
  obtain ⟨R, hR⟩ : ∃ R, R = (allPG s G && decide (G.length ≤ 8)) := ⟨_, rfl⟩
  rw [← hR]
  rw [hL] at hR
  have HRR := hide hR
  generalize allPG s G = r at H0 HRR
  clear hc hL hm hR
  go_enter Try.func24, Try.ntmps24
  go_wp2_with fail
  go_loopw [9] (fun i wr => ∃ k : Nat, i = .int .i64 (k : Int) ∧ k ≤ n ∧ Hid (r = allPG s (G.drop k)) ∧ Below w.heap.size w wr) (fun i _ => n - (intOf i).toNat)
  case atStart => exact ⟨0, rfl, Nat.zero_le _, unhide H0, Below.refl _ _⟩
  case round =>
    obtain ⟨k, rfl, hk, HR, hb⟩ := hrel
    by_cases hlt : k < n
    · have hkL : k < G.length := by have := unhide HL; omega
      obtain ⟨b, off, a2, c2, rfl, hbB, d0, d1, hI⟩ := unhide HC k hkL
      rw [← hb.cell (p := ⟨b, off + k * 2, none⟩) (by simp; omega)] at d0
      rw [← hb.cell (p := ⟨b, off + k * 2 + 1, none⟩) (by simp; omega)] at d1
      have hm1 := unhide HM _ (List.getElem_mem hkL)
      have PG := hide (fun w1 (hb1 : Below w.heap.size w w1) => isPG_any a2 c2 B G[k] s hm1 w1 (by have := hb1.size; omega) (hI.below hb1 hB))
      have HR2 := hide ((unhide HR).trans (unhide HST k hkL))
      generalize G[k] = q at d0 d1 PG HR2
      generalize isPG s q = o at PG HR2
      have hx2 : (k : Int) < (n : Int) := by omega
      clear hI hm1
      go_wp2_with fail
      obtain ⟨V3, hV3⟩ : ∃ W, W = wr.alloc (Obj.cells #[Value.slice a2 q.M.length c2, Value.int .i64 q.Z] 54) := ⟨_, rfl⟩
      rw [← hV3]
      have n3 : Below wr.heap.size wr V3 := by rw [hV3]; exact below_new _ _
      have b3 := hb.trans (n3.mono hb.size)
      clear hV3
      refine (unhide PG V3 b3).mono ?_
      rintro e w4 ⟨rfl, hb4⟩
      have b4 := b3.trans (hb4.mono b3.size)
      clear hb4 n3 PG b3
      cases o with
      | false =>
        have hR : R = false := by rw [unhide HRR, unhide HR2]; rfl
        subst hR
        go_wp2_with fail
        go_ret
        exact ⟨rfl, b4⟩
      | true =>
        have HR3 : Hid (r = allPG s (G.drop (k + 1))) := unhide HR2
        clear HR2
        go_wp2_with fail
        exact ⟨⟨k + 1, by go_num, by omega, HR3, b4⟩, by simp [intOf]; omega⟩
    · obtain rfl : k = n := by omega
      have hr := (unhide HR).trans (unhide HEND)
      have hR : R = decide (k ≤ 8) := by rw [unhide HRR, hr, Bool.true_and]
      clear H0 HEND HR HST HRR hr
      have e : decide ((k : Int) ≤ 8) = decide (k ≤ 8) := by rw [decide_eq_decide]; omega
      rw [← e] at hR
      subst hR
      clear e
      go_wp2_with fail
      go_ret
      exact ⟨(by first | rfl | (congr 2; rw [decide_eq_decide]; omega)), hb⟩
set_option maxRecDepth 100000 in
set_option maxHeartbeats 4000000 in
theorem isShort_any (v : Value) (B : Nat) (s : Int) (Y : List Int) (G : List GrpI) (e : EdgeI) (hYs : (Y.length : Int) = s) (h9 : s ≤ 9) (hY : ∀ y ∈ Y, 0 ≤ y ∧ y ≤ 1000000000) (hq : ∀ q ∈ G, grpHead s q = true) (hG8 : G.length ≤ 8) (he : edgeOk s e = true) (w : World) (hB : B ≤ w.heap.size) (hv : PrAt w v B Y G) :
    Calls Try.prog 54 #[e.v, v, .agg (fs (setF G))] w fun r w' => r = .returned (.bool (decide (slackI Y G e < 0))) ∧ Below w.heap.size w w' := by
  obtain ⟨q0, q1, q2, _, _, _⟩ := (edgeOk_iff s e).1 he
  have hsc := scal_range he
  have SC := hide (fun w => implScalar_any e w)
  have hR : slackI Y G e = slackG e (yAt Y e.A + yAt Y e.B - 2 * scal e) G := rfl
  generalize slackI Y G e = R at hR ⊢
  obtain ⟨a, n, c, a', n', c', rfl, hYA, hGA, _⟩ := hv
  have hYn := hYA.1
  obtain ⟨x0, hx0⟩ := Int.eq_ofNat_of_zero_le q0
  obtain ⟨x1, hx1⟩ := Int.eq_ofNat_of_zero_le (show 0 ≤ e.B by omega)
  have hl0 : x0 < Y.length := by omega
  have hl1 : x1 < Y.length := by omega
  obtain ⟨by0, oy, rfl, hbyB, y0⟩ := hYA.2 x0 hl0
  obtain ⟨by1, oy1, ey, _, y1⟩ := hYA.2 x1 hl1
  simp at ey
  obtain ⟨rfl, rfl⟩ := ey
  have ea : yAt Y e.A = Y[x0] := by unfold yAt; rw [hx0]; simp [hl0]
  have eb : yAt Y e.B = Y[x1] := by unfold yAt; rw [hx1]; simp [hl1]
  rw [ea, eb] at hR
  have r0 := hY _ (List.getElem_mem hl0)
  have r1 := hY _ (List.getElem_mem hl1)
  generalize Y[x0] = ya at y0 hR r0
  generalize Y[x1] = yb at y1 hR r1
  generalize scal e = sc at SC hR hsc
  have HCG := hide hGA.2
  have HGL := hide hGA.1
  have HE := hide (fun i (w : World) => hasEnds_any (setF G i) e x0 x1 hx0 hx1 (by omega) (by omega) w)
  have HST : Hid (∀ S k (h : k < G.length), slackG e S (G.drop k) = slackG e (if (setF G k x0 && setF G k x1) = true then S + G[k].Z else S) (G.drop (k + 1))) := fun S k h => by
    rw [drop_step G k h, setF_at G k h]
    show slackG e (if (inK G[k].M e.A && inK G[k].M e.B) = true then S + G[k].Z else S) (G.drop (k + 1)) = _
    rw [hx0, hx1]
    rfl
  have HEND : Hid (∀ S, slackG e S (G.drop n') = S) := fun S => by rw [← hGA.1, List.drop_length]; rfl
  have H0 : Hid (R = slackG e (ya + yb - 2 * sc) (G.drop 0)) := hR
  have HQ := hide hq
  have HPT := hide (fun k (h : k < 8) => fs_part (setF G) k h)
  have HIL := hide (fun k => infoSetL (setF G k))
  have hsz := hide (fs_size (setF G))
  clear hR ea eb hYA hGA hY hq he
  generalize hslk : slackG e = FF at HST HEND H0
  clear hslk
  generalize fs (setF G) = C at HPT hsz ⊢
  obtain ⟨eA, eB, e2, e3, e4⟩ := e
  simp only at hx0 hx1 q1 q2
  subst hx0 hx1
  unfold EdgeI.v at SC HE ⊢
  simp only at SC HE ⊢
  have w1 : IntKind.i64.wrap (ya + yb) = ya + yb := wrap_in _ (by omega)
  have w2 : IntKind.i64.wrap (2 * sc) = 2 * sc := wrap_in _ (by omega)
  have w3 : IntKind.i64.wrap (ya + yb - 2 * sc) = ya + yb - 2 * sc := wrap_in _ (by omega)
  have hin0 : (x0 : Int) < (n : Int) := by omega
  have hin1 : (x1 : Int) < (n : Int) := by omega
  have hn8 : n' ≤ 8 := by have := unhide HGL; omega
  go_enter Try.func54, Try.ntmps54
  go_wp2_with fail
  obtain ⟨V, hV⟩ : ∃ W, W = ((w.alloc (Obj.cells #[Value.int .i64 (x0 : Int), Value.int .i64 (x1 : Int), Value.int .i64 e2, Value.int .i64 e3, Value.int .i64 e4] 68)).alloc (Obj.cells #[Value.slice (some ⟨by0, oy, none⟩) n c, Value.slice a' n' c'] 30)).alloc (Obj.cells C 62) := ⟨_, rfl⟩
  rw [← hV]
  have bV : Below w.heap.size w V := by rw [hV]; exact ((below_new _ _).alloc (by simp) _).alloc (by simp; omega) _
  have m1 : Blk V w.heap.size #[Value.int .i64 (x0 : Int), Value.int .i64 (x1 : Int), Value.int .i64 e2, Value.int .i64 e3, Value.int .i64 e4] 68 := by rw [hV]; exact Blk.new0.alloc.alloc
  have m0 : Blk V (w.heap.size + 1) #[Value.slice (some ⟨by0, oy, none⟩) n c, Value.slice a' n' c'] 30 := by rw [hV]; exact Blk.new1.alloc
  have m2 : Blk V (w.heap.size + 1 + 1) C 62 := by rw [hV]; exact Blk.new2
  clear hV
  have z0 := m0.lt
  have z1 := m1.lt
  have z2 := m2.lt
  have HM0 := hide m0
  have HM1 := hide m1
  have HM2 := hide m2
  have P0 : ∀ d : Grown V.heap.size V, d.w.cell? ⟨w.heap.size + 1, 0, none⟩ = some (.slice (some ⟨by0, oy, none⟩) n c) := fun d => d.cell z0 (m0.cell 0 _ rfl)
  have E0 : ∀ d : Grown V.heap.size V, d.w.cell? ⟨w.heap.size, 0, none⟩ = some (.int .i64 (x0 : Int)) := fun d => d.cell z1 (m1.cell 0 _ rfl)
  have E1 : ∀ d : Grown V.heap.size V, d.w.cell? ⟨w.heap.size, 1, none⟩ = some (.int .i64 (x1 : Int)) := fun d => d.cell z1 (m1.cell 1 _ rfl)
  have E2 : ∀ d : Grown V.heap.size V, d.w.cell? ⟨w.heap.size, 2, none⟩ = some (.int .i64 e2) := fun d => d.cell z1 (m1.cell 2 _ rfl)
  have E3 : ∀ d : Grown V.heap.size V, d.w.cell? ⟨w.heap.size, 3, none⟩ = some (.int .i64 e3) := fun d => d.cell z1 (m1.cell 3 _ rfl)
  have E4 : ∀ d : Grown V.heap.size V, d.w.cell? ⟨w.heap.size, 4, none⟩ = some (.int .i64 e4) := fun d => d.cell z1 (m1.cell 4 _ rfl)
  have Y0 : ∀ d : Grown V.heap.size V, d.w.cell? ⟨by0, oy + x0, none⟩ = some (.int .i64 ya) := fun d => d.cell (by omega) ((bV.cell (p := ⟨by0, oy + x0, none⟩) (by simp; omega)).trans y0)
  have Y1 : ∀ d : Grown V.heap.size V, d.w.cell? ⟨by0, oy + x1, none⟩ = some (.int .i64 yb) := fun d => d.cell (by omega) ((bV.cell (p := ⟨by0, oy + x1, none⟩) (by simp; omega)).trans y1)
  clear m0 m1 m2 y0 y1
  refine wp_region_grown V.heap.size (by kernel_rfl) (by kernel_rfl) ?_
  repeat (go_big_quiet_step (first | (go_at_call 62; exact Calls.grown (Nat.le_refl _) (unhide SC _))))
  refine wpQuiet_nil ?_
  rintro w5 ⟨d5, rfl⟩
  obtain ⟨W5, hb5⟩ := d5
  dsimp only
  clear P0 E0 E1 E2 E3 E4 Y0 Y1 SC
  have p1 : W5.cell? ⟨w.heap.size + 1, 1, none⟩ = some (.slice a' n' c') := ((unhide HM0).below hb5).cell 1 _ rfl
  go_wp2_with fail
  clear p1
  go_loopw [7, 30] (fun t i wr => ∃ (k : Nat) (S : Int), i = .int .i64 (k : Int) ∧ t = .int .i64 S ∧ k ≤ n' ∧ -9030100 ≤ S ∧ S ≤ 2000000000 + 1000000000 * (k : Int) ∧ Hid (R = FF S (G.drop k)) ∧ Below V.heap.size V wr) (fun _ i _ => n' - (intOf i).toNat)
  case atStart => exact ⟨0, ya + yb - 2 * sc, rfl, rfl, Nat.zero_le _, by omega, by omega, unhide H0, hb5⟩
  case round =>
    obtain ⟨k, S, rfl, rfl, hk, hS0, hS1, HS, hbr⟩ := hrel
    have hzr := hbr.size
    have bw : Below w.heap.size w wr := bV.trans (hbr.mono bV.size)
    by_cases hlt : k < n'
    · have hkL : k < G.length := by have := unhide HGL; omega
      obtain ⟨b, off, a2, c2, rfl, hbB, d0, d1, hI⟩ := unhide HCG k hkL
      obtain ⟨_, _, hM9, hZ1, hZ2⟩ := (grpHead_iff s _).1 (unhide HQ _ (List.getElem_mem hkL))
      have HSK := hide ((unhide HS).trans (unhide HST S k hkL))
      have HEk := hide (unhide HE k)
      have HPk := hide (fun W (hB2 : Blk W (w.heap.size + 1 + 1) C 62) => hB2.part (k * 9) (fl (setF G k)) (unhide HPT k (by omega)))
      have HLk := hide (unhide HIL k)
      generalize fl (setF G k) = Fk at HEk HPk HLk
      generalize (setF G k x0 && setF G k x1) = o at HEk HSK
      generalize G[k] = q at d0 d1 hM9 hZ1 hZ2 HSK
      clear hI
      have hkn : (k : Int) < (n' : Int) := by omega
      have hk8 : (k : Int) < 8 := by omega
      rw [← bw.cell (p := ⟨b, off + k * 2, none⟩) (by simp; omega)] at d0
      rw [← bw.cell (p := ⟨b, off + k * 2 + 1, none⟩) (by simp; omega)] at d1
      go_wp2_with fail
      obtain ⟨V3, hV3⟩ : ∃ W, W = wr.alloc (Obj.cells #[Value.slice a2 q.M.length c2, Value.int .i64 q.Z] 54) := ⟨_, rfl⟩
      rw [← hV3]
      have n3 : Below wr.heap.size wr V3 := by rw [hV3]; exact below_new _ _
      have HG3 : Hid (Blk V3 wr.heap.size #[Value.slice a2 q.M.length c2, Value.int .i64 q.Z] 54) := by show Blk _ _ _ _; rw [hV3]; exact Blk.new0
      have b3 : Below V.heap.size V V3 := hbr.trans (n3.mono hbr.size)
      have m13 := (unhide HM1).below b3
      have m23 := (unhide HM2).below b3
      clear hV3 d0 d1
      have y1 := m13.lt
      have y2 := m23.lt
      have hr3 : Hid (∀ W, (∃ d : Grown V3.heap.size V3, W = d.w) → W.rangeAt (w.heap.size + 1 + 1) (k * 9) Fk.toList) := by
        rintro W ⟨d, rfl⟩
        exact unhide HPk d.w (m23.below d.below)
      have F0 : ∀ d : Grown V3.heap.size V3, d.w.cell? ⟨w.heap.size, 0, none⟩ = some (.int .i64 (x0 : Int)) := fun d => d.cell y1 (m13.cell 0 _ rfl)
      have F1 : ∀ d : Grown V3.heap.size V3, d.w.cell? ⟨w.heap.size, 1, none⟩ = some (.int .i64 (x1 : Int)) := fun d => d.cell y1 (m13.cell 1 _ rfl)
      have F2 : ∀ d : Grown V3.heap.size V3, d.w.cell? ⟨w.heap.size, 2, none⟩ = some (.int .i64 e2) := fun d => d.cell y1 (m13.cell 2 _ rfl)
      have F3 : ∀ d : Grown V3.heap.size V3, d.w.cell? ⟨w.heap.size, 3, none⟩ = some (.int .i64 e3) := fun d => d.cell y1 (m13.cell 3 _ rfl)
      have F4 : ∀ d : Grown V3.heap.size V3, d.w.cell? ⟨w.heap.size, 4, none⟩ = some (.int .i64 e4) := fun d => d.cell y1 (m13.cell 4 _ rfl)
      clear m13 m23
      refine wp_region_grown V3.heap.size (by kernel_rfl) (by kernel_rfl) ?_
      repeat (first
        | (refine wpQuiet_load_mid (by rfl) 60 _ rfl (w.heap.size + 1 + 1) (k * 9) rfl Fk.toList _ (unhide hr3) Try.underlying60 rfl (unhide HLk) ?_
           (conv => arg 6; simp [Act.put]))
        | go_big_quiet_step (first
          | (go_at_call 70; exact Calls.grown (Nat.le_refl _) (unhide HEk _))))
      refine wpQuiet_nil ?_
      rintro w6 ⟨d6, rfl⟩
      clear F0 F1 F2 F3 F4 hr3
      have b6 : Below V.heap.size V d6.w := b3.trans (d6.below.mono b3.size)
      cases o with
      | false =>
        have HSK2 : Hid (R = FF S (G.drop (k + 1))) := unhide HSK
        clear HSK
        go_wp2_with fail
        exact ⟨⟨k + 1, S, by go_num, rfl, by omega, by omega, by omega, HSK2, b6⟩, by simp [intOf]; omega⟩
      | true =>
        have HSK2 : Hid (R = FF (S + q.Z) (G.drop (k + 1))) := unhide HSK
        clear HSK
        have j2 : d6.w.cell? ⟨wr.heap.size, 1, none⟩ = some (.int .i64 q.Z) := ((unhide HG3).below d6.below).cell 1 _ rfl
        have w4 : IntKind.i64.wrap (S + q.Z) = S + q.Z := wrap_in _ (by omega)
        go_wp2_with fail
        exact ⟨⟨k + 1, S + q.Z, by go_num, rfl, by omega, by omega, by omega, HSK2, b6⟩, by simp [intOf]; omega⟩
    · obtain rfl : k = n' := by omega
      have hRS := (unhide HS).trans (unhide HEND S)
      subst hRS
      go_wp2_with fail
      go_ret
      exact ⟨rfl, bw⟩
set_option maxRecDepth 100000 in
set_option maxHeartbeats 4000000 in
theorem isAnyShort_any (B : Nat) (v : Value) (s : Int) (Q : List EdgeI) (u : Value) (Y : List Int) (G : List GrpI) (h1 : Q.length ≤ 1048576) (hQ : ∀ e ∈ Q, edgeOk s e = true) (hYs : (Y.length : Int) = s) (h9 : s ≤ 9) (hY : ∀ y ∈ Y, 0 ≤ y ∧ y ≤ 1000000000) (hq : ∀ q ∈ G, grpHead s q = true) (hm : ∀ q ∈ G, ∀ x ∈ q.M, 0 ≤ x ∧ x < 9) (hG8 : G.length ≤ 8) (w : World) (hB : B ≤ w.heap.size) (hv : GrAt w v B s Q) (hu : PrAt w u B Y G) :
    Calls Try.prog 27 #[v, u] w fun e w' => e = .returned (.bool (!slacksOk Y G Q)) ∧ Below w.heap.size w w' := by
  have SH := hide (fun e (he : edgeOk s e = true) w1 (hb : Below w.heap.size w w1) => isShort_any u B s Y G e hYs h9 hY hq hG8 he w1 (by have := hb.size; omega) (hu.below hb hB))
  have HEO := hide hQ
  have HST := hide (fun k h => slacksOk_step Y G Q k h)
  have H0 : Hid (slacksOk Y G Q = slacksOk Y G (Q.drop 0)) := rfl
  generalize slacksOk Y G Q = R at H0 ⊢
  obtain ⟨a0, n0, c0, rfl, hE⟩ := hv
  obtain ⟨a, n, c, a', n', c', rfl, hYA, hGA, _⟩ := hu
  have HEND : Hid (slacksOk Y G (Q.drop n0) = true) := by show _ = _; rw [← hE.1, List.drop_length]; rfl
  have SO := hide (fun w1 (hb : Below w.heap.size w w1) => setsOf_any a' n' c' B G (by have := hGA.1; omega) (fun q h => ⟨(by have h3 := ((grpHead_iff s q).1 (hq q h)).2.2.1; omega), hm q h⟩) w1 (by have := hb.size; omega) (hGA.below hb hB))
  have HCE := hide hE.2
  have HEL := hide hE.1
  have hn0 : n0 ≤ 1048576 := by have := hE.1; omega
  have hiS := hide (infoSetsF (setF G))
  have hiL := hide (infoSetsL (setF G))
  have h1S := hide (fs_one (setF G))
  have hsS := hide (fs_size (setF G))
  generalize fs (setF G) = C at SO SH hiS hiL h1S hsS
  have hzv := zero_sets
  have HZ : Hid (Array.size (fs fun _ _ => false) = 72) := fs_size _
  generalize (fs fun _ _ => false) = Z at hzv HZ
  clear hYA hGA hE hQ hYs h9 hY hq hm hG8 h1
  go_enter Try.func27, Try.ntmps27
  go_wp2_with fail
  obtain ⟨V, hV⟩ : ∃ W, W = (w.alloc (Obj.cells #[Value.int .i64 s, Value.slice a0 n0 c0] 26)).alloc (Obj.cells #[Value.slice a n c, Value.slice a' n' c'] 30) := ⟨_, rfl⟩
  rw [← hV]
  have bV : Below w.heap.size w V := by rw [hV]; exact (below_new _ _).alloc (by simp) _
  have m0 : Blk V w.heap.size #[Value.int .i64 s, Value.slice a0 n0 c0] 26 := by rw [hV]; exact Blk.new0.alloc
  have m1 : Blk V (w.heap.size + 1) #[Value.slice a n c, Value.slice a' n' c'] 30 := by rw [hV]; exact Blk.new1
  clear hV
  refine (unhide SO V bV).mono ?_
  rintro e w3 ⟨rfl, hb3⟩
  have b3 := bV.trans (hb3.mono bV.size)
  have n0' := m0.below hb3
  have n1' := m1.below hb3
  have z1 := n1'.lt
  clear m0 m1 hb3 bV SO
  obtain ⟨V3, hV3⟩ : ∃ W, W = w3.alloc (Obj.cells Z 62) := ⟨_, rfl⟩
  have HB3 : Hid (Blk V3 w3.heap.size Z 62) := by show Blk _ _ _ _; rw [hV3]; exact Blk.new0
  have t3 : Hid (V3.there w3.heap.size 0 C.size) := (unhide HB3).there 0 _ (by rw [unhide HZ, unhide hsS]; omega)
  obtain ⟨V4, hV4⟩ : ∃ W, W = V3.setCells w3.heap.size 0 C.toList := ⟨_, rfl⟩
  have HC4 : Hid (Blk V4 w3.heap.size C 62) := by
    have h := Blk.many C.toList 0 (unhide HB3)
    rw [setMany_all _ _ (by rw [unhide HZ, unhide hsS])] at h
    rw [hV4]
    exact h
  have HM0 : Hid (Blk V4 w.heap.size #[Value.int .i64 s, Value.slice a0 n0 c0] 26) := by
    show Blk _ _ _ _
    rw [hV4, hV3]
    exact Blk.many_other (by omega) _ _ n0'.alloc
  have HM1 : Hid (Blk V4 (w.heap.size + 1) #[Value.slice a n c, Value.slice a' n' c'] 30) := by
    show Blk _ _ _ _
    rw [hV4, hV3]
    exact Blk.many_other (by omega) _ _ n1'.alloc
  have b4 : Below w.heap.size w V4 := by rw [hV4, hV3]; exact below_setCells _ _ b3.size _ _ _ _ (b3.alloc b3.size _)
  have p1 : V4.cell? ⟨w.heap.size, 1, none⟩ = some (.slice a0 n0 c0) := (unhide HM0).cell 1 _ rfl
  rw [hV3] at t3 hV4
  rw [hV4] at p1
  clear HB3 hV3 n0' n1' b3
  go_wp2_with (first
    | refine wpList_store_mid rfl 62 _ _ rfl w3.heap.size 0 C rfl rfl (unhide t3) (unhide hiS) (unhide h1S) ?_)
  rw [← hV4]
  have z4 := (unhide HC4).lt
  have z0 := (unhide HM1).lt
  clear hV4 t3 p1
  generalize w3.heap.size = sb at HC4 z4
  go_loopw [14] (fun i wr => ∃ k : Nat, i = .int .i64 (k : Int) ∧ k ≤ n0 ∧ Hid (R = slacksOk Y G (Q.drop k)) ∧ Below V4.heap.size V4 wr) (fun i _ => n0 - (intOf i).toNat)
  case atStart => exact ⟨0, rfl, Nat.zero_le _, unhide H0, Below.refl _ _⟩
  case round =>
    obtain ⟨k, rfl, hk, HR, hbr⟩ := hrel
    have bw : Below w.heap.size w wr := b4.trans (hbr.mono b4.size)
    have hzr := hbr.size
    by_cases hlt : k < n0
    · have hkL : k < Q.length := by have := unhide HEL; omega
      obtain ⟨b, off, rfl, hbB, d0, d1, d2, d3, d4⟩ := unhide HCE k hkL
      rw [← bw.cell (p := ⟨b, off + k * 5, none⟩) (by simp; omega)] at d0
      rw [← bw.cell (p := ⟨b, off + k * 5 + 1, none⟩) (by simp; omega)] at d1
      rw [← bw.cell (p := ⟨b, off + k * 5 + 2, none⟩) (by simp; omega)] at d2
      rw [← bw.cell (p := ⟨b, off + k * 5 + 3, none⟩) (by simp; omega)] at d3
      rw [← bw.cell (p := ⟨b, off + k * 5 + 4, none⟩) (by simp; omega)] at d4
      have HR2 := hide ((unhide HR).trans (unhide HST k hkL))
      have SHk := hide (unhide SH Q[k] (unhide HEO _ (List.getElem_mem hkL)))
      generalize Q[k] = q at d0 d1 d2 d3 d4 HR2 SHk
      have hsd : decide (0 ≤ slackI Y G q) = !decide (slackI Y G q < 0) := by
        rw [Bool.eq_iff_iff]
        simp
      rw [hsd] at HR2
      generalize decide (slackI Y G q < 0) = o at SHk HR2
      clear hsd
      obtain ⟨y0, y1, y2, y3, y4⟩ := q
      unfold EdgeI.v at SHk
      simp only at d0 d1 d2 d3 d4 SHk
      have hx2 : (k : Int) < (n0 : Int) := by omega
      have hx3 : (0 : Int) ≤ (k : Int) := by omega
      obtain ⟨V6, hV6⟩ : ∃ W, W = wr.alloc (Obj.cells #[Value.int .i64 y0, Value.int .i64 y1, Value.int .i64 y2, Value.int .i64 y3, Value.int .i64 y4] 68) := ⟨_, rfl⟩
      have n6 : Below wr.heap.size wr V6 := by rw [hV6]; exact below_new _ _
      have b6 : Below V4.heap.size V4 V6 := hbr.trans (n6.mono hbr.size)
      have l6 := hide ((unhide HC4).below b6).range
      have k0 : V6.cell? ⟨w.heap.size + 1, 0, none⟩ = some (.slice a n c) := ((unhide HM1).below b6).cell 0 _ rfl
      have k1 : V6.cell? ⟨w.heap.size + 1, 1, none⟩ = some (.slice a' n' c') := ((unhide HM1).below b6).cell 1 _ rfl
      rw [hV6] at l6 k0 k1
      go_wp2_with (first
        | refine wpList_load_mid rfl 62 _ rfl sb 0 rfl C.toList _ (unhide l6) Try.underlying62 rfl (unhide hiL) ?_)
      rw [← hV6]
      have bw6 : Below w.heap.size w V6 := b4.trans (b6.mono b4.size)
      clear hV6 l6 k0 k1 d0 d1 d2 d3 d4
      refine (unhide SHk V6 bw6).mono ?_
      rintro e w7 ⟨rfl, hb7⟩
      have b7 : Below V4.heap.size V4 w7 := b6.trans (hb7.mono b6.size)
      have bw7 : Below w.heap.size w w7 := b4.trans (b7.mono b4.size)
      clear hb7 b6 n6
      cases o with
      | true =>
        have hR : R = false := by rw [unhide HR2]; rfl
        subst hR
        go_wp2_with fail
        go_ret
        exact ⟨rfl, bw7⟩
      | false =>
        have HR3 : Hid (R = slacksOk Y G (Q.drop (k + 1))) := unhide HR2
        clear HR2
        go_wp2_with fail
        exact ⟨⟨k + 1, by go_num, by omega, HR3, b7⟩, by simp [intOf]; omega⟩
    · obtain rfl : k = n0 := by omega
      have hR := (unhide HR).trans (unhide HEND)
      subst hR
      go_wp2_with fail
      go_ret
      exact ⟨rfl, bw⟩
set_option maxRecDepth 100000 in
set_option maxHeartbeats 4000000 in
theorem twice_any (v : Value) (B : Nat) (s : Int) (Y : List Int) (G : List GrpI) (hYs : (Y.length : Int) = s) (h9 : s ≤ 9) (hY : ∀ y ∈ Y, 0 ≤ y ∧ y ≤ 1000000000) (hq : ∀ q ∈ G, grpHead s q = true) (hG8 : G.length ≤ 8) (w : World) (hB : B ≤ w.heap.size) (hv : PrAt w v B Y G) :
    Calls Try.prog 32 #[v] w fun r w' => r = .returned (.int .i64 (sumI Y G)) ∧ Below w.heap.size w w' := by
  have hR : sumI Y G = gSum (ySum 0 Y) G := rfl
  generalize sumI Y G = R at hR ⊢
  obtain ⟨a, n, c, a', n', c', rfl, hYA, hGA, _⟩ := hv
  have HSY : Hid (∀ S k (h : k < Y.length), ySum S (Y.drop k) = ySum (S + Y[k]) (Y.drop (k + 1))) := fun S k h => by rw [drop_step Y k h]; rfl
  have HEY : Hid (∀ S, ySum S (Y.drop n) = S) := fun S => by rw [← hYA.1, List.drop_length]; rfl
  have HSG : Hid (∀ S k (h : k < G.length), gSum S (G.drop k) = gSum (S + G[k].Z * ((G[k].M.length / 2 : Nat) : Int)) (G.drop (k + 1))) := fun S k h => by rw [drop_step G k h]; rfl
  have HEG : Hid (∀ S, gSum S (G.drop n') = S) := fun S => by rw [← hGA.1, List.drop_length]; rfl
  have HY := hide hY
  have HQ := hide hq
  have HYL := hide hYA.1
  have HGL := hide hGA.1
  have HCY := hide hYA.2
  have HCG := hide hGA.2
  have H0 : Hid (ySum 0 Y = ySum 0 (Y.drop 0)) := rfl
  have HR := hide hR
  generalize ySum 0 Y = T at H0 HR
  have hn9 : n ≤ 9 := by have := hYA.1; omega
  have hn8 : n' ≤ 8 := by have := hGA.1; omega
  clear hY hq hYA hGA hR
  have p0 : (w.alloc (Obj.cells #[Value.slice a n c, Value.slice a' n' c'] 30)).cell? ⟨w.heap.size, 0, none⟩ = some (.slice a n c) := (Blk.new0 (t := 30)).cell 0 _ rfl
  go_enter Try.func32, Try.ntmps32
  go_wp2_with fail
  obtain ⟨V, hV⟩ : ∃ W, W = w.alloc (Obj.cells #[Value.slice a n c, Value.slice a' n' c'] 30) := ⟨_, rfl⟩
  rw [← hV]
  have bV : Below w.heap.size w V := by rw [hV]; exact below_new _ _
  have m0 : Blk V w.heap.size #[Value.slice a n c, Value.slice a' n' c'] 30 := by rw [hV]; exact Blk.new0
  clear hV p0
  have z0 := m0.lt
  have HM0 := hide m0
  clear m0
  go_loopw [3, 11] (fun t i wr => ∃ (k : Nat) (S : Int), i = .int .i64 (k : Int) ∧ t = .int .i64 S ∧ k ≤ n ∧ 0 ≤ S ∧ S ≤ 1000000000 * (k : Int) ∧ Hid (T = ySum S (Y.drop k)) ∧ V = wr) (fun _ i _ => n - (intOf i).toNat)
  case atStart => exact ⟨0, 0, rfl, rfl, Nat.zero_le _, by omega, by omega, unhide H0, rfl⟩
  case round =>
    obtain ⟨k, S, rfl, rfl, hk, hS0, hS1, HS, rfl⟩ := hrel
    by_cases hlt : k < n
    · have hkL : k < Y.length := by have := unhide HYL; omega
      obtain ⟨b, off, rfl, hbB, c0⟩ := unhide HCY k hkL
      rw [← bV.cell (p := ⟨b, off + k, none⟩) (by simp; omega)] at c0
      have hy := unhide HY _ (List.getElem_mem hkL)
      have HS2 := hide ((unhide HS).trans (unhide HSY S k hkL))
      generalize Y[k] = y at c0 hy HS2
      have w1 : IntKind.i64.wrap (S + y) = S + y := wrap_in _ (by omega)
      go_wp2_with fail
      exact ⟨⟨k + 1, S + y, by go_num, rfl, by omega, by omega, by omega, unhide HS2, trivial⟩, by simp [intOf]; omega⟩
    · obtain rfl : k = n := by omega
      have hTS := (unhide HS).trans (unhide HEY S)
      have HR2 : Hid (R = gSum S (G.drop 0)) := by show _ = _; rw [unhide HR, hTS]; rfl
      have p1 : V.cell? ⟨w.heap.size, 1, none⟩ = some (.slice a' n' c') := (unhide HM0).cell 1 _ rfl
      clear hTS HS HR H0
      go_wp2_with fail
      clear p1
      go_loopw [3, 22] (fun t i wr => ∃ (j : Nat) (U : Int), i = .int .i64 (j : Int) ∧ t = .int .i64 U ∧ j ≤ n' ∧ 0 ≤ U ∧ U ≤ 9000000000 + 4000000000 * (j : Int) ∧ Hid (R = gSum U (G.drop j)) ∧ Below V.heap.size V wr) (fun _ i _ => n' - (intOf i).toNat)
      case atStart => exact ⟨0, S, rfl, rfl, Nat.zero_le _, by omega, by omega, unhide HR2, Below.refl _ _⟩
      case round =>
        obtain ⟨j, U, rfl, rfl, hj, hU0, hU1, HU, hbr⟩ := hrel
        have hzr := hbr.size
        have bw : Below w.heap.size w wr := bV.trans (hbr.mono bV.size)
        by_cases hlt : j < n'
        · have hjL : j < G.length := by have := unhide HGL; omega
          obtain ⟨b, off, a2, c2, rfl, hbB, d0, d1, _⟩ := unhide HCG j hjL
          rw [← bw.cell (p := ⟨b, off + j * 2, none⟩) (by simp; omega)] at d0
          rw [← bw.cell (p := ⟨b, off + j * 2 + 1, none⟩) (by simp; omega)] at d1
          have hh := half_bounds (unhide HQ _ (List.getElem_mem hjL)) h9
          obtain ⟨hM3, hM2, hM9, hZ1, hZ2⟩ := (grpHead_iff s _).1 (unhide HQ _ (List.getElem_mem hjL))
          have HU2 := hide ((unhide HU).trans (unhide HSG U j hjL))
          generalize G[j] = q at d0 d1 hh hM3 hM2 hM9 hZ1 hZ2 HU2
          have hjn : (j : Int) < (n' : Int) := by omega
          have wl : IntKind.i64.wrap ((q.M.length : Int) - 1) = ((q.M.length - 1 : Nat) : Int) := by rw [wrap_in _ (by omega)]; omega
          have wh : (((q.M.length - 1 : Nat) : Int)) / 2 = ((q.M.length / 2 : Nat) : Int) := by omega
          obtain ⟨pz, hpz⟩ : ∃ pz, pz = q.Z * ((q.M.length / 2 : Nat) : Int) := ⟨_, rfl⟩
          rw [← hpz] at hh HU2
          have HWH : Hid (wrap64 (U + wrap64 (q.Z * (((q.M.length : Nat) : Int) / 2))) = U + pz) := by
            show _ = _
            rw [show ((q.M.length : Nat) : Int) / 2 = ((q.M.length / 2 : Nat) : Int) by omega, ← hpz, wrap64_in pz (by omega), wrap64_in _ (by omega)]
          clear hpz
          go_wp2_with fail
          exact ⟨⟨j + 1, U + pz, by go_num, (by rw [unhide HWH]), by omega, by omega, by omega, unhide HU2, hbr.alloc hbr.size _⟩, by simp [intOf]; omega⟩
        · obtain rfl : j = n' := by omega
          have hRS := (unhide HU).trans (unhide HEG U)
          subst hRS
          go_wp2_with fail
          go_ret
          exact ⟨rfl, bw⟩
set_option maxRecDepth 100000 in
set_option maxHeartbeats 4000000 in
theorem implProof_gen (B : Nat) (v : Value) (s : Int) (Q : List EdgeI) (u : Value) (Y : List Int) (G : List GrpI) (h1 : Q.length ≤ 1048576) (h2 : psize Y G ≤ 1048576) (w : World) (hB : B ≤ w.heap.size) (hv : GrAt w v B s Q) (hu : PrAt w u B Y G) :
    Calls Try.prog 7 #[v, u] w fun e w' => e = .returned (.bool (proofOk s Q Y G)) ∧ Below w.heap.size w w' := by
  obtain ⟨l1, l2, l3⟩ := psize_le h2
  have OK := hide (fun w1 (hb : Below w.heap.size w w1) => implGraph_gen B v s Q h1 w1 (by have := hb.size; omega) (hv.below hb hB))
  have hP := proofOk_is s Q Y G (fun h => ⟨(graph_sound h).1, (graph_sound h).2.1⟩)
  have SHT : Hid (graphOk s Q = true → yOk Y = true → decide ((Y.length : Int) = s) = true → allPG s G = true → decide (G.length ≤ 8) = true → ∀ w1, Below w.heap.size w w1 → Calls Try.prog 27 #[v, u] w1 fun e w' => e = .returned (.bool (!slacksOk Y G Q)) ∧ Below w1.heap.size w1 w') := fun x1 x2 x3 x4 x5 w1 hb => by
    obtain ⟨g0, g9, ge, _⟩ := graph_sound x1
    have hpg := (allPG_iff s G).1 x4
    exact isAnyShort_any B v s Q u Y G h1 ge (by simpa using x3) g9 (yOk_at Y x2) (fun q hq => by have := hpg q hq; rw [isPG_head g0, Bool.and_eq_true] at this; exact this.1) (fun q hq => (isPG_sets g9 (hpg q hq)).2) (by simpa using x5) w1 (by have := hb.size; omega) (hv.below hb hB) (hu.below hb hB)
  obtain ⟨a0, n0, c0, rfl, hE⟩ := hv
  obtain ⟨a, n, c, a', n', c', rfl, hYA, hGA, _⟩ := hu
  have YS := hide (fun w1 (hb : Below w.heap.size w w1) => areYs_is a n c B Y s (by have := hYA.1; omega) w1 (hYA.below hb hB))
  have GS := hide (fun w1 (hb : Below w.heap.size w w1) => areGroups_any a' n' c' B G s (by have := hGA.1; omega) l3 w1 (by have := hb.size; omega) (hGA.below hb hB))
  have SO : Hid (graphOk s Q = true → allPG s G = true → decide (G.length ≤ 8) = true → ∀ w1, Below w.heap.size w w1 → Calls Try.prog 26 #[.slice a' n' c'] w1 fun e w' => e = .returned (.agg (fs (setF G))) ∧ Below w1.heap.size w1 w') := fun x1 x4 x5 w1 hb =>
    setsOf_any a' n' c' B G (by have := hGA.1; simp at x5; omega) (fun q hq => ⟨l3 q hq, (isPG_sets (graph_sound x1).2.1 ((allPG_iff s G).1 x4 q hq)).2⟩) w1 (by have := hb.size; omega) (hGA.below hb hB)
  have DO := hide (fun w1 => doOverlap_any (setF G) w1)
  generalize proofOk s Q Y G = R at hP ⊢
  generalize graphOk s Q = gk at OK hP SHT SO
  generalize slacksOk Y G Q = sk at hP SHT
  generalize doOv (setF G) = ok at hP DO
  generalize fs (setF G) = C at SO DO
  generalize yOk Y = yk at YS hP SHT
  generalize decide ((Y.length : Int) = s) = ys at YS hP SHT
  generalize allPG s G = pk at GS hP SHT SO
  generalize decide (G.length ≤ 8) = ps at GS hP SHT SO
  clear hYA hGA hE l1 l2 l3 h1 h2
  have HP := hide hP
  clear hP
  go_enter Try.func7, Try.ntmps7
  go_wp2_with fail
  obtain ⟨V, hV⟩ : ∃ W, W = (w.alloc (Obj.cells #[Value.int .i64 s, Value.slice a0 n0 c0] 26)).alloc (Obj.cells #[Value.slice a n c, Value.slice a' n' c'] 30) := ⟨_, rfl⟩
  rw [← hV]
  have bV : Below w.heap.size w V := by rw [hV]; exact (below_new _ _).alloc (by simp) _
  have HM0 : Hid (Blk V w.heap.size #[Value.int .i64 s, Value.slice a0 n0 c0] 26) := by show Blk _ _ _ _; rw [hV]; exact Blk.new0.alloc
  have HM1 : Hid (Blk V (w.heap.size + 1) #[Value.slice a n c, Value.slice a' n' c'] 30) := by show Blk _ _ _ _; rw [hV]; exact Blk.new1
  clear hV
  refine (unhide OK V bV).mono ?_
  rintro e w1 ⟨rfl, hb1⟩
  have b1 := bV.trans (hb1.mono bV.size)
  have HM0 := hide ((unhide HM0).below hb1)
  have HM1 := hide ((unhide HM1).below hb1)
  clear hb1 bV
  cases gk with
  | false =>
    have hR : R = false := by rw [unhide HP]; rfl
    subst hR
    go_wp2_with fail
    go_ret
    exact ⟨rfl, b1⟩
  | true =>
    have SO1 := hide (unhide SO rfl)
    have SH1 := hide (unhide SHT rfl)
    clear SO SHT
    have p0 : w1.cell? ⟨w.heap.size, 0, none⟩ = some (.int .i64 s) := (unhide HM0).cell 0 _ rfl
    have p1 : w1.cell? ⟨w.heap.size + 1, 0, none⟩ = some (.slice a n c) := (unhide HM1).cell 0 _ rfl
    go_wp2_with fail
    refine (unhide YS w1 b1).mono ?_
    rintro e w2 ⟨rfl, rfl⟩
    clear p1
    have p2 : w2.cell? ⟨w.heap.size + 1, 1, none⟩ = some (.slice a' n' c') := (unhide HM1).cell 1 _ rfl
    obtain ⟨yy, hyy⟩ : ∃ yy, yy = (yk && ys) := ⟨_, rfl⟩
    rw [← hyy]
    have HYY := hide hyy
    clear hyy
    cases yy with
    | false =>
      have hR : R = false := by rw [unhide HP, ← unhide HYY]; rfl
      subst hR
      go_wp2_with fail
      go_ret
      exact ⟨rfl, b1⟩
    | true =>
      go_wp2_with fail
      refine (unhide GS w2 b1).mono ?_
      rintro e w3 ⟨rfl, hb3⟩
      have b3 := b1.trans (hb3.mono b1.size)
      have HM0 := hide ((unhide HM0).below hb3)
      have HM1 := hide ((unhide HM1).below hb3)
      clear p0 p2 hb3 b1
      have p2 : w3.cell? ⟨w.heap.size + 1, 1, none⟩ = some (.slice a' n' c') := (unhide HM1).cell 1 _ rfl
      obtain ⟨gg, hgg⟩ : ∃ gg, gg = (pk && ps) := ⟨_, rfl⟩
      rw [← hgg]
      have HGG := hide hgg
      clear hgg
      cases gg with
      | false =>
        have hR : R = false := by rw [unhide HP, ← unhide HYY, ← unhide HGG]; rfl
        subst hR
        go_wp2_with fail
        go_ret
        exact ⟨rfl, b3⟩
      | true =>
        have hy2 := (Bool.and_eq_true _ _ ▸ (unhide HYY).symm : yk = true ∧ ys = true)
        have hg2 := (Bool.and_eq_true _ _ ▸ (unhide HGG).symm : pk = true ∧ ps = true)
        have SO2 := hide (unhide SO1 hg2.1 hg2.2)
        have SH2 := hide (unhide SH1 hy2.1 hy2.2 hg2.1 hg2.2)
        have HP2 : Hid (R = (!ok && sk)) := by show _ = _; rw [unhide HP, ← unhide HYY, ← unhide HGG]; rfl
        clear hy2 hg2 HYY HGG HP SO1 SH1
        go_wp2_with fail
        refine (unhide SO2 w3 b3).mono ?_
        rintro e w4 ⟨rfl, hb4⟩
        have b4 := b3.trans (hb4.mono b3.size)
        have HM0 := hide ((unhide HM0).below hb4)
        have HM1 := hide ((unhide HM1).below hb4)
        clear p2 hb4 b3
        go_wp2_with fail
        refine (unhide DO w4).mono ?_
        rintro e w5 ⟨rfl, hb5⟩
        have b5 := b4.trans (hb5.mono b4.size)
        have HM0 := hide ((unhide HM0).below hb5)
        have HM1 := hide ((unhide HM1).below hb5)
        clear hb5 b4
        cases ok with
        | true =>
          have hR : R = false := by rw [unhide HP2]; rfl
          subst hR
          go_wp2_with fail
          go_ret
          exact ⟨rfl, b5⟩
        | false =>
          have hR : R = sk := by rw [unhide HP2]; rfl
          subst hR
          have p0 : w5.cell? ⟨w.heap.size, 0, none⟩ = some (.int .i64 s) := (unhide HM0).cell 0 _ rfl
          have p1 : w5.cell? ⟨w.heap.size, 1, none⟩ = some (.slice a0 n0 c0) := (unhide HM0).cell 1 _ rfl
          have p2 : w5.cell? ⟨w.heap.size + 1, 0, none⟩ = some (.slice a n c) := (unhide HM1).cell 0 _ rfl
          have p3 : w5.cell? ⟨w.heap.size + 1, 1, none⟩ = some (.slice a' n' c') := (unhide HM1).cell 1 _ rfl
          go_wp2_with fail
          refine (unhide SH2 w5 b5).mono ?_
          rintro e w6 ⟨rfl, hb6⟩
          have b6 := b5.trans (hb6.mono b5.size)
          clear p0 p1 p2 p3 hb6
          cases R with
          | true =>
            go_wp2_with fail
            go_ret
            exact ⟨rfl, b6⟩
          | false =>
            go_wp2_with fail
            go_ret
            exact ⟨rfl, b6⟩
set_option maxRecDepth 100000 in
set_option maxHeartbeats 2000000 in
theorem implBound_gen (B : Nat) (v : Value) (s : Int) (Q : List EdgeI) (u : Value) (Y : List Int) (G : List GrpI) (h1 : Q.length ≤ 1048576) (h2 : psize Y G ≤ 1048576) (w : World) (hB : B ≤ w.heap.size) (hv : GrAt w v B s Q) (hu : PrAt w u B Y G) :
    Calls Try.prog 9 #[v, u] w fun e w' => e = .returned (.int .i64 (boundR s Q Y G)) ∧ Below w.heap.size w w' := by
  have PK := hide (fun w1 (hb : Below w.heap.size w w1) => implProof_gen B v s Q u Y G h1 h2 w1 (by have := hb.size; omega) (hv.below hb hB) (hu.below hb hB))
  have SM := hide (fun (h : proofOk s Q Y G = true) w1 (hb : Below w.heap.size w w1) => twice_any u B s Y G (proof_sound h).2.1 (proof_sound h).2.2.1 (proof_sound h).2.2.2.2.1 (proof_sound h).2.2.2.2.2 (proof_sound h).2.2.2.1 w1 (by have := hb.size; omega) (hu.below hb hB))
  have HR : Hid (boundR s Q Y G = if proofOk s Q Y G = true then sumI Y G / 2 else 0) := rfl
  have HBD : Hid (proofOk s Q Y G = true → 0 ≤ sumI Y G ∧ sumI Y G ≤ 41000000000) := fun h => by
    obtain ⟨_, xs, x9, x8, x5, x6⟩ := proof_sound h
    have i1 := ySum_bounds Y 0 x5
    have i2 := gSum_bounds x9 G (ySum 0 Y) x6
    unfold sumI
    omega
  generalize boundR s Q Y G = R at HR ⊢
  generalize sumI Y G = S at SM HR HBD
  generalize proofOk s Q Y G = ok at PK SM HR HBD
  obtain ⟨a0, n0, c0, rfl, _⟩ := hv
  obtain ⟨a, n, c, a', n', c', rfl, _⟩ := hu
  clear h1 h2
  go_enter Try.func9, Try.ntmps9
  go_wp2_with fail
  obtain ⟨V, hV⟩ : ∃ W, W = (w.alloc (Obj.cells #[Value.int .i64 s, Value.slice a0 n0 c0] 26)).alloc (Obj.cells #[Value.slice a n c, Value.slice a' n' c'] 30) := ⟨_, rfl⟩
  rw [← hV]
  have bV : Below w.heap.size w V := by rw [hV]; exact (below_new _ _).alloc (by simp) _
  have HM1 : Hid (Blk V (w.heap.size + 1) #[Value.slice a n c, Value.slice a' n' c'] 30) := by show Blk _ _ _ _; rw [hV]; exact Blk.new1
  clear hV
  refine (unhide PK V bV).mono ?_
  rintro e w1 ⟨rfl, hb1⟩
  have b1 := bV.trans (hb1.mono bV.size)
  have HM1 := hide ((unhide HM1).below hb1)
  clear hb1 bV
  cases ok with
  | false =>
    have hR : R = 0 := by rw [unhide HR]; rfl
    subst hR
    go_wp2_with fail
    go_ret
    exact ⟨rfl, b1⟩
  | true =>
    have hR : R = S / 2 := by rw [unhide HR]; rfl
    obtain ⟨h0, h41⟩ := unhide HBD rfl
    have HT : Hid (wrap64 (S.tdiv 2) = R) := by show _ = _; rw [hR, Int.tdiv_eq_ediv_of_nonneg h0, wrap64_in _ (by omega)]
    have SM2 := hide (unhide SM rfl)
    have p2 : w1.cell? ⟨w.heap.size + 1, 0, none⟩ = some (.slice a n c) := (unhide HM1).cell 0 _ rfl
    have p3 : w1.cell? ⟨w.heap.size + 1, 1, none⟩ = some (.slice a' n' c') := (unhide HM1).cell 1 _ rfl
    clear hR SM HBD HR h0 h41
    go_wp2_with fail
    refine (unhide SM2 w1 b1).mono ?_
    rintro e w2 ⟨rfl, hb2⟩
    have b2 := b1.trans (hb2.mono b1.size)
    clear p2 p3 hb2
    go_wp2_with fail
    go_ret
    refine ⟨?_, b2⟩
    show Ending.returned (Value.int .i64 (wrap64 (S.tdiv 2))) = _
    rw [unhide HT]
end Gr
end Go.Proofs.Ytkjclkelnheheaa
