/-
 LkSW.
-/
import Derived.Test.YtnihoabminnbcaaJ30
import Derived.Test.YtnihoabminnbcaaJ29
import Derived.Test.YtnihoabminnbcaaJ26
import Derived.Test.YtnihoabminnbcaaJ18
import Derived.Test.YtnihoabminnbcaaJ43
import Derived.Test.YtnihoabminnbcaaJ15
import Derived.Test.YtnihoabminnbcaaJ2
import Derived.BigQuiet
import Derived.Deep.RegionHeld3
namespace Go.Proofs.Ytnihoabminnbcaa
namespace Lk
open Go.RowKit
open Gr (Kept EdgeI CoupleI GrAt GrOwn GBox below_new InOwn InAt own_below own_lower intsV intsAt_of_own graphOk matchOk match_sound edgesAt big_is drawMatch_any Grown wp_region_grown CoOwn CoAt)
set_option maxRecDepth 100000 in
set_option maxHeartbeats 1000000 in
theorem sameRow_any (a a' : Option Addr) (len c c' B B' : Nat) (L : List Int) (hlen : len ≤ 1048576) (w : World) (hB : B ≤ w.heap.size) (hB' : B' ≤ w.heap.size) (hs : IntsAt w a len B L) (hs' : IntsAt w a' len B' L) :
    Calls Try.prog 9 #[.slice a len c, .slice a' len c'] w fun e w' => e = .returned (.bool true) ∧ Below w.heap.size w w' := by
  obtain ⟨hL, hc⟩ := hs
  obtain ⟨_, hc'⟩ := hs'
  have HC := hide hc
  have HC' := hide hc'
  have HL := hide hL
  clear hc hc' hL
  go_enter Try.func9, Try.ntmps9
  go_wp2_with fail
  go_loopw [5] (fun i wr => ∃ k : Nat, i = .int .i64 k ∧ k ≤ len ∧ Below w.heap.size w wr) (fun i _ => len - (intOf i).toNat)
  case atStart => exact ⟨0, rfl, Nat.zero_le _, Below.refl _ _⟩
  case round =>
    obtain ⟨k, rfl, hk, hb⟩ := hrel
    by_cases hlt : k < len
    · have hkL : k < L.length := by have := unhide HL; omega
      obtain ⟨b, off, rfl, hbB, hcell⟩ := unhide HC k hkL
      obtain ⟨b', off', rfl, hbB', hcell'⟩ := unhide HC' k hkL
      rw [← hb.cell (p := ⟨b, off + k, none⟩) (by simp; omega)] at hcell
      rw [← hb.cell (p := ⟨b', off' + k, none⟩) (by simp; omega)] at hcell'
      have hx0 : (0 : Int) ≤ (k : Int) := by omega
      have hx1 : (k : Int) < (len : Int) := by omega
      generalize L[k] = s at hcell hcell'
      go_wp2_with fail
      go_quiet (fail)
      go_wp2
      go_roundw
      case rel => exact ⟨k + 1, by go_num, by omega, below_drewN hb _⟩
      case measure => simp [intOf]; omega
    · go_wp2
      go_ret
      exact ⟨rfl, hb⟩
theorem swaps_big (a : Option Addr) (len cap : Nat) (hl : ¬ len ≤ 1048576) (w : World) :
    Calls Try.prog 3 #[.slice a len cap] w fun e w' => e = .returned (.bool true) ∧ Below w.heap.size w w' := by
  have H := hide (big_is a len cap w)
  have e : decide ((1048576 : Int) < (len : Int)) = true := by simp; omega
  rw [e] at H
  clear e
  go_enter Try.func3, Try.ntmps3
  go_wp2_with fail
  refine (unhide H).mono ?_
  rintro e w1 ⟨rfl, rfl⟩
  go_wp2
  go_ret
  exact ⟨rfl, Below.refl _ _⟩
set_option maxRecDepth 100000 in
set_option maxHeartbeats 8000000 in
theorem swaps_walk (a : Option Addr) (len cap : Nat) (hl : len ≤ 1048576) (w : World) (hd : Code a len w.heap.size w) :
    Calls Try.prog 3 #[.slice a len cap] w fun e w' => e = .returned (.bool true) ∧ Below w.heap.size w w' := by
  have H := hide (big_is a len cap w)
  have e : decide ((1048576 : Int) < (len : Int)) = false := by simp; omega
  rw [e] at H
  have DR := hide (drawMatch_any a len cap hl w hd)
  clear e hd
  go_enter Try.func3, Try.ntmps3
  go_wp2_with fail
  refine (unhide H).mono ?_
  rintro e w1 ⟨rfl, hw1⟩
  subst hw1
  go_wp2_with fail
  refine (unhide DR).mono ?_
  rintro e w2 ⟨⟨d, du, s, Q, N, rfl, ho2, hn2, hmN, hQ9⟩, hb2⟩
  obtain ⟨v1, rfl, hr2⟩ := ho2
  obtain ⟨P0, C, rfl, _⟩ := edgesAt.of_own hr2
  have hok := (match_sound hmN).1
  obtain ⟨hs0, hs9⟩ := ok_size hok
  obtain ⟨n, rfl⟩ := Int.eq_ofNat_of_zero_le hs0
  have hn9 : n ≤ 9 := by omega
  have HMN := hide hmN
  have HOK := hide hok
  have HLN := hide (lone_count hmN)
  have hN9 : N.length ≤ 4 := by have := unhide HLN; omega
  obtain ⟨bn, cn, rfl⟩ := (Gr.CoOwn.at hn2).shape
  obtain ⟨V3, hV3⟩ : ∃ W, W = w2.alloc (Obj.cells #[Value.int .i64 (n : Int), Value.slice P0 Q.length C] 26) := ⟨_, rfl⟩
  have b3 : Below w2.heap.size w2 V3 := by rw [hV3]; exact below_new _ _
  have u3 : GBox V3 w2.heap.size (n : Int) (.slice P0 Q.length C) := by rw [hV3]; exact GBox.new _ _ _
  have o3 : GrOwn V3 w1.heap.size (.agg #[.int .i64 (n : Int), .slice P0 Q.length C]) (n : Int) Q := ⟨_, rfl, own_below hr2 b3⟩
  have x3 : CoAt V3 (.slice bn N.length cn) V3.heap.size N := (Gr.CoOwn.at hn2).below b3 (Nat.le_refl _) |>.mono b3.size
  have c3 : Below w1.heap.size w1 V3 := hb2.trans (b3.mono hb2.size)
  clear DR hok H hmN
  go_wp2_with fail
  rw [← hV3]
  have SM := hide (Sv.solve_match V3 _ (n : Int) Q (unhide HOK) hQ9 o3.at)
  have z3 := u3.lt
  have HU3 := hide u3
  have HO3 := hide o3
  have HX3 := hide x3
  obtain ⟨p0, p1⟩ := u3.cells
  clear hV3 b3 hr2 hb2 u3 o3 hn2 x3
  go_wp2_with fail
  refine (unhide SM).mono ?_
  rintro e w4 ⟨⟨dm, ya, yn, yc, ga, gn, gc, M, rfl, hM, _, hmM⟩, hb4⟩
  obtain ⟨am, cm, rfl⟩ := (Gr.CoOwn.at hM).shape
  have HMM := hide hmM
  have HLM := hide (lone_count hmM)
  have hM9 : M.length ≤ 4 := by have := unhide HLM; omega
  obtain ⟨V4, hV4⟩ : ∃ W, W = w4.alloc (Obj.cells #[.slice ya yn yc, .slice ga gn gc] 33) := ⟨_, rfl⟩
  have b4 : Below w4.heap.size w4 V4 := by rw [hV4]; exact below_new _ _
  have b34 : Below V3.heap.size V3 V4 := hb4.trans (b4.mono hb4.size)
  have u4 := (unhide HU3).below b34
  have o4 := (unhide HO3).below b34
  have x4 := (unhide HX3).below b34 (Nat.le_refl _) |>.mono b34.size
  have m4 : CoAt V4 (.slice am M.length cm) V4.heap.size M := (Gr.CoOwn.at hM).below b4 (Nat.le_refl _) |>.mono b4.size
  have c4 : Below w1.heap.size w1 V4 := c3.trans (b34.mono c3.size)
  have z4 := u4.lt
  obtain ⟨L1, hL1⟩ : ∃ L, L = N.length := ⟨_, rfl⟩
  obtain ⟨L2, hL2⟩ : ∃ L, L = M.length := ⟨_, rfl⟩
  obtain ⟨q1, hq1⟩ : ∃ q, q = Q.length := ⟨_, rfl⟩
  have SI : Hid (∀ W, Below V4.heap.size V4 W → Calls Try.prog 7 #[.agg #[.int .i64 (n : Int), .slice P0 q1 C], .slice am L2 cm, .slice bn L1 cn] W fun e w' => (∃ d, e = .returned d ∧ SsOwn w' W.heap.size d (swapR (n : Int) Q M N)) ∧ Below W.heap.size W w') := fun W hW => by
    rw [hL1, hL2, hq1]
    exact implSwap_gen W.heap.size _ (n : Int) Q _ M _ N (by omega) (by omega) (by omega) W (Nat.le_refl _) (o4.below hW).at (m4.below hW (Nat.le_refl _) |>.mono hW.size) (x4.below hW (Nat.le_refl _) |>.mono hW.size)
  have SS : Hid (∀ W, Below V4.heap.size V4 W → Calls Try.prog 8 #[.agg #[.int .i64 (n : Int), .slice P0 q1 C], .slice am L2 cm, .slice bn L1 cn] W fun e w' => (∃ d, e = .returned d ∧ SsOwn w' W.heap.size d (swapR (n : Int) Q M N)) ∧ Below W.heap.size W w') := fun W hW => by
    rw [hL1, hL2, hq1]
    exact specSwap_gen W.heap.size _ (n : Int) Q _ M _ N (by omega) (by omega) (by omega) W (Nat.le_refl _) (o4.below hW).at (m4.below hW (Nat.le_refl _) |>.mono hW.size) (x4.below hW (Nat.le_refl _) |>.mono hW.size)
  have SZ : Hid (∀ W, Below V4.heap.size V4 W → Calls Try.prog 7 #[.agg #[.int .i64 (n : Int), .slice P0 q1 C], .slice am L2 cm, .slice am L2 cm] W fun e w' => (∃ a c, e = .returned (.slice a 0 c)) ∧ Below W.heap.size W w') := fun W hW => by
    rw [hL2, hq1]
    refine (implSwap_gen W.heap.size _ (n : Int) Q _ M _ M (by omega) (by omega) (by omega) W (Nat.le_refl _) (o4.below hW).at (m4.below hW (Nat.le_refl _) |>.mono hW.size) (m4.below hW (Nat.le_refl _) |>.mono hW.size)).mono ?_
    rintro e w' ⟨⟨d, rfl, ho⟩, hb⟩
    rw [swap_same] at ho
    obtain ⟨a, c, rfl⟩ := ho.shape
    exact ⟨⟨a, c, rfl⟩, hb⟩
  have LM : Hid (∀ W, Below V4.heap.size V4 W → Calls Try.prog 10 #[.agg #[.int .i64 (n : Int), .slice P0 q1 C], .slice am L2 cm] W fun e w' => (∃ a c k, e = .returned (.slice a k c) ∧ (k : Int) + 2 * (L2 : Int) = (n : Int)) ∧ Below W.heap.size W w') := fun W hW => by
    rw [hL2, hq1]
    refine (implLone_gen W.heap.size _ (n : Int) Q _ M (by omega) (by omega) W (Nat.le_refl _) (o4.below hW).at (m4.below hW (Nat.le_refl _) |>.mono hW.size)).mono ?_
    rintro e w' ⟨⟨d, rfl, ho⟩, hb⟩
    obtain ⟨a, c, rfl, _⟩ := intsAt_of_own ho
    exact ⟨⟨a, c, _, rfl, unhide HLM⟩, hb⟩
  have LN : Hid (∀ W, Below V4.heap.size V4 W → Calls Try.prog 10 #[.agg #[.int .i64 (n : Int), .slice P0 q1 C], .slice bn L1 cn] W fun e w' => (∃ a c k, e = .returned (.slice a k c) ∧ (k : Int) + 2 * (L1 : Int) = (n : Int)) ∧ Below W.heap.size W w') := fun W hW => by
    rw [hL1, hq1]
    refine (implLone_gen W.heap.size _ (n : Int) Q _ N (by omega) (by omega) W (Nat.le_refl _) (o4.below hW).at (x4.below hW (Nat.le_refl _) |>.mono hW.size)).mono ?_
    rintro e w' ⟨⟨d, rfl, ho⟩, hb⟩
    obtain ⟨a, c, rfl, _⟩ := intsAt_of_own ho
    exact ⟨⟨a, c, _, rfl, unhide HLN⟩, hb⟩
  have HSM := hide (swap_small (s := (n : Int)) (Q := Q) (M := M) (N := N))
  have HSL := hide (swap_long (s := (n : Int)) (Q := Q) (M := M) (N := N))
  have hL1' : L1 ≤ 4 := by omega
  have hL2' : L2 ≤ 4 := by omega
  have hq1' : q1 ≤ 90 := by omega
  generalize swapR (n : Int) Q M N = G at SI SS HSM HSL
  obtain ⟨gl, hgl⟩ : ∃ gl, gl = G.length := ⟨_, rfl⟩
  have hgl9 : gl ≤ 9 := by have := (unhide HSM).1; omega
  have HGL := hide hgl
  rw [← hq1] at u4
  have HU4 := hide u4
  have HC4 := hide c4
  rw [← hL2, ← hq1, ← hL1]
  clear p0 p1
  obtain ⟨p0, p1⟩ := u4.cells
  rw [hV4] at p0 p1
  clear SM HU3 HO3 HX3 hb4 b4 b34 hM hmM x4 m4 o4 HMM HLM HLN HMN HOK c3 hL1 hL2 hM9 hN9 hQ9 hq1 hgl u4 c4
  go_wp2_with fail
  rw [← hV4]
  clear hV4
  refine (unhide SI V4 (Below.refl _ _)).mono ?_
  rintro e w5 ⟨⟨d5, rfl, ho5⟩, hb5⟩
  obtain ⟨A5, c5, h5⟩ := ho5.shape
  rw [← unhide HGL] at h5
  subst h5
  have HO5 := hide ho5
  obtain ⟨p0, p1⟩ := ((unhide HU4).below hb5).cells
  have SS5 := hide (unhide SS w5 hb5)
  clear SI SS ho5
  go_wp2_with fail
  refine (unhide SS5).mono ?_
  rintro e w6 ⟨⟨d6, rfl, ho6⟩, hb6⟩
  obtain ⟨A6, c6, h6⟩ := ho6.shape
  rw [← unhide HGL] at h6
  subst h6
  obtain ⟨vs5, g5, hd5⟩ := unhide HO5
  obtain ⟨vs6, g6, hd6⟩ := ho6
  obtain ⟨C5, g5, _⟩ := g5
  obtain ⟨C6, g6, _⟩ := g6
  have H5 := hide (g5.below hb6)
  have H6 := hide g6
  have b46 : Below V4.heap.size V4 w6 := hb5.trans (hb6.mono hb5.size)
  have HB46 := hide b46
  have hee : ((gl : Int) != (gl : Int)) = false := by simp
  clear HO5 SS5 g5 g6 hd5 hd6 hb5 hb6
  go_wp2_with fail
  clear p0 p1
  go_loopw [10] (fun ix wr => ∃ k : Nat, ix = .int .i64 (k : Int) ∧ k ≤ gl ∧ Below w6.heap.size w6 wr) (fun ix _ => gl - (intOf ix).toNat)
  case atStart => exact ⟨0, rfl, Nat.zero_le _, Below.refl _ _⟩
  case round =>
    obtain ⟨k, rfl, hk, hb⟩ := hrel
    by_cases hlt : k < gl
    · have hkG : k < G.length := by have := unhide HGL; omega
      have hkv : k < vs5.length := by have := (unhide H5).1; omega
      have hkv' : k < vs6.length := by have := (unhide H6).1; omega
      have hg := (unhide H5).below hb
      have hg' := (unhide H6).below hb
      obtain ⟨g, cap, hA, _, hgl5⟩ := hg.2.1.form (by have := unhide HGL; omega)
      obtain ⟨g', cap', hA', _, hgl6⟩ := hg'.2.1.form (by have := unhide HGL; omega)
      simp at hA hA'
      obtain ⟨rfl, _, rfl⟩ := hA
      obtain ⟨rfl, _, rfl⟩ := hA'
      obtain ⟨a1, c1, e1, hi1⟩ := intsAt_of_own (hg.2.2 k hkv hkG).1
      obtain ⟨a2, c2, e2, hi2⟩ := intsAt_of_own (hg'.2.2 k hkv' hkG).1
      have hr5 := hg.2.1
      have hr6 := hg'.2.1
      rw [← unhide HGL] at hr5 hr6
      have hc1 := hr5.cellAt k (by omega)
      have hc2 := hr6.cellAt k (by omega)
      rw [List.getElem?_eq_getElem hkv, e1] at hc1
      rw [List.getElem?_eq_getElem hkv', e2] at hc2
      have hm2 := unhide HSL _ (List.getElem_mem hkG)
      have hm9 := (unhide HSM).2 _ (List.getElem_mem hkG)
      have HQ := hide (fun w2 (hb2 : Below wr.heap.size wr w2) => sameRow_any a1 a2 G[k].length c1 c2 wr.heap.size wr.heap.size G[k] (by omega) w2 hb2.size hb2.size (hi1.below hb2 (Nat.le_refl _)) (hi2.below hb2 (Nat.le_refl _)))
      have hx0 : (0 : Int) ≤ (k : Int) := by omega
      have hx1 : (k : Int) < (gl : Int) := by omega
      generalize G[k].length = m at hc1 hc2 HQ hm2 hm9
      have hg2 : decide ((m : Int) < 2) = false := by simp; omega
      clear hi1 hi2 hg hg' e1 e2 hr5 hr6
      have D0 : ∀ d : Grown wr.heap.size wr, d.w.cell? ⟨g, k, none⟩ = some (.slice a1 m c1) := fun d => d.cell hgl5 hc1
      have D1 : ∀ d : Grown wr.heap.size wr, d.w.cell? ⟨g', k, none⟩ = some (.slice a2 m c2) := fun d => d.cell hgl6 hc2
      have EG : Hid (∀ d : Grown wr.heap.size wr, Calls Try.prog 9 #[.slice a1 m c1, .slice a2 m c2] d.w fun e w' => e = .returned (.bool true) ∧ Below d.w.heap.size d.w w') := fun d => unhide HQ d.w d.below
      clear hc1 hc2 HQ
      go_wp2_with fail
      refine wp_region_grown wr.heap.size (by kernel_rfl) (by kernel_rfl) ?_
      repeat (go_big_quiet_step (first | (go_at_call 9; exact Gr.Calls.grown (Nat.le_refl _) (unhide EG _))))
      refine wpQuiet_nil ?_
      rintro w5 ⟨d5, rfl⟩
      go_wp2_with fail
      exact ⟨⟨k + 1, by go_num, by omega, hb.trans (d5.below.mono hb.size)⟩, by simp [intOf]; omega⟩
    · obtain rfl : gl = k := by omega
      have b4r : Below V4.heap.size V4 wr := (unhide HB46).trans (hb.mono (unhide HB46).size)
      have ur := (unhide HU4).below b4r
      obtain ⟨p0, p1⟩ := ur.cells
      have SZ5 := hide (unhide SZ wr b4r)
      clear ur H5 H6 hee HSM HSL SZ
      go_wp2_with fail
      refine (unhide SZ5).mono ?_
      rintro e w7 ⟨⟨a7, c7, rfl⟩, hb7⟩
      have b47 : Below V4.heap.size V4 w7 := b4r.trans (hb7.mono b4r.size)
      have u7 := (unhide HU4).below b47
      obtain ⟨p0, p1⟩ := u7.cells
      have hXl := u7.lt
      have z7 := b47.size
      have hbd : Below V4.heap.size V4 w7.drew := b47.drew
      have hm2 : IntKind.i64.wrap (2 * (L2 : Int)) = 2 * (L2 : Int) := IntWalk.i64_in _ ⟨by omega, by omega⟩
      have hm1 : IntKind.i64.wrap (2 * (L1 : Int)) = 2 * (L1 : Int) := IntWalk.i64_in _ ⟨by omega, by omega⟩
      have hwn : IntKind.i64.wrap (n : Int) = (n : Int) := IntWalk.i64_in _ ⟨by omega, by omega⟩
      have h00 : ((0 : Int) == 0) = true := rfl
      clear SZ5 u7 hb7 HU4 HGL HB46 hk hlt hb b4r
      go_wp2_with fail
      go_region_held3 (fun u => u.cell? ⟨w2.heap.size, 0, none⟩ = some (.int .i64 (n : Int)) ∧ u.cell? ⟨w2.heap.size, 1, none⟩ = some (.slice P0 q1 C))
        (first | go_keep | exact ⟨(hb9.cell (p := ⟨w2.heap.size, 0, none⟩) (Nat.lt_of_lt_of_le hXl hb8.size)).trans ((hb8.cell (p := ⟨w2.heap.size, 0, none⟩) hXl).trans p0), (hb9.cell (p := ⟨w2.heap.size, 1, none⟩) (Nat.lt_of_lt_of_le hXl hb8.size)).trans ((hb8.cell (p := ⟨w2.heap.size, 1, none⟩) hXl).trans p1)⟩ | exact ⟨(hb8.cell (p := ⟨w2.heap.size, 0, none⟩) hXl).trans p0, (hb8.cell (p := ⟨w2.heap.size, 1, none⟩) hXl).trans p1⟩)
        (first | ((go_at_call_of 10 (Value.slice am L2 cm); refine (unhide LM _ hbd).mono ?_; rintro e w8 ⟨⟨a8, c8, k8, rfl, hk8⟩, hb8⟩)) | ((go_at_call_of 10 (Value.slice bn L1 cn); refine (unhide LN _ (hbd.trans (hb8.mono hbd.size))).mono ?_; rintro e w9 ⟨⟨a9, c9, k9, rfl, hk9⟩, hb9⟩)))
      have hfin : Below w1.heap.size w1 w9 := (unhide HC4).trans ((b47.trans (((Below.refl _ _).drew.trans (hb8.trans (hb9.mono hb8.size))).mono z7)).mono (unhide HC4).size)
      clear hb8 hb9
      go_wp2_with fail
      go_ret
      exact ⟨rfl, hfin⟩
end Lk
end Go.Proofs.Ytnihoabminnbcaa
