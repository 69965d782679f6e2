/-
  Texts of this claim, one behind the other: LkBW.
-/
import Derived.Test.YtfhclbpbjlbebaaJ28
import Derived.Test.YtfhclbpbjlbebaaJ25
import Derived.Test.YtfhclbpbjlbebaaJ17
import Derived.Test.YtfhclbpbjlbebaaJ41
import Derived.Test.YtfhclbpbjlbebaaJ13
import Derived.Test.YtfhclbpbjlbebaaJ2
import Derived.BigQuiet
import Derived.Deep.RegionHeld3

/-
  The walk of laws.FnBlocks.
-/
namespace Go.Proofs.Ytfhclbpbjlbebaa
namespace Lk
open Go.RowKit
open Gr (Kept EdgeI GrAt GrOwn GBox below_new InOwn InAt own_below own_lower intsV intsAt_of_own info3 graphOk edgesAt big_is drawGraph_any places_is made_ints Grown wp_region_grown CoOwn)

theorem blocks_big (a : Option Addr) (len cap : Nat) (hl : ¬ len ≤ 1048576) (w : World) :
    Calls Try.prog 3 #[.slice a len cap] w fun e w' => e = .returned (.bool true) ∧ Below w.heap.size w w' := by
  have H := hide (big_is a len cap w)
  have e : decide ((1048576 : Int) < (len : Int)) = true := by simp; omega
  rw [e] at H
  clear e
  go_enter Try.func3, Try.ntmps3
  go_wp2_with fail
  refine (unhide H).mono ?_
  rintro e w1 ⟨rfl, rfl⟩
  go_wp2
  go_ret
  exact ⟨rfl, Below.refl _ _⟩

set_option maxRecDepth 100000 in
set_option maxHeartbeats 8000000 in
theorem blocks_walk (a : Option Addr) (len cap : Nat) (hl : len ≤ 1048576) (w : World) (hd : Code a len w.heap.size w) :
    Calls Try.prog 3 #[.slice a len cap] w fun e w' => e = .returned (.bool true) ∧ Below w.heap.size w w' := by
  have H := hide (big_is a len cap w)
  have e : decide ((1048576 : Int) < (len : Int)) = false := by simp; omega
  rw [e] at H
  have HD := hide hd
  have DR := hide (drawGraph_any a len cap hl w hd)
  obtain ⟨i0, hi, hz0, hz1, hz2⟩ := info_parts info3
  clear e hd
  go_enter Try.func3, Try.ntmps3
  go_wp2_with fail
  refine (unhide H).mono ?_
  rintro e w1 ⟨rfl, hw1⟩
  subst hw1
  go_wp2_with fail
  refine (unhide DR).mono ?_
  rintro e w2 ⟨⟨d, rfl, s, Q, ho2, hok, hQ9⟩, hb2⟩
  obtain ⟨v1, rfl, hr2⟩ := ho2
  obtain ⟨P0, C, rfl, _⟩ := edgesAt.of_own hr2
  obtain ⟨hs0, hs9⟩ := ok_size hok
  obtain ⟨n, rfl⟩ := Int.eq_ofNat_of_zero_le hs0
  have hn9 : n ≤ 9 := by omega
  have HOK := hide hok
  clear DR hok H
  obtain ⟨V3, hV3⟩ : ∃ W, W = w2.alloc (Obj.cells #[Value.int .i64 (n : Int), Value.slice P0 Q.length C] 26) := ⟨_, rfl⟩
  have b3 : Below w2.heap.size w2 V3 := by rw [hV3]; exact below_new _ _
  have u3 : GBox V3 w2.heap.size (n : Int) (.slice P0 Q.length C) := by rw [hV3]; exact GBox.new _ _ _
  have o3 : GrOwn V3 w1.heap.size (.agg #[.int .i64 (n : Int), .slice P0 Q.length C]) (n : Int) Q := ⟨_, rfl, own_below hr2 b3⟩
  have c3 : Below w1.heap.size w1 V3 := hb2.trans (b3.mono hb2.size)
  have hd3 : Code a len V3.heap.size V3 := fun j hj => by
    obtain ⟨b, off, z, e, hb, hc, hz⟩ := unhide HD j hj
    exact ⟨b, off, z, e, by have := c3.size; omega, by rw [c3.cell (p := ⟨b, off + j, none⟩) (by simpa using hb)]; exact hc, hz⟩
  go_wp2_with fail
  rw [← hV3]
  have HMEET := hide (blocks_meet (unhide HOK))
  have HLESS := hide (fun f => blocks_less (unhide HOK) f)
  have HTOP := hide (fun M h => most_top (unhide HOK) (M := M) h)
  have HBL : Hid ((blocksR (n : Int) Q).length ≤ 9) := by
    show _ ≤ _
    unfold blocksR
    rw [if_pos (unhide HOK), Int.toNat_natCast]
    have := setTo_length (bitF (blkX (lnkF Q) n (2 ^ n - 1))) n
    omega
  have HOD : Hid (∀ K, 0 ≤ oddR (n : Int) Q K ∧ oddR (n : Int) Q K ≤ 9) := fun K => by
    unfold oddR
    rw [if_pos (unhide HOK)]
    have h1 := odd_le (partsR (n : Int) Q K)
    have h2 := prts_length (lnkF Q) (List.range' 0 9) (leftF (n : Int).toNat K)
    unfold partsR at *
    rw [List.length_range'] at h2
    omega
  have BL := hide (implBlocks_gen V3.heap.size _ (n : Int) Q (by omega) V3 (Nat.le_refl _) o3.at)
  have z3 := u3.lt
  have HU3 := hide u3
  have HO3 := hide o3
  clear hV3 b3 hr2 hb2 u3 o3
  refine (unhide BL).mono ?_
  rintro e w4 ⟨⟨d4, rfl, ho4⟩, hb4⟩
  have u4 := (unhide HU3).below hb4
  have o4 := (unhide HO3).below hb4
  have c4 : Below w1.heap.size w1 w4 := c3.trans (hb4.mono c3.size)
  obtain ⟨a4, k4, rfl, hI4⟩ := intsAt_of_own ho4
  have HS4 := hide ho4
  have HU4 := hide u4
  have HO4 := hide o4
  have z4 := hb4.size
  have MI := hide (implMost_gen w4.heap.size _ (n : Int) Q (by omega) w4 (Nat.le_refl _) o4.at)
  obtain ⟨p0, p1⟩ := u4.cells
  clear HU3 HO3 BL u4 o4 ho4 hI4 hb4
  go_wp2_with fail
  refine (unhide MI).mono ?_
  rintro e w5 ⟨rfl, hb5⟩
  have u5 := (unhide HU4).below hb5
  have o5 := (unhide HO4).below hb5
  have c5 : Below w1.heap.size w1 w5 := c4.trans (hb5.mono c4.size)
  have hs5 := own_below (unhide HS4) hb5
  have HU5 := hide u5
  have HO5 := hide o5
  have HS5 := hide hs5
  have z5 := hb5.size
  have OI := hide (implOdd_gen w5.heap.size _ (n : Int) Q _ (blocksR (n : Int) Q) (by omega) (by have := unhide HBL; omega) w5 (Nat.le_refl _) o5.at (InOwn.at hs5))
  obtain ⟨p0, p1⟩ := u5.cells
  clear MI HU4 HO4 HS4 u5 o5 hs5 hb5
  go_wp2_with fail
  refine (unhide OI).mono ?_
  rintro e w6 ⟨rfl, hb6⟩
  have u6 := (unhide HU5).below hb6
  have o6 := (unhide HO5).below hb6
  have c6 : Below w1.heap.size w1 w6 := c5.trans (hb6.mono c5.size)
  have HU6 := hide u6
  have HO6 := hide o6
  have z6 := hb6.size
  have MS := hide (specMost_gen w6.heap.size _ (n : Int) Q (by omega) w6 (Nat.le_refl _) o6.at)
  have hEQ := unhide HMEET
  have hLL := unhide HBL
  have hOO := unhide HOD (blocksR (n : Int) Q)
  generalize oddR (n : Int) Q (blocksR (n : Int) Q) = od at hEQ hOO ⊢
  generalize hbl : (blocksR (n : Int) Q).length = bl at hEQ hLL ⊢
  have HLES2 : Hid (∀ f, 2 * mostC (n : Int) Q ≤ (n : Int) + ((setTo f n).length : Int) - oddR (n : Int) Q (setTo f n)) := fun f => by
    have := unhide HLESS f
    rwa [Int.toNat_natCast] at this
  clear HLESS HMEET HBL hbl
  generalize mostC (n : Int) Q = mc at hEQ HLES2 HTOP MS ⊢
  have hmc0 : -9 ≤ mc := by omega
  have hmc9 : mc ≤ 9 := by omega
  have q1 : (mc != mc) = false := by simp
  have q2 : (((n : Int) + (bl : Int) - od) != 2 * mc) = false := by rw [hEQ]; simp
  obtain ⟨p0, p1⟩ := u6.cells
  clear OI HU5 HO5 HS5 u6 o6 hb6
  go_wp2_with fail
  refine (unhide MS).mono ?_
  rintro e w7 ⟨rfl, hb7⟩
  have u7 := (unhide HU6).below hb7
  have o7 := (unhide HO6).below hb7
  have c7 : Below w1.heap.size w1 w7 := c6.trans (hb7.mono c6.size)
  have HU7 := hide u7
  have HO7 := hide o7
  have z7 := hb7.size
  have hd7 : Code a len w7.heap.size w7 := fun j hj => by
    obtain ⟨b, off, z, e, hb, hc, hz⟩ := unhide HD j hj
    exact ⟨b, off, z, e, by have := c7.size; omega, by rw [c7.cell (p := ⟨b, off + j, none⟩) (by simpa using hb)]; exact hc, hz⟩
  have PL := hide (places_is a len cap hl w7 hd7)
  obtain ⟨p0, p1⟩ := u7.cells
  clear MS HU6 HO6 u7 o7 hb7 hd7 HD
  go_wp2_with fail
  refine (unhide PL).mono ?_
  rintro e w8 ⟨⟨v8, rfl, KP, hKP, op8⟩, hb8⟩
  obtain ⟨gp, C8, rfl, _, _⟩ := op8.form (by omega)
  have HU8 := hide ((unhide HU7).below hb8)
  have HO8 := hide ((unhide HO7).below hb8)
  have c8 : Below w1.heap.size w1 w8 := c7.trans (hb8.mono c7.size)
  have z8 := hb8.size
  clear HU7 HO7 hb8 PL p0 p1
  have HP8 := hide op8
  have HKP := hide hKP
  obtain ⟨q, hq⟩ : ∃ q : Nat → Bool, q = fun u => ((KP.getD u 0).tmod 3 == 0) := ⟨_, rfl⟩
  have HQV := hide hq
  have HS1 := hide (fun k h => setTo_in (f := q) (k := k) h)
  have HS0 := hide (fun k h => setTo_out (f := q) (k := k) h)
  have HSL := hide (setTo_length q)
  have z8w : w2.heap.size < w8.heap.size := by omega
  clear op8 hKP hq
  go_wp2_with fail
  go_loopw [8, 9] (fun out i wr => ∃ v : Nat, i = .int .i64 (v : Int) ∧ v ≤ n ∧ Hid (InOwn wr w8.heap.size out (setTo q v)) ∧ Below w8.heap.size w8 wr) (fun _ i _ => n - (intOf i).toNat)
  case atStart => exact ⟨0, rfl, Nat.zero_le _, World.ownsRow_made w8 #[] 0 (Nat.le_refl _) (Nat.zero_le _) rfl, below_new w8 _⟩
  case round =>
    obtain ⟨v, rfl, hv, HO, hb5⟩ := hrel
    obtain ⟨p0, p1⟩ := ((unhide HU8).below hb5).cells
    obtain ⟨A, cp, rfl, _⟩ := intsAt_of_own (unhide HO)
    have hzb := hb5.size
    by_cases hlt : v < n
    · have hpr := own_below (unhide HP8) hb5
      have hkp := unhide HKP
      have hce := hpr.cellAt v (by omega)
      have hvk : v < KP.length := by omega
      have hce2 : (intsV KP)[v]? = some (.int .i64 (KP[v]'hvk)) := by simp [intsV]
      rw [hce2] at hce
      have hqv : q v = ((KP[v]'hvk).tmod 3 == 0) := by rw [unhide HQV]; simp [hvk]
      generalize KP[v]'hvk = kp at hce hqv
      have hrem : ((v : Int)).tmod 12 = (v : Int) := by rw [Int.tmod_eq_emod_of_nonneg (by omega)]; omega
      have hx0 : (0 : Int) ≤ (v : Int) := by omega
      have hx1 : (v : Int) < 12 := by omega
      have hx2 : (v : Int) < (n : Int) := by omega
      have HQE := hide hqv
      clear hce2 hpr hkp hvk hqv
      cases ht : (kp.tmod 3 == 0)
      · have HF := hide (unhide HS0 v (by rw [unhide HQE]; exact ht))
        go_wp2_with fail
        exact ⟨⟨v + 1, by go_num, by omega, (by show InOwn _ _ _ _; rw [unhide HF]; exact unhide HO), hb5⟩, by simp [intOf]; omega⟩
      · have HF := hide (unhide HS1 v (by rw [unhide HQE]; exact ht))
        have hown := unhide HO
        unfold InOwn at hown
        have hfl := unhide HSL v
        go_wp2_with (at_builtin; refine wpList_append_own _ rfl _ _ 28 rfl w8.heap.size 3 i0 (.int .i64 0) 1 8 Try.underlying28 hi hz0 hz1 hz2 rfl (by decide) _ _ _ rfl (hown.alloc _) ⟨wr.heap.size, 0, none⟩ 1 1 [.int .i64 (v : Int)] rfl rfl (cell_one_new _ _ _) (one_intL _) ?_ ?_ ?_ ?_)
        · unfold maxLen; omega
        · omega
        · simp; omega
        intro v' w7 hown' hgrow _
        have hb7 := below_append hb5 (Nat.le_refl _) hown hgrow
        rw [← intsV_snocL, ← unhide HF] at hown'
        have hfe : (setTo q v).length + 1 = (setTo q (v + 1)).length := by rw [unhide HF]; simp
        rw [hfe] at hown'
        have HO7 : Hid (InOwn w7 w8.heap.size v' (setTo q (v + 1))) := hown'
        clear hown' hgrow hown hfe hfl HO
        go_wp2_with fail
        exact ⟨⟨v + 1, by go_num, by omega, HO7, hb7⟩, by simp [intOf]; omega⟩
    · obtain rfl : n = v := by omega
      have HO9 := hide ((unhide HO8).below hb5)
      have HU9 := hide ((unhide HU8).below hb5)
      have SM := hide (Sv.solve_match wr _ (n : Int) Q (unhide HOK) hQ9 (unhide HO9).at)
      have hKl := setTo_length q n
      obtain ⟨wa, hwa⟩ : ∃ W, W = wr := ⟨_, rfl⟩
      subst hwa
      have hzA := hb5.size
      clear hlt
      go_wp2_with fail
      refine (unhide SM).mono ?_
      rintro e w9 ⟨⟨dm, ya, yn, yc, ga, gn, gc, M, rfl, hM, _, hok⟩, hb9⟩
      obtain ⟨am, cm, rfl⟩ := (Gr.CoOwn.at hM).shape
      have hlen := unhide HTOP M hok
      generalize M.length = lm at hlen ⊢
      have hbb := hb5.trans (hb9.mono hb5.size)
      have hcc : Below w1.heap.size w1 w9 := c8.trans (hbb.mono c8.size)
      have u9 := (unhide HU9).below hb9
      have o9 := (unhide HO9).below hb9
      have hs9 := own_below (unhide HO) hb9
      have z9 := hb9.size
      have hL2 := unhide HLES2 q
      have hO2 := unhide HOD (setTo q n)
      obtain ⟨V9, hV9⟩ : ∃ W, W = w9.alloc (Obj.cells #[.slice ya yn yc, .slice ga gn gc] 36) := ⟨_, rfl⟩
      have b9 : Below w9.heap.size w9 V9 := by rw [hV9]; exact below_new _ _
      have hccV : Below w1.heap.size w1 V9 := hcc.trans (b9.mono hcc.size)
      have x9 := u9.below b9
      have y9 := o9.below b9
      have s9' := own_below hs9 b9
      obtain ⟨p0, p1⟩ := x9.cells
      have zV := b9.size
      have zu := x9.lt
      have HODD := hide (fun W5 (h5 : Below V9.heap.size V9 W5) => implOdd_gen W5.heap.size _ (n : Int) Q _ (setTo q n) (by omega) (by omega) W5 (Nat.le_refl _) (y9.below h5).at (InOwn.at (own_below s9' h5)))
      generalize oddR (n : Int) Q (setTo q n) = od2 at hL2 hO2 HODD
      generalize (setTo q n).length = ln at hL2 hKl HODD ⊢
      have k0 : ∀ d : Grown V9.heap.size V9, d.w.cell? ⟨w2.heap.size, 0, none⟩ = some (.int .i64 (n : Int)) := fun d => d.cell zu p0
      have k1 : ∀ d : Grown V9.heap.size V9, d.w.cell? ⟨w2.heap.size, 1, none⟩ = some (.slice P0 Q.length C) := fun d => d.cell zu p1
      have E2 : Hid (∀ d : Grown V9.heap.size V9, Calls Try.prog 10 #[.agg #[.int .i64 (n : Int), .slice P0 Q.length C], .slice A ln cp] d.w fun e w' => e = .returned (.int .i64 od2) ∧ Below d.w.heap.size d.w w') := fun d => unhide HODD d.w d.below
      have g1 : 2 * mc ≤ (n : Int) + (ln : Int) - od2 := hL2
      have g2 : (lm : Int) ≤ mc := hlen
      have HB9 : Hid (∀ d : Grown V9.heap.size V9, Below w1.heap.size w1 d.w) := fun d => hccV.trans (d.below.mono hccV.size)
      clear hM SM HU9 HO9 HTOP HLES2 HOD hb9 hb5 HO x9 y9 s9' HODD p0 p1 u9 o9 hs9 b9 hcc hccV hbb
      go_wp2_with fail
      rw [← hV9]
      clear hV9
      refine wp_region_grown V9.heap.size (by kernel_rfl) (by kernel_rfl) ?_
      repeat (go_big_quiet_step (first | (go_at_call 10; exact Gr.Calls.grown (Nat.le_refl _) (unhide E2 _))))
      refine wpQuiet_nil ?_
      rintro w5 ⟨d5, rfl⟩
      go_wp2_with fail
      go_ret
      exact ⟨rfl, unhide HB9 d5⟩

end Lk
end Go.Proofs.Ytfhclbpbjlbebaa
