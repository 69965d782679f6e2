/-
  The walk of laws.FnDevices.
-/
import Derived.Test.YtfbfafpfhgjdfaaDrawDev
import Derived.Test.YtfbfafpfhgjdfaaDrawPlaces
import Derived.Test.YtfbfafpfhgjdfaaDevMath
import Derived.Test.YtfbfafpfhgjdfaaDevWriteImpl2
import Derived.BigQuiet
namespace Go.Proofs.Ytfbfafpfhgjdfaa
open Go.RowKit

theorem big_any (a : Option Addr) (len cap : Nat) (w : World) :
    Calls Try.prog 14 #[.slice a len cap] w fun e w' => e = .returned (.bool (decide ((1048576 : Int) < (len : Int)))) ∧ w' = w := by
  go_enter Try.func14, Try.ntmps14
  go_wp2
  go_ret
  exact ⟨rfl, rfl⟩

theorem devices_big (a : Option Addr) (len cap : Nat) (hl : ¬ len ≤ 1048576) (w : World) :
    Calls Try.prog 3 #[.slice a len cap] w fun e w' => e = .returned (.bool true) ∧ Below w.heap.size w w' := by
  have H := hide (big_any a len cap w)
  have e : decide ((1048576 : Int) < (len : Int)) = true := by simp; omega
  rw [e] at H
  clear e
  go_enter Try.func3, Try.ntmps3
  go_wp2_with fail
  refine (unhide H).mono ?_
  rintro e w1 ⟨rfl, rfl⟩
  go_wp2
  go_ret
  exact ⟨rfl, Below.refl _ _⟩

set_option maxRecDepth 100000 in
set_option maxHeartbeats 2000000 in
theorem devices_walk (a : Option Addr) (len cap : Nat) (hl : len ≤ 1048576) (w : World) (hd : Code a len w.heap.size w) :
    Calls Try.prog 3 #[.slice a len cap] w fun e w' => e = .returned (.bool true) ∧ Below w.heap.size w w' := by
  have H := hide (big_any a len cap w)
  have e : decide ((1048576 : Int) < (len : Int)) = false := by simp; omega
  rw [e] at H
  have HD := hide hd
  have DR := hide (drawDev_any a len cap hl w hd)
  clear e hd
  go_enter Try.func3, Try.ntmps3
  go_wp2_with fail
  refine (unhide H).mono ?_
  rintro e w1 ⟨rfl, hw1⟩
  cases hw1
  go_wp2_with fail
  refine (unhide DR).mono ?_
  rintro e w2 ⟨⟨d, L, Q, rfl, ho2, hok, hQ7⟩, hb2⟩
  have hds := devOk_sec hok
  have HO2 := hide ho2
  obtain ⟨a0, n0, c0, b0, m0, k0, rfl, hLA, hQA⟩ := ho2.at
  have e1 := hLA.1
  have e2 := hQA.1
  have hn1 : 1 ≤ n0 := by omega
  have hn4 : n0 ≤ 400 := by omega
  have HN := hide e1
  have HOK := hide hok
  have HQ7 := hide hQ7
  clear ho2 hLA hQA e1 e2 hds hok hQ7 H DR
  go_wp2_with fail
  obtain ⟨W2, hW2⟩ : ∃ W, W = w2.alloc (Obj.cells #[Value.slice a0 n0 c0, Value.slice b0 m0 k0] 27) := ⟨_, rfl⟩
  rw [← hW2]
  have hbW2 : Below w2.heap.size w2 W2 := by rw [hW2]; exact below_new _ _
  have HX2 : Hid (Box W2 w2.heap.size (Value.slice a0 n0 c0) (Value.slice b0 m0 k0)) := by show Box _ _ _ _; rw [hW2]; exact Box.new _ _ _
  have HO2 := hide ((unhide HO2).below hbW2)
  have hc2 : Below w.heap.size w W2 := hb2.trans (hbW2.mono hb2.size)
  clear hW2 hbW2
  refine (places_any a len cap hl W2 (((unhide HD).below hc2 (Nat.le_refl _)).mono hc2.size)).mono ?_
  rintro e w3 ⟨⟨v, K, rfl, hK, hKs⟩, hb3⟩
  have HX3 := hide ((unhide HX2).below hb3)
  have HO3 := hide ((unhide HO2).below hb3)
  have hc3 : Below w.heap.size w w3 := hc2.trans (hb3.mono hc2.size)
  obtain ⟨gk, ck, rfl, _, _⟩ := hK.form (by omega)
  have hKl : K.length = 12 := by have := hK.1; simp [intsV] at this; omega
  have h0K : 0 < K.length := by omega
  have hkc := hK.cellAt 0 (by omega)
  have hkc2 : (intsV K)[0]? = some (.int .i64 K[0]) := by simp [intsV, h0K]
  rw [hkc2] at hkc
  have hk0 := hKs K[0] (List.getElem_mem h0K)
  obtain ⟨p0, p1⟩ := (unhide HX3).cells
  generalize K[0] = x at hkc hk0
  obtain ⟨hx0, hx1⟩ := hk0
  clear hK hKs hKl h0K hkc2 hb3 HX2 HO2 hc2
  have hnz : (n0 : Int) ≠ 0 := by omega
  go_wp2_with fail
  go_quiet (fail)
  go_wp2_with fail
  obtain ⟨k, hk⟩ : ∃ k : Nat, x % (n0 : Int) = (k : Int) := ⟨(x % (n0 : Int)).toNat, by have := Int.emod_nonneg x hnz; omega⟩
  have hkn : k < n0 := by have := Int.emod_lt_of_pos x (show (0 : Int) < (n0 : Int) by omega); omega
  rw [hk]
  obtain ⟨W3, hW3⟩ : ∃ W, W = w3.drewN nq := ⟨_, rfl⟩
  rw [← hW3]
  have HX3 : Hid (Box W3 w2.heap.size (Value.slice a0 n0 c0) (Value.slice b0 m0 k0)) := by show Box _ _ _ _; rw [hW3]; exact unhide HX3
  have hc3 : Below w.heap.size w W3 := by rw [hW3]; exact below_drewN hc3 _
  have HA3 : Hid (DevAt W3 (Value.agg #[Value.slice a0 n0 c0, Value.slice b0 m0 k0]) W3.heap.size L Q) := by
    have h := (unhide HO3).at.below (below_drewN (Below.refl w3.heap.size w3) nq) (Nat.le_refl _)
    show DevAt _ _ _ _ _
    rw [hW3]
    exact h
  have hkL : k < L.length := by have := unhide HN; omega
  obtain ⟨T, hT⟩ : ∃ T : ByteArray, T = ⟨#[110, 101, 119]⟩ := ⟨_, rfl⟩
  have hTs : T.size ≤ 64 := by rw [hT]; decide
  have HWR := hide (write_right (unhide HOK) (unhide HQ7) k hkL T hTs)
  have HRD := hide (fun i hi => reads L Q (unhide HOK) (unhide HQ7) k hkL T hTs i hi)
  have hTd : ∀ u : ByteArray, u = T → (u.toList == [110, 101, 119]) = true := fun u hu => by rw [hu, hT]; first | kernel_rfl | decide +kernel
  have HTD := hide hTd
  have HTT := hide hT
  rw [← hT]
  clear hW3 hk hkc p0 p1 HO3 hTd hT hnz hx0 hx1
  have hds := devOk_sec (unhide HWR).2
  have HS := hide hds
  refine (implWrite_yes _ W3.heap.size L Q (k : Int) T (unhide HWR).1 W3 (Nat.le_refl _) (unhide HA3)).mono ?_
  rintro e w4 ⟨⟨d4, rfl, ho4⟩, hb4⟩
  have HX4 := hide ((unhide HX3).below hb4)
  have HA4 := hide (((unhide HA3).below hb4 (Nat.le_refl _)).mono hb4.size)
  have HE4 := hide ho4.at
  obtain ⟨a4, n4, c4, b4, m4, k4, rfl, _, _⟩ := ho4.at
  have hc4 : Below w.heap.size w w4 := hc3.trans (hb4.mono hc3.size)
  clear ho4 hb4 HX3 HA3 hc3 hds
  go_wp2_with fail
  obtain ⟨W4, hW4⟩ : ∃ W, W = w4.alloc (Obj.cells #[Value.slice a4 n4 c4, Value.slice b4 m4 k4] 27) := ⟨_, rfl⟩
  rw [← hW4]
  have hbW4 : Below w4.heap.size w4 W4 := by rw [hW4]; exact below_new _ _
  have HXe : Hid (Box W4 w4.heap.size (Value.slice a4 n4 c4) (Value.slice b4 m4 k4)) := by show Box _ _ _ _; rw [hW4]; exact Box.new _ _ _
  have HX4 := hide ((unhide HX4).below hbW4)
  have HA4 := hide (((unhide HA4).below hbW4 (Nat.le_refl _)).mono hbW4.size)
  have HE4 := hide (((unhide HE4).below hbW4 (Nat.le_refl _)).mono hbW4.size)
  have hc4 : Below w.heap.size w W4 := hc4.trans (hbW4.mono hc4.size)
  clear hW4 hbW4
  refine (implFlush_yes _ W4.heap.size L (Q ++ [((k : Int), T)]) (unhide HWR).2 W4 (Nat.le_refl _) (unhide HE4)).mono ?_
  rintro e w5 ⟨⟨d5, rfl, ho5⟩, hb5⟩
  have HX5 := hide ((unhide HX4).below hb5)
  have HXe := hide ((unhide HXe).below hb5)
  have HA5 := hide (((unhide HA4).below hb5 (Nat.le_refl _)).mono hb5.size)
  have HE5 := hide (((unhide HE4).below hb5 (Nat.le_refl _)).mono hb5.size)
  have HF5 := hide ho5.at
  obtain ⟨a5, n5, c5, b5, m5, k5, rfl, _, hQ5⟩ := ho5.at
  obtain rfl : 0 = m5 := hQ5.1
  have hc5 : Below w.heap.size w w5 := hc4.trans (hb5.mono hc4.size)
  clear ho5 hb5 HX4 HA4 HE4 hc4 hQ5
  go_wp2_with fail
  obtain ⟨W5, hW5⟩ : ∃ W, W = w5.alloc (Obj.cells #[Value.slice a5 n5 c5, Value.slice b5 0 k5] 27) := ⟨_, rfl⟩
  rw [← hW5]
  have hbW5 : Below w5.heap.size w5 W5 := by rw [hW5]; exact below_new _ _
  have HXf : Hid (Box W5 w5.heap.size (Value.slice a5 n5 c5) (Value.slice b5 0 k5)) := by show Box _ _ _ _; rw [hW5]; exact Box.new _ _ _
  have HX5 := hide ((unhide HX5).below hbW5)
  have HXe := hide ((unhide HXe).below hbW5)
  have HA5 := hide (((unhide HA5).below hbW5 (Nat.le_refl _)).mono hbW5.size)
  have HE5 := hide (((unhide HE5).below hbW5 (Nat.le_refl _)).mono hbW5.size)
  have HF5 := hide (((unhide HF5).below hbW5 (Nat.le_refl _)).mono hbW5.size)
  have hc5 : Below w.heap.size w W5 := hc5.trans (hbW5.mono hc5.size)
  clear hW5 hbW5
  have HFR := hide (flush_right (unhide HWR).2)
  have hFl : (flushL L (Q ++ [((k : Int), T)])).length = n0 := by rw [flushL_length]; exact unhide HN
  have HFS := hide (flushL_size (unhide HS).2.2.2.1 (fun q hq => ((unhide HS).2.2.2.2 q hq).2.2))
  have OKF := hide (implDev_any _ W5.heap.size (flushL L (Q ++ [((k : Int), T)])) [] (by omega) (by simp) (fun s hs => by have := unhide HFS s hs; omega) W5 (Nat.le_refl _) (unhide HF5))
  rw [unhide HFR] at OKF
  refine (unhide OKF).mono ?_
  rintro e w6 ⟨rfl, hb6⟩
  have HX6 := hide ((unhide HX5).below hb6)
  have HXe6 := hide ((unhide HXe).below hb6)
  have HXf6 := hide ((unhide HXf).below hb6)
  have HA6 := hide (((unhide HA5).below hb6 (Nat.le_refl _)).mono hb6.size)
  have HE6 := hide (((unhide HE5).below hb6 (Nat.le_refl _)).mono hb6.size)
  have HF6 := hide (((unhide HF5).below hb6 (Nat.le_refl _)).mono hb6.size)
  have hc6 : Below w.heap.size w w6 := hc5.trans (hb6.mono hc5.size)
  obtain ⟨f0, f1⟩ := (unhide HXf6).cells
  clear hb6 HX5 HXe HXf HA5 HE5 HF5 hc5 OKF HFR
  go_wp2_with fail
  clear f0 f1
  have hm : ∀ s ∈ L, s.size ≤ 9223372036854775807 := fun s hs => by have := (unhide HS).2.2.2.1 s hs; omega
  have RE := hide (fun (i : Nat) (w1 : World) (hb : Below w6.heap.size w6 w1) => implSector_any _ w6.heap.size (i : Int) L (Q ++ [((k : Int), T)]) (by have := (unhide HS).1; omega) (by have := (unhide HS).2.1; omega) hm w1 hb.size ((unhide HE6).below hb (Nat.le_refl _)))
  have RF := hide (fun (i : Nat) (w1 : World) (hb : Below w6.heap.size w6 w1) => implSector_any _ w6.heap.size (i : Int) (flushL L (Q ++ [((k : Int), T)])) [] (by omega) (by simp) (fun s hs => by have := unhide HFS s hs; omega) w1 hb.size ((unhide HF6).below hb (Nat.le_refl _)))
  have RD := hide (fun (i : Nat) (w1 : World) (hb : Below w6.heap.size w6 w1) => implSector_any _ w6.heap.size (i : Int) L Q (by have := (unhide HS).1; omega) (by have := unhide HQ7; omega) hm w1 hb.size ((unhide HA6).below hb (Nat.le_refl _)))
  clear hm hFl
  go_loopw [10] (fun a10 wr => ∃ i : Nat, a10 = .int .i64 i ∧ i ≤ n0 ∧ Below w6.heap.size w6 wr) (fun a10 _ => n0 - (intOf a10).toNat)
  case atStart => exact ⟨0, rfl, Nat.zero_le _, Below.refl _ _⟩
  case round =>
    obtain ⟨i, rfl, hi, hb⟩ := hrel
    obtain ⟨y0, y1⟩ := ((unhide HX6).below hb).cells
    by_cases hlt : i < n0
    · obtain ⟨xx, zz, r1, r2, r3, heq, hne⟩ := unhide HRD i (by have := unhide HN; omega)
      have R1 := hide (unhide RE i)
      have R2 := hide (unhide RF i)
      have R3 := hide (unhide RD i)
      rw [r1] at R1
      rw [r2] at R2
      rw [r3] at R3
      simp only at R1 R2 R3
      clear r1 r2 r3
      obtain ⟨e0, e1⟩ := ((unhide HXe6).below hb).cells
      go_wp2_with fail
      refine (unhide R1 wr hb).mono ?_
      rintro e w7 ⟨rfl, hb7⟩
      have hb67 := hb.trans (hb7.mono hb.size)
      clear hb7 e0 e1 y0 y1
      obtain ⟨f0, f1⟩ := ((unhide HXf6).below hb67).cells
      go_wp2_with fail
      refine (unhide R2 w7 hb67).mono ?_
      rintro e w8 ⟨rfl, hb8⟩
      have hb68 := hb67.trans (hb8.mono hb67.size)
      clear hb8 f0 f1 hb67
      obtain ⟨y0, y1⟩ := ((unhide HX6).below hb68).cells
      go_wp2_with fail
      refine (unhide R3 w8 hb68).mono ?_
      rintro e w9 ⟨rfl, hb9⟩
      have hb69 := hb68.trans (hb9.mono hb68.size)
      clear hb9 y0 y1 hb68
      by_cases hik : i = k
      · have hx : xx = T := heq hik
        have hq1 : ((i : Int) == (k : Int)) = true := by simp [hik]
        have hq2 := unhide HTD xx hx
        clear heq hne hx
        go_wp2
        go_roundw
        case rel => exact ⟨i + 1, by go_num, by omega, hb69⟩
        case measure => simp [intOf]; omega
      · have hx : xx = zz := hne hik
        subst hx
        have hq1 : ((i : Int) == (k : Int)) = false := by simp; omega
        clear heq hne
        go_wp2
        go_roundw
        case rel => exact ⟨i + 1, by go_num, by omega, hb69⟩
        case measure => simp [intOf]; omega
    · go_wp2
      go_ret
      exact ⟨rfl, hc6.trans (hb.mono hc6.size)⟩
end Go.Proofs.Ytfbfafpfhgjdfaa
