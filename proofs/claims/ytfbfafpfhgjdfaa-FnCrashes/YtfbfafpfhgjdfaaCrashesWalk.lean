/-
  The walk of laws.FnCrashes.
-/
import Derived.Test.YtfbfafpfhgjdfaaDrawDev
import Derived.Test.YtfbfafpfhgjdfaaDrawKept4
import Derived.Test.YtfbfafpfhgjdfaaCrashMath
import Derived.Test.YtfbfafpfhgjdfaaSpecCrash
import Derived.Test.YtfbfafpfhgjdfaaCrashDev
import Derived.Test.YtfbfafpfhgjdfaaDevFlushImpl
namespace Go.Proofs.Ytfbfafpfhgjdfaa
open Go.RowKit

theorem IntsAt.mono {w : World} {a : Option Addr} {len B C : Nat} {K : List Int} (h : IntsAt w a len B K) (hC : B ≤ C) : IntsAt w a len C K := by
  refine ⟨h.1, fun j hj => ?_⟩
  obtain ⟨b, off, e, hb, hc⟩ := h.2 j hj
  exact ⟨b, off, e, by omega, hc⟩

theorem bigC_any (a : Option Addr) (len cap : Nat) (w : World) :
    Calls Try.prog 14 #[.slice a len cap] w fun e w' => e = .returned (.bool (decide ((1048576 : Int) < (len : Int)))) ∧ w' = w := by
  go_enter Try.func14, Try.ntmps14
  go_wp2
  go_ret
  exact ⟨rfl, rfl⟩

theorem crashes_big (a : Option Addr) (len cap : Nat) (hl : ¬ len ≤ 1048576) (w : World) :
    Calls Try.prog 4 #[.slice a len cap] w fun e w' => e = .returned (.bool true) ∧ Below w.heap.size w w' := by
  have H := hide (bigC_any a len cap w)
  have e : decide ((1048576 : Int) < (len : Int)) = true := by simp; omega
  rw [e] at H
  clear e
  go_enter Try.func4, Try.ntmps4
  go_wp2_with fail
  refine (unhide H).mono ?_
  rintro e w1 ⟨rfl, rfl⟩
  go_wp2
  go_ret
  exact ⟨rfl, Below.refl _ _⟩

theorem near_wf {x : Int} (h : -1 ≤ x ∧ x ≤ 400) : (Lit.int .i64 x).wf = true := WalkArith.wf_i64 (by omega)

set_option maxRecDepth 100000 in
set_option maxHeartbeats 2000000 in
theorem crashes_walk (a : Option Addr) (len cap : Nat) (hl : len ≤ 1048576) (w : World) (hd : Code a len w.heap.size w) :
    Calls Try.prog 4 #[.slice a len cap] w fun e w' => e = .returned (.bool true) ∧ Below w.heap.size w w' := by
  obtain ⟨i0, hi, hz0, hz1, hz2⟩ := info_parts info3
  have H := hide (bigC_any a len cap w)
  have e : decide ((1048576 : Int) < (len : Int)) = false := by simp; omega
  rw [e] at H
  have HD := hide hd
  have DR := hide (drawDev_any a len cap hl w hd)
  clear e hd
  go_enter Try.func4, Try.ntmps4
  go_wp2_with fail
  refine (unhide H).mono ?_
  rintro e w1 ⟨rfl, hw1⟩
  cases hw1
  go_wp2_with fail
  refine (unhide DR).mono ?_
  rintro e w2 ⟨⟨d, L, Q, rfl, ho2, hok, hQ7⟩, hb2⟩
  have hds := devOk_sec hok
  have HAd := hide ho2.at
  obtain ⟨a0, n0, c0, b0, m0, k0, rfl, hLA, hQA⟩ := ho2.at
  obtain rfl : m0 = Q.length := hQA.1.symm
  have HN := hide hLA.1
  have HSd := hide hLA
  have HOK := hide hok
  have hn4 : L.length ≤ 400 := hds.1
  obtain ⟨m0, hm0⟩ : ∃ m, m = Q.length := ⟨_, rfl⟩
  have HM := hide hm0
  have hm7 : m0 ≤ 7 := by omega
  rw [← hm0] at HAd ⊢
  have hmm : ∀ s ∈ L, s.size ≤ 9223372036854775807 := fun s hs => by have := hds.2.2.2.1 s hs; omega
  have hmQ : Q.length ≤ 1048576 := by omega
  have CR := hide (fun w1 ka kc K t p (hd : DevAt w1 (Value.agg #[Value.slice a0 n0 c0, Value.slice b0 m0 k0]) w1.heap.size L Q) {n : Nat} (hk : IntsAt w1 ka n w1.heap.size K) (hw : ∀ x ∈ K, (Lit.int .i64 x).wf = true) (ht : (Lit.int .i64 t).wf = true) (hn : n ≤ 1048576) => implCrash_any _ w1.heap.size L Q ka n kc K t p (by omega) hmQ hmm hn hw ht w1 (Nat.le_refl _) hd hk)
  have CS := hide (fun w1 ka kc K t p (hd : DevAt w1 (Value.agg #[Value.slice a0 n0 c0, Value.slice b0 m0 k0]) w1.heap.size L Q) {n : Nat} (hk : IntsAt w1 ka n w1.heap.size K) (hn : n ≤ 1048576) => specCrash_any _ w1.heap.size L Q ka n kc K t p (by omega) hmQ hmm hn w1 (Nat.le_refl _) hd hk)
  have FL := hide (fun w1 (hd : DevAt w1 (Value.agg #[Value.slice a0 n0 c0, Value.slice b0 m0 k0]) w1.heap.size L Q) => implFlush_yes _ w1.heap.size L Q hok w1 (Nat.le_refl _) hd)
  have crk : ∀ p : Int, 0 ≤ p → p ≤ 64 → crOk L Q p = true := fun p h1 h2 => by unfold crOk; rw [hok, decide_eq_true h1, decide_eq_true h2]; rfl
  have HC1 : Hid (crA L Q (allK m0) (-1) 0 = flushL L Q) := by show _ = _; unfold crA; rw [if_pos (crk 0 (by omega) (by omega)), hm0]; exact crash_all L Q
  have HC2 : Hid (crA L Q [] (-1) 0 = L) := by show _ = _; unfold crA; rw [if_pos (crk 0 (by omega) (by omega))]; exact crash_none L Q
  have HCK := hide crk
  clear ho2 hLA hQA hds hok hQ7 H DR hm0 hmm hmQ crk
  go_wp2_with fail
  obtain ⟨W2, hW2⟩ : ∃ W, W = w2.alloc (Obj.cells #[Value.slice a0 n0 c0, Value.slice b0 m0 k0] 27) := ⟨_, rfl⟩
  rw [← hW2]
  have hbW2 : Below w2.heap.size w2 W2 := by rw [hW2]; exact below_new _ _
  have HXd : Hid (Box W2 w2.heap.size (Value.slice a0 n0 c0) (Value.slice b0 m0 k0)) := by show Box _ _ _ _; rw [hW2]; exact Box.new _ _ _
  have HAd := hide (((unhide HAd).below hbW2 (Nat.le_refl _)).mono hbW2.size)
  have HSd := hide (((unhide HSd).below hbW2 (Nat.le_refl _)).mono hbW2.size)
  have hc2 : Below w.heap.size w W2 := hb2.trans (hbW2.mono hb2.size)
  clear hW2 hbW2
  refine (drawKept_any a len cap hl W2 (((unhide HD).below hc2 (Nat.le_refl _)).mono hc2.size)).mono ?_
  rintro e w3 ⟨⟨yy, kA, kn, kC, K, tt, pp, rfl, hkn, hK, hKs, ht0, ht1, hp0, hp1⟩, hb3⟩
  have HXd := hide ((unhide HXd).below hb3)
  have HAd := hide (((unhide HAd).below hb3 (Nat.le_refl _)).mono hb3.size)
  have HSd := hide (((unhide HSd).below hb3 (Nat.le_refl _)).mono hb3.size)
  have hc3 : Below w.heap.size w w3 := hc2.trans (hb3.mono hc2.size)
  have HK : Hid (IntsAt w3 kA kn w3.heap.size K) := by
    obtain ⟨A, C, e, h⟩ := IntsAt.of_own hK
    simp at e
    obtain ⟨rfl, rfl⟩ := e
    exact h
  have HKs := hide hKs
  clear hK hKs hb3 hc2
  go_wp2_with fail
  go_loopw [8, 9] (fun out a9 wr => ∃ i : Nat, a9 = .int .i64 i ∧ i ≤ m0 ∧ wr.ownsRow w3.heap.size 3 1 out i (intsV (allK i)) ∧ Below w3.heap.size w3 wr) (fun _ a9 _ => m0 - (intOf a9).toNat)
  case atStart => exact ⟨0, rfl, Nat.zero_le _, World.ownsRow_made w3 #[] 0 (Nat.le_refl _) (Nat.zero_le _) rfl, below_new _ _⟩
  case round =>
    obtain ⟨i, rfl, him, hown, hb⟩ := hrel
    obtain ⟨p0, p1⟩ := ((unhide HXd).below hb).cells
    by_cases hlt : i < m0
    · have hrow : ∀ k, u8.ownBlock = some k → w3.heap.size ≤ k := fun k hk => (hown.lt k hk).1
      have hbz := hb.size
      go_wp2_with (at_builtin; refine wpList_append_own _ rfl _ _ 29 rfl w3.heap.size 3 i0 (.int .i64 0) 1 8 Try.underlying29 hi hz0 hz1 hz2 rfl (by decide) _ _ _ rfl (hown.alloc _) ⟨wr.heap.size, 0, none⟩ 1 1 [.int .i64 (i : Int)] rfl rfl (cell_one_new _ _ _) (one_int _) ?_ ?_ ?_ ?_)
      · unfold maxLen; omega
      · omega
      · first | omega | (simp; omega)
      intro v' w4 hown' hgrow _
      have HB4 : Hid (Below w3.heap.size w3 w4) := (hb.alloc hbz _).grown hgrow (by simp; omega) (fun k hk => hrow k hk)
      rw [← intsV_snoc, ← allK_succ] at hown'
      have HO4 := hide hown'
      clear hown' hgrow hown hrow p0 p1 hb
      go_wp2
      go_roundw
      case rel => exact ⟨i + 1, by go_num, by omega, unhide HO4, unhide HB4⟩
      case measure => simp [intOf]; omega
    · obtain rfl : i = m0 := by omega
      obtain ⟨w4, rfl⟩ : ∃ x, x = wr := ⟨wr, rfl⟩
      have HXd := hide ((unhide HXd).below hb)
      have HAd := hide (((unhide HAd).below hb (Nat.le_refl _)).mono hb.size)
      have HSd := hide (((unhide HSd).below hb (Nat.le_refl _)).mono hb.size)
      have HK := hide (((unhide HK).below hb (Nat.le_refl _)).mono hb.size)
      have hc4 : Below w.heap.size w w4 := hc3.trans (hb.mono hc3.size)
      obtain ⟨iA, iC, rfl, hI⟩ := IntsAt.of_own hown
      have S1 := hide (unhide CR w4 iA iC (allK i) (-1) 0 (unhide HAd) hI (fun x hx => near_wf (by have := allK_mem i x hx; omega)) (near_wf (by omega)) (by omega))
      rw [unhide HC1, unhide HCK 0 (by omega) (by omega)] at S1
      clear hown hI hb
      go_wp2_with fail
      refine (unhide S1).mono ?_
      rintro e w5 ⟨⟨dd, rfl, ho⟩, hb⟩
      have HXd := hide ((unhide HXd).below hb)
      have HAd := hide (((unhide HAd).below hb (Nat.le_refl _)).mono hb.size)
      have HSd := hide (((unhide HSd).below hb (Nat.le_refl _)).mono hb.size)
      have HK := hide (((unhide HK).below hb (Nat.le_refl _)).mono hb.size)
      have hc5 : Below w.heap.size w w5 := hc4.trans (hb.mono hc4.size)
      obtain ⟨aa, na, ca, ba, ma, ka, rfl, hL, hQ⟩ := ho.at
      obtain rfl : 0 = ma := hQ.1
      have HSa := hide hL
      clear ho hb hL hQ S1
      clear p0 p1
      obtain ⟨p0, p1⟩ := ((unhide HXd).below (below_new w5 (Obj.cells #[Value.slice aa na ca, Value.slice ba 0 ka] 27))).cells
      go_wp2_with fail
      obtain ⟨W5, hW5⟩ : ∃ W, W = w5.alloc (Obj.cells #[Value.slice aa na ca, Value.slice ba 0 ka] 27) := ⟨_, rfl⟩
      have hbb : Below w5.heap.size w5 W5 := by rw [hW5]; exact below_new _ _
      have HXd := hide ((unhide HXd).below hbb)
      have HAd := hide (((unhide HAd).below hbb (Nat.le_refl _)).mono hbb.size)
      have HSd := hide (((unhide HSd).below hbb (Nat.le_refl _)).mono hbb.size)
      have HK := hide (((unhide HK).below hbb (Nat.le_refl _)).mono hbb.size)
      have HSa := hide (((unhide HSa).below hbb (Nat.le_refl _)).mono hbb.size)
      have HXa : Hid (Box W5 w5.heap.size (Value.slice aa na ca) (Value.slice ba 0 ka)) := by show Box _ _ _ _; rw [hW5]; exact Box.new _ _ _
      have hcW5 : Below w.heap.size w W5 := hc5.trans (hbb.mono hc5.size)
      have hsW5 : W5.heap.size = w5.heap.size + 1 := by rw [hW5]; simp
      rw [← hW5]
      obtain ⟨W6, hW6⟩ : ∃ W, W = W5.alloc (Obj.cells #[] 3) := ⟨_, rfl⟩
      rw [← hW6]
      have hbc : Below W5.heap.size W5 W6 := by rw [hW6]; exact below_new _ _
      have HXd := hide ((unhide HXd).below hbc)
      have HAd := hide (((unhide HAd).below hbc (Nat.le_refl _)).mono hbc.size)
      have HSd := hide (((unhide HSd).below hbc (Nat.le_refl _)).mono hbc.size)
      have HK := hide (((unhide HK).below hbc (Nat.le_refl _)).mono hbc.size)
      have HSa := hide (((unhide HSa).below hbc (Nat.le_refl _)).mono hbc.size)
      have HXa := hide ((unhide HXa).below hbc)
      have hcW6 : Below w.heap.size w W6 := hcW5.trans (hbc.mono hcW5.size)
      clear hW5 hW6 hbb hbc p0 p1
      have S2 := hide (unhide CR W6 (some ⟨w5.heap.size + 1, 0, none⟩) 0 [] (-1) 0 (unhide HAd) (n := 0) ⟨rfl, fun j hj => by simp at hj⟩ (by simp) (near_wf (by omega)) (by omega))
      rw [unhide HC2, unhide HCK 0 (by omega) (by omega)] at S2
      refine (unhide S2).mono ?_
      rintro e w7 ⟨⟨dd, rfl, ho⟩, hb⟩
      have HXd := hide ((unhide HXd).below hb)
      have HAd := hide (((unhide HAd).below hb (Nat.le_refl _)).mono hb.size)
      have HSd := hide (((unhide HSd).below hb (Nat.le_refl _)).mono hb.size)
      have HK := hide (((unhide HK).below hb (Nat.le_refl _)).mono hb.size)
      have HSa := hide (((unhide HSa).below hb (Nat.le_refl _)).mono hb.size)
      have HXa := hide ((unhide HXa).below hb)
      have hc7 : Below w.heap.size w w7 := hcW6.trans (hb.mono hcW6.size)
      obtain ⟨ab, nb, cb, bb, mb, kb, rfl, hL, hQ⟩ := ho.at
      obtain rfl : 0 = mb := hQ.1
      have HSb := hide hL
      clear ho hb hL hQ S2
      obtain ⟨p0, p1⟩ := ((unhide HXd).below (below_new w7 (Obj.cells #[Value.slice ab nb cb, Value.slice bb 0 kb] 27))).cells
      go_wp2_with fail
      obtain ⟨W7, hW⟩ : ∃ W, W = w7.alloc (Obj.cells #[Value.slice ab nb cb, Value.slice bb 0 kb] 27) := ⟨_, rfl⟩
      rw [← hW]
      have hb : Below w7.heap.size w7 W7 := by rw [hW]; exact below_new _ _
      have HXd := hide ((unhide HXd).below hb)
      have HAd := hide (((unhide HAd).below hb (Nat.le_refl _)).mono hb.size)
      have HSd := hide (((unhide HSd).below hb (Nat.le_refl _)).mono hb.size)
      have HK := hide (((unhide HK).below hb (Nat.le_refl _)).mono hb.size)
      have HSa := hide (((unhide HSa).below hb (Nat.le_refl _)).mono hb.size)
      have HXa := hide ((unhide HXa).below hb)
      have HSb := hide (((unhide HSb).below hb (Nat.le_refl _)).mono hb.size)
      have HXb : Hid (Box W7 w7.heap.size (Value.slice ab nb cb) (Value.slice bb 0 kb)) := by show Box _ _ _ _; rw [hW]; exact Box.new _ _ _
      have hcW7 : Below w.heap.size w W7 := hc7.trans (hb.mono hc7.size)
      clear hW hb p0 p1
      have S3 := hide (unhide FL W7 (unhide HAd))
      refine (unhide S3).mono ?_
      rintro e w8 ⟨⟨dd, rfl, ho⟩, hb⟩
      have HXd := hide ((unhide HXd).below hb)
      have HAd := hide (((unhide HAd).below hb (Nat.le_refl _)).mono hb.size)
      have HSd := hide (((unhide HSd).below hb (Nat.le_refl _)).mono hb.size)
      have HK := hide (((unhide HK).below hb (Nat.le_refl _)).mono hb.size)
      have HSa := hide (((unhide HSa).below hb (Nat.le_refl _)).mono hb.size)
      have HXa := hide ((unhide HXa).below hb)
      have HSb := hide (((unhide HSb).below hb (Nat.le_refl _)).mono hb.size)
      have HXb := hide ((unhide HXb).below hb)
      have hc8 : Below w.heap.size w w8 := hcW7.trans (hb.mono hcW7.size)
      obtain ⟨af, nf, cf, bf, mf, kf, rfl, hL, hQ⟩ := ho.at
      obtain rfl : 0 = mf := hQ.1
      have HSf := hide hL
      clear ho hb hL hQ S3
      obtain ⟨p0, p1⟩ := ((unhide HXd).below (below_new w8 (Obj.cells #[Value.slice af nf cf, Value.slice bf 0 kf] 27))).cells
      go_wp2_with fail
      obtain ⟨W8, hW⟩ : ∃ W, W = w8.alloc (Obj.cells #[Value.slice af nf cf, Value.slice bf 0 kf] 27) := ⟨_, rfl⟩
      rw [← hW]
      have hb : Below w8.heap.size w8 W8 := by rw [hW]; exact below_new _ _
      have HXd := hide ((unhide HXd).below hb)
      have HAd := hide (((unhide HAd).below hb (Nat.le_refl _)).mono hb.size)
      have HSd := hide (((unhide HSd).below hb (Nat.le_refl _)).mono hb.size)
      have HK := hide (((unhide HK).below hb (Nat.le_refl _)).mono hb.size)
      have HSa := hide (((unhide HSa).below hb (Nat.le_refl _)).mono hb.size)
      have HXa := hide ((unhide HXa).below hb)
      have HSb := hide (((unhide HSb).below hb (Nat.le_refl _)).mono hb.size)
      have HXb := hide ((unhide HXb).below hb)
      have HSf := hide (((unhide HSf).below hb (Nat.le_refl _)).mono hb.size)
      have HXf : Hid (Box W8 w8.heap.size (Value.slice af nf cf) (Value.slice bf 0 kf)) := by show Box _ _ _ _; rw [hW]; exact Box.new _ _ _
      have hcW8 : Below w.heap.size w W8 := hc8.trans (hb.mono hc8.size)
      clear hW hb p0 p1
      have S4 := hide (unhide CR W8 kA kC K tt pp (unhide HAd) (unhide HK) (fun x hx => near_wf (by have := unhide HKs x hx; unfold Near at this; omega)) (near_wf (by omega)) (by omega))
      rw [unhide HCK pp (by omega) (by omega)] at S4
      refine (unhide S4).mono ?_
      rintro e w9 ⟨⟨dd, rfl, ho⟩, hb⟩
      have HXd := hide ((unhide HXd).below hb)
      have HAd := hide (((unhide HAd).below hb (Nat.le_refl _)).mono hb.size)
      have HSd := hide (((unhide HSd).below hb (Nat.le_refl _)).mono hb.size)
      have HK := hide (((unhide HK).below hb (Nat.le_refl _)).mono hb.size)
      have HSa := hide (((unhide HSa).below hb (Nat.le_refl _)).mono hb.size)
      have HXa := hide ((unhide HXa).below hb)
      have HSb := hide (((unhide HSb).below hb (Nat.le_refl _)).mono hb.size)
      have HXb := hide ((unhide HXb).below hb)
      have HSf := hide (((unhide HSf).below hb (Nat.le_refl _)).mono hb.size)
      have HXf := hide ((unhide HXf).below hb)
      have hc9 : Below w.heap.size w w9 := hcW8.trans (hb.mono hcW8.size)
      obtain ⟨ac, nc, cc, bc, mc, kc, rfl, hL, hQ⟩ := ho.at
      obtain rfl : 0 = mc := hQ.1
      have HSc := hide hL
      clear ho hb hL hQ S4
      obtain ⟨p0, p1⟩ := ((unhide HXd).below (below_new w9 (Obj.cells #[Value.slice ac nc cc, Value.slice bc 0 kc] 27))).cells
      go_wp2_with fail
      obtain ⟨W9, hW⟩ : ∃ W, W = w9.alloc (Obj.cells #[Value.slice ac nc cc, Value.slice bc 0 kc] 27) := ⟨_, rfl⟩
      rw [← hW]
      have hb : Below w9.heap.size w9 W9 := by rw [hW]; exact below_new _ _
      have HXd := hide ((unhide HXd).below hb)
      have HAd := hide (((unhide HAd).below hb (Nat.le_refl _)).mono hb.size)
      have HSd := hide (((unhide HSd).below hb (Nat.le_refl _)).mono hb.size)
      have HK := hide (((unhide HK).below hb (Nat.le_refl _)).mono hb.size)
      have HSa := hide (((unhide HSa).below hb (Nat.le_refl _)).mono hb.size)
      have HXa := hide ((unhide HXa).below hb)
      have HSb := hide (((unhide HSb).below hb (Nat.le_refl _)).mono hb.size)
      have HXb := hide ((unhide HXb).below hb)
      have HSf := hide (((unhide HSf).below hb (Nat.le_refl _)).mono hb.size)
      have HXf := hide ((unhide HXf).below hb)
      have HSc := hide (((unhide HSc).below hb (Nat.le_refl _)).mono hb.size)
      have HXc : Hid (Box W9 w9.heap.size (Value.slice ac nc cc) (Value.slice bc 0 kc)) := by show Box _ _ _ _; rw [hW]; exact Box.new _ _ _
      have hcW9 : Below w.heap.size w W9 := hc9.trans (hb.mono hc9.size)
      clear hW hb p0 p1
      have S5 := hide (unhide CS W9 kA kC K tt pp (unhide HAd) (unhide HK) (by omega))
      rw [unhide HCK pp (by omega) (by omega)] at S5
      refine (unhide S5).mono ?_
      rintro e w10 ⟨⟨dd, rfl, ho⟩, hb⟩
      have HXd := hide ((unhide HXd).below hb)
      have HAd := hide (((unhide HAd).below hb (Nat.le_refl _)).mono hb.size)
      have HSd := hide (((unhide HSd).below hb (Nat.le_refl _)).mono hb.size)
      have HK := hide (((unhide HK).below hb (Nat.le_refl _)).mono hb.size)
      have HSa := hide (((unhide HSa).below hb (Nat.le_refl _)).mono hb.size)
      have HXa := hide ((unhide HXa).below hb)
      have HSb := hide (((unhide HSb).below hb (Nat.le_refl _)).mono hb.size)
      have HXb := hide ((unhide HXb).below hb)
      have HSf := hide (((unhide HSf).below hb (Nat.le_refl _)).mono hb.size)
      have HXf := hide ((unhide HXf).below hb)
      have HSc := hide (((unhide HSc).below hb (Nat.le_refl _)).mono hb.size)
      have HXc := hide ((unhide HXc).below hb)
      have hc10 : Below w.heap.size w w10 := hcW9.trans (hb.mono hcW9.size)
      obtain ⟨av, nv, cv, bv, mv, kv, rfl, hL, hQ⟩ := ho.at
      obtain rfl : 0 = mv := hQ.1
      have HSv := hide hL
      clear ho hb hL hQ S5
      obtain ⟨p0, p1⟩ := ((unhide HXa).below (below_new w10 (Obj.cells #[Value.slice av nv cv, Value.slice bv 0 kv] 27))).cells
      obtain ⟨q0, q1⟩ := ((unhide HXf).below (below_new w10 (Obj.cells #[Value.slice av nv cv, Value.slice bv 0 kv] 27))).cells
      have hFl : (flushL L Q).length = L.length := flushL_length L Q
      have hcl := crA_length L Q K tt pp
      have SM := hide (fun w1 a1 a2 n c1 c2 (LL : List ByteArray) (hn : n ≤ 1048576) (h1 : StrsAt w1 a1 n w1.heap.size LL) (h2 : StrsAt w1 a2 n w1.heap.size LL) => sameTexts_same a1 a2 n c1 c2 w1.heap.size w1.heap.size LL hn w1 (Nat.le_refl _) (Nat.le_refl _) h1 h2)
      obtain rfl : nf = na := by have h1 := (unhide HSf).1; have h2 := (unhide HSa).1; omega
      obtain rfl : n0 = nb := by have h1 := (unhide HSd).1; have h2 := (unhide HSb).1; omega
      obtain rfl : nv = nc := by have h1 := (unhide HSv).1; have h2 := (unhide HSc).1; omega
      have hl1 : nf ≤ 1048576 := by have := (unhide HSf).1; omega
      have hl2 : n0 ≤ 1048576 := by have := (unhide HSd).1; omega
      have hl3 : nv ≤ 1048576 := by have := (unhide HSv).1; omega
      go_wp2_with fail
      obtain ⟨W10, hW⟩ : ∃ W, W = w10.alloc (Obj.cells #[Value.slice av nv cv, Value.slice bv 0 kv] 27) := ⟨_, rfl⟩
      rw [← hW]
      have hb : Below w10.heap.size w10 W10 := by rw [hW]; exact below_new _ _
      have HXd := hide ((unhide HXd).below hb)
      have HAd := hide (((unhide HAd).below hb (Nat.le_refl _)).mono hb.size)
      have HSd := hide (((unhide HSd).below hb (Nat.le_refl _)).mono hb.size)
      have HK := hide (((unhide HK).below hb (Nat.le_refl _)).mono hb.size)
      have HSa := hide (((unhide HSa).below hb (Nat.le_refl _)).mono hb.size)
      have HXa := hide ((unhide HXa).below hb)
      have HSb := hide (((unhide HSb).below hb (Nat.le_refl _)).mono hb.size)
      have HXb := hide ((unhide HXb).below hb)
      have HSf := hide (((unhide HSf).below hb (Nat.le_refl _)).mono hb.size)
      have HXf := hide ((unhide HXf).below hb)
      have HSc := hide (((unhide HSc).below hb (Nat.le_refl _)).mono hb.size)
      have HXc := hide ((unhide HXc).below hb)
      have HSv := hide (((unhide HSv).below hb (Nat.le_refl _)).mono hb.size)
      have HXv : Hid (Box W10 w10.heap.size (Value.slice av nv cv) (Value.slice bv 0 kv)) := by show Box _ _ _ _; rw [hW]; exact Box.new _ _ _
      have hcW10 : Below w.heap.size w W10 := hc10.trans (hb.mono hc10.size)
      clear hW hb p0 p1 q0 q1
      refine (unhide SM W10 aa af nf ca cf _ hl1 (unhide HSa) (unhide HSf)).mono ?_
      rintro e w11 ⟨rfl, hb⟩
      have HXd := hide ((unhide HXd).below hb)
      have HAd := hide (((unhide HAd).below hb (Nat.le_refl _)).mono hb.size)
      have HSd := hide (((unhide HSd).below hb (Nat.le_refl _)).mono hb.size)
      have HK := hide (((unhide HK).below hb (Nat.le_refl _)).mono hb.size)
      have HSa := hide (((unhide HSa).below hb (Nat.le_refl _)).mono hb.size)
      have HXa := hide ((unhide HXa).below hb)
      have HSb := hide (((unhide HSb).below hb (Nat.le_refl _)).mono hb.size)
      have HXb := hide ((unhide HXb).below hb)
      have HSf := hide (((unhide HSf).below hb (Nat.le_refl _)).mono hb.size)
      have HXf := hide ((unhide HXf).below hb)
      have HSc := hide (((unhide HSc).below hb (Nat.le_refl _)).mono hb.size)
      have HXc := hide ((unhide HXc).below hb)
      have HSv := hide (((unhide HSv).below hb (Nat.le_refl _)).mono hb.size)
      have HXv := hide ((unhide HXv).below hb)
      have hc11 : Below w.heap.size w w11 := hcW10.trans (hb.mono hcW10.size)
      clear hb
      obtain ⟨p0, p1⟩ := (unhide HXb).cells
      obtain ⟨q0, q1⟩ := (unhide HXd).cells
      go_wp2_with fail
      clear p0 p1 q0 q1
      refine (unhide SM w11 ab a0 n0 cb c0 _ hl2 (unhide HSb) (unhide HSd)).mono ?_
      rintro e w12 ⟨rfl, hb⟩
      have HXd := hide ((unhide HXd).below hb)
      have HAd := hide (((unhide HAd).below hb (Nat.le_refl _)).mono hb.size)
      have HSd := hide (((unhide HSd).below hb (Nat.le_refl _)).mono hb.size)
      have HK := hide (((unhide HK).below hb (Nat.le_refl _)).mono hb.size)
      have HSa := hide (((unhide HSa).below hb (Nat.le_refl _)).mono hb.size)
      have HXa := hide ((unhide HXa).below hb)
      have HSb := hide (((unhide HSb).below hb (Nat.le_refl _)).mono hb.size)
      have HXb := hide ((unhide HXb).below hb)
      have HSf := hide (((unhide HSf).below hb (Nat.le_refl _)).mono hb.size)
      have HXf := hide ((unhide HXf).below hb)
      have HSc := hide (((unhide HSc).below hb (Nat.le_refl _)).mono hb.size)
      have HXc := hide ((unhide HXc).below hb)
      have HSv := hide (((unhide HSv).below hb (Nat.le_refl _)).mono hb.size)
      have HXv := hide ((unhide HXv).below hb)
      have hc12 : Below w.heap.size w w12 := hc11.trans (hb.mono hc11.size)
      clear hb
      obtain ⟨p0, p1⟩ := (unhide HXc).cells
      obtain ⟨q0, q1⟩ := (unhide HXv).cells
      go_wp2_with fail
      clear p0 p1 q0 q1
      refine (unhide SM w12 ac av nv cc cv _ hl3 (unhide HSc) (unhide HSv)).mono ?_
      rintro e w13 ⟨rfl, hb⟩
      have HXd := hide ((unhide HXd).below hb)
      have HAd := hide (((unhide HAd).below hb (Nat.le_refl _)).mono hb.size)
      have HSd := hide (((unhide HSd).below hb (Nat.le_refl _)).mono hb.size)
      have HK := hide (((unhide HK).below hb (Nat.le_refl _)).mono hb.size)
      have HSa := hide (((unhide HSa).below hb (Nat.le_refl _)).mono hb.size)
      have HXa := hide ((unhide HXa).below hb)
      have HSb := hide (((unhide HSb).below hb (Nat.le_refl _)).mono hb.size)
      have HXb := hide ((unhide HXb).below hb)
      have HSf := hide (((unhide HSf).below hb (Nat.le_refl _)).mono hb.size)
      have HXf := hide ((unhide HXf).below hb)
      have HSc := hide (((unhide HSc).below hb (Nat.le_refl _)).mono hb.size)
      have HXc := hide ((unhide HXc).below hb)
      have HSv := hide (((unhide HSv).below hb (Nat.le_refl _)).mono hb.size)
      have HXv := hide ((unhide HXv).below hb)
      have hc13 : Below w.heap.size w w13 := hc12.trans (hb.mono hc12.size)
      clear hb
      obtain ⟨p0, p1⟩ := (unhide HXc).cells
      go_wp2
      go_ret
      exact ⟨rfl, hc13⟩
end Go.Proofs.Ytfbfafpfhgjdfaa
