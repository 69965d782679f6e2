/-
 CdWalk.
-/
import Derived.Test.YtkjclkelnheheaaJ32
import Derived.Test.YtkjclkelnheheaaJ10
import Derived.Test.YtkjclkelnheheaaJ33
import Derived.Test.YtkjclkelnheheaaJ17
import Derived.Test.YtkjclkelnheheaaJ15
import Derived.Test.YtkjclkelnheheaaJ38
namespace Go.Proofs.Ytkjclkelnheheaa
namespace Gr
open Go.RowKit
theorem certified_big (a : Option Addr) (len cap : Nat) (hl : ¬ len ≤ 1048576) (w : World) :
    Calls Try.prog 4 #[.slice a len cap] w fun e w' => e = .returned (.bool true) ∧ Below w.heap.size w w' := by
  have H := hide (big_is a len cap w)
  have e : decide ((1048576 : Int) < (len : Int)) = true := by simp; omega
  rw [e] at H
  clear e
  go_enter Try.func4, Try.ntmps4
  go_wp2_with fail
  refine (unhide H).mono ?_
  rintro e w1 ⟨rfl, rfl⟩
  go_wp2
  go_ret
  exact ⟨rfl, Below.refl _ _⟩
theorem codeAt {a : Option Addr} {len : Nat} {w w' : World} (h : Code a len w.heap.size w) (hb : Below w.heap.size w w') : Code a len w'.heap.size w' := fun j hj => by
  obtain ⟨b, off, z, e, h1, hc, hz⟩ := h j hj
  have := hb.size
  exact ⟨b, off, z, e, by omega, by rw [hb.cell (p := ⟨b, off + j, none⟩) (by simpa using h1)]; exact hc, hz⟩
theorem cert_iff {s : Int} {Q : List EdgeI} {M N : List CoupleI} {Y : List Int} {G : List GrpI} (h : certR s Q M Y G = true) (hn : matchOk s Q N = true) : certR s Q N Y G = decide (wsum (sums Q N) = wsum (sums Q M)) := by
  obtain ⟨h1, _, h3, _⟩ := Sv.cert_small h
  unfold certR
  rw [h1, hn, Bool.true_and, Bool.true_and, decide_eq_decide]
  omega
theorem cert_bound {s : Int} {Q : List EdgeI} {M : List CoupleI} {Y : List Int} {G : List GrpI} (h : certR s Q M Y G = true) : boundR s Q Y G = wsum (sums Q M) := by
  obtain ⟨h1, _, h3, _⟩ := Sv.cert_small h
  unfold boundR
  rw [if_pos h1]
  omega
set_option maxRecDepth 100000 in
set_option maxHeartbeats 4000000 in
theorem certified_walk (a : Option Addr) (len cap : Nat) (hl : len ≤ 1048576) (w : World) (hd : Code a len w.heap.size w) :
    Calls Try.prog 4 #[.slice a len cap] w fun e w' => e = .returned (.bool true) ∧ Below w.heap.size w w' := by
  have H := hide (big_is a len cap w)
  have e : decide ((1048576 : Int) < (len : Int)) = false := by simp; omega
  rw [e] at H
  have DG := hide (drawGraph_any a len cap hl w hd)
  have DM := hide (fun w1 (hb : Below w.heap.size w w1) => drawMatch_any a len cap hl w1 (codeAt hd hb))
  clear e hd
  go_enter Try.func4, Try.ntmps4
  go_wp2_with fail
  refine (unhide H).mono ?_
  rintro e w1 ⟨rfl, hw1⟩
  subst hw1
  go_wp2_with fail
  refine (unhide DG).mono ?_
  rintro e w2 ⟨⟨d, rfl, s, Q, hG, hok, hQ⟩, hb2⟩
  have hgA := hG.at
  obtain ⟨ge, gc, hdE⟩ := hgA.shape
  subst hdE
  have GA := hide (fun W (hb : Below w2.heap.size w2 W) => hgA.below hb (Nat.le_refl _))
  have SV := hide (fun W (hb : Below w2.heap.size w2 W) => Sv.solve_full W _ s Q hok hQ ((unhide GA W hb).mono hb.size))
  have IC := hide (fun u Y G (h2 : psize Y G ≤ 1048576) m M (h3 : M.length ≤ 1048576) W (hb : Below w2.heap.size w2 W) (hp : PrAt W u W.heap.size Y G) (hm : CoAt W m W.heap.size M) => implCert_gen W.heap.size _ s Q m M u Y G (by omega) h3 h2 W (Nat.le_refl _) ((unhide GA W hb).mono hb.size) hm hp)
  have IB := hide (fun u Y G (h2 : psize Y G ≤ 1048576) W (hb : Below w2.heap.size w2 W) (hp : PrAt W u W.heap.size Y G) => implBound_gen W.heap.size _ s Q u Y G (by omega) h2 W (Nat.le_refl _) ((unhide GA W hb).mono hb.size) hp)
  have MK := hide (fun m M (h3 : M.length ≤ 1048576) W (hb : Below w2.heap.size w2 W) (hm : CoAt W m W.heap.size M) => specMatch_gen W.heap.size _ s Q m M (by omega) h3 W (Nat.le_refl _) ((unhide GA W hb).mono hb.size) hm)
  have WO := hide (fun m M (hmk : matchOk s Q M = true) W (hb : Below w2.heap.size w2 W) (hm : CoAt W m W.heap.size M) => worthM_any W.heap.size _ s Q m M hmk (by omega) W (Nat.le_refl _) ((unhide GA W hb).mono hb.size) hm)
  have HIFF : Hid (∀ M N Y G, certR s Q M Y G = true → matchOk s Q N = true → certR s Q N Y G = decide (wsum (sums Q N) = wsum (sums Q M))) := fun M N Y G h hn => cert_iff h hn
  have HBD : Hid (∀ M Y G, certR s Q M Y G = true → boundR s Q Y G = wsum (sums Q M)) := fun M Y G h => cert_bound h
  have HSM : Hid (∀ M Y G, certR s Q M Y G = true → matchOk s Q M = true ∧ M.length ≤ 9 ∧ psize Y G ≤ 300000) := fun M Y G h => by
    obtain ⟨_, a2, _, a4, _, _, _, a8⟩ := Sv.cert_small h
    exact ⟨a2, a4, a8⟩
  generalize hql : Q.length = ql at SV IC IB MK WO ⊢
  clear hgA hG GA hok hql H DG hQ
  obtain ⟨V3, hV3⟩ : ∃ W, W = w2.alloc (Obj.cells #[.int .i64 s, .slice ge ql gc] 26) := ⟨_, rfl⟩
  have b3 : Below w2.heap.size w2 V3 := by rw [hV3]; exact below_new _ _
  have u3 : Blk V3 w2.heap.size #[.int .i64 s, .slice ge ql gc] 26 := by rw [hV3]; exact Blk.new0
  go_wp2_with fail
  rw [← hV3]
  clear hV3
  go_fit (unhide SV V3 b3)
  rintro e w4 ⟨⟨dm, dp, M, Y, G, rfl, hM4, hP4, hcert, eM, eY, eG⟩, hb4⟩
  clear eM eY eG
  have b4 := b3.trans (hb4.mono b3.size)
  have u4 := u3.below hb4
  have cM := hM4.at
  obtain ⟨na, nc, hdm⟩ := cM.shape
  subst hdm
  have cP := hP4.at
  obtain ⟨ya, yc, pa, pc, hdp⟩ := cP.shape
  subst hdp
  obtain ⟨V5, hV5⟩ : ∃ W, W = w4.alloc (Obj.cells #[.slice ya Y.length yc, .slice pa G.length pc] 30) := ⟨_, rfl⟩
  have b5' : Below w4.heap.size w4 V5 := by rw [hV5]; exact below_new _ _
  have b5 : Below w2.heap.size w2 V5 := b4.trans (b5'.mono b4.size)
  have u5 := u4.below b5'
  have p5 : Blk V5 w4.heap.size #[.slice ya Y.length yc, .slice pa G.length pc] 30 := by rw [hV5]; exact Blk.new0
  have cM5 := (cM.below b5' (Nat.le_refl _)).mono b5'.size
  have cP5 := (cP.below b5' (Nat.le_refl _)).mono b5'.size
  clear cM cP hM4 hP4 hb4 u4 u3 b3 b4 b5' SV
  go_wp2_with fail
  rw [← hV5]
  clear hV5
  go_fit (unhide DM V5 (hb2.trans (b5.mono hb2.size)))
  rintro e w8 ⟨⟨d8, m8, s8, Q8, M8, rfl, hG8, hM8, hmk8, hQ8⟩, hb8⟩
  have b8 := b5.trans (hb8.mono b5.size)
  have u8 := u5.below hb8
  have p8 := p5.below hb8
  have cM8 := (cM5.below hb8 (Nat.le_refl _)).mono hb8.size
  have cP8 := (cP5.below hb8 (Nat.le_refl _)).mono hb8.size
  obtain ⟨ge8, gc8, hd8⟩ := hG8.at.shape
  subst hd8
  have hM8l : M8.length ≤ 9 := (match_sound hmk8).2.1
  have hcA := hM8.at
  obtain ⟨ma, mc, hm8⟩ := hcA.shape
  subst hm8
  obtain ⟨V9, hV9⟩ : ∃ W, W = w8.alloc (Obj.cells #[.int .i64 s8, .slice ge8 Q8.length gc8] 26) := ⟨_, rfl⟩
  have b9' : Below w8.heap.size w8 V9 := by rw [hV9]; exact below_new _ _
  have b9 : Below w2.heap.size w2 V9 := b8.trans (b9'.mono b8.size)
  have u9 := u8.below b9'
  have p9 := p8.below b9'
  have cM9 := (cM8.below b9' (Nat.le_refl _)).mono b9'.size
  have cP9 := (cP8.below b9' (Nat.le_refl _)).mono b9'.size
  have cm9 := (hcA.below b9' (Nat.le_refl _)).mono b9'.size
  clear hb8 u8 p8 b8 hG8 hM8 hmk8 hQ8 hcA b9' DM cM5 cP5 cM8 cP8 u5 p5 b5
  go_wp2_with fail
  rw [← hV9]
  clear hV9
  obtain ⟨g1, g2, g3⟩ := unhide HSM M Y G hcert
  have HT := unhide HBD M Y G hcert
  have hu := u9.lt
  have hpl := p9.lt
  have HG : Hid (∀ d : Grown V9.heap.size V9, Below w2.heap.size w2 d.w) := fun d => b9.trans (d.below.mono b9.size)
  have k0 : ∀ d : Grown V9.heap.size V9, d.w.cell? ⟨w2.heap.size, 0, none⟩ = some (.int .i64 s) := fun d => d.cell hu (u9.cell 0 _ rfl)
  have k1 : ∀ d : Grown V9.heap.size V9, d.w.cell? ⟨w2.heap.size, 1, none⟩ = some (.slice ge ql gc) := fun d => d.cell hu (u9.cell 1 _ rfl)
  have k2 : ∀ d : Grown V9.heap.size V9, d.w.cell? ⟨w4.heap.size, 0, none⟩ = some (.slice ya Y.length yc) := fun d => d.cell hpl (p9.cell 0 _ rfl)
  have k3 : ∀ d : Grown V9.heap.size V9, d.w.cell? ⟨w4.heap.size, 1, none⟩ = some (.slice pa G.length pc) := fun d => d.cell hpl (p9.cell 1 _ rfl)
  have cmd := fun d : Grown V9.heap.size V9 => (cM9.below d.below (Nat.le_refl _)).mono d.below.size
  have cpd := fun d : Grown V9.heap.size V9 => (cP9.below d.below (Nat.le_refl _)).mono d.below.size
  have cnd := fun d : Grown V9.heap.size V9 => (cm9.below d.below (Nat.le_refl _)).mono d.below.size
  have ICd := hide (fun d : Grown V9.heap.size V9 => unhide IC _ Y G (by omega) _ M (by omega) d.w (unhide HG d) (cpd d) (cmd d))
  have IC8 := hide (fun d : Grown V9.heap.size V9 => unhide IC _ Y G (by omega) _ M8 (by omega) d.w (unhide HG d) (cpd d) (cnd d))
  have IBd := hide (fun d : Grown V9.heap.size V9 => unhide IB _ Y G (by omega) d.w (unhide HG d) (cpd d))
  have WOd := hide (fun d : Grown V9.heap.size V9 => unhide WO _ M g1 d.w (unhide HG d) (cmd d))
  have MKd := hide (fun d : Grown V9.heap.size V9 => unhide MK _ M8 (by omega) d.w (unhide HG d) (cnd d))
  have WO8 := hide (fun hmk (d : Grown V9.heap.size V9) => unhide WO _ M8 hmk d.w (unhide HG d) (cnd d))
  have HI8 : Hid (matchOk s Q M8 = true → certR s Q M8 Y G = decide (wsum (sums Q M8) = wsum (sums Q M))) := fun h => unhide HIFF M M8 Y G hcert h
  rw [hcert] at ICd
  rw [HT] at IBd
  generalize wsum (sums Q M) = T at IBd WOd HI8
  generalize wsum (sums Q M8) = T8 at WO8 HI8
  generalize certR s Q M8 Y G = c8 at IC8 HI8
  generalize matchOk s Q M8 = mk8 at MKd WO8 HI8
  generalize M.length = ml at ICd WOd ⊢
  generalize M8.length = ml8 at IC8 WO8 MKd ⊢
  generalize Y.length = yl at *
  generalize G.length = gl at *
  have hbw := hb2.size
  clear IC IB MK WO HIFF HBD HSM HT hcert g1 g2 g3 cmd cpd cnd cM9 cP9 cm9 hM8l
  have HU := hide u9
  have HPF := hide p9
  have hne : ((T : Int) != T) = false := by simp
  clear u9 p9
  refine wp_region_grown V9.heap.size (by kernel_rfl) (by kernel_rfl) ?_
  repeat (go_big_quiet_step (first
    | (go_at_call 13; exact Calls.grown (Nat.le_refl _) (unhide ICd _))
    | (go_at_call 9; exact Calls.grown (Nat.le_refl _) (unhide IBd _))
    | (go_at_call 16; exact Calls.grown (Nat.le_refl _) (unhide WOd _))))
  refine wpQuiet_nil ?_
  rintro w12 ⟨d12, rfl⟩
  obtain ⟨W12, hb12⟩ := d12
  dsimp only
  have b12 : Below w2.heap.size w2 W12 := b9.trans (hb12.mono b9.size)
  have HL : Hid (∀ d : Grown W12.heap.size W12, Below w1.heap.size w1 d.w) := fun d => hb2.trans ((b12.trans (d.below.mono b12.size)).mono hb2.size)
  have q0 : ∀ d : Grown W12.heap.size W12, d.w.cell? ⟨w2.heap.size, 0, none⟩ = some (.int .i64 s) := fun d => k0 ⟨d.w, hb12.trans (d.below.mono hb12.size)⟩
  have q1 : ∀ d : Grown W12.heap.size W12, d.w.cell? ⟨w2.heap.size, 1, none⟩ = some (.slice ge ql gc) := fun d => k1 ⟨d.w, hb12.trans (d.below.mono hb12.size)⟩
  have q2 : ∀ d : Grown W12.heap.size W12, d.w.cell? ⟨w4.heap.size, 0, none⟩ = some (.slice ya yl yc) := fun d => k2 ⟨d.w, hb12.trans (d.below.mono hb12.size)⟩
  have q3 : ∀ d : Grown W12.heap.size W12, d.w.cell? ⟨w4.heap.size, 1, none⟩ = some (.slice pa gl pc) := fun d => k3 ⟨d.w, hb12.trans (d.below.mono hb12.size)⟩
  have MKe := hide (fun d : Grown W12.heap.size W12 => unhide MKd ⟨d.w, hb12.trans (d.below.mono hb12.size)⟩)
  have ICe := hide (fun d : Grown W12.heap.size W12 => unhide IC8 ⟨d.w, hb12.trans (d.below.mono hb12.size)⟩)
  have WOe := hide (fun d : Grown W12.heap.size W12 => unhide WOd ⟨d.w, hb12.trans (d.below.mono hb12.size)⟩)
  have WO8e := hide (fun hmk (d : Grown W12.heap.size W12) => unhide WO8 hmk ⟨d.w, hb12.trans (d.below.mono hb12.size)⟩)
  clear k0 k1 k2 k3 MKd IC8 WOd WO8 ICd IBd HG hu hpl hne HU HPF
  cases mk8 with
  | false =>
    clear HI8 ICe WOe WO8e
    go_wp2_with fail
    refine wp_region_grown W12.heap.size (by kernel_rfl) (by kernel_rfl) ?_
    repeat (go_big_quiet_step (first
      | (go_at_call 15; exact Calls.grown (Nat.le_refl _) (unhide MKe _))))
    refine wpQuiet_nil ?_
    rintro w13 ⟨d13, rfl⟩
    have b13 := unhide HL d13
    go_wp2
    go_ret
    exact ⟨rfl, b13⟩
  | true =>
    have hc8 := unhide HI8 rfl
    have WO9 := hide (fun d => unhide WO8e (by first | rfl | trivial) d)
    clear HI8 WO8e
    by_cases hT : T8 = T
    · subst hT
      have hcT : c8 = true := by rw [hc8]; simp
      subst hcT
      clear hc8
      have hee : (T8 == T8) = true := by simp
      go_wp2_with fail
      refine wp_region_grown W12.heap.size (by kernel_rfl) (by kernel_rfl) ?_
      repeat (go_big_quiet_step (first
        | (go_at_call 15; exact Calls.grown (Nat.le_refl _) (unhide MKe _))
        | (go_at_call 13; exact Calls.grown (Nat.le_refl _) (unhide ICe _))
        | (go_at_call_of 16 (Value.slice ma ml8 mc); exact Calls.grown (Nat.le_refl _) (unhide WO9 _))
        | (go_at_call_of 16 (Value.slice na ml nc); exact Calls.grown (Nat.le_refl _) (unhide WOe _))))
      refine wpQuiet_nil ?_
      rintro w13 ⟨d13, rfl⟩
      have b13 := unhide HL d13
      go_wp2
      go_ret
      exact ⟨rfl, b13⟩
    · have hcF : c8 = false := by rw [hc8]; simp [hT]
      subst hcF
      clear hc8
      have hee : (T8 == T) = false := by simp [hT]
      go_wp2_with fail
      refine wp_region_grown W12.heap.size (by kernel_rfl) (by kernel_rfl) ?_
      repeat (go_big_quiet_step (first
        | (go_at_call 15; exact Calls.grown (Nat.le_refl _) (unhide MKe _))
        | (go_at_call 13; exact Calls.grown (Nat.le_refl _) (unhide ICe _))
        | (go_at_call_of 16 (Value.slice ma ml8 mc); exact Calls.grown (Nat.le_refl _) (unhide WO9 _))
        | (go_at_call_of 16 (Value.slice na ml nc); exact Calls.grown (Nat.le_refl _) (unhide WOe _))))
      refine wpQuiet_nil ?_
      rintro w13 ⟨d13, rfl⟩
      have b13 := unhide HL d13
      go_wp2
      go_ret
      exact ⟨rfl, b13⟩
end Gr
end Go.Proofs.Ytkjclkelnheheaa
