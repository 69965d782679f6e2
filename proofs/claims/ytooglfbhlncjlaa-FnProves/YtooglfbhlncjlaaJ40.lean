/-
  Texts of this claim, one behind the other: PvWalk.
-/
import Derived.Test.YtooglfbhlncjlaaJ31
import Derived.Test.YtooglfbhlncjlaaJ17
import Derived.Test.YtooglfbhlncjlaaJ19
import Derived.Test.YtooglfbhlncjlaaJ16
import Derived.Test.YtooglfbhlncjlaaJ39

/-
  FnProves, its walk: an accepted proof's bound is not below the best sums; a pairing that it certifies has them.
-/
namespace Go.Proofs.Ytooglfbhlncjlaa
namespace Gr
open Go.RowKit

theorem proves_big (a : Option Addr) (len cap : Nat) (hl : ¬ len ≤ 1048576) (w : World) :
    Calls Try.prog 3 #[.slice a len cap] w fun e w' => e = .returned (.bool true) ∧ Below w.heap.size w w' := by
  have H := hide (big_is a len cap w)
  have e : decide ((1048576 : Int) < (len : Int)) = true := by simp; omega
  rw [e] at H
  clear e
  go_enter Try.func3, Try.ntmps3
  go_wp2_with fail
  refine (unhide H).mono ?_
  rintro e w1 ⟨rfl, rfl⟩
  go_wp2
  go_ret
  exact ⟨rfl, Below.refl _ _⟩

theorem code_at {a : Option Addr} {len : Nat} {w w' : World} (h : Code a len w.heap.size w) (hb : Below w.heap.size w w') : Code a len w'.heap.size w' := fun j hj => by
  obtain ⟨b, off, z, e, h1, hc, hz⟩ := h j hj
  have := hb.size
  exact ⟨b, off, z, e, by omega, by rw [hb.cell (p := ⟨b, off + j, none⟩) (by simpa using h1)]; exact hc, hz⟩

set_option maxRecDepth 100000 in
set_option maxHeartbeats 4000000 in
theorem proves_walk (a : Option Addr) (len cap : Nat) (hl : len ≤ 1048576) (w : World) (hd : Code a len w.heap.size w) :
    Calls Try.prog 3 #[.slice a len cap] w fun e w' => e = .returned (.bool true) ∧ Below w.heap.size w w' := by
  have H := hide (big_is a len cap w)
  have e : decide ((1048576 : Int) < (len : Int)) = false := by simp; omega
  rw [e] at H
  have DA := hide (drawAny_any a len cap hl w hd)
  have DM := hide (fun w1 (hb : Below w.heap.size w w1) => drawMatch_any a len cap hl w1 (code_at hd hb))
  clear e hd
  go_enter Try.func3, Try.ntmps3
  go_wp2_with fail
  refine (unhide H).mono ?_
  rintro e w1 ⟨rfl, hw1⟩
  subst hw1
  go_wp2_with fail
  refine (unhide DA).mono ?_
  rintro e w2 ⟨⟨d, u, s, Q, Y, G, rfl, hG, hP, hok, hQ, hps⟩, hb2⟩
  have hgA := hG.at
  obtain ⟨ge, gc, hdE⟩ := hgA.shape
  subst hdE
  obtain ⟨ya, yc, pa, pc, huE⟩ := hP.shape
  subst huE
  have GA := hide (fun W (hb : Below w2.heap.size w2 W) => hgA.below hb (Nat.le_refl _))
  have PA := hide (fun W (hb : Below w2.heap.size w2 W) => hP.below hb (Nat.le_refl _))
  have IP := hide (fun W (hb : Below w2.heap.size w2 W) => implProof_gen w2.heap.size _ s Q _ Y G (by omega) hps W hb.size (unhide GA W hb) (unhide PA W hb))
  have SP := hide (fun W (hb : Below w2.heap.size w2 W) => specProof_gen w2.heap.size _ s Q _ Y G (by omega) hps W hb.size (unhide GA W hb) (unhide PA W hb))
  have IB := hide (fun W (hb : Below w2.heap.size w2 W) => implBound_gen w2.heap.size _ s Q _ Y G (by omega) hps W hb.size (unhide GA W hb) (unhide PA W hb))
  have BS := hide (fun W (hb : Below w2.heap.size w2 W) => specBestSums_gen w2.heap.size _ s Q (by omega) W hb.size (unhide GA W hb))
  have SV := hide (fun W (hb : Below w2.heap.size w2 W) => Sv.solve_read W _ s Q hok hQ ((unhide GA W hb).mono hb.size))
  have IC := hide (fun m M (h3 : M.length ≤ 1048576) W (hb : Below w2.heap.size w2 W) (hm : CoAt W m W.heap.size M) => implCert_gen W.heap.size _ s Q m M _ Y G (by omega) h3 hps W (Nat.le_refl _) ((unhide GA W hb).mono hb.size) hm ((unhide PA W hb).mono hb.size))
  have SC := hide (fun m M (h3 : M.length ≤ 1048576) W (hb : Below w2.heap.size w2 W) (hm : CoAt W m W.heap.size M) => specCert_gen W.heap.size _ s Q m M _ Y G (by omega) h3 hps W (Nat.le_refl _) ((unhide GA W hb).mono hb.size) hm ((unhide PA W hb).mono hb.size))
  have MK := hide (fun m M (h3 : M.length ≤ 1048576) W (hb : Below w2.heap.size w2 W) (hm : CoAt W m W.heap.size M) => specMatch_gen W.heap.size _ s Q m M (by omega) h3 W (Nat.le_refl _) ((unhide GA W hb).mono hb.size) hm)
  have WO := hide (fun m M (hmk : matchOk s Q M = true) W (hb : Below w2.heap.size w2 W) (hm : CoAt W m W.heap.size M) => worthM_any W.heap.size _ s Q m M hmk (by omega) W (Nat.le_refl _) ((unhide GA W hb).mono hb.size) hm)
  have hbr : bestR s Q = (best Q s s.toNat []).1 := by unfold bestR; rw [if_pos hok]
  have HB0 : Hid (proofOk s Q Y G = false → boundR s Q Y G = 0) := fun h => by unfold boundR; rw [h]; rfl
  have HB1 : Hid (proofOk s Q Y G = true → wsum (bestR s Q) ≤ boundR s Q Y G) := fun h => by rw [hbr]; exact dual_best h
  have HB2 : Hid (∀ M, certR s Q M Y G = true → wsum (sums Q M) = wsum (bestR s Q)) := fun M h => by rw [hbr, certified_best h]
  have hsnd := graph_sound hok
  have hsb : SB (bestR s Q) 9 := by
    rw [hbr]
    exact (best_bounds hok s.toNat [] (by omega)).1.mono (by omega)
  generalize bestR s Q = X at BS HB1 HB2 hsb
  generalize boundR s Q Y G = bd at IB HB0 HB1
  generalize proofOk s Q Y G = ok at IP SP HB0 HB1
  generalize graphOk s Q = gk at BS
  generalize hql : Q.length = ql at IP SP IB BS SV IC SC MK WO ⊢
  generalize hyl : Y.length = yl at IP SP IB IC SC ⊢
  generalize hgl : G.length = gl at IP SP IB IC SC ⊢
  obtain ⟨X1, X2, X3⟩ := X
  unfold SB at hsb
  simp only at hsb
  unfold wsum at HB1 HB2 WO
  simp only at HB1 HB2
  clear hgA hG hP GA PA hbr hok hsnd hql hyl hgl H DA hps hQ
  obtain ⟨V3, hV3⟩ : ∃ W, W = (w2.alloc (Obj.cells #[.int .i64 s, .slice ge ql gc] 26)).alloc (Obj.cells #[.slice ya yl yc, .slice pa gl pc] 30) := ⟨_, rfl⟩
  have b3 : Below w2.heap.size w2 V3 := by rw [hV3]; exact (below_new _ _).alloc (by simp) _
  have u3 : Blk V3 w2.heap.size #[.int .i64 s, .slice ge ql gc] 26 := by rw [hV3]; exact Blk.new0.alloc
  have p3 : Blk V3 (w2.heap.size + 1) #[.slice ya yl yc, .slice pa gl pc] 30 := by rw [hV3]; exact Blk.new1
  go_wp2_with fail
  rw [← hV3]
  clear hV3
  go_fit (unhide IP V3 b3)
  rintro e w4 ⟨rfl, hb4⟩
  have b4 := b3.trans (hb4.mono b3.size)
  have u4 := u3.below hb4
  have p4 := p3.below hb4
  have c0 : w4.cell? ⟨w2.heap.size, 0, none⟩ = some (.int .i64 s) := u4.cell 0 _ rfl
  have c1 : w4.cell? ⟨w2.heap.size, 1, none⟩ = some (.slice ge ql gc) := u4.cell 1 _ rfl
  have c2 : w4.cell? ⟨w2.heap.size + 1, 0, none⟩ = some (.slice ya yl yc) := p4.cell 0 _ rfl
  have c3 : w4.cell? ⟨w2.heap.size + 1, 1, none⟩ = some (.slice pa gl pc) := p4.cell 1 _ rfl
  clear hb4 u3 p3 b3 IP
  go_wp2_with fail
  go_fit (unhide SP w4 b4)
  rintro e w5 ⟨rfl, hb5⟩
  have b5 := b4.trans (hb5.mono b4.size)
  have u5 := u4.below hb5
  have p5 := p4.below hb5
  clear c0 c1 c2 c3 u4 p4 b4 SP hb5
  have c0 : w5.cell? ⟨w2.heap.size, 0, none⟩ = some (.int .i64 s) := u5.cell 0 _ rfl
  have c1 : w5.cell? ⟨w2.heap.size, 1, none⟩ = some (.slice ge ql gc) := u5.cell 1 _ rfl
  have c2 : w5.cell? ⟨w2.heap.size + 1, 0, none⟩ = some (.slice ya yl yc) := p5.cell 0 _ rfl
  have c3 : w5.cell? ⟨w2.heap.size + 1, 1, none⟩ = some (.slice pa gl pc) := p5.cell 1 _ rfl
  cases ok with
  | false =>
    have hbd : bd = 0 := unhide HB0 rfl
    subst hbd
    go_wp2_with fail
    go_fit (unhide IB w5 b5)
    rintro e w6 ⟨rfl, hb6⟩
    have b6 := hb2.trans ((b5.trans (hb6.mono b5.size)).mono hb2.size)
    go_wp2
    go_ret
    exact ⟨rfl, b6⟩
  | true =>
    have hbd := unhide HB1 rfl
    go_wp2_with fail
    go_fit (unhide BS w5 b5)
    rintro e w6 ⟨⟨d6, rfl, hd6⟩, hb6⟩
    unfold SuOwn SumsI.v at hd6
    simp only at hd6
    subst hd6
    have b6 := b5.trans (hb6.mono b5.size)
    have u6 := u5.below hb6
    have p6 := p5.below hb6
    clear c0 c1 c2 c3 u5 p5 b5 hb6 BS HB0 HB1
    obtain ⟨V7, hV7⟩ : ∃ W, W = w6.alloc (Obj.cells #[.int .i64 X1, .int .i64 X2, .int .i64 X3] 36) := ⟨_, rfl⟩
    have b7 : Below w2.heap.size w2 V7 := by rw [hV7]; exact b6.alloc b6.size _
    have u7 : Blk V7 w2.heap.size #[.int .i64 s, .slice ge ql gc] 26 := by rw [hV7]; exact u6.alloc
    have p7 : Blk V7 (w2.heap.size + 1) #[.slice ya yl yc, .slice pa gl pc] 30 := by rw [hV7]; exact p6.alloc
    have a1 : IntKind.i64.wrap (90000 * X1) = 90000 * X1 := wrap_in _ (by omega)
    have a2 : IntKind.i64.wrap (300 * X2) = 300 * X2 := wrap_in _ (by omega)
    have a3 : IntKind.i64.wrap (90000 * X1 + 300 * X2) = 90000 * X1 + 300 * X2 := wrap_in _ (by omega)
    have a4 : IntKind.i64.wrap (90000 * X1 + 300 * X2 + X3) = 90000 * X1 + 300 * X2 + X3 := wrap_in _ (by omega)
    clear u6 p6 b6
    go_wp2_with fail
    rw [← hV7]
    clear hV7 a1 a2 a3 a4
    obtain ⟨T, hT⟩ : ∃ T : Int, T = 90000 * X1 + 300 * X2 + X3 := ⟨_, rfl⟩
    rw [← hT] at hbd HB2 ⊢
    clear hT hsb
    go_fit (unhide DM V7 (hb2.trans (b7.mono hb2.size)))
    rintro e w8 ⟨⟨d8, m8, s8, Q8, M8, rfl, hG8, hM8, hmk8, hQ8⟩, hb8⟩
    have b8 := b7.trans (hb8.mono b7.size)
    have u8 := u7.below hb8
    have p8 := p7.below hb8
    obtain ⟨ge8, gc8, hd8⟩ := hG8.at.shape
    subst hd8
    have hM8l : M8.length ≤ 9 := (match_sound hmk8).2.1
    have hcA := hM8.at
    obtain ⟨ma, mc, hm8⟩ := hcA.shape
    subst hm8
    obtain ⟨V9, hV9⟩ : ∃ W, W = w8.alloc (Obj.cells #[.int .i64 s8, .slice ge8 Q8.length gc8] 26) := ⟨_, rfl⟩
    have b9' : Below w8.heap.size w8 V9 := by rw [hV9]; exact below_new _ _
    have b9 : Below w2.heap.size w2 V9 := b8.trans (b9'.mono b8.size)
    have u9 := u8.below b9'
    have p9 := p8.below b9'
    have cm9 := (hcA.below b9' (Nat.le_refl _)).mono b9'.size
    have c0 : V9.cell? ⟨w2.heap.size, 0, none⟩ = some (.int .i64 s) := u9.cell 0 _ rfl
    have c1 : V9.cell? ⟨w2.heap.size, 1, none⟩ = some (.slice ge ql gc) := u9.cell 1 _ rfl
    clear u7 p7 b7 hb8 u8 p8 b8 hG8 hM8 hmk8 hQ8 hcA b9' DM
    rw [hV9] at c0 c1
    go_wp2_with fail
    rw [← hV9]
    clear hV9 c0 c1
    go_fit (unhide SV V9 b9)
    rintro e w10 ⟨⟨dm, dy, dg, ms, M, Y', G', C', rfl, hM10, hY10, _, _, _, hG10, _, hMl, _⟩, hb10⟩
    have b10 := b9.trans (hb10.mono b9.size)
    have cM := hM10.at
    obtain ⟨na, nc, hdm⟩ := cM.shape
    subst hdm
    obtain ⟨ya', yc', hdy⟩ := hY10.at.shape
    subst hdy
    obtain ⟨ga', gc', hdg⟩ := own_shape hG10.2.1
    subst hdg
    obtain ⟨V11, hV11⟩ : ∃ W, W = w10.alloc (Obj.cells #[.slice ya' Y'.length yc', .slice ga' G'.length gc'] 30) := ⟨_, rfl⟩
    have b11' : Below w10.heap.size w10 V11 := by rw [hV11]; exact below_new _ _
    have b11 : Below w2.heap.size w2 V11 := b10.trans (b11'.mono b10.size)
    have u11 := (u9.below hb10).below b11'
    have p11 := (p9.below hb10).below b11'
    have cm11 := (((cm9.below hb10 (Nat.le_refl _)).mono hb10.size).below b11' (Nat.le_refl _)).mono b11'.size
    have cn11 := (cM.below b11' (Nat.le_refl _)).mono b11'.size
    clear u9 p9 cm9 hM10 hY10 hG10 hb10 cM b9 b10 b11' SV
    go_wp2_with fail
    rw [← hV11]
    clear hV11
    have hlt : ¬ bd < T := by omega
    have hu := u11.lt
    have hpl := p11.lt
    have HG : Hid (∀ d : Grown V11.heap.size V11, Below w2.heap.size w2 d.w) := fun d => b11.trans (d.below.mono b11.size)
    have k0 : ∀ d : Grown V11.heap.size V11, d.w.cell? ⟨w2.heap.size, 0, none⟩ = some (.int .i64 s) := fun d => d.cell hu (u11.cell 0 _ rfl)
    have k1 : ∀ d : Grown V11.heap.size V11, d.w.cell? ⟨w2.heap.size, 1, none⟩ = some (.slice ge ql gc) := fun d => d.cell hu (u11.cell 1 _ rfl)
    have k2 : ∀ d : Grown V11.heap.size V11, d.w.cell? ⟨w2.heap.size + 1, 0, none⟩ = some (.slice ya yl yc) := fun d => d.cell hpl (p11.cell 0 _ rfl)
    have k3 : ∀ d : Grown V11.heap.size V11, d.w.cell? ⟨w2.heap.size + 1, 1, none⟩ = some (.slice pa gl pc) := fun d => d.cell hpl (p11.cell 1 _ rfl)
    have IBd := hide (fun d : Grown V11.heap.size V11 => unhide IB d.w (unhide HG d))
    have ICd := hide (fun d : Grown V11.heap.size V11 => unhide IC _ M (by omega) d.w (unhide HG d) ((cn11.below d.below (Nat.le_refl _)).mono d.below.size))
    have SCd := hide (fun d : Grown V11.heap.size V11 => unhide SC _ M (by omega) d.w (unhide HG d) ((cn11.below d.below (Nat.le_refl _)).mono d.below.size))
    generalize certR s Q M Y G = cr at ICd SCd
    generalize M.length = ml at ICd SCd ⊢
    have hcc : (cr != cr) = false := by simp
    have HU := hide u11
    have HPF := hide p11
    clear u11 p11
    refine wp_region_grown V11.heap.size (by kernel_rfl) (by kernel_rfl) ?_
    repeat (go_big_quiet_step (first
      | (go_at_call 9; exact Calls.grown (Nat.le_refl _) (unhide IBd _))
      | (go_at_call 13; exact Calls.grown (Nat.le_refl _) (unhide ICd _))
      | (go_at_call 14; exact Calls.grown (Nat.le_refl _) (unhide SCd _))))
    refine wpQuiet_nil ?_
    rintro w12 ⟨d12, rfl⟩
    have b12 := unhide HG d12
    obtain ⟨W12, hb12⟩ := d12
    dsimp only at b12 ⊢
    have u12 := (unhide HU).below hb12
    have p12 := (unhide HPF).below hb12
    have cm12 := (cm11.below hb12 (Nat.le_refl _)).mono hb12.size
    clear k0 k1 k2 k3 IBd ICd SCd HG HU HPF cm11 cn11 hb12
    have c0 : W12.cell? ⟨w2.heap.size, 0, none⟩ = some (.int .i64 s) := u12.cell 0 _ rfl
    have c1 : W12.cell? ⟨w2.heap.size, 1, none⟩ = some (.slice ge ql gc) := u12.cell 1 _ rfl
    have MK1 := hide (unhide MK _ M8 (by omega) W12 b12 cm12)
    have WO1 := hide (fun hmk W (hb : Below W12.heap.size W12 W) => unhide WO _ M8 hmk W (b12.trans (hb.mono b12.size)) ((cm12.below hb (Nat.le_refl _)).mono hb.size))
    have IC1 := hide (fun W (hb : Below W12.heap.size W12 W) => unhide IC _ M8 (by omega) W (b12.trans (hb.mono b12.size)) ((cm12.below hb (Nat.le_refl _)).mono hb.size))
    have HBM := hide (unhide HB2 M8)
    generalize certR s Q M8 Y G = cr8 at IC1 HBM
    generalize matchOk s Q M8 = mk8 at MK1 WO1
    have hbw := hb2.size
    cases mk8 with
    | false =>
      go_wp2_with fail
      go_fit (unhide MK1)
      rintro e w13 ⟨rfl, hb13⟩
      have b13 := hb2.trans ((b12.trans (hb13.mono b12.size)).mono hb2.size)
      go_wp2
      go_ret
      exact ⟨rfl, b13⟩
    | true =>
      cases cr8 with
      | false =>
        go_wp2_with fail
        go_fit (unhide MK1)
        rintro e w13 ⟨rfl, hb13⟩
        have u13 := u12.below hb13
        have p13 := p12.below hb13
        have e0 : w13.cell? ⟨w2.heap.size, 0, none⟩ = some (.int .i64 s) := u13.cell 0 _ rfl
        have e1 : w13.cell? ⟨w2.heap.size, 1, none⟩ = some (.slice ge ql gc) := u13.cell 1 _ rfl
        have e2 : w13.cell? ⟨w2.heap.size + 1, 0, none⟩ = some (.slice ya yl yc) := p13.cell 0 _ rfl
        have e3 : w13.cell? ⟨w2.heap.size + 1, 1, none⟩ = some (.slice pa gl pc) := p13.cell 1 _ rfl
        clear c0 c1
        go_wp2_with fail
        go_fit (unhide IC1 w13 hb13)
        rintro e w14 ⟨rfl, hb14⟩
        have b14' := hb13.trans (hb14.mono hb13.size)
        have b14 := hb2.trans ((b12.trans (b14'.mono b12.size)).mono hb2.size)
        go_wp2
        go_ret
        exact ⟨rfl, b14⟩
      | true =>
        have hwt := unhide HBM rfl
        go_wp2_with fail
        go_fit (unhide MK1)
        rintro e w13 ⟨rfl, hb13⟩
        have u13 := u12.below hb13
        have p13 := p12.below hb13
        have e0 : w13.cell? ⟨w2.heap.size, 0, none⟩ = some (.int .i64 s) := u13.cell 0 _ rfl
        have e1 : w13.cell? ⟨w2.heap.size, 1, none⟩ = some (.slice ge ql gc) := u13.cell 1 _ rfl
        have e2 : w13.cell? ⟨w2.heap.size + 1, 0, none⟩ = some (.slice ya yl yc) := p13.cell 0 _ rfl
        have e3 : w13.cell? ⟨w2.heap.size + 1, 1, none⟩ = some (.slice pa gl pc) := p13.cell 1 _ rfl
        have WO2 := hide (fun W hb => unhide WO1 (by first | rfl | trivial) W hb)
        rw [hwt] at WO2
        clear c0 c1 hwt
        go_wp2_with fail
        go_fit (unhide IC1 w13 hb13)
        rintro e w14 ⟨rfl, hb14⟩
        have b14' := hb13.trans (hb14.mono hb13.size)
        have u14 := u13.below hb14
        have g0 : w14.cell? ⟨w2.heap.size, 0, none⟩ = some (.int .i64 s) := u14.cell 0 _ rfl
        have g1 : w14.cell? ⟨w2.heap.size, 1, none⟩ = some (.slice ge ql gc) := u14.cell 1 _ rfl
        clear e0 e1 e2 e3
        go_wp2_with fail
        go_fit (unhide WO2 w14 b14')
        rintro e w15 ⟨rfl, hb15⟩
        have b15' := b14'.trans (hb15.mono b14'.size)
        have b15 := hb2.trans ((b12.trans (b15'.mono b12.size)).mono hb2.size)
        go_wp2
        go_ret
        exact ⟨rfl, b15⟩

end Gr
end Go.Proofs.Ytooglfbhlncjlaa
