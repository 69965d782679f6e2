/-
 CfPr.
-/
import Derived.Test.YthbhdfeafbineaaGreatJ27
import Derived.Test.YthbhdfeafbineaaGreatJ16
import Derived.Test.YthbhdfeafbineaaGreatJ7
import Derived.Deep.RegionWith
import Derived.Deep.DeepCutAuto
import Derived.Deep.CutBlock
namespace Go.Proofs.YthbhdfeafbineaaGreat
namespace Gr
open Go.RowKit
theorem enterBelowQ (vs : Array Value) (w : World) : (callFunc 36 vs).run Tryz.prog w = .ok (.enter 36 vs) w := by kernel_rfl
theorem enterIntsQ (vs : Array Value) (w : World) : (callFunc 65 vs).run Tryz.prog w = .ok (.enter 65 vs) w := by kernel_rfl
theorem info_groupQ : (Tryz.prog.info? 73).map (fun i => (i.zero, i.size, i.bytes)) = some (some (.agg #[.slice none 0 0, .int .i64 0]), 2, 32) := by kernel_rfl
theorem own_three3 {W : World} {g base : Nat} {x y z : Int} (h : Blk W g #[.int .i64 x, .int .i64 y, .int .i64 z] 3) (hb : base ≤ g) : InOwn W base (.slice (some ⟨g, 0, none⟩) 3 3) [x, y, z] :=
  own_lit (L := [x, y, z]) h hb (by simp)
theorem enterPickQ (vs : Array Value) (w : World) : (callFunc 35 vs).run Tryz.prog w = .ok (.enter 35 vs) w := by kernel_rfl
theorem gbulk_append : ∀ (G H : List GrpI), gbulk (G ++ H) = gbulk G + gbulk H
  | [], H => by simp [gbulk]
  | x :: G, H => by
    have := gbulk_append G H
    simp only [List.cons_append, gbulk, this]
    omega
theorem psize_snoc {G : List GrpI} {K : List Int} {z : Int} (h : psize [] G ≤ 300000) (hK : K.length ≤ 9) : psize [] (G ++ [⟨K, z⟩]) ≤ 300100 := by
  unfold psize at h ⊢
  rw [gbulk_append, List.length_append]
  simp only [List.length_nil, List.length_cons, gbulk] at h ⊢
  omega
theorem results_p1 {fn : Func} {p : Tmp} (h : fn.results = #[.cell p 31]) (tmps : Array Value) (w : World) (c : Nat) (y0 y1 : Value) (hp : tmps.getD p undef = .pointer (some ⟨c, 0, none⟩)) (hc : Blk w c #[y0, y1] 31) :
    (results fn tmps).run Tryz.prog w = .ok (.agg #[y0, y1]) w := by
  have d0 := hc.cell 0 y0 rfl
  have d1 := hc.cell 1 y1 rfl
  have hp' : tmps[p]?.getD undef = .pointer (some ⟨c, 0, none⟩) := by simpa using hp
  simp [results, h, hp', go_sem, d0, d1]
set_option maxRecDepth 100000 in
set_option maxHeartbeats 4000000 in
theorem l11Proof_any (a : Option Addr) (len cap g B : Nat) (hl : len ≤ 1048576) (hB : B ≤ g) (v : Value) (s0 : Int) (Q : List EdgeI) (hok : graphOk s0 Q = true) (hQ : Q.length ≤ 90) (w : World) (hcc : CC a len cap g B w) (hv : GrAt w v w.heap.size s0 Q) :
    Calls Tryz.prog 41 #[.pointer (some ⟨g, 0, none⟩), v] w fun e w' => (∃ dy dg Y G, e = .returned (.agg #[dy, dg]) ∧ PrNew w' w.heap.size dy dg Y G) ∧ CC a len cap g B w' ∧ Kept (fun k => k = g) w w' := by
  obtain ⟨g0, g9, _, _⟩ := graph_sound hok
  obtain ⟨s, rfl⟩ := Int.eq_ofNat_of_zero_le g0
  have hgl := hcc.lt
  obtain ⟨ae, ce, rfl⟩ := hv.shape
  obtain ⟨V1, hV1⟩ : ∃ W, W = (w.alloc (Obj.cells #[.int .i64 (s : Int), .slice ae Q.length ce] 26)).alloc (Obj.cells #[.slice none 0 0, .slice none 0 0] 31) := ⟨_, rfl⟩
  have b1 : Below w.heap.size w V1 := by rw [hV1]; exact (below_new _ _).alloc (by simp) _
  have r1 : Blk V1 (w.heap.size + 1) #[.slice none 0 0, .slice none 0 0] 31 := by rw [hV1]; exact Blk.new1
  have hr1 := r1.lt
  have SR := hide (Sv.solve_read V1 _ (s : Int) Q hok hQ ((hv.below b1 (Nat.le_refl _)).mono b1.size))
  have c1 := hcc.below b1 hB
  have ON := hide (fun n (h0 : 0 < n) w1 (h : CC a len cap g B w1) => below_cc a len cap g B n hl hB h0 w1 h)
  clear hv hcc
  go_enter Tryz.func41, Tryz.ntmps41
  go_wp2_with fail
  rw [← hV1]
  clear hV1
  refine (unhide SR).mono ?_
  rintro e w5 ⟨⟨dm, dy, dg, ms, M, Y, G, C, rfl, hM5, hY5, hYC, hC4, hCl, hG5, hYl, hMl, hps⟩, hb5⟩
  have hYs : Y.length = s := by omega
  obtain ⟨ay, cy, rfl⟩ := hY5.at.shape
  rw [hYs] at hYC ⊢
  obtain ⟨V6, hV6⟩ : ∃ W, W = w5.alloc (Obj.cells #[.slice ay s cy, dg] 31) := ⟨_, rfl⟩
  have bV6 : Below w5.heap.size w5 V6 := by rw [hV6]; exact below_new _ _
  have m6 : Blk V6 w5.heap.size #[.slice ay s cy, dg] 31 := by rw [hV6]; exact Blk.new0
  have b16 : Below V1.heap.size V1 V6 := hb5.trans (bV6.mono hb5.size)
  obtain ⟨lg, cg, hdg⟩ := own_shape hG5.2.1
  subst hdg
  have hps0 : psize [] G ≤ 300000 := by unfold psize at hps ⊢; simp only [List.length_nil]; omega
  have QN0 : QN g B w w5.heap.size (w.heap.size + 1) V1.heap.size C s ay cy := ⟨hB, hgl, by omega, by omega, hC4, hCl, hYC⟩
  have QW0 : QW a len cap g B w w5.heap.size (w.heap.size + 1) V1.heap.size C s ay cy (.slice lg G.length cg) ms G V6 :=
    ⟨c1.below b16 hB, m6, ⟨Y, hYs, by have h := hY5.below bV6; unfold InOwn at h; rwa [hYs] at h⟩, hG5.below bV6, r1.below b16, (Kept.of_below b1).trans (Kept.of_below b16)⟩
  have q0 : V6.cell? ⟨w5.heap.size, 0, none⟩ = some (.slice ay s cy) := m6.cell 0 _ rfl
  have HQW := hide QW0
  have HQN := hide QN0
  clear hM5 hY5 hYC hG5 m6 c1 b16 bV6 hb5 QW0 QN0 SR r1 b1 hps
  by_cases hs0 : s = 0
  · subst hs0
    have HDN := hide ((unhide HQW).done (unhide HQN) (by omega) (by omega))
    have l3 : V6.cell? ⟨w5.heap.size, 1, none⟩ = some (.slice lg G.length cg) := (unhide HQW).box.cell 1 _ rfl
    have t2 : V6.cell? ⟨w.heap.size + 1, 0, none⟩ = some (.slice none 0 0) := (unhide HQW).r4.cell 0 _ rfl
    have t3 : V6.cell? ⟨w.heap.size + 1, 1, none⟩ = some (.slice none 0 0) := (unhide HQW).r4.cell 1 _ rfl
    have f2 := (unhide HQW).r4.froz 0
    have f3 := (unhide HQW).r4.froz 1
    go_upto_region 2 with fail
    rw [← hV6]
    clear hV6
    go_wp2_with fail
    (try simp only [Exit.inBlock, Exit.then])
    obtain ⟨d1, ⟨Y9, d2⟩, d4, d5⟩ := unhide HDN
    refine bodyPost_ret (results_p1 Tryz.results41 _ _ (w.heap.size + 1) _ _ rfl d1) rfl ?_
    first | exact ⟨⟨_, _, Y9, _, rfl, d2⟩, d4, d5⟩ | exact ⟨⟨_, _, rfl, Y9, _, d2⟩, d4, d5⟩
  · have hs0i : (((s : Nat) : Int) == 0) = false := by rw [beq_eq_false_iff_ne]; omega
    have BE1 := hide (unhide ON (s : Int) (by omega) V6 (unhide HQW).cc)
    rw [hV6] at q0
    go_wp2_with fail
    rw [← hV6]
    clear hV6
    refine (unhide BE1).mono ?_
    rintro e w7 ⟨⟨kx, rfl, kx0, kx1⟩, hc7, hk7⟩
    obtain ⟨k, rfl⟩ := Int.eq_ofNat_of_zero_le kx0
    have hq7 := (unhide HQW).drawn (unhide HQN) hc7 hk7
    have BE2 := hide (unhide ON 10 (by omega) w7 hq7.cc)
    have HQ7 := hide hq7
    clear hq7 hc7 hk7 q0 BE1
    go_wp2_with fail
    refine (unhide BE2).mono ?_
    rintro e w8 ⟨⟨x, rfl, x0, x1⟩, hc8, hk8⟩
    have HQ8 := hide ((unhide HQ7).drawn (unhide HQN) hc8 hk8)
    clear hc8 hk8 BE2 HQ7
    go_upto_block 0 with fail
    go_cut [] (fun wx => ∃ (dg : Value) (ms : List Value) (G : List GrpI), Hid (QW a len cap g B w w5.heap.size (w.heap.size + 1) V1.heap.size C s ay cy dg ms G wx) ∧ psize [] G ≤ 300100)
    case first =>
      have hps1 : psize [] G ≤ 300100 := by omega
      have q0 : w8.cell? ⟨w5.heap.size, 0, none⟩ = some (.slice ay s cy) := (unhide HQ8).box.cell 0 _ rfl
      have q1 : w8.cell? ⟨w5.heap.size, 1, none⟩ = some (.slice lg G.length cg) := (unhide HQ8).box.cell 1 _ rfl
      have z1 := (unhide HQ8).box.froz 1
      by_cases k0 : x = 0
      · subst k0
        have hki : (k : Int) < (s : Int) := kx1
        have hq8 := unhide HQ8
        obtain ⟨Y7, hy7, ho7⟩ := hq8.ys
        obtain ⟨k7, cap7, hA, hBg, hgl7⟩ := ho7.form (by omega)
        simp at hA
        obtain ⟨rfl, rfl⟩ := hA
        have hce : w8.cell? ⟨k7, k, none⟩ = some (.int .i64 (Y7[k]'(by omega))) := by
          have := ho7.cellAt k (by omega)
          rw [this]
          simp [intsV, show k < Y7.length by omega]
        generalize (Y7[k]'(by omega)) = yv at hce
        have hkl7 := ho7.lt k7 rfl
        have hN := unhide HQN
        have hkg : k7 ≠ g := by have := hN.ng; have := hN.n4; have := hN.nl; omega
        have h8g : w8.heap.size ≠ g := by have := hq8.cc.lt; omega
        have PK4 : Hid (∀ U, Below w8.heap.size w8 U → Blk U w8.heap.size #[.int .i64 1, .int .i64 2, .int .i64 600, .int .i64 (-1)] 3 → Calls Tryz.prog 35 #[.pointer (some ⟨g, 0, none⟩), .slice (some ⟨w8.heap.size, 0, none⟩) 4 4] U fun e w' => (∃ x : Int, e = .returned (.int .i64 x)) ∧ CC a len cap g B w' ∧ Kept (fun k => k = g) U w') := fun U hb hblk =>
          (pick_list a len cap g B w8.heap.size _ [1, 2, 600, -1] (by decide) (by decide) (fun j hj => by
            match j, hj with
            | 0, _ => rfl
            | 1, _ => rfl
            | 2, _ => rfl
            | 3, _ => rfl
            | n + 4, h => exact absurd h (by simp)) hl hB h8g U (hq8.cc.below hb hB) hblk).mono (fun e w' h => ⟨(by obtain ⟨⟨x, e1, _⟩, _⟩ := h; exact ⟨x, e1⟩), h.2⟩)
        have HFZ : Hid (∀ U W, Below w8.heap.size w8 U → Kept (fun k => k = g) U W → W.cell? ⟨w5.heap.size, 0, none⟩ = some (.slice (some ⟨k7, 0, none⟩) s cy) ∧ W.cell? ⟨k7, k, none⟩ = some (.int .i64 yv) ∧ W.frozen? ⟨k7, k, none⟩ = false) := fun U W hb hk => by
          have hbk := hb.block k7 hkl7.2
          have h9 := (hk.2.2.2.2 k7 (Nat.lt_of_lt_of_le hkl7.2 hb.size) hkg).trans hbk
          refine ⟨((hq8.box.below hb).kept hk (by have := hN.ng; have := hN.n4; have := hN.nl; have := hN.nC; have := hN.n6; omega)).cell 0 _ rfl, ?_, ?_⟩
          · have : W.cell? ⟨k7, k, none⟩ = w8.cell? ⟨k7, k, none⟩ := by unfold World.cell?; simp only []; rw [h9]
            rw [this]; exact hce
          · have : W.frozen? ⟨k7, k, none⟩ = w8.frozen? ⟨k7, k, none⟩ := by unfold World.frozen?; simp only []; rw [h9]
            rw [this]; exact ho7.frozenAt k
        have HPF : Hid (∀ U W x, Below w8.heap.size w8 U → CC a len cap g B W → Kept (fun k => k = g) U W → QW a len cap g B w w5.heap.size (w.heap.size + 1) V1.heap.size C s (some ⟨k7, 0, none⟩) cy (.slice lg G.length cg) ms G (W.setCell ⟨k7, k, none⟩ (.int .i64 x))) := fun U W x hb hc hk => ((hq8.below hN hb).drawn hN hc hk).setY hN k x
        have fz := ho7.frozenAt k
        have hz8 : w5.heap.size < w8.heap.size := hq8.box.lt
        have hk78 : k7 < w8.heap.size := hkl7.2
        clear hq8 ho7 hN hkl7
        go_wp2_with fail
        go_region_with
          (go_at_call 35; refine (unhide PK4 _ (by first | exact (Below.refl _ _).drew | exact (below_new _ _).drew | exact (Below.refl _ _).drew.alloc (Nat.le_refl _) _ | exact below_new _ _) (by first | exact Blk.new0 | exact Blk.new0.drew)).mono ?_; rintro e w9 ⟨⟨xb, rfl⟩, hc9, hk9⟩; have HQZ := hide (fun x => unhide HPF _ w9 x (by first | exact (Below.refl _ _).drew | exact (below_new _ _).drew | exact (Below.refl _ _).drew.alloc (Nat.le_refl _) _ | exact below_new _ _) hc9 hk9); obtain ⟨u0, u1, u2⟩ := unhide HFZ _ w9 (by first | exact (Below.refl _ _).drew | exact (below_new _ _).drew | exact (Below.refl _ _).drew.alloc (Nat.le_refl _) _ | exact below_new _ _) hk9)
        all_goals
          clear u0 u1 u2 hc9 hk9
          go_wp2_with fail
          go_meet
          exact ⟨_, _, _, unhide HQZ _, hps1⟩
      have e0 : (x == 0) = false := by simp; exact k0
      by_cases k1 : x = 1
      · subst k1
        obtain ⟨ig, hig, gz0, gz1, gz2⟩ := info_parts info_groupQ
        have hGl : G.length ≤ 300000 := by unfold psize at hps0; simp only [List.length_nil] at hps0; omega
        have BE9 : Hid (∀ W, Below w8.heap.size w8 W → Calls Tryz.prog 36 #[.pointer (some ⟨g, 0, none⟩), .int .i64 3] W fun e w' => (∃ x : Int, e = .returned (.int .i64 x) ∧ 0 ≤ x ∧ x < 3) ∧ CC a len cap g B w' ∧ Kept (fun k => k = g) W w') := fun W hb => unhide ON 3 (by omega) W ((unhide HQ8).cc.below hb hB)
        have HPU : Hid (∀ U W, Below w8.heap.size w8 U → CC a len cap g B W → Kept (fun k => k = g) U W → QW a len cap g B w w5.heap.size (w.heap.size + 1) V1.heap.size C s ay cy (.slice lg G.length cg) ms G W) := fun U W hb hc hk => ((unhide HQ8).below (unhide HQN) hb).drawn (unhide HQN) hc hk
        have hz8 := (unhide HQ8).box.lt
        have h8g : w8.heap.size ≠ g := by have := (unhide HQ8).cc.lt; omega
        have hC8 : C ≤ w8.heap.size := by have := (unhide HQN).n6; omega
        go_wp2_with fail
        go_region_law
          (first
            | (refine step_call (by rfl) 36 #[.tmp 48, .const (.int .i64 3)] _ (by rfl) #[.pointer (some ⟨g, 0, none⟩), .int .i64 3] (by first | rfl | (simp [Act.eval]; done) | (show _ = _; kernel_rfl)) enterBelowQ _ (unhide BE9 _ (by first | exact (Below.refl _ _).drew | exact ((Below.refl _ _).alloc (Nat.le_refl _) _).drew | exact (Below.refl _ _).drew.alloc (Nat.le_refl _) _)) ?_; rintro e w9 ⟨⟨xb, rfl, xb0, xb1⟩, hc9, hk9⟩; refine ⟨_, rfl, ?_⟩; have HP8 := hide (unhide HPU _ w9 (by first | exact (Below.refl _ _).drew | exact ((Below.refl _ _).alloc (Nat.le_refl _) _).drew | exact (Below.refl _ _).drew.alloc (Nat.le_refl _) _) hc9 hk9); have q1 : w9.cell? ⟨w5.heap.size, 1, none⟩ = some (.slice lg G.length cg) := (unhide HP8).box.cell 1 _ rfl; have HK8 := hide hk9; have hz9 := (unhide HP8).box.lt; clear hc9 hk9)
            | (refine step_append_lies _ (by rfl) _ _ _ (by rfl) C 73 ig _ 2 32 Tryz.underlying29 hig gz0 gz1 gz2 rfl (by omega) (.slice lg G.length cg) G.length (gC ms (zsOf G)) (by rfl) (by first | exact (unhide HP8).gs.2.1.alloc _ | exact ((unhide HP8).gs.2.1.alloc _).alloc _ | exact ((unhide HP8).gs.2.1.alloc _).drew) ⟨w9.heap.size, 0, none⟩ 1 1 [.slice (some ⟨w8.heap.size, 0, none⟩) 3 3, .int .i64 (IntKind.i64.wrap (1 + xb))] (by first | rfl | (simp [Act.eval]; done) | (show _ = _; kernel_rfl)) (by rfl) (World.news_of_block (heap_alloc_new w9 _)) (by simp [Value.oneCell']) (by omega) (by unfold maxLen; omega) (by omega) (by have := (unhide HQN).n6; simp; omega) (w9.heap.size + 1) (by simp) ?_; intro g9 cap9 wA hown9 hgrow9 hat9 hlt9; have bx9 : Blk wA w5.heap.size #[.slice ay s cy, .slice lg G.length cg] 31 := (by first | exact ((unhide HP8).box.alloc).grown hgrow9 ((unhide HP8).box.apart (unhide HP8).gs.2.1 (by decide)) | exact (((unhide HP8).box.alloc).alloc).grown hgrow9 ((unhide HP8).box.apart (unhide HP8).gs.2.1 (by decide))); have k3 : wA.cell? ⟨w5.heap.size, 1, none⟩ = some (.slice lg G.length cg) := bx9.cell 1 _ rfl; have f3 := bx9.froz 1; have hzA := bx9.lt; clear bx9)
            | (refine step_append_lies _ (by rfl) _ _ _ (by rfl) C 73 ig _ 2 32 Tryz.underlying29 hig gz0 gz1 gz2 rfl (by omega) (.slice lg G.length cg) G.length (gC ms (zsOf G)) (by rfl) (by first | exact (unhide HP8).gs.2.1.alloc _ | exact ((unhide HP8).gs.2.1.alloc _).alloc _ | exact ((unhide HP8).gs.2.1.alloc _).drew) ⟨w9.heap.size + 1, 0, none⟩ 1 1 [.slice (some ⟨w9.heap.size, 0, none⟩) 3 3, .int .i64 (IntKind.i64.wrap (1 + xb))] (by first | rfl | (simp [Act.eval]; done) | (show _ = _; kernel_rfl)) (by rfl) (World.news_of_block Blk.new1) (by simp [Value.oneCell']) (by omega) (by unfold maxLen; omega) (by omega) (by have := (unhide HQN).n6; simp; omega) (w9.heap.size + 1 + 1) (by simp) ?_; intro g9 cap9 wA hown9 hgrow9 hat9 hlt9; have bx9 : Blk wA w5.heap.size #[.slice ay s cy, .slice lg G.length cg] 31 := (by first | exact ((unhide HP8).box.alloc).grown hgrow9 ((unhide HP8).box.apart (unhide HP8).gs.2.1 (by decide)) | exact (((unhide HP8).box.alloc).alloc).grown hgrow9 ((unhide HP8).box.apart (unhide HP8).gs.2.1 (by decide))); have k3 : wA.cell? ⟨w5.heap.size, 1, none⟩ = some (.slice lg G.length cg) := bx9.cell 1 _ rfl; have f3 := bx9.froz 1; have hzA := bx9.lt; clear bx9))
        all_goals
          have HPZ : Hid (QW a len cap g B w w5.heap.size (w.heap.size + 1) V1.heap.size C s ay cy (.slice (some ⟨g9, 0, none⟩) (G.length + 1) cap9) _ (G ++ [⟨[0, 1, 2], _⟩]) (wA.setCell ⟨w5.heap.size, 1, none⟩ (.slice (some ⟨g9, 0, none⟩) (G.length + 1) cap9))) := (by
            first
              | exact QW.appended ((unhide HP8).below (unhide HQN) (below_new _ _)) (unhide HQN) (own_three3 (Blk.new0.drew.kept (unhide HK8) h8g).alloc hC8) hgrow9 hown9
              | exact QW.appended ((unhide HP8).below (unhide HQN) ((below_new _ _).alloc (by simp) _)) (unhide HQN) (own_three3 Blk.new0.alloc (by have := (unhide HQN).n6; omega)) hgrow9 hown9)
          clear k3 f3 hown9 hgrow9 hat9 hlt9 HK8 HP8
          go_wp2_with fail
          go_meet
          exact ⟨_, _, _, HPZ, psize_snoc hps0 (by simp)⟩
      have e1 : (x == 1) = false := by simp; exact k1
      by_cases k2 : x = 2
      · subst k2
        by_cases hG0 : 0 < G.length
        · have hG0i : (0 : Int) < ((G.length : Nat) : Int) := by omega
          have hq8 := unhide HQ8
          have hN := unhide HQN
          obtain ⟨kG, capG, hA, hBg, hglG⟩ := hq8.gs.2.1.form (by omega)
          simp at hA
          obtain ⟨rfl, rfl⟩ := hA
          obtain ⟨zv, hzv⟩ : ∃ zv : Int, w8.cell? ⟨kG, 1, none⟩ = some (.int .i64 zv) := by
            have h1 := hq8.gs.2.1.cellAt 1 (by omega)
            have h2 := (gC_at ms (zsOf G) 0 (by rw [hq8.gs.1]; exact hG0) (by rw [zsOf_length]; exact hG0)).2
            exact ⟨_, h1.trans h2⟩
          have fz := hq8.gs.2.1.frozenAt 1
          have hkl := hq8.gs.2.1.lt kG rfl
          have hkg : kG ≠ g := by have := hN.ng; have := hN.n4; have := hN.nl; have := hN.nC; omega
          have h8g : w8.heap.size ≠ g := by have := hq8.cc.lt; omega
          have PK3 : Hid (∀ U, Below w8.heap.size w8 U → Blk U w8.heap.size #[.int .i64 1, .int .i64 (-1), .int .i64 1000000000] 3 → Calls Tryz.prog 35 #[.pointer (some ⟨g, 0, none⟩), .slice (some ⟨w8.heap.size, 0, none⟩) 3 3] U fun e w' => (∃ x : Int, e = .returned (.int .i64 x)) ∧ CC a len cap g B w' ∧ Kept (fun k => k = g) U w') := fun U hb hblk =>
            (pick_list a len cap g B w8.heap.size _ [1, -1, 1000000000] (by decide) (by decide) (fun j hj => by
              match j, hj with
              | 0, _ => rfl
              | 1, _ => rfl
              | 2, _ => rfl
              | n + 3, h => exact absurd h (by simp)) hl hB h8g U (hq8.cc.below hb hB) hblk).mono (fun e w' h => ⟨(by obtain ⟨⟨x, e1, _⟩, _⟩ := h; exact ⟨x, e1⟩), h.2⟩)
          have HFZ : Hid (∀ U W, Below w8.heap.size w8 U → Kept (fun k => k = g) U W → W.cell? ⟨w5.heap.size, 1, none⟩ = some (.slice (some ⟨kG, 0, none⟩) G.length cg) ∧ W.cell? ⟨kG, 1, none⟩ = some (.int .i64 zv) ∧ W.frozen? ⟨kG, 1, none⟩ = false ∧ w5.heap.size < W.heap.size ∧ kG < W.heap.size) := fun U W hb hk => by
            have hbk := hb.block kG hkl.2
            have h9 := (hk.2.2.2.2 kG (Nat.lt_of_lt_of_le hkl.2 hb.size) hkg).trans hbk
            have bx := (hq8.box.below hb).kept hk (by have := hN.ng; have := hN.n4; have := hN.nl; have := hN.nC; have := hN.n6; omega)
            refine ⟨bx.cell 1 _ rfl, ?_, ?_, bx.lt, Nat.lt_of_lt_of_le hkl.2 (Nat.le_trans hb.size hk.2.2.2.1)⟩
            · have : W.cell? ⟨kG, 1, none⟩ = w8.cell? ⟨kG, 1, none⟩ := by unfold World.cell?; simp only []; rw [h9]
              rw [this]; exact hzv
            · have : W.frozen? ⟨kG, 1, none⟩ = w8.frozen? ⟨kG, 1, none⟩ := by unfold World.frozen?; simp only []; rw [h9]
              rw [this]; exact fz
          have HPF : Hid (∀ U W x, Below w8.heap.size w8 U → CC a len cap g B W → Kept (fun k => k = g) U W → ∃ (dg : Value) (ms : List Value) (G' : List GrpI), Hid (QW a len cap g B w w5.heap.size (w.heap.size + 1) V1.heap.size C s ay cy dg ms G' (W.setCell ⟨kG, 1, none⟩ (.int .i64 x))) ∧ psize [] G' ≤ 300100) := fun U W x hb hc hk => by
            obtain ⟨G', e1, e2, h⟩ := ((hq8.below hN hb).drawn hN hc hk).setZ hN hG0 x
            refine ⟨_, _, G', h, ?_⟩
            unfold psize at hps0 ⊢
            rw [e1, e2]
            simp only [List.length_nil] at hps0 ⊢
            omega
          have hz8 : w5.heap.size < w8.heap.size := hq8.box.lt
          have hk78 : kG < w8.heap.size := hkl.2
          clear hq8 hN hkl
          go_wp2_with fail
          go_region_law
            (refine step_call (by rfl) 35 #[.tmp 68, .tmp 69] _ (by rfl) #[.pointer (some ⟨g, 0, none⟩), .slice (some ⟨w8.heap.size, 0, none⟩) 3 3] (by first | rfl | (simp [Act.eval]; done) | (show _ = _; kernel_rfl)) enterPickQ _ (unhide PK3 _ (by first | exact (Below.refl _ _).drew | exact (below_new _ _).drew | exact (Below.refl _ _).drew.alloc (Nat.le_refl _) _ | exact below_new _ _) (by first | exact Blk.new0 | exact Blk.new0.drew)) ?_; rintro e w9 ⟨⟨xb, rfl⟩, hc9, hk9⟩; refine ⟨_, rfl, ?_⟩; have HQZ := hide (fun x => unhide HPF _ w9 x (by first | exact (Below.refl _ _).drew | exact (below_new _ _).drew | exact (Below.refl _ _).drew.alloc (Nat.le_refl _) _ | exact below_new _ _) hc9 hk9); obtain ⟨u0, u1, u2, u3, u4⟩ := unhide HFZ _ w9 (by first | exact (Below.refl _ _).drew | exact (below_new _ _).drew | exact (Below.refl _ _).drew.alloc (Nat.le_refl _) _ | exact below_new _ _) hk9; clear hc9 hk9)
          all_goals
            clear u0 u1 u2 u3 u4
            go_wp2_with fail
            go_meet
            exact unhide HQZ _
        · have hG0i : ¬ (0 : Int) < ((G.length : Nat) : Int) := by omega
          go_wp2_with fail
          go_meet
          exact ⟨_, _, _, HQ8, hps1⟩
      have e2 : (x == 2) = false := by simp; exact k2
      by_cases k3 : x = 3
      · subst k3
        have HQ9 := hide ((unhide HQ8).noG (unhide HQN))
        have hz8 := (unhide HQ8).box.lt
        go_wp2_with fail
        go_meet
        exact ⟨_, _, _, HQ9, by simp [psize, gbulk]⟩
      have e3 : (x == 3) = false := by simp; exact k3
      by_cases k4 : x = 4
      · subst k4
        go_wp2_with fail
        obtain ⟨P, hP⟩ : ∃ P : World → Prop, P = QW a len cap g B w w5.heap.size (w.heap.size + 1) V1.heap.size C s ay cy (.slice lg G.length cg) ms G := ⟨_, rfl⟩
        have HP := hide hP
        have HP0 : Hid (P w8) := by show P w8; rw [hP]; exact unhide HQ8
        clear hP
        go_loopw [9] (fun i wr => ∃ j : Nat, i = .int .i64 (j : Int) ∧ j ≤ s ∧ Hid (P wr)) (fun i _ => s - (intOf i).toNat)
        case atStart => exact ⟨0, rfl, Nat.zero_le _, HP0⟩
        case round =>
          obtain ⟨j, rfl, hj, HPj⟩ := hrel
          have hp := unhide HPj
          rw [unhide HP] at hp
          have t0 : wr.cell? ⟨w5.heap.size, 0, none⟩ = some (.slice ay s cy) := hp.box.cell 0 _ rfl
          by_cases hlt : j < s
          · have hji : (j : Int) < (s : Int) := by omega
            obtain ⟨Y7, hy7, ho7⟩ := hp.ys
            obtain ⟨k7, cap7, hA, hBg, hgl7⟩ := ho7.form (by omega)
            simp at hA
            obtain ⟨rfl, rfl⟩ := hA
            have hce : wr.cell? ⟨k7, j, none⟩ = some (.int .i64 (Y7[j]'(by omega))) := by
              have := ho7.cellAt j (by omega)
              rw [this]
              simp [intsV, show j < Y7.length by omega]
            generalize (Y7[j]'(by omega)) = yv at hce
            have fz := ho7.frozenAt j
            have HP9 : Hid (P (wr.setCell ⟨k7, j, none⟩ (.int .i64 9000000))) := by show P _; rw [unhide HP]; exact hp.setY (unhide HQN) j 9000000
            clear hp ho7
            go_wp2_with fail
            exact ⟨⟨j + 1, by go_num, by omega, HP9⟩, by simp [intOf]; omega⟩
          · have hji : ¬ (j : Int) < (s : Int) := by omega
            have HPF := hide hp
            clear hp
            go_wp2_with fail
            go_meet
            exact ⟨_, _, _, unhide HPF, hps1⟩
      have e4 : (x == 4) = false := by simp; exact k4
      by_cases k5 : x = 5
      · subst k5
        obtain ⟨ig, hig, gz0, gz1, gz2⟩ := info_parts info_groupQ
        have hGl : G.length ≤ 300000 := by unfold psize at hps0; simp only [List.length_nil] at hps0; omega
        have hC8 : C ≤ w8.heap.size := by have := (unhide HQN).n6; have := (unhide HQ8).box.lt; omega
        have LI : Hid (∀ W, Below w8.heap.size w8 W → Calls Tryz.prog 65 #[.pointer (some ⟨g, 0, none⟩)] W fun e w' => (∃ r K, e = .returned r ∧ InOwn w' w8.heap.size r K ∧ K.length ≤ 9) ∧ CC a len cap g B w' ∧ Kept (fun k => k = g) W w') := fun W hb => (l11Ints_any a len cap g B hl hB W ((unhide HQ8).cc.below hb hB)).mono (fun e w' h => ⟨(by obtain ⟨⟨r, K, e1, e2, e3⟩, _⟩ := h; exact ⟨r, K, e1, e2.lower hb.size, e3⟩), h.2⟩)
        have HPU : Hid (∀ U W, Below w8.heap.size w8 U → CC a len cap g B W → Kept (fun k => k = g) U W → QW a len cap g B w w5.heap.size (w.heap.size + 1) V1.heap.size C s ay cy (.slice lg G.length cg) ms G W) := fun U W hb hc hk => ((unhide HQ8).below (unhide HQN) hb).drawn (unhide HQN) hc hk
        have hz8 := (unhide HQ8).box.lt
        go_wp2_with fail
        go_region_law
          (first
            | (refine step_call (by rfl) 65 #[.tmp 95] _ (by rfl) #[.pointer (some ⟨g, 0, none⟩)] (by first | rfl | (simp [Act.eval]; done) | (show _ = _; kernel_rfl)) enterIntsQ _ (unhide LI _ (by first | exact (Below.refl _ _).drew | exact ((Below.refl _ _).alloc (Nat.le_refl _) _).drew | exact (Below.refl _ _).drew.alloc (Nat.le_refl _) _)) ?_; rintro e w9 ⟨⟨rv, K, rfl, hR, hKl⟩, hc9, hk9⟩; refine ⟨_, rfl, ?_⟩; obtain ⟨ra, rc, hrv⟩ := hR.at.shape; subst hrv; have HRR := hide (InOwn.lower hR hC8); have HP8 := hide (unhide HPU _ w9 (by first | exact (Below.refl _ _).drew | exact ((Below.refl _ _).alloc (Nat.le_refl _) _).drew | exact (Below.refl _ _).drew.alloc (Nat.le_refl _) _) hc9 hk9); have q1 : w9.cell? ⟨w5.heap.size, 1, none⟩ = some (.slice lg G.length cg) := (unhide HP8).box.cell 1 _ rfl; have hz9 := (unhide HP8).box.lt; clear hc9 hk9 hR)
            | (refine step_append_lies _ (by rfl) _ _ _ (by rfl) C 73 ig _ 2 32 Tryz.underlying29 hig gz0 gz1 gz2 rfl (by omega) (.slice lg G.length cg) G.length (gC ms (zsOf G)) (by rfl) (by first | exact (unhide HP8).gs.2.1.alloc _ | exact ((unhide HP8).gs.2.1.alloc _).drew) ⟨w9.heap.size, 0, none⟩ 1 1 [.slice ra K.length rc, .int .i64 2] (by first | rfl | (simp [Act.eval]; done) | (show _ = _; kernel_rfl)) (by rfl) (World.news_of_block (heap_alloc_new w9 _)) (by simp [Value.oneCell']) (by omega) (by unfold maxLen; omega) (by omega) (by have := (unhide HQN).n6; simp; omega) (w9.heap.size + 1) (by simp) ?_; intro g9 cap9 wA hown9 hgrow9 hat9 hlt9; have bx9 : Blk wA w5.heap.size #[.slice ay s cy, .slice lg G.length cg] 31 := ((unhide HP8).box.alloc).grown hgrow9 ((unhide HP8).box.apart (unhide HP8).gs.2.1 (by decide)); have k3 : wA.cell? ⟨w5.heap.size, 1, none⟩ = some (.slice lg G.length cg) := bx9.cell 1 _ rfl; have f3 := bx9.froz 1; have hzA := bx9.lt; clear bx9))
        all_goals
          have HPZ := hide (QW.appended (z := 2) ((unhide HP8).below (unhide HQN) (below_new _ _)) (unhide HQN) ((unhide HRR).below (below_new _ _)) hgrow9 hown9)
          have hpz := psize_snoc (z := 2) hps0 hKl
          clear k3 f3 hown9 hgrow9 hat9 hlt9 HP8 HRR
          go_wp2_with fail
          go_meet
          exact ⟨_, _, _, HPZ, hpz⟩
      have e5 : (x == 5) = false := by simp; exact k5
      go_wp2_with fail
      go_meet
      exact ⟨_, _, _, HQ8, hps1⟩
    case rest =>
      obtain ⟨dg', ms', G', HQX, hps'⟩ := hcut
      obtain ⟨lg', cg', hdg'⟩ := own_shape (unhide HQX).gs.2.1
      subst hdg'
      have HDN := hide ((unhide HQX).done (unhide HQN) hps' (by omega))
      have l2 : wc.cell? ⟨w5.heap.size, 0, none⟩ = some (.slice ay s cy) := (unhide HQX).box.cell 0 _ rfl
      have l3 : wc.cell? ⟨w5.heap.size, 1, none⟩ = some (.slice lg' G'.length cg') := (unhide HQX).box.cell 1 _ rfl
      have t2 : wc.cell? ⟨w.heap.size + 1, 0, none⟩ = some (.slice none 0 0) := (unhide HQX).r4.cell 0 _ rfl
      have t3 : wc.cell? ⟨w.heap.size + 1, 1, none⟩ = some (.slice none 0 0) := (unhide HQX).r4.cell 1 _ rfl
      have f2 := (unhide HQX).r4.froz 0
      have f3 := (unhide HQX).r4.froz 1
      go_wp2_with fail
      (try simp only [Exit.inBlock, Exit.then])
      obtain ⟨d1, ⟨Y9, d2⟩, d4, d5⟩ := unhide HDN
      refine bodyPost_ret (results_p1 Tryz.results41 _ _ (w.heap.size + 1) _ _ rfl d1) rfl ?_
      first | exact ⟨⟨_, _, Y9, _, rfl, d2⟩, d4, d5⟩ | exact ⟨⟨_, _, rfl, Y9, _, d2⟩, d4, d5⟩
end Gr
end Go.Proofs.YthbhdfeafbineaaGreat
