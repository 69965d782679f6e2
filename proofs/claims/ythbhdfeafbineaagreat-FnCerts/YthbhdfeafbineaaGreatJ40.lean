/-
 CfC, CfD.
-/
import Derived.Test.YthbhdfeafbineaaGreatJ28
import Derived.Test.YthbhdfeafbineaaGreatJ10
import Derived.Test.YthbhdfeafbineaaGreatJ17
import Derived.Test.YthbhdfeafbineaaGreatJ29
import Derived.Test.YthbhdfeafbineaaGreatJ39
namespace Go.Proofs.YthbhdfeafbineaaGreat
namespace Gr
open Go.RowKit
theorem results_cert1 {fn : Func} {p : Tmp} (h : fn.results = #[.cell p 33]) (tmps : Array Value) (w : World) (g : Nat) (x0 x1 x2 x3 x4 : Value) (hp : tmps.getD p undef = .pointer (some ⟨g, 0, none⟩)) (hg : Blk w g #[x0, x1, x2, x3, x4] 33) :
    (results fn tmps).run Tryz.prog w = .ok (.agg #[x0, x1, x2, x3, x4]) w := by
  have c0 := hg.cell 0 x0 rfl
  have c1 := hg.cell 1 x1 rfl
  have c2 := hg.cell 2 x2 rfl
  have c3 := hg.cell 3 x3 rfl
  have c4 := hg.cell 4 x4 rfl
  have hp' : tmps[p]?.getD undef = .pointer (some ⟨g, 0, none⟩) := by simpa using hp
  simp [results, h, hp', go_sem, c0, c1, c2, c3, c4]
def CeNew (W : World) (lo : Nat) (v : Value) (s : Int) (Q : List EdgeI) (M : List CoupleI) (Y : List Int) (G : List GrpI) : Prop :=
  ∃ ve vm vy vg, v = .agg #[.int .i64 s, ve, vm, vy, vg] ∧ GrOwn W lo (.agg #[.int .i64 s, ve]) s Q ∧ CoOwn W lo vm M ∧ PrNew W lo vy vg Y G ∧ Q.length ≤ 90 ∧ M.length ≤ 200000
theorem CeNew.kept {S : Nat → Prop} {W W' : World} {lo : Nat} {v : Value} {s : Int} {Q : List EdgeI} {M : List CoupleI} {Y : List Int} {G : List GrpI} (h : CeNew W lo v s Q M Y G) (hk : Kept S W W') (hS : ∀ k, lo ≤ k → ¬ S k) : CeNew W' lo v s Q M Y G := by
  obtain ⟨ve, vm, vy, vg, rfl, h1, h2, h3, h4⟩ := h
  exact ⟨ve, vm, vy, vg, rfl, h1.kept hk (fun g hg => hS g (h1.blk g hg).1), h2.kept hk (fun g hg => hS g (h2.blk g hg).1), h3.kept hk hS, h4⟩
theorem CeNew.lower {W : World} {lo C : Nat} {v : Value} {s : Int} {Q : List EdgeI} {M : List CoupleI} {Y : List Int} {G : List GrpI} (h : CeNew W lo v s Q M Y G) (hC : C ≤ lo) : CeNew W C v s Q M Y G := by
  obtain ⟨ve, vm, vy, vg, rfl, h1, h2, h3, h4⟩ := h
  exact ⟨ve, vm, vy, vg, rfl, h1.lower hC, h2.lower hC, h3.lower hC, h4⟩
theorem CeNew.at {W : World} {lo : Nat} {v : Value} {s : Int} {Q : List EdgeI} {M : List CoupleI} {Y : List Int} {G : List GrpI} (h : CeNew W lo v s Q M Y G) : CeAt W v W.heap.size s Q M Y G ∧ csize Q M Y G ≤ 1048576 := by
  obtain ⟨ve, vm, vy, vg, rfl, h1, h2, h3, h4, h5⟩ := h
  have g1 := h1.at
  obtain ⟨a, c, e1⟩ := g1.shape
  simp at e1
  subst e1
  have g2 := h2.at
  obtain ⟨a1, c1, rfl⟩ := g2.shape
  have g3 := h3.at
  obtain ⟨⟨a2, c2, rfl⟩, a3, c3, rfl⟩ := h3.shape
  refine ⟨⟨a, c, a1, c1, a2, c2, a3, c3, rfl, g1, g2, g3, by omega, by omega⟩, ?_⟩
  have := h3.2.2
  unfold csize
  omega
set_option maxRecDepth 100000 in
set_option maxHeartbeats 4000000 in
theorem l12Cert_any (a : Option Addr) (len cap g B : Nat) (hl : len ≤ 1048576) (hB : B ≤ g) (w : World) (hcc : CC a len cap g B w) :
    Calls Tryz.prog 16 #[.pointer (some ⟨g, 0, none⟩)] w fun e w' => (∃ d s Q M Y G, e = .returned d ∧ CeNew w' w.heap.size d s Q M Y G) ∧ CC a len cap g B w' ∧ Kept (fun k => k = g) w w' := by
  have hgl := hcc.lt
  obtain ⟨V0, hV0⟩ : ∃ W, W = w.alloc (Obj.cells #[.int .i64 0, .slice none 0 0, .slice none 0 0, .slice none 0 0, .slice none 0 0] 33) := ⟨_, rfl⟩
  have b0 : Below w.heap.size w V0 := by rw [hV0]; exact below_new _ _
  have r0 : Blk V0 w.heap.size #[.int .i64 0, .slice none 0 0, .slice none 0 0, .slice none 0 0, .slice none 0 0] 33 := by rw [hV0]; exact Blk.new0
  have c0 := hcc.below b0 hB
  have hr0 := r0.lt
  have HG := hide (l08Graph_any a len cap g B hl hB V0 c0)
  have ON := hide (fun w1 (h : CC a len cap g B w1) => once_cc a len cap g B 5 hl hB (by omega) w1 h)
  clear hcc c0
  go_enter Tryz.func16, Tryz.ntmps16
  go_wp2_with fail
  rw [← hV0]
  clear hV0
  refine (unhide HG).mono ?_
  rintro e w1 ⟨⟨v, rfl, s, Q, ho, hok, hQ⟩, hc1, hk1⟩
  have hgA := ho.at
  obtain ⟨ae, ce, hve⟩ := hgA.shape
  subst hve
  obtain ⟨V2, hV2⟩ : ∃ W, W = w1.alloc (Obj.cells #[.int .i64 s, .slice ae Q.length ce] 26) := ⟨_, rfl⟩
  have bV2 : Below w1.heap.size w1 V2 := by rw [hV2]; exact below_new _ _
  have m2 : Blk V2 w1.heap.size #[.int .i64 s, .slice ae Q.length ce] 26 := by rw [hV2]; exact Blk.new0
  have o2 := ho.below bV2
  have r2 := (r0.kept hk1 (by omega)).below bV2
  have c2 := hc1.below bV2 hB
  have k2 : Kept (fun k => k = g) w V2 := ((Kept.of_below b0).trans hk1).trans (Kept.of_below bV2)
  have SR := hide (Sv.solve_read V2 _ s Q hok hQ o2.at)
  have hz0 : V0.heap.size ≤ w1.heap.size := hk1.2.2.2.1
  have hz2 := m2.lt
  clear HG hk1 hc1 ho hgA bV2 r0 b0
  go_wp2_with fail
  rw [← hV2]
  clear hV2
  refine (unhide SR).mono ?_
  rintro e w3 ⟨⟨dm, dy, dg, ms, M, Y, G, C, rfl, hM3, hY3, hYC, hC2, hCl, hG3, hYl, hMl, hps⟩, hb3⟩
  have p3 : PrNew w3 V0.heap.size dy dg Y G := ⟨hY3.lower (by omega), ⟨ms, hG3.lower (by omega)⟩, by omega⟩
  obtain ⟨⟨ay, cy, hdy⟩, ag, cg, hdg⟩ := p3.shape
  have q3 := hM3.at
  obtain ⟨am, cm, hdm⟩ := q3.shape
  subst hdy hdg hdm
  obtain ⟨V4, hV4⟩ : ∃ W, W = w3.alloc (Obj.cells #[.slice ay Y.length cy, .slice ag G.length cg] 31) := ⟨_, rfl⟩
  have bV4 : Below w3.heap.size w3 V4 := by rw [hV4]; exact below_new _ _
  have n4 : Blk V4 w3.heap.size #[.slice ay Y.length cy, .slice ag G.length cg] 31 := by rw [hV4]; exact Blk.new0
  have b24 : Below V2.heap.size V2 V4 := hb3.trans (bV4.mono hb3.size)
  have m4 := m2.below b24
  have r4 := r2.below b24
  have c4 := c2.below b24 hB
  have o4 := (o2.below b24)
  have p4 := p3.below bV4
  have M4 : CoOwn V4 V0.heap.size (.slice am M.length cm) M := CoOwn.lower (hM3.below bV4) (by omega)
  have k4 : Kept (fun k => k = g) w V4 := k2.trans (Kept.of_below b24)
  have hz3 : V2.heap.size ≤ w3.heap.size := hb3.size
  have HEX : Hid (∀ k, GrBlk (.agg #[.int .i64 s, .slice ae Q.length ce]) k → k < w3.heap.size) := fun k hk => by have := (o2.blk k hk).2; omega
  have HMX : Hid (∀ k, CoBlk (.slice am M.length cm) k → k < w3.heap.size) := fun k hk => (hM3.blk k hk).2
  have hz4 := n4.lt
  have ON4 := hide (unhide ON V4 c4)
  clear m2 r2 c2 o2 p3 hM3 q3 k2 hb3 hY3 hG3 bV4 b24 SR hYC hC2 hCl hYl
  go_wp2_with fail
  rw [← hV4]
  clear hV4
  refine (unhide ON4).mono ?_
  rintro e w5 ⟨⟨bo, rfl⟩, hc5, hk5⟩
  have m5 := m4.kept hk5 (by omega)
  have n5 := n4.kept hk5 (by omega)
  have r5 := r4.kept hk5 (by omega)
  have o5 := o4.kept hk5 (fun k hk e => by have := (o4.blk k hk).1; omega)
  have p5 := p4.kept hk5 (fun k hk e => by omega)
  have M5 : CoOwn w5 V0.heap.size (.slice am M.length cm) M := M4.kept hk5 (fun k hk e => by have := (M4.blk k hk).1; omega)
  have k5 := k4.trans hk5
  have hz5 := hk5.2.2.2.1
  clear m4 n4 r4 o4 p4 M4 k4 c4 ON4 hk5
  cases bo with
  | false =>
    have x0 : w5.cell? ⟨w1.heap.size, 0, none⟩ = some (.int .i64 s) := m5.cell 0 _ rfl
    have x1 : w5.cell? ⟨w1.heap.size, 1, none⟩ = some (.slice ae Q.length ce) := m5.cell 1 _ rfl
    have y0 : w5.cell? ⟨w3.heap.size, 0, none⟩ = some (.slice ay Y.length cy) := n5.cell 0 _ rfl
    have y1 : w5.cell? ⟨w3.heap.size, 1, none⟩ = some (.slice ag G.length cg) := n5.cell 1 _ rfl
    have t0 : w5.cell? ⟨w.heap.size, 0, none⟩ = some (.int .i64 0) := r5.cell 0 _ rfl
    have t1 : w5.cell? ⟨w.heap.size, 1, none⟩ = some (.slice none 0 0) := r5.cell 1 _ rfl
    have t2 : w5.cell? ⟨w.heap.size, 2, none⟩ = some (.slice none 0 0) := r5.cell 2 _ rfl
    have t3 : w5.cell? ⟨w.heap.size, 3, none⟩ = some (.slice none 0 0) := r5.cell 3 _ rfl
    have t4 : w5.cell? ⟨w.heap.size, 4, none⟩ = some (.slice none 0 0) := r5.cell 4 _ rfl
    have tf := r5.froz
    have zr := r5.lt
    have zm := m5.lt
    have zn := n5.lt
    obtain ⟨W9, hW9⟩ : ∃ W, W = ((((w5.setCell ⟨w.heap.size, 0, none⟩ (.int .i64 s)).setCell ⟨w.heap.size, 1, none⟩ (.slice ae Q.length ce)).setCell ⟨w.heap.size, 2, none⟩ (.slice am M.length cm)).setCell ⟨w.heap.size, 3, none⟩ (.slice ay Y.length cy)).setCell ⟨w.heap.size, 4, none⟩ (.slice ag G.length cg) := ⟨_, rfl⟩
    have k9 : Kept (fun k => k = w.heap.size) w5 W9 := by
      rw [hW9]
      exact ((((Kept.set (S := fun k => k = w.heap.size) _ _ _ _ rfl).trans (Kept.set (S := fun k => k = w.heap.size) _ _ _ _ rfl)).trans (Kept.set (S := fun k => k = w.heap.size) _ _ _ _ rfl)).trans (Kept.set (S := fun k => k = w.heap.size) _ _ _ _ rfl)).trans (Kept.set (S := fun k => k = w.heap.size) _ _ _ _ rfl)
    have HR : Hid (Blk W9 w.heap.size #[.int .i64 s, .slice ae Q.length ce, .slice am M.length cm, .slice ay Y.length cy, .slice ag G.length cg] 33) := by
      show Blk _ _ _ _
      rw [hW9]
      exact ((((r5.set 0 _).set 1 _).set 2 _).set 3 _).set 4 _
    have hN : CeNew w5 V0.heap.size (.agg #[.int .i64 s, .slice ae Q.length ce, .slice am M.length cm, .slice ay Y.length cy, .slice ag G.length cg]) s Q M Y G := ⟨_, _, _, _, rfl, o5, M5, p5, hQ, hMl⟩
    have HN := hide ((hN.kept k9 (fun k hk e => by omega)).lower (show w.heap.size ≤ V0.heap.size by omega))
    have HCC := hide (hc5.kept k9 hB (fun k hk => by omega))
    have HKK := hide (k5.wide k9 (fun i hi => Or.inr (by omega)))
    clear m5 n5 r5 o5 M5 p5 k5 hc5 k9 hN
    go_wp2_with fail
    (try simp only [Exit.inBlock, Exit.then])
    rw [← hW9]
    refine bodyPost_ret (results_cert1 Tryz.results16 _ _ w.heap.size _ _ _ _ _ rfl (unhide HR)) rfl ?_
    first | exact ⟨⟨_, s, Q, M, Y, G, rfl, unhide HN⟩, unhide HCC, unhide HKK⟩ | exact ⟨⟨_, rfl, s, Q, M, Y, G, unhide HN⟩, unhide HCC, unhide HKK⟩
  | true =>
    have L11 := hide (l11Proof_any a len cap g B hl hB _ s Q hok hQ w5 hc5 o5.at)
    have u0 : w5.cell? ⟨w1.heap.size, 0, none⟩ = some (.int .i64 s) := m5.cell 0 _ rfl
    have u1 : w5.cell? ⟨w1.heap.size, 1, none⟩ = some (.slice ae Q.length ce) := m5.cell 1 _ rfl
    have zm5 := m5.lt
    clear hc5
    go_wp2_with fail
    refine (unhide L11).mono ?_
    rintro e w6 ⟨⟨dy6, dg6, Y6, G6, rfl, p6⟩, hc6, hk6⟩
    obtain ⟨⟨ay6, cy6, hdy6⟩, ag6, cg6, hdg6⟩ := p6.shape
    subst hdy6 hdg6
    have m6 := m5.kept hk6 (by omega)
    have n6 := n5.kept hk6 (by omega)
    have r6 := r5.kept hk6 (by omega)
    have o6 := o5.kept hk6 (fun k hk e => by have := (o5.blk k hk).1; omega)
    have M6 : CoOwn w6 V0.heap.size (.slice am M.length cm) M := M5.kept hk6 (fun k hk e => by have := (M5.blk k hk).1; omega)
    have k6 := k5.trans hk6
    have zn6 := n6.lt
    have v0 : w6.cell? ⟨w3.heap.size, 0, none⟩ = some (.slice ay Y.length cy) := n6.cell 0 _ rfl
    have v1 : w6.cell? ⟨w3.heap.size, 1, none⟩ = some (.slice ag G.length cg) := n6.cell 1 _ rfl
    have vf := n6.froz
    obtain ⟨W7, hW7⟩ : ∃ W, W = (w6.setCell ⟨w3.heap.size, 0, none⟩ (.slice ay6 Y6.length cy6)).setCell ⟨w3.heap.size, 1, none⟩ (.slice ag6 G6.length cg6) := ⟨_, rfl⟩
    have k67 : Kept (fun k => k = w3.heap.size) w6 W7 := by
      rw [hW7]
      exact (Kept.set (S := fun k => k = w3.heap.size) _ _ _ _ rfl).trans (Kept.set (S := fun k => k = w3.heap.size) _ _ _ _ rfl)
    have n7 : Blk W7 w3.heap.size #[.slice ay6 Y6.length cy6, .slice ag6 G6.length cg6] 31 := by rw [hW7]; exact (n6.set 0 _).set 1 _
    have m7 := m6.kept k67 (by omega)
    have r7 := r6.kept k67 (by omega)
    have o7 := o6.kept k67 (fun k hk e => by have h := unhide HEX k hk; omega)
    have M7 : CoOwn W7 V0.heap.size (.slice am M.length cm) M := M6.kept k67 (fun k hk e => by have h := unhide HMX k hk; omega)
    have p7 : PrNew W7 V0.heap.size (.slice ay6 Y6.length cy6) (.slice ag6 G6.length cg6) Y6 G6 := (p6.kept k67 (fun k hk e => by omega)).lower (by omega)
    have k7 := k6.wide k67 (fun i hi => Or.inr (by omega))
    have hc7 := hc6.kept k67 hB (fun k hk => by omega)
    clear u0 u1 m5 n5 r5 o5 p5 M5 k5 m6 n6 r6 o6 M6 k6 k67 hk6 hc6 p6 L11
    go_upto_region 5 with fail
    rw [← hW7]
    clear hW7 v0 v1 vf
    have x0 : W7.cell? ⟨w1.heap.size, 0, none⟩ = some (.int .i64 s) := m7.cell 0 _ rfl
    have x1 : W7.cell? ⟨w1.heap.size, 1, none⟩ = some (.slice ae Q.length ce) := m7.cell 1 _ rfl
    have y0 : W7.cell? ⟨w3.heap.size, 0, none⟩ = some (.slice ay6 Y6.length cy6) := n7.cell 0 _ rfl
    have y1 : W7.cell? ⟨w3.heap.size, 1, none⟩ = some (.slice ag6 G6.length cg6) := n7.cell 1 _ rfl
    have t0 : W7.cell? ⟨w.heap.size, 0, none⟩ = some (.int .i64 0) := r7.cell 0 _ rfl
    have t1 : W7.cell? ⟨w.heap.size, 1, none⟩ = some (.slice none 0 0) := r7.cell 1 _ rfl
    have t2 : W7.cell? ⟨w.heap.size, 2, none⟩ = some (.slice none 0 0) := r7.cell 2 _ rfl
    have t3 : W7.cell? ⟨w.heap.size, 3, none⟩ = some (.slice none 0 0) := r7.cell 3 _ rfl
    have t4 : W7.cell? ⟨w.heap.size, 4, none⟩ = some (.slice none 0 0) := r7.cell 4 _ rfl
    have tf := r7.froz
    have zr := r7.lt
    have zm := m7.lt
    have zn := n7.lt
    obtain ⟨W9, hW9⟩ : ∃ W, W = ((((W7.setCell ⟨w.heap.size, 0, none⟩ (.int .i64 s)).setCell ⟨w.heap.size, 1, none⟩ (.slice ae Q.length ce)).setCell ⟨w.heap.size, 2, none⟩ (.slice am M.length cm)).setCell ⟨w.heap.size, 3, none⟩ (.slice ay6 Y6.length cy6)).setCell ⟨w.heap.size, 4, none⟩ (.slice ag6 G6.length cg6) := ⟨_, rfl⟩
    have k9 : Kept (fun k => k = w.heap.size) W7 W9 := by
      rw [hW9]
      exact ((((Kept.set (S := fun k => k = w.heap.size) _ _ _ _ rfl).trans (Kept.set (S := fun k => k = w.heap.size) _ _ _ _ rfl)).trans (Kept.set (S := fun k => k = w.heap.size) _ _ _ _ rfl)).trans (Kept.set (S := fun k => k = w.heap.size) _ _ _ _ rfl)).trans (Kept.set (S := fun k => k = w.heap.size) _ _ _ _ rfl)
    have HR : Hid (Blk W9 w.heap.size #[.int .i64 s, .slice ae Q.length ce, .slice am M.length cm, .slice ay6 Y6.length cy6, .slice ag6 G6.length cg6] 33) := by
      show Blk _ _ _ _
      rw [hW9]
      exact ((((r7.set 0 _).set 1 _).set 2 _).set 3 _).set 4 _
    have hN : CeNew W7 V0.heap.size (.agg #[.int .i64 s, .slice ae Q.length ce, .slice am M.length cm, .slice ay6 Y6.length cy6, .slice ag6 G6.length cg6]) s Q M Y6 G6 := ⟨_, _, _, _, rfl, o7, M7, p7, hQ, hMl⟩
    have HN := hide ((hN.kept k9 (fun k hk e => by omega)).lower (show w.heap.size ≤ V0.heap.size by omega))
    have HCC := hide (hc7.kept k9 hB (fun k hk => by omega))
    have HKK := hide (k7.wide k9 (fun i hi => Or.inr (by omega)))
    clear m7 n7 r7 o7 M7 p7 k7 hc7 k9 hN
    go_wp2_with fail
    (try simp only [Exit.inBlock, Exit.then])
    rw [← hW9]
    refine bodyPost_ret (results_cert1 Tryz.results16 _ _ w.heap.size _ _ _ _ _ rfl (unhide HR)) rfl ?_
    first | exact ⟨⟨_, s, Q, M, Y6, G6, rfl, unhide HN⟩, unhide HCC, unhide HKK⟩ | exact ⟨⟨_, rfl, s, Q, M, Y6, G6, unhide HN⟩, unhide HCC, unhide HKK⟩
set_option maxRecDepth 100000 in
set_option maxHeartbeats 2000000 in
theorem drawCertText_any (a : Option Addr) (len cap : Nat) (hl : len ≤ 1048576) (w : World) (hd : Code a len w.heap.size w) :
    Calls Tryz.prog 5 #[.slice a len cap] w fun e w' => (∃ d s Q M Y G, e = .returned d ∧ CeAt w' d w'.heap.size s Q M Y G ∧ csize Q M Y G ≤ 1048576) ∧ Below w.heap.size w w' := by
  obtain ⟨V0, hV0⟩ : ∃ W, W = w.alloc (Obj.cells #[.int .i64 0, .slice none 0 0, .slice none 0 0, .slice none 0 0, .slice none 0 0] 33) := ⟨_, rfl⟩
  have b0 : Below w.heap.size w V0 := by rw [hV0]; exact below_new _ _
  have r0 : Blk V0 w.heap.size #[.int .i64 0, .slice none 0 0, .slice none 0 0, .slice none 0 0, .slice none 0 0] 33 := by rw [hV0]; exact Blk.new0
  have hr0 := r0.lt
  have NW := hide (new_cc a len cap hl V0 (code_up (code_below hd b0 (Nat.le_refl _)) b0.size))
  have LC := hide (fun w1 (h : CC a len cap V0.heap.size V0.heap.size w1) => l12Cert_any a len cap V0.heap.size V0.heap.size hl (Nat.le_refl _) w1 h)
  clear hd
  go_enter Tryz.func5, Tryz.ntmps5
  go_wp2_with fail
  rw [← hV0]
  clear hV0
  refine (unhide NW).mono ?_
  rintro e w1 ⟨rfl, hc1, hb1⟩
  have r1 := r0.below hb1
  have b1 := b0.trans (hb1.mono b0.size)
  have hz1 := hb1.size
  clear NW r0 b0 hb1
  go_wp2_with fail
  refine (unhide LC w1 hc1).mono ?_
  rintro e w2 ⟨⟨d, s, Q, M, Y, G, rfl, hN⟩, hc2, hk2⟩
  have r2 := r1.kept hk2 (by omega)
  have b2 : Below w.heap.size w w2 := b1.trans (hk2.below b1.size (fun i hi => by omega))
  obtain ⟨hA, _⟩ := hN.at
  obtain ⟨ae, ce, am, cm, ay, cy, ag, cg, hde⟩ := hA.shape
  subst hde
  have t0 : w2.cell? ⟨w.heap.size, 0, none⟩ = some (.int .i64 0) := r2.cell 0 _ rfl
  have t1 : w2.cell? ⟨w.heap.size, 1, none⟩ = some (.slice none 0 0) := r2.cell 1 _ rfl
  have t2 : w2.cell? ⟨w.heap.size, 2, none⟩ = some (.slice none 0 0) := r2.cell 2 _ rfl
  have t3 : w2.cell? ⟨w.heap.size, 3, none⟩ = some (.slice none 0 0) := r2.cell 3 _ rfl
  have t4 : w2.cell? ⟨w.heap.size, 4, none⟩ = some (.slice none 0 0) := r2.cell 4 _ rfl
  have tf := r2.froz
  obtain ⟨W9, hW9⟩ : ∃ W, W = ((((w2.setCell ⟨w.heap.size, 0, none⟩ (.int .i64 s)).setCell ⟨w.heap.size, 1, none⟩ (.slice ae Q.length ce)).setCell ⟨w.heap.size, 2, none⟩ (.slice am M.length cm)).setCell ⟨w.heap.size, 3, none⟩ (.slice ay Y.length cy)).setCell ⟨w.heap.size, 4, none⟩ (.slice ag G.length cg) := ⟨_, rfl⟩
  have k9 : Kept (fun k => k = w.heap.size) w2 W9 := by
    rw [hW9]
    exact ((((Kept.set (S := fun k => k = w.heap.size) _ _ _ _ rfl).trans (Kept.set (S := fun k => k = w.heap.size) _ _ _ _ rfl)).trans (Kept.set (S := fun k => k = w.heap.size) _ _ _ _ rfl)).trans (Kept.set (S := fun k => k = w.heap.size) _ _ _ _ rfl)).trans (Kept.set (S := fun k => k = w.heap.size) _ _ _ _ rfl)
  have HR : Hid (Blk W9 w.heap.size #[.int .i64 s, .slice ae Q.length ce, .slice am M.length cm, .slice ay Y.length cy, .slice ag G.length cg] 33) := by
    show Blk _ _ _ _
    rw [hW9]
    exact ((((r2.set 0 _).set 1 _).set 2 _).set 3 _).set 4 _
  have HN := hide (CeNew.at (hN.kept k9 (fun k hk e => by omega)))
  have HB9 := hide (b2.trans (k9.below b2.size (fun i hi => by omega)))
  clear r1 r2 b1 b2 hN hA k9 hk2 hc1 hc2
  go_wp2_with fail
  (try simp only [Exit.inBlock, Exit.then])
  rw [← hW9]
  refine bodyPost_ret (results_cert1 Tryz.results5 _ _ w.heap.size _ _ _ _ _ rfl (unhide HR)) rfl ?_
  first | exact ⟨⟨_, s, Q, M, Y, G, rfl, (unhide HN).1, (unhide HN).2⟩, unhide HB9⟩ | exact ⟨⟨_, rfl, s, Q, M, Y, G, (unhide HN).1, (unhide HN).2⟩, unhide HB9⟩
set_option maxRecDepth 100000 in
set_option maxHeartbeats 2000000 in
theorem drawReadCert_any (a : Option Addr) (len cap : Nat) (hl : len ≤ 1048576) (w : World) (hd : Code a len w.heap.size w) :
    Calls Tryz.prog 12 #[.slice a len cap] w fun e w' => (∃ t : ByteArray, e = .returned (.string t) ∧ t.size ≤ 6000) ∧ Below w.heap.size w w' := by
  have NW := hide (new_cc a len cap hl w hd)
  have LC := hide (fun w1 (h : CC a len cap w.heap.size w.heap.size w1) => l12Cert_any a len cap w.heap.size w.heap.size hl (Nat.le_refl _) w1 h)
  have SP := hide (fun t (ht : t.size ≤ 100000) w1 (h : CC a len cap w.heap.size w.heap.size w1) => spoilt_any a len cap w.heap.size w.heap.size hl (Nat.le_refl _) t ht w1 h)
  clear hd
  go_enter Tryz.func12, Tryz.ntmps12
  go_wp2_with fail
  refine (unhide NW).mono ?_
  rintro e w1 ⟨rfl, hc1, hb1⟩
  go_wp2_with fail
  refine (unhide LC w1 hc1).mono ?_
  rintro e w2 ⟨⟨d, s, Q, M, Y, G, rfl, hN⟩, hc2, hk2⟩
  have b2 : Below w.heap.size w w2 := hb1.trans (hk2.below hb1.size (fun i hi => by omega))
  obtain ⟨hA, hcs⟩ := hN.at
  have CT := hide (specCertText_gen w2.heap.size d s Q M Y G hcs w2 (Nat.le_refl _) hA)
  have hsz := certT_size s Q M Y G
  generalize certT s Q M Y G = t at CT hsz
  clear hN hA hk2 hc1 hb1 LC NW hcs
  go_wp2_with fail
  refine (unhide CT).mono ?_
  rintro e w3 ⟨rfl, hb3⟩
  have c3 := hc2.below hb3 (Nat.le_refl _)
  have b3 := b2.trans (hb3.mono b2.size)
  clear hb3 hc2 b2 CT
  go_wp2_with fail
  refine (unhide SP t (by omega) w3 c3).mono ?_
  rintro e w4 ⟨⟨u, rfl, hu⟩, hc4, hk4⟩
  have b4 := b3.trans (hk4.below b3.size (fun i hi => by omega))
  have HU := hide hu
  clear hc4 hk4 c3 b3 hu
  go_wp2_with fail
  go_ret
  exact ⟨⟨u, rfl, by have := unhide HU; omega⟩, b4⟩
set_option maxRecDepth 100000 in
set_option maxHeartbeats 2000000 in
theorem drawCertParts_any (a : Option Addr) (len cap : Nat) (hl : len ≤ 1048576) (w : World) (hd : Code a len w.heap.size w) :
    Calls Tryz.prog 14 #[.slice a len cap] w fun e w' => (∃ t : ByteArray, e = .returned (.string t) ∧ t.size ≤ 6000) ∧ Below w.heap.size w w' := by
  have NW := hide (new_cc a len cap hl w hd)
  have BE := hide (fun w1 (h : CC a len cap w.heap.size w.heap.size w1) => below_cc a len cap w.heap.size w.heap.size 300 hl (Nat.le_refl _) (by omega) w1 h)
  have PK := hide (fun b C L h1 h2 h3 hb w1 hc1 hx => pick_list a len cap w.heap.size w.heap.size b C L h1 h2 h3 hl (Nat.le_refl _) hb w1 hc1 hx)
  have TX := hide (fun n (hn : n ≤ 5000) w1 hc => text_cc a len cap w.heap.size w.heap.size n hl (Nat.le_refl _) hn w1 hc)
  clear hd
  go_enter Tryz.func14, Tryz.ntmps14
  go_wp2_with fail
  refine (unhide NW).mono ?_
  rintro e w1 ⟨rfl, hc1, hb1⟩
  go_wp2_with fail
  refine (unhide BE w1 hc1).mono ?_
  rintro e w2 ⟨⟨x, rfl, hx0, hx1⟩, hc2, hk2⟩
  have b2 : Below w.heap.size w w2 := hb1.trans (hk2.below hb1.size (fun i hi => by omega))
  obtain ⟨V, hV⟩ : ∃ W, W = w2.alloc (Obj.cells #[.int .i64 0, .int .i64 1, .int .i64 39, .int .i64 40, .int .i64 41, .int .i64 80, .int .i64 81, .int .i64 200, .int .i64 x] 3) := ⟨_, rfl⟩
  have bV : Below w2.heap.size w2 V := by rw [hV]; exact below_new _ _
  have mV : Blk V w2.heap.size #[.int .i64 0, .int .i64 1, .int .i64 39, .int .i64 40, .int .i64 41, .int .i64 80, .int .i64 81, .int .i64 200, .int .i64 x] 3 := by rw [hV]; exact Blk.new0
  have cV := hc2.below bV (Nat.le_refl _)
  have b3 := b2.trans (bV.mono b2.size)
  have hz2 := hc2.lt
  have PK1 := hide (unhide PK w2.heap.size _ [0, 1, 39, 40, 41, 80, 81, 200, x] (by simp) (by simp) (fun j hj => by
      have : j < 9 := hj
      match j, this with
      | 0, _ => rfl
      | 1, _ => rfl
      | 2, _ => rfl
      | 3, _ => rfl
      | 4, _ => rfl
      | 5, _ => rfl
      | 6, _ => rfl
      | 7, _ => rfl
      | 8, _ => rfl) (by omega) V cV mV)
  have HX : Hid (0 ≤ x ∧ x < 300) := ⟨hx0, hx1⟩
  clear hk2 hc1 hb1 NW BE hc2 b2 bV mV cV PK hx0 hx1
  go_wp2_with fail
  rw [← hV]
  clear hV
  refine (unhide PK1).mono ?_
  rintro e w4 ⟨⟨y, rfl, hy⟩, hc4, hk4⟩
  have b4 : Below w.heap.size w w4 := b3.trans (hk4.below b3.size (fun i hi => by omega))
  have hyb : 0 ≤ y ∧ y < 300 := by
    have := unhide HX
    simp at hy
    omega
  obtain ⟨n, rfl⟩ := Int.eq_ofNat_of_zero_le hyb.1
  have TX1 := hide (unhide TX n (by omega) w4 hc4)
  have HN : Hid (n < 300) := by show _ < _; omega
  clear hy hk4 hc4 b3 hyb PK1 TX
  go_wp2_with fail
  refine (unhide TX1).mono ?_
  rintro e w5 ⟨⟨t, rfl, ht⟩, hc5, hk5⟩
  have b5 := b4.trans (hk5.below b4.size (fun i hi => by omega))
  have HT := hide ht
  clear hc5 hk5 b4 ht
  go_wp2_with fail
  go_ret
  exact ⟨⟨t, rfl, by have := unhide HT; have := unhide HN; omega⟩, b5⟩
end Gr
end Go.Proofs.YthbhdfeafbineaaGreat
