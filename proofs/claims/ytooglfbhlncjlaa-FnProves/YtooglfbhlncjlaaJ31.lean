/-
  Texts of this claim, one behind the other: PvDraw.
-/
import Derived.Test.YtooglfbhlncjlaaJ30
import Derived.Test.YtooglfbhlncjlaaJ10
import Derived.Test.YtooglfbhlncjlaaJ19
import Derived.Deep.RegionWith
import Derived.Deep.DeepCutAuto

/-
  The contract of spec.DrawAnyProof: some right graph and a proof that can be read.
-/
namespace Go.Proofs.Ytooglfbhlncjlaa
namespace Gr
open Go.RowKit

/-- What stands while a proof is turned: the cursor, the variables of graph and proof, the rows. -/
structure PW (a : Option Addr) (len cap g B : Nat) (w : World) (b5 b7 lo C : Nat) (s : Nat) (Q : List EdgeI) (ve : Value) (ay : Option Addr) (cy : Nat) (dg : Value) (ms : List Value) (G : List GrpI) (wr : World) : Prop where
  cc : CC a len cap g B wr
  ve5 : Blk wr b5 #[.int .i64 (s : Int), ve] 26
  own : GrOwn wr (g + 1) (.agg #[.int .i64 (s : Int), ve]) (s : Int) Q
  box : Blk wr b7 #[.slice ay s cy, dg] 30
  ys : ∃ Y : List Int, Y.length = s ∧ wr.ownsRow lo 3 1 (.slice ay s cy) s (intsV Y)
  gs : GOwn wr C dg ms G
  r1 : Blk wr w.heap.size #[.int .i64 0, .slice none 0 0] 26
  r2 : Blk wr (w.heap.size + 1) #[.slice none 0 0, .slice none 0 0] 30
  bel : Below w.heap.size w wr

/-- The numbers of the blocks, in order. -/
structure PN (g B : Nat) (w : World) (b5 b7 lo C : Nat) (s : Nat) (ve : Value) (ay : Option Addr) (cy : Nat) : Prop where
  nB : B ≤ g
  ng : w.heap.size + 1 < g
  n5 : g < b5
  nl : b5 < lo
  nC : lo ≤ C
  n7 : C ≤ b7
  ne : ∀ k, GrBlk (.agg #[.int .i64 (s : Int), ve]) k → k < b5
  ny : ∀ k, (Value.slice ay s cy).ownBlock = some k → k < C

theorem Kept.of_drew {S : Nat → Prop} (w : World) : Kept S w w.drew := Kept.of_below (Below.refl _ _).drew

theorem PW.drawn {a : Option Addr} {len cap g B : Nat} {w : World} {b5 b7 lo C s : Nat} {Q : List EdgeI} {ve : Value} {ay : Option Addr} {cy : Nat} {dg : Value} {ms : List Value} {G : List GrpI} {wr w' : World}
    (h : PW a len cap g B w b5 b7 lo C s Q ve ay cy dg ms G wr) (n : PN g B w b5 b7 lo C s ve ay cy) (hc : CC a len cap g B w') (hk : Kept (fun k => k = g) wr w') : PW a len cap g B w b5 b7 lo C s Q ve ay cy dg ms G w' := by
  obtain ⟨Y, hy, ho⟩ := h.ys
  obtain ⟨n1, n2, n3, n4, n5, n6, _, _⟩ := n
  refine ⟨hc, h.ve5.kept hk (by omega), h.own.kept hk (fun k hk' => by have := h.own.blk k hk'; omega), h.box.kept hk (by omega), ⟨Y, hy, hk.own ho (fun k hk' => by have := ho.lt k hk'; omega)⟩, ?_, h.r1.kept hk (by omega), h.r2.kept hk (by omega), h.bel.trans (hk.below h.bel.size (fun i hi => by omega))⟩
  exact ⟨h.gs.1, hk.own h.gs.2.1 (fun k hk' => by have := h.gs.2.1.lt k hk'; omega), fun j h1 h2 => hk.own (h.gs.2.2 j h1 h2) (fun k hk' => by have := (h.gs.2.2 j h1 h2).lt k hk'; omega)⟩

theorem PW.below {a : Option Addr} {len cap g B : Nat} {w : World} {b5 b7 lo C s : Nat} {Q : List EdgeI} {ve : Value} {ay : Option Addr} {cy : Nat} {dg : Value} {ms : List Value} {G : List GrpI} {wr w' : World}
    (h : PW a len cap g B w b5 b7 lo C s Q ve ay cy dg ms G wr) (n : PN g B w b5 b7 lo C s ve ay cy) (hb : Below wr.heap.size wr w') : PW a len cap g B w b5 b7 lo C s Q ve ay cy dg ms G w' := by
  obtain ⟨Y, hy, ho⟩ := h.ys
  exact ⟨h.cc.below hb n.nB, h.ve5.below hb, h.own.below hb, h.box.below hb, ⟨Y, hy, own_below ho hb⟩, h.gs.below hb, h.r1.below hb, h.r2.below hb, h.bel.trans (hb.mono h.bel.size)⟩

/-- Graph and proof are handed back. -/
theorem PW.done {a : Option Addr} {len cap g B : Nat} {w : World} {b5 b7 lo C s : Nat} {Q : List EdgeI} {ve : Value} {ay : Option Addr} {cy : Nat} {dg : Value} {ms : List Value} {G : List GrpI} {wr : World}
    (h : PW a len cap g B w b5 b7 lo C s Q ve ay cy dg ms G wr) (n : PN g B w b5 b7 lo C s ve ay cy) (hps : psize [] G ≤ 1000000) (hs : s ≤ 9) :
    let W := (((wr.setCell ⟨w.heap.size, 0, none⟩ (.int .i64 (s : Int))).setCell ⟨w.heap.size, 1, none⟩ ve).setCell ⟨w.heap.size + 1, 0, none⟩ (.slice ay s cy)).setCell ⟨w.heap.size + 1, 1, none⟩ dg
    Blk W w.heap.size #[.int .i64 (s : Int), ve] 26 ∧ Blk W (w.heap.size + 1) #[.slice ay s cy, dg] 30 ∧ GrOwn W w.heap.size (.agg #[.int .i64 (s : Int), ve]) (s : Int) Q ∧ (∃ Y, PrAt W (.agg #[.slice ay s cy, dg]) W.heap.size Y G ∧ psize Y G ≤ 1048576) ∧ Below w.heap.size w W := by
  intro W
  obtain ⟨n1, n2, n3, n4, n5, n6, ne, ny⟩ := n
  have hk : Kept (fun k => k = w.heap.size ∨ k = w.heap.size + 1) wr W :=
    (((Kept.set (S := fun k => k = w.heap.size ∨ k = w.heap.size + 1) _ _ _ _ (.inl rfl)).trans (Kept.set (S := fun k => k = w.heap.size ∨ k = w.heap.size + 1) _ _ _ _ (.inl rfl))).trans (Kept.set (S := fun k => k = w.heap.size ∨ k = w.heap.size + 1) _ _ _ _ (.inr rfl))).trans (Kept.set (S := fun k => k = w.heap.size ∨ k = w.heap.size + 1) _ _ _ _ (.inr rfl))
  obtain ⟨Y, hy, ho⟩ := h.ys
  have ho' := hk.own ho (fun k hk' => by have := ho.lt k hk'; omega)
  have hg' : GOwn W C dg ms G := ⟨h.gs.1, hk.own h.gs.2.1 (fun k hk' => by have := h.gs.2.1.lt k hk'; omega), fun j h1 h2 => hk.own (h.gs.2.2 j h1 h2) (fun k hk' => by have := (h.gs.2.2 j h1 h2).lt k hk'; omega)⟩
  have hpsz : psize Y G ≤ 1048576 := by unfold psize at hps ⊢; simp only [List.length_nil] at hps; omega
  refine ⟨((((h.r1.set 0 _).set 1 _).set_other (by omega) _ _).set_other (by omega) _ _), ((((h.r2.set_other (by omega) _ _).set_other (by omega) _ _).set 0 _).set 1 _), (h.own.kept hk (fun k hk' => by have := h.own.blk k hk'; omega)).lower (by omega), ⟨Y, ?_, hpsz⟩, h.bel.trans (hk.below h.bel.size (fun i hi => by omega))⟩
  obtain ⟨ag, cg, rfl, hga⟩ := hg'.at
  obtain ⟨ay', cy', e, hya⟩ := InOwn.at (show InOwn W lo (.slice ay s cy) Y by unfold InOwn; rw [hy]; exact ho')
  rw [hy] at e hya
  simp only [Value.slice.injEq, true_and] at e
  obtain ⟨rfl, rfl⟩ := e
  obtain ⟨p1, p2, p3⟩ := psize_le hpsz
  exact ⟨_, _, _, _, _, _, rfl, hya, hga, by omega, by omega, fun q hq => by have := p3 q hq; omega⟩

theorem results_gp {fn : Func} {q p : Tmp} (h : fn.results = #[.cell q 26, .cell p 30]) (tmps : Array Value) (w : World) (b c : Nat) (x0 x1 y0 y1 : Value) (hq : tmps.getD q undef = .pointer (some ⟨b, 0, none⟩)) (hp : tmps.getD p undef = .pointer (some ⟨c, 0, none⟩)) (hb : Blk w b #[x0, x1] 26) (hc : Blk w c #[y0, y1] 30) :
    (results fn tmps).run Try.prog w = .ok (.tuple #[.agg #[x0, x1], .agg #[y0, y1]]) w := by
  have c0 := hb.cell 0 x0 rfl
  have c1 := hb.cell 1 x1 rfl
  have d0 := hc.cell 0 y0 rfl
  have d1 := hc.cell 1 y1 rfl
  have hq' : tmps[q]?.getD undef = .pointer (some ⟨b, 0, none⟩) := by simpa using hq
  have hp' : tmps[p]?.getD undef = .pointer (some ⟨c, 0, none⟩) := by simpa using hp
  simp [results, h, hq', hp', go_sem, c0, c1, d0, d1]

theorem enterBelowP (vs : Array Value) (w : World) : (callFunc 21 vs).run Try.prog w = .ok (.enter 21 vs) w := by kernel_rfl

theorem info_groupP : (Try.prog.info? 54).map (fun i => (i.zero, i.size, i.bytes)) = some (some (.agg #[.slice none 0 0, .int .i64 0]), 2, 32) := by kernel_rfl

theorem own_three {W : World} {g base : Nat} {x y z : Int} (h : Blk W g #[.int .i64 x, .int .i64 y, .int .i64 z] 3) (hb : base ≤ g) : W.ownsRow base 3 1 (.slice (some ⟨g, 0, none⟩) 3 3) 3 (intsV [x, y, z]) :=
  ⟨rfl, .inr ⟨g, 3, #[.int .i64 x, .int .i64 y, .int .i64 z], rfl, hb, h, by decide, by decide, rfl, rfl⟩⟩

theorem PW.appended {a : Option Addr} {len cap g B : Nat} {w : World} {b5 b7 lo C s : Nat} {Q : List EdgeI} {ve : Value} {ay : Option Addr} {cy : Nat} {lg : Option Addr} {cg : Nat} {X w9 : World} {mb g' cap' : Nat} {z : Int}
    (h : PW a len cap g B w b5 b7 lo C s Q ve ay cy (.slice lg 0 cg) [] [] X) (n : PN g B w b5 b7 lo C s ve ay cy) (hm : Blk X mb #[.int .i64 0, .int .i64 1, .int .i64 2] 3) (hmC : C ≤ mb) (hb7 : mb ≠ b7) (hgrow : X.grownBy w9 (Value.slice lg 0 cg).ownBlock)
    (hown : w9.ownsRow C 54 2 (.slice (some ⟨g', 0, none⟩) 1 cap') 1 [.slice (some ⟨mb, 0, none⟩) 3 3, .int .i64 z]) :
    PW a len cap g B w b5 b7 lo C s Q ve ay cy (.slice (some ⟨g', 0, none⟩) 1 cap') [.slice (some ⟨mb, 0, none⟩) 3 3] [⟨[0, 1, 2], z⟩] (w9.setCell ⟨b7, 1, none⟩ (.slice (some ⟨g', 0, none⟩) 1 cap')) := by
  obtain ⟨n1, n2, n3, n4, n5, n6, ne, ny⟩ := n
  have hk := Kept.of_grown hgrow
  have hrow : ∀ k, (Value.slice lg 0 cg).ownBlock = some k → C ≤ k ∧ k < X.heap.size := fun k hk' => h.gs.2.1.lt k hk'
  have x7 := h.box.apart h.gs.2.1 (by decide)
  have xm := hm.apart h.gs.2.1 (by decide)
  obtain ⟨Y, hy, ho⟩ := h.ys
  have box9 := h.box.kept hk (fun e => x7 e.symm)
  have m9 := hm.kept hk (fun e => xm e.symm)
  have g7 := box9.apart hown (by decide)
  have ho9 := hk.own ho (fun k hk' e => by have := hrow k e; have := ny k hk'; omega)
  have ks : Kept (fun k => k = b7) w9 (w9.setCell ⟨b7, 1, none⟩ (.slice (some ⟨g', 0, none⟩) 1 cap')) := Kept.set (S := fun k => k = b7) _ _ _ _ rfl
  have bel9 := h.bel.trans (hk.below h.bel.size (fun i hi => by have := hrow i hi; omega))
  refine ⟨(h.cc.kept hk n1 (fun k e => by have := hrow k e; omega)).kept ks n1 (fun k e => by omega), (h.ve5.kept hk (fun e => by have := hrow _ e; omega)).kept ks (by omega), (h.own.kept hk (fun k hk' e => by have := hrow k e; have := ne k hk'; omega)).kept ks (fun k hk' e => by have := ne k hk'; omega), box9.set 1 _, ⟨Y, hy, ks.own ho9 (fun k hk' e => by have := ny k hk'; omega)⟩, ⟨rfl, ?_, ?_⟩, (h.r1.kept hk (fun e => by have := hrow _ e; omega)).kept ks (by omega), (h.r2.kept hk (fun e => by have := hrow _ e; omega)).kept ks (by omega), bel9.trans (ks.below bel9.size (fun i hi => by omega))⟩
  · exact ks.own hown (fun k hk' e => g7 (by rw [hk', e]))
  · intro j h1 h2
    have hj : j = 0 := by simp at h2; exact h2
    subst hj
    exact own_three (m9.kept ks hb7) hmC

theorem PW.setY {a : Option Addr} {len cap g B : Nat} {w : World} {b5 b7 lo C s : Nat} {Q : List EdgeI} {ve : Value} {k cy : Nat} {dg : Value} {ms : List Value} {G : List GrpI} {wr : World}
    (h : PW a len cap g B w b5 b7 lo C s Q ve (some ⟨k, 0, none⟩) cy dg ms G wr) (n : PN g B w b5 b7 lo C s ve (some ⟨k, 0, none⟩) cy) (j : Nat) (x : Int) :
    PW a len cap g B w b5 b7 lo C s Q ve (some ⟨k, 0, none⟩) cy dg ms G (wr.setCell ⟨k, j, none⟩ (.int .i64 x)) := by
  obtain ⟨Y, hy, ho⟩ := h.ys
  obtain ⟨n1, n2, n3, n4, n5, n6, ne, ny⟩ := n
  have hkl := ho.lt k rfl
  have hkC := ny k rfl
  have hk : Kept (fun i => i = k) wr (wr.setCell ⟨k, j, none⟩ (.int .i64 x)) := Kept.set (S := fun i => i = k) _ _ _ _ rfl
  refine ⟨h.cc.kept hk n1 (fun i hi => by omega), h.ve5.kept hk (by omega), h.own.kept hk (fun i hi => by have := ne i hi; omega), h.box.kept hk (by omega), ⟨Y.set j x, by rw [List.length_set]; exact hy, ?_⟩, ?_, h.r1.kept hk (by omega), h.r2.kept hk (by omega), h.bel.trans (hk.below h.bel.size (fun i hi => by omega))⟩
  · have := (ho.stored j (.int .i64 x)).1
    rwa [intsV_set] at this
  · exact ⟨h.gs.1, hk.own h.gs.2.1 (fun i hi => by have := h.gs.2.1.lt i hi; omega), fun i h1 h2 => hk.own (h.gs.2.2 i h1 h2) (fun q hq => by have := (h.gs.2.2 i h1 h2).lt q hq; omega)⟩

set_option maxRecDepth 100000 in
set_option maxHeartbeats 4000000 in
theorem drawAny_any (a : Option Addr) (len cap : Nat) (hl : len ≤ 1048576) (w : World) (hd : Code a len w.heap.size w) :
    Calls Try.prog 6 #[.slice a len cap] w fun e w' => (∃ d u s Q Y G, e = .returned (.tuple #[d, u]) ∧ GrOwn w' w.heap.size d s Q ∧ PrAt w' u w'.heap.size Y G ∧ graphOk s Q = true ∧ Q.length ≤ 90 ∧ psize Y G ≤ 1048576) ∧ Below w.heap.size w w' := by
  have HD := hide hd
  clear hd
  go_enter Try.func6, Try.ntmps6
  go_wp2_with fail
  obtain ⟨V1, hV1⟩ : ∃ W, W = (w.alloc (Obj.cells #[Value.int .i64 0, Value.slice none 0 0] 26)).alloc (Obj.cells #[Value.slice none 0 0, Value.slice none 0 0] 30) := ⟨_, rfl⟩
  rw [← hV1]
  have b1 : Below w.heap.size w V1 := by rw [hV1]; exact (below_new _ _).alloc (by simp) _
  have y1 : Blk V1 w.heap.size #[.int .i64 0, .slice none 0 0] 26 := by rw [hV1]; exact Blk.new0.alloc
  have x1 : Blk V1 (w.heap.size + 1) #[.slice none 0 0, .slice none 0 0] 30 := by rw [hV1]; exact Blk.new1
  clear hV1
  have hy1 := x1.lt
  have hd1 : Code a len V1.heap.size V1 := fun j hj => by
    obtain ⟨b, off, z, e, hb, hc, hz⟩ := unhide HD j hj
    exact ⟨b, off, z, e, by omega, by rw [b1.cell (p := ⟨b, off + j, none⟩) (by simpa using hb)]; exact hc, hz⟩
  refine (new_any a len cap hl V1 hd1).mono ?_
  rintro e w2 ⟨rfl, hcu, hb2⟩
  have hco : Code a len V1.heap.size w2 := fun j hj => by
    obtain ⟨b, off, z, e, hb, hc, hz⟩ := hd1 j hj
    exact ⟨b, off, z, e, hb, by rw [hb2.cell (p := ⟨b, off + j, none⟩) (by simpa using hb)]; exact hc, hz⟩
  have HG := hide (l08Graph_any a len cap V1.heap.size V1.heap.size hl (Nat.le_refl _) w2 ⟨hcu, hco⟩)
  have y2 := y1.below hb2
  have x2 := x1.below hb2
  have b2 : Below w.heap.size w w2 := b1.trans (hb2.mono b1.size)
  have hs2 := CC.lt (⟨hcu, hco⟩ : CC a len cap V1.heap.size V1.heap.size w2)
  clear hcu hco hd1 b1 y1 x1 hb2
  go_wp2_with fail
  refine (unhide HG).mono ?_
  rintro e w3 ⟨⟨v, rfl, s0, Q, ho, hok, hQ⟩, hcc3, hk3⟩
  have y3 := y2.kept hk3 (by omega)
  have x3 := x2.kept hk3 (by omega)
  have b3 : Below w.heap.size w w3 := b2.trans (hk3.below b2.size (fun i hi => by omega))
  have hs3 : w2.heap.size ≤ w3.heap.size := hk3.2.2.2.1
  obtain ⟨g0, g9, _, _⟩ := graph_sound hok
  obtain ⟨s, rfl⟩ := Int.eq_ofNat_of_zero_le g0
  have ho2 := ho
  have HEB : Hid (∀ k, GrBlk v k → k < w3.heap.size) := fun k hk => (ho.blk k hk).2
  obtain ⟨ve, rfl, hro⟩ := ho
  clear hro
  obtain ⟨ae, ce, hve⟩ := own_shape (w := w3) (B := w2.heap.size) (e := 68) (s := 5) (n := Q.length) (v := ve) (xs := edgesV Q) (by obtain ⟨v1, e1, h1⟩ := ho2; simp at e1; rw [e1]; exact h1)
  subst hve
  obtain ⟨V4, hV4⟩ : ∃ W, W = w3.alloc (Obj.cells #[Value.int .i64 (s : Int), Value.slice ae Q.length ce] 26) := ⟨_, rfl⟩
  have bV4 : Below w3.heap.size w3 V4 := by rw [hV4]; exact below_new _ _
  have m4 : Blk V4 w3.heap.size #[Value.int .i64 (s : Int), Value.slice ae Q.length ce] 26 := by rw [hV4]; exact Blk.new0
  have o4 := ho2.below bV4
  have y4 := y3.below bV4
  have x4 := x3.below bV4
  have c4 := hcc3.below bV4 (Nat.le_refl _)
  have b4 := b3.trans (bV4.mono b3.size)
  have hs4 := m4.lt
  have SR := hide (Sv.solve_read V4 _ (s : Int) Q hok hQ o4.at)
  clear HG y2 x2 b2 hk3 ho2 y3 x3 b3 hcc3 bV4
  go_wp2_with fail
  rw [← hV4]
  clear hV4
  refine (unhide SR).mono ?_
  rintro e w5 ⟨⟨dm, dy, dg, ms, M, Y, G, C, rfl, hM5, hY5, hYC, hC4, hCl, hG5, hYl, hMl, hps⟩, hb5⟩
  have hYs : Y.length = s := by omega
  obtain ⟨ay, cy, rfl⟩ := hY5.at.shape
  rw [hYs] at hYC ⊢
  obtain ⟨V6, hV6⟩ : ∃ W, W = w5.alloc (Obj.cells #[.slice ay s cy, dg] 30) := ⟨_, rfl⟩
  have bV6 : Below w5.heap.size w5 V6 := by rw [hV6]; exact below_new _ _
  have m6 : Blk V6 w5.heap.size #[.slice ay s cy, dg] 30 := by rw [hV6]; exact Blk.new0
  have b46 : Below V4.heap.size V4 V6 := hb5.trans (bV6.mono hb5.size)
  obtain ⟨lg, cg, hdg⟩ := own_shape hG5.2.1
  subst hdg
  have PN0 : PN V1.heap.size V1.heap.size w w3.heap.size w5.heap.size V4.heap.size C s (.slice ae Q.length ce) ay cy :=
    ⟨Nat.le_refl _, by omega, by omega, by omega, hC4, hCl, unhide HEB, hYC⟩
  have PW0 : PW a len cap V1.heap.size V1.heap.size w w3.heap.size w5.heap.size V4.heap.size C s Q (.slice ae Q.length ce) ay cy (.slice lg G.length cg) ms G V6 :=
    ⟨c4.below b46 (Nat.le_refl _), m4.below b46, (o4.below b46).lower (by omega), m6, ⟨Y, hYs, by have h := hY5.below bV6; unfold InOwn at h; rwa [hYs] at h⟩, hG5.below bV6, y4.below b46, x4.below b46, b4.trans (b46.mono b4.size)⟩
  have HPW := hide PW0
  have HPN := hide PN0
  have hz6 := m6.lt
  have HYCy := hide hYC
  clear hM5 hY5 hYC hG5 m6 m4 o4 y4 x4 c4 b4 b46 bV6 hb5 PW0 PN0 SR
  have ON := hide (fun n (h0 : 0 < n) w1 (h : CC a len cap V1.heap.size V1.heap.size w1) => once_cc a len cap V1.heap.size V1.heap.size n hl (Nat.le_refl _) h0 w1 h)
  have BE := hide (fun n (h0 : 0 < n) w1 (h : CC a len cap V1.heap.size V1.heap.size w1) => below_cc a len cap V1.heap.size V1.heap.size n hl (Nat.le_refl _) h0 w1 h)
  generalize hg1 : V1.heap.size = g1 at HPW HPN ON BE
  go_wp2_with fail
  rw [← hV6]
  clear hV6
  obtain ⟨P, hP⟩ : ∃ P : World → Prop, P = PW a len cap g1 g1 w w3.heap.size w5.heap.size V4.heap.size C s Q (.slice ae Q.length ce) ay cy (.slice lg G.length cg) ms G := ⟨_, rfl⟩
  have HP := hide hP
  have HP0 : Hid (P V6) := by show P V6; rw [hP]; exact unhide HPW
  clear hP HPW
  go_loopw [9] (fun i wr => ∃ j : Nat, i = .int .i64 (j : Int) ∧ j ≤ s ∧ Hid (P wr)) (fun i _ => s - (intOf i).toNat)
  case atStart => exact ⟨0, rfl, Nat.zero_le _, HP0⟩
  case round =>
    obtain ⟨j, rfl, hj, HPj⟩ := hrel
    have hp := unhide HPj
    rw [unhide HP] at hp
    have q0 : wr.cell? ⟨w5.heap.size, 0, none⟩ = some (.slice ay s cy) := hp.box.cell 0 _ rfl
    by_cases hlt : j < s
    · have hji : (j : Int) < (s : Int) := by omega
      have ON1 := hide (unhide ON 3 (by omega) wr hp.cc)
      have HPP := hide hp
      clear hp
      go_wp2_with fail
      refine (unhide ON1).mono ?_
      rintro e w7 ⟨⟨bo, rfl⟩, hc7, hk7⟩
      have hp7 := (unhide HPP).drawn (unhide HPN) hc7 hk7
      have HP7 : Hid (P w7) := by show P w7; rw [unhide HP]; exact hp7
      cases bo with
      | false =>
        clear hc7 hk7 hp7 ON1
        go_wp2_with fail
        exact ⟨⟨j + 1, by go_num, by omega, HP7⟩, by simp [intOf]; omega⟩
      | true =>
        obtain ⟨Y7, hy7, ho7⟩ := hp7.ys
        obtain ⟨k7, cap7, hA, hBg, hgl⟩ := ho7.form (by omega)
        simp at hA
        obtain ⟨rfl, rfl⟩ := hA
        have r0 : w7.cell? ⟨w5.heap.size, 0, none⟩ = some (.slice (some ⟨k7, 0, none⟩) s cy) := hp7.box.cell 0 _ rfl
        have BE7 := hide (unhide BE 700 (by omega) w7.drew (hc7.below (Below.refl _ _).drew (Nat.le_refl _)))
        have hce : w7.cell? ⟨k7, j, none⟩ = some (.int .i64 (Y7[j]'(by omega))) := by
          have := ho7.cellAt j (by omega)
          rw [this]
          simp [intsV, show j < Y7.length by omega]
        generalize (Y7[j]'(by omega)) = yv at hce
        have hlt7 : w5.heap.size < w7.heap.size := hp7.box.lt
        have hN := unhide HPN
        have hkl7 := ho7.lt k7 rfl
        have hkg : k7 ≠ g1 := by have := hN.n5; have := hN.nl; omega
        have hbg : w5.heap.size ≠ g1 := by have := hN.n5; have := hN.nl; have := hN.nC; have := hN.n7; omega
        have fz := ho7.frozenAt j
        have HP7P := hide hp7
        have HFZ : Hid (∀ W, Kept (fun k => k = g1) w7.drew W → W.cell? ⟨w5.heap.size, 0, none⟩ = some (.slice (some ⟨k7, 0, none⟩) s cy) ∧ W.cell? ⟨k7, j, none⟩ = some (.int .i64 yv) ∧ W.frozen? ⟨k7, j, none⟩ = false) := fun W hk => by
          refine ⟨((unhide HP7P).box.drew.kept hk (by omega)).cell 0 _ rfl, ?_, ?_⟩
          · have h8 := hk.2.2.2.2 k7 (show k7 < w7.drew.heap.size from hkl7.2) hkg
            have : W.cell? ⟨k7, j, none⟩ = w7.drew.cell? ⟨k7, j, none⟩ := by unfold World.cell?; simp only []; rw [h8]
            rw [this]; exact hce
          · have h8 := hk.2.2.2.2 k7 (show k7 < w7.drew.heap.size from hkl7.2) hkg
            have : W.frozen? ⟨k7, j, none⟩ = w7.drew.frozen? ⟨k7, j, none⟩ := by unfold World.frozen?; simp only []; rw [h8]
            rw [this]; exact fz
        have HPF : Hid (∀ W x, CC a len cap g1 g1 W → Kept (fun k => k = g1) w7.drew W → P (W.setCell ⟨k7, j, none⟩ (.int .i64 x))) := fun W x hc hk => by
          have hk' : Kept (fun k => k = g1) w7 W := (Kept.of_drew w7).trans hk
          rw [unhide HP]
          exact ((unhide HP7P).drawn hN hc hk').setY hN j x
        clear hp7 ho7 hc7 hk7 ON1 HP7
        go_wp2_with fail
        go_region_with
          (go_at_call 21; refine (unhide BE7).mono ?_; rintro e w8 ⟨⟨xb, rfl, xb0, xb1⟩, hc8, hk8⟩; obtain ⟨u0, u1, u2⟩ := unhide HFZ w8 hk8)
        all_goals
          have HP9 := hide (And.intro hc8 hk8)
          clear u0 u1 u2 hc8 hk8
          go_wp2_with fail
          exact ⟨⟨j + 1, by go_num, by omega, unhide HPF w8 _ (unhide HP9).1 (unhide HP9).2⟩, by simp [intOf]; omega⟩
    · have hji : ¬ (j : Int) < (s : Int) := by omega
      have q2 : wr.cell? ⟨w3.heap.size, 0, none⟩ = some (.int .i64 (s : Int)) := hp.ve5.cell 0 _ rfl
      have q3 : wr.cell? ⟨w5.heap.size, 1, none⟩ = some (.slice lg G.length cg) := hp.box.cell 1 _ rfl
      have ON2 := hide (unhide ON 2 (by omega) wr hp.cc)
      have hps0 : psize [] G ≤ 1000000 := by unfold psize at hps ⊢; simp only [List.length_nil]; omega
      have HPP := hide hp
      have s9 : s ≤ 9 := by omega
      clear hp ON
      go_upto_region 9 with fail
      go_cut [53] (fun c wx => ∃ b : Bool, c = .bool b ∧ Hid (b = true → G = []) ∧ Hid (PW a len cap g1 g1 w w3.heap.size w5.heap.size V4.heap.size C s Q (.slice ae Q.length ce) ay cy (.slice lg G.length cg) ms G wx))
      case first =>
        by_cases hs2 : 2 < s
        · have hs2i : (2 : Int) < (s : Int) := by omega
          by_cases hG0 : G.length = 0
          · have hGn : G = [] := List.eq_nil_of_length_eq_zero hG0
            have HGn := hide hGn
            have hG0i : (((G.length : Nat) : Int) == 0) = true := by rw [hG0]; rfl
            have HG0 := hide hG0
            clear hGn hG0
            go_wp2_with fail
            refine (unhide ON2).mono ?_
            rintro e w7 ⟨⟨bo, rfl⟩, hc7, hk7⟩
            have HPX := hide ((unhide HPP).drawn (unhide HPN) hc7 hk7)
            clear hc7 hk7
            go_wp2_with fail
            go_meet
            exact ⟨bo, rfl, fun _ => unhide HGn, unhide HPX⟩
          · have hG0i : (((G.length : Nat) : Int) == 0) = false := by rw [beq_eq_false_iff_ne]; omega
            go_wp2_with fail
            go_meet
            exact ⟨false, rfl, (fun h => by cases h), unhide HPP⟩
        · have hs2i : ¬ (2 : Int) < (s : Int) := by omega
          go_wp2_with fail
          go_meet
          exact ⟨false, rfl, (fun h => by cases h), unhide HPP⟩
      case rest =>
        obtain ⟨bo, rfl, HBG, HPX⟩ := hcut
        obtain ⟨w7, hw7⟩ : ∃ W, W = wc := ⟨_, rfl⟩
        subst hw7
        go_upto_if 53 with fail
        go_cut [] (fun wx => ∃ (dg : Value) (ms : List Value) (G : List GrpI), Hid (PW a len cap g1 g1 w w3.heap.size w5.heap.size V4.heap.size C s Q (.slice ae Q.length ce) ay cy dg ms G wx) ∧ psize [] G ≤ 1000000)
        case first =>
          cases bo with
          | false =>
            go_wp2_with fail
            go_meet
            exact ⟨_, _, _, HPX, hps0⟩
          | true =>
            obtain rfl : G = [] := unhide HBG rfl
            have hp7 := unhide HPX
            obtain ⟨ig, hig, gz0, gz1, gz2⟩ := info_parts info_groupP
            obtain rfl : ms = [] := List.eq_nil_of_length_eq_zero hp7.gs.1
            have HP7 := hide hp7
            have BE9 : Hid (∀ W, Below w7.heap.size w7 W → Calls Try.prog 21 #[.pointer (some ⟨g1, 0, none⟩), .int .i64 9] W fun e w' => (∃ x : Int, e = .returned (.int .i64 x) ∧ 0 ≤ x ∧ x < 9) ∧ CC a len cap g1 g1 w' ∧ Kept (fun k => k = g1) W w') := fun W hb => unhide BE 9 (by omega) W ((unhide HP7).cc.below hb (Nat.le_refl _))
            have HPU : Hid (∀ U W, Below w7.heap.size w7 U → CC a len cap g1 g1 W → Kept (fun k => k = g1) U W → PW a len cap g1 g1 w w3.heap.size w5.heap.size V4.heap.size C s Q (.slice ae Q.length ce) ay cy (.slice lg 0 cg) [] [] W) := fun U W hb hc hk => ((unhide HP7).below (unhide HPN) hb).drawn (unhide HPN) hc hk
            have k1 : w7.cell? ⟨w5.heap.size, 1, none⟩ = some (.slice lg 0 cg) := hp7.box.cell 1 _ rfl
            have hz7 := hp7.box.lt
            have hN7 := unhide HPN
            have hg7 : w7.heap.size ≠ g1 := by have := hN7.n5; have := hN7.nl; have := hN7.nC; have := hN7.n7; omega
            have hC7 : C ≤ w7.heap.size := by have := hN7.n7; omega
            have h57 : w7.heap.size ≠ w5.heap.size := by omega
            clear hp7 hps0 hN7
            go_wp2_with fail
            go_region_law
              (first
                | (refine step_call (by rfl) 21 #[.tmp 57, .const (.int .i64 9)] _ (by rfl) #[.pointer (some ⟨g1, 0, none⟩), .int .i64 9] (by first | rfl | (simp [Act.eval]; done) | (show _ = _; kernel_rfl)) enterBelowP _ (unhide BE9 _ (by first | exact (Below.refl _ _).drew | exact ((Below.refl _ _).alloc (Nat.le_refl _) _).drew | exact (Below.refl _ _).drew.alloc (Nat.le_refl _) _)) ?_; rintro e w8 ⟨⟨xb, rfl, xb0, xb1⟩, hc8, hk8⟩; refine ⟨_, rfl, ?_⟩; have HP8 := hide (unhide HPU _ w8 (by first | exact (Below.refl _ _).drew | exact ((Below.refl _ _).alloc (Nat.le_refl _) _).drew | exact (Below.refl _ _).drew.alloc (Nat.le_refl _) _) hc8 hk8); have k1 : w8.cell? ⟨w5.heap.size, 1, none⟩ = some (.slice lg 0 cg) := (unhide HP8).box.cell 1 _ rfl; have HK8 := hide hk8; have hz8 := (unhide HP8).box.lt; clear hc8 hk8)
                | (refine step_append_lies _ (by rfl) _ _ _ (by rfl) C 54 ig _ 2 32 Try.underlying28 hig gz0 gz1 gz2 rfl (by omega) (.slice lg 0 cg) 0 [] (by rfl) (by first | exact (unhide HP8).gs.2.1.alloc _ | exact ((unhide HP8).gs.2.1.alloc _).alloc _ | exact ((unhide HP8).gs.2.1.alloc _).drew) ⟨w8.heap.size, 0, none⟩ 1 1 [.slice (some ⟨w7.heap.size, 0, none⟩) 3 3, .int .i64 (IntKind.i64.wrap (1 + xb))] (by first | rfl | (simp [Act.eval]; done) | (show _ = _; kernel_rfl)) (by rfl) (World.news_of_block (heap_alloc_new w8 _)) (by simp [Value.oneCell']) (by omega) (by unfold maxLen; omega) (by omega) (by have := (unhide HPN).n7; simp; omega) (w8.heap.size + 1) (by simp) ?_; intro g9 cap9 w9 hown9 hgrow9 hat9 hlt9; have bx9 : Blk w9 w5.heap.size #[.slice ay s cy, .slice lg 0 cg] 30 := (by first | exact ((unhide HP8).box.alloc).grown hgrow9 ((unhide HP8).box.apart (unhide HP8).gs.2.1 (by decide)) | exact (((unhide HP8).box.alloc).alloc).grown hgrow9 ((unhide HP8).box.apart (unhide HP8).gs.2.1 (by decide))); have k3 : w9.cell? ⟨w5.heap.size, 1, none⟩ = some (.slice lg 0 cg) := bx9.cell 1 _ rfl; have f3 := bx9.froz 1; have hz9 := bx9.lt; clear bx9)
                | (refine step_append_lies _ (by rfl) _ _ _ (by rfl) C 54 ig _ 2 32 Try.underlying28 hig gz0 gz1 gz2 rfl (by omega) (.slice lg 0 cg) 0 [] (by rfl) (by first | exact (unhide HP8).gs.2.1.alloc _ | exact ((unhide HP8).gs.2.1.alloc _).alloc _ | exact ((unhide HP8).gs.2.1.alloc _).drew) ⟨w8.heap.size + 1, 0, none⟩ 1 1 [.slice (some ⟨w8.heap.size, 0, none⟩) 3 3, .int .i64 (IntKind.i64.wrap (1 + xb))] (by first | rfl | (simp [Act.eval]; done) | (show _ = _; kernel_rfl)) (by rfl) (World.news_of_block Blk.new1) (by simp [Value.oneCell']) (by omega) (by unfold maxLen; omega) (by omega) (by have := (unhide HPN).n7; simp; omega) (w8.heap.size + 1 + 1) (by simp) ?_; intro g9 cap9 w9 hown9 hgrow9 hat9 hlt9; have bx9 : Blk w9 w5.heap.size #[.slice ay s cy, .slice lg 0 cg] 30 := (by first | exact ((unhide HP8).box.alloc).grown hgrow9 ((unhide HP8).box.apart (unhide HP8).gs.2.1 (by decide)) | exact (((unhide HP8).box.alloc).alloc).grown hgrow9 ((unhide HP8).box.apart (unhide HP8).gs.2.1 (by decide))); have k3 : w9.cell? ⟨w5.heap.size, 1, none⟩ = some (.slice lg 0 cg) := bx9.cell 1 _ rfl; have f3 := bx9.froz 1; have hz9 := bx9.lt; clear bx9))
            all_goals
              have HPZ : Hid (PW a len cap g1 g1 w w3.heap.size w5.heap.size V4.heap.size C s Q (.slice ae Q.length ce) ay cy (.slice (some ⟨g9, 0, none⟩) 1 cap9) _ [⟨[0, 1, 2], _⟩] (w9.setCell ⟨w5.heap.size, 1, none⟩ (.slice (some ⟨g9, 0, none⟩) 1 cap9))) := (by
                first
                  | exact PW.appended ((unhide HP8).below (unhide HPN) (below_new _ _)) (unhide HPN) ((Blk.new0.drew.kept (unhide HK8) hg7).alloc) hC7 h57 hgrow9 hown9
                  | exact PW.appended ((unhide HP8).below (unhide HPN) ((below_new _ _).alloc (by simp) _)) (unhide HPN) Blk.new0.alloc (by have := (unhide HPN).n7; omega) (by omega) hgrow9 hown9)
              clear k1 k3 f3 hown9 hgrow9 hat9 hlt9 HK8 HP8
              go_wp2_with fail

              go_meet
              exact ⟨_, _, _, HPZ, by simp [psize, gbulk]⟩
        case rest =>
          obtain ⟨dg, ms', G', HPX', hps'⟩ := hcut
          obtain ⟨lg', cg', hdg'⟩ := own_shape (unhide HPX').gs.2.1
          subst hdg'
          have HPE := hide (unhide HPX')
          have HDN := hide ((unhide HPE).done (unhide HPN) (by assumption) (by omega))
          have l0 : wc.cell? ⟨w3.heap.size, 0, none⟩ = some (.int .i64 (s : Int)) := (unhide HPE).ve5.cell 0 _ rfl
          have l1 : wc.cell? ⟨w3.heap.size, 1, none⟩ = some (.slice ae Q.length ce) := (unhide HPE).ve5.cell 1 _ rfl
          have l2 : wc.cell? ⟨w5.heap.size, 0, none⟩ = some (.slice ay s cy) := (unhide HPE).box.cell 0 _ rfl
          have l3 : wc.cell? ⟨w5.heap.size, 1, none⟩ = some (.slice lg' G'.length cg') := (unhide HPE).box.cell 1 _ rfl
          have t0 : wc.cell? ⟨w.heap.size, 0, none⟩ = some (.int .i64 0) := (unhide HPE).r1.cell 0 _ rfl
          have t1 : wc.cell? ⟨w.heap.size, 1, none⟩ = some (.slice none 0 0) := (unhide HPE).r1.cell 1 _ rfl
          have t2 : wc.cell? ⟨w.heap.size + 1, 0, none⟩ = some (.slice none 0 0) := (unhide HPE).r2.cell 0 _ rfl
          have t3 : wc.cell? ⟨w.heap.size + 1, 1, none⟩ = some (.slice none 0 0) := (unhide HPE).r2.cell 1 _ rfl
          have f0 := (unhide HPE).r1.froz 0
          have f1 := (unhide HPE).r1.froz 1
          have f2 := (unhide HPE).r2.froz 0
          have f3 := (unhide HPE).r2.froz 1
          have z1 : w.heap.size < wc.heap.size := (unhide HPE).r1.lt
          have z2 : w.heap.size + 1 < wc.heap.size := (unhide HPE).r2.lt
          go_wp2_with fail
          go_region
          go_wp2_with fail
          (try simp only [Exit.inBlock, Exit.then])
          obtain ⟨k1, k2, k3, ⟨Y9, k4, k5⟩, k6⟩ := unhide HDN
          refine bodyPost_ret (results_gp Try.results6 _ _ w.heap.size (w.heap.size + 1) _ _ _ _ rfl rfl k1.drew k2.drew) rfl ?_
          exact ⟨⟨_, _, _, Q, Y9, _, rfl, k3.below (Below.refl _ _).drew, k4.below (Below.refl _ _).drew (Nat.le_refl _), hok, hQ, k5⟩, k6.drew⟩


end Gr
end Go.Proofs.Ytooglfbhlncjlaa
