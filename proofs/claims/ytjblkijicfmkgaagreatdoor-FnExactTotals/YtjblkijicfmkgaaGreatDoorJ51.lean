/-
 Lg14, Lg15, Lg16, Lg18.
-/
import Derived.Test.YtjblkijicfmkgaaGreatDoorJ46
import Derived.Test.YtjblkijicfmkgaaGreatDoorJ47
import Derived.Test.YtjblkijicfmkgaaGreatDoorJ48
import Derived.Test.YtjblkijicfmkgaaGreatDoorJ50
import Derived.Laws.EntriesVeiled
import Derived.Test.YtjblkijicfmkgaaGreatDoorJ34
import Derived.Test.YtjblkijicfmkgaaGreatDoorJ33
import Derived.Test.YtjblkijicfmkgaaGreatDoorJ3
namespace Go.Proofs.YtjblkijicfmkgaaGreatDoor
namespace Rg
open Go.RowKit
open Gr (Blk Kept)
def totNext (x : TotI) (s : Gr.SumsI) : TotI := { x with R := x.R + 1, S := plusS x.S s }
theorem tot_set {W : World} {g : Nat} {x : TotI} {s : Gr.SumsI} (h : Blk W g (totC { x with R := x.R + 1 }) 27) : Blk (((W.setCell ⟨g, 4, none⟩ (.int .i64 (plusS x.S s).W1)).setCell ⟨g, 5, none⟩ (.int .i64 (plusS x.S s).W2)).setCell ⟨g, 6, none⟩ (.int .i64 (plusS x.S s).W3)) g (totC (totNext x s)) 27 :=
  ((h.set 4 _).set 5 _).set 6 _
theorem tot_set0 {W : World} {g : Nat} {x : TotI} (h : Blk W g (totC x) 27) : Blk (W.setCell ⟨g, 0, none⟩ (.int .i64 (x.R + 1))) g (totC { x with R := x.R + 1 }) 27 := h.set 0 _
set_option maxRecDepth 100000 in
set_option maxHeartbeats 1000000 in
theorem withRound_any (x : TotI) (B : Nat) (pv tv : Value) (L : List ByteArray) (hs : (joinB L).size ≤ 1048576) (hL : L.length ≤ 1048576) (hmo : Gr.matchOk (cV L).s (cV L).Q (cV L).M = true) (hcs : Gr.csize (cV L).Q (cV L).M (cV L).Y (cV L).G ≤ 1048576) (hsb : Gr.SB (Gr.sums (cV L).Q (cV L).M) 9) (hx : 0 ≤ x.R ∧ x.R ≤ 1000) (hxS : Gr.SB x.S 900) (w : World) (hp : ∃ a n c, pv = .slice a n c) (ht : w.ownsRow B 9 1 tv L.length (Gr.textsV L)) :
    Calls Tryz.prog 36 #[x.v, .agg #[pv, tv]] w fun e w' => e = .returned (totNext x (Gr.sums (cV L).Q (cV L).M)).v ∧ Below w.heap.size w w' := by
  have CE := hide (fun w1 (hb : Below w.heap.size w w1) => cert_any B pv tv L hs hL w1 hp (Gr.own_below ht hb))
  obtain ⟨pa, pn, pc, rfl⟩ := hp
  obtain ⟨ta, tc, rfl⟩ := row_shape0 ht
  generalize cOk L = ok at CE
  generalize cV L = C at CE hmo hcs hsb ⊢
  have hsr : Gr.sumsR C.s C.Q C.M = Gr.sums C.Q C.M := by unfold Gr.sumsR; rw [if_pos hmo]
  obtain ⟨l1, l2, _⟩ := Gr.csize_le hcs
  have SU := hide (fun v u w1 (hv : Gr.GrAt w1 v w1.heap.size C.s C.Q) (hu : Gr.CoAt w1 u w1.heap.size C.M) => Gr.implSumsOf_gen w1.heap.size v C.s C.Q u C.M l1 l2 w1 (Nat.le_refl _) hv hu)
  rw [hsr, hmo] at SU
  have TG := hide (fun w1 => together_any x.S (Gr.sums C.Q C.M) (hxS.mono (by omega)) (hsb.mono (by omega)) w1)
  generalize Gr.sums C.Q C.M = S1 at SU TG hsb ⊢
  clear ht hmo hsr
  obtain ⟨V1, hV1⟩ : ∃ W, W = ((w.alloc (Obj.cells (totC x) 27)).alloc (Obj.cells #[.slice pa pn pc, .slice ta L.length tc] 98)).alloc (Obj.cells (totC totZ) 27) := ⟨_, rfl⟩
  have b1 : Below w.heap.size w V1 := by rw [hV1]; exact ((Gr.below_new _ _).alloc (by simp) _).alloc (by simp; omega) _
  have H2 : Hid (Blk V1 w.heap.size (totC x) 27) := by show Blk _ _ _ _; rw [hV1]; exact Gr.Blk.new0.alloc.alloc
  have x3 : Blk V1 (w.heap.size + 1) #[.slice pa pn pc, .slice ta L.length tc] 98 := by rw [hV1]; exact Gr.Blk.new1.alloc
  have H4 : Hid (Blk V1 (w.heap.size + 1 + 1) (totC totZ) 27) := by show Blk _ _ _ _; rw [hV1]; exact Gr.Blk.new2
  have p0 : V1.cell? ⟨w.heap.size + 1, 0, none⟩ = some (.slice pa pn pc) := x3.cell 0 _ rfl
  have p1 : V1.cell? ⟨w.heap.size + 1, 1, none⟩ = some (.slice ta L.length tc) := x3.cell 1 _ rfl
  rw [hV1] at p0 p1
  clear x3
  unfold TotI.v
  unfold totC totZ at hV1 p0 p1
  go_enter Tryz.func36, Tryz.ntmps36
  go_wp2_with fail
  rw [← hV1]
  clear hV1 p0 p1
  refine (unhide CE V1 b1).mono ?_
  rintro e w2 ⟨⟨d, rfl, hd⟩, hb2⟩
  have hat := hd.at hcs
  obtain ⟨a1, k1, a2, k2, a3, k3, a4, k4, rfl⟩ := crown_shape hd
  have b2 := b1.trans (hb2.mono b1.size)
  have H22 := hide ((unhide H2).below hb2)
  have H42 := hide ((unhide H4).below hb2)
  obtain ⟨a1', k1', a2', k2', a3', k3', a4', k4', e2, hg, hco, _⟩ := hat
  simp only [Value.agg.injEq, Array.mk.injEq, List.cons.injEq, Value.slice.injEq, true_and, and_true] at e2
  obtain ⟨⟨rfl, rfl⟩, ⟨rfl, rfl⟩, ⟨rfl, rfl⟩, rfl, rfl⟩ := e2
  obtain ⟨W3, hW3⟩ : ∃ W, W = w2.alloc (Obj.cells #[Value.int .i64 C.s, Value.slice a1 C.Q.length k1, Value.slice a2 C.M.length k2, Value.slice a3 C.Y.length k3, Value.slice a4 C.G.length k4] 59) := ⟨_, rfl⟩
  have n3 : Below w2.heap.size w2 W3 := by rw [hW3]; exact Gr.below_new _ _
  have x5 : Blk W3 w2.heap.size #[Value.int .i64 C.s, Value.slice a1 C.Q.length k1, Value.slice a2 C.M.length k2, Value.slice a3 C.Y.length k3, Value.slice a4 C.G.length k4] 59 := by rw [hW3]; exact Gr.Blk.new0
  have q0 : W3.cell? ⟨w2.heap.size, 0, none⟩ = some (Value.int .i64 C.s) := x5.cell 0 _ rfl
  have q1 : W3.cell? ⟨w2.heap.size, 1, none⟩ = some (Value.slice a1 C.Q.length k1) := x5.cell 1 _ rfl
  have q2 : W3.cell? ⟨w2.heap.size, 2, none⟩ = some (Value.slice a2 C.M.length k2) := x5.cell 2 _ rfl
  have SUw := hide (unhide SU _ _ W3 ((hg.below n3 (Nat.le_refl _)).mono n3.size) ((hco.below n3 (Nat.le_refl _)).mono n3.size))
  have b3 := b2.trans (n3.mono b2.size)
  have H23 := hide ((unhide H22).below n3)
  have H43 := hide ((unhide H42).below n3)
  clear hd hb2 hg hco b1 b2 H2 H4 H22 H42 x5 n3 CE SU
  rw [hW3] at q0 q1 q2
  go_wp2_with fail
  rw [← hW3]
  clear hW3 q0 q1 q2
  refine (unhide SUw).mono ?_
  rintro e w4 ⟨⟨d4, rfl, hd4⟩, hb4⟩
  unfold Gr.SuOwn at hd4
  subst hd4
  have b4 := b3.trans (hb4.mono b3.size)
  have x6 := (unhide H23).below hb4
  have H64 := hide ((unhide H43).below hb4)
  have H26 := hide x6
  have x7 := x6.below (Gr.below_new w4 (Obj.cells #[Value.int .i64 S1.W1, Value.int .i64 S1.W2, Value.int .i64 S1.W3] 25))
  have r0 : (w4.alloc (Obj.cells #[Value.int .i64 S1.W1, Value.int .i64 S1.W2, Value.int .i64 S1.W3] 25)).cell? ⟨w.heap.size, 0, none⟩ = some (.int .i64 x.R) := x7.cell 0 _ rfl
  have f0 := x7.froz 0
  obtain ⟨W6, hW6⟩ : ∃ W, W = (w4.setCell ⟨w.heap.size, 0, none⟩ (.int .i64 (x.R + 1))).alloc (Obj.cells #[Value.int .i64 S1.W1, Value.int .i64 S1.W2, Value.int .i64 S1.W3] 25) := ⟨_, rfl⟩
  have x8 : Blk W6 w.heap.size (totC { x with R := x.R + 1 }) 27 := by rw [hW6]; exact (tot_set0 x6).alloc
  have x9 : Blk W6 w4.heap.size #[Value.int .i64 S1.W1, Value.int .i64 S1.W2, Value.int .i64 S1.W3] 25 := by
    rw [hW6]
    have h := Gr.Blk.new0 (W := w4.setCell ⟨w.heap.size, 0, none⟩ (.int .i64 (x.R + 1))) (C := #[Value.int .i64 S1.W1, Value.int .i64 S1.W2, Value.int .i64 S1.W3]) (t := 25)
    rwa [show (w4.setCell ⟨w.heap.size, 0, none⟩ (.int .i64 (x.R + 1))).heap.size = w4.heap.size from by simp [World.setCell]] at h
  have r4 : W6.cell? ⟨w.heap.size, 4, none⟩ = some (.int .i64 x.S.W1) := x8.cell 4 _ rfl
  have r5 : W6.cell? ⟨w.heap.size, 5, none⟩ = some (.int .i64 x.S.W2) := x8.cell 5 _ rfl
  have r6 : W6.cell? ⟨w.heap.size, 6, none⟩ = some (.int .i64 x.S.W3) := x8.cell 6 _ rfl
  have t0 : W6.cell? ⟨w4.heap.size, 0, none⟩ = some (.int .i64 S1.W1) := x9.cell 0 _ rfl
  have t1 : W6.cell? ⟨w4.heap.size, 1, none⟩ = some (.int .i64 S1.W2) := x9.cell 1 _ rfl
  have t2 : W6.cell? ⟨w4.heap.size, 2, none⟩ = some (.int .i64 S1.W3) := x9.cell 2 _ rfl
  have H86 := hide x8
  have H46 : Hid (Blk W6 (w.heap.size + 1 + 1) (totC totZ) 27) := by show Blk _ _ _ _; rw [hW6]; exact ((unhide H64).set_other (by omega) 0 _).alloc
  have HB6 : Hid (Below w.heap.size w W6) := by
    show Below _ _ _
    rw [hW6]
    have h := b4.setCell (p := ⟨w.heap.size, 0, none⟩) (Nat.le_refl _) (.int .i64 (x.R + 1))
    exact h.alloc h.size _
  have hl0 : w.heap.size < w4.heap.size := x6.lt
  clear x7 x8 x9
  rw [hW6] at r4 r5 r6 t0 t1 t2
  have hl4 := (unhide H64).lt
  have HB4 := hide b4
  clear x6 b3 b4 hb4 H23 H43 SUw H26 HB4
  unfold Gr.SumsI.v at TG ⊢
  go_wp2_with fail
  rw [← hW6] at r4 r5 r6 t0 t1 t2 ⊢
  clear hW6 r0 f0 r4 r5 r6 t0 t1 t2
  refine (unhide TG _).mono ?_
  rintro e w7 ⟨rfl, hb7⟩
  have x7 := (unhide H86).below hb7
  have x4 := (unhide H46).below hb7
  have b7 := (unhide HB6).trans (hb7.mono (unhide HB6).size)
  have z4 := x7.froz 4
  have z5 := x7.froz 5
  have z6 := x7.froz 6
  have g4 : w7.cell? ⟨w.heap.size, 4, none⟩ = some (.int .i64 x.S.W1) := x7.cell 4 _ rfl
  have g5 : w7.cell? ⟨w.heap.size, 5, none⟩ = some (.int .i64 x.S.W2) := x7.cell 5 _ rfl
  have g6 : w7.cell? ⟨w.heap.size, 6, none⟩ = some (.int .i64 x.S.W3) := x7.cell 6 _ rfl
  obtain ⟨W8, hW8⟩ : ∃ W, W = ((w7.setCell ⟨w.heap.size, 4, none⟩ (.int .i64 (plusS x.S S1).W1)).setCell ⟨w.heap.size, 5, none⟩ (.int .i64 (plusS x.S S1).W2)).setCell ⟨w.heap.size, 6, none⟩ (.int .i64 (plusS x.S S1).W3) := ⟨_, rfl⟩
  have x8 : Blk W8 w.heap.size (totC (totNext x S1)) 27 := by rw [hW8]; exact tot_set x7
  have y8 : Blk W8 (w.heap.size + 1 + 1) (totC totZ) 27 := by rw [hW8]; exact ((x4.set_other (by omega) 4 _).set_other (by omega) 5 _).set_other (by omega) 6 _
  have b8 : Below w.heap.size w W8 := by
    rw [hW8]
    exact ((b7.setCell (p := ⟨w.heap.size, 4, none⟩) (Nat.le_refl _) _).setCell (p := ⟨w.heap.size, 5, none⟩) (Nat.le_refl _) _).setCell (p := ⟨w.heap.size, 6, none⟩) (Nat.le_refl _) _
  have HR1 := hide x8.range
  have HR5 : Hid (W8.there (w.heap.size + 1 + 1) 0 (totC (totNext x S1)).size) := y8.there 0 _ (Nat.le_refl 7)
  have hi1 := hide (infoTotL (totNext x S1))
  have hi2 := hide (infoTotF (totNext x S1))
  have h1 := hide (tot_one (totNext x S1))
  have HF := hide (tot_put (y := totNext x S1) y8)
  have HB := hide (Gr.below_setCells w.heap.size (w.heap.size + 1 + 1) (by omega) (totC (totNext x S1)).toList 0 W8 w b8)
  obtain ⟨T, hT⟩ : ∃ T, T = totNext x S1 := ⟨_, rfl⟩
  rw [← hT] at HR1 HR5 hi1 hi2 h1 HF HB
  have HTT := hide hT
  generalize hC : totC T = D at HR1 HR5 hi1 hi2 h1
  have HCE := hide hC
  clear hC hT x7 x4 x8 y8 b7 b8 hb7 H86 H46 HB6
  rw [hW8] at HR1 HR5
  go_wp2_with (first
    | refine wpList_load_mid rfl 27 _ rfl w.heap.size 0 rfl D.toList _ (unhide HR1) Tryz.underlying27 rfl (unhide hi1) ?_
    | refine wpList_store_mid rfl 27 _ _ rfl (w.heap.size + 1 + 1) 0 D rfl rfl (unhide HR5) (unhide hi2) (unhide h1) ?_)
  rw [← hW8]
  have hc := unhide HCE
  subst hc
  (try simp only [Exit.inBlock, Exit.then])
  refine bodyPost_ret (results_tot Tryz.results36 _ _ (w.heap.size + 1 + 1) T rfl (unhide HF)) rfl ?_
  exact ⟨by rw [unhide HTT]; rfl, unhide HB⟩
def totTo (Q : PL) (x : TotI) (j : Nat) : TotI := { x with R := x.R + (j : Int), S := plusS x.S (sumQ Q j) }
theorem plus_assoc' (a b c : Gr.SumsI) : plusS a (plusS b c) = plusS (plusS a b) c := by
  unfold plusS
  simp only [Gr.SumsI.mk.injEq]
  omega
theorem totTo_step (Q : PL) (x : TotI) (j : Nat) : totTo Q x (j + 1) = totNext (totTo Q x j) (Gr.sums (Gr.rcV (textP Q j)).Q (Gr.rcV (textP Q j)).M) := by
  unfold totTo totNext
  simp only [TotI.mk.injEq, true_and]
  refine ⟨by omega, ?_⟩
  rw [sumQ]
  exact plus_assoc' _ _ _
set_option maxRecDepth 100000 in
set_option maxHeartbeats 1000000 in
theorem foldTot_any (B : Nat) (rv : Value) (vs : List (Value × Value)) (L : List (List Int × List ByteArray)) (f : Nat → TotI) (x : TotI) (h6 : L.length ≤ 1000) (h0 : f 0 = x) (hf : ∀ j (h : j < L.length), f (j + 1) = totNext (f j) (Gr.sums (cV L[j].2).Q (cV L[j].2).M)) (hfb : ∀ j, j ≤ L.length → (0 ≤ (f j).R ∧ (f j).R ≤ 1000) ∧ Gr.SB (f j).S 900) (hL : ∀ j (h : j < L.length), (joinB L[j].2).size ≤ 1048576 ∧ L[j].2.length ≤ 1048576 ∧ Gr.matchOk (cV L[j].2).s (cV L[j].2).Q (cV L[j].2).M = true ∧ Gr.csize (cV L[j].2).Q (cV L[j].2).M (cV L[j].2).Y (cV L[j].2).G ≤ 1048576 ∧ Gr.SB (Gr.sums (cV L[j].2).Q (cV L[j].2).M) 9) (w : World) (hR : RdsAt w B rv vs L) :
    Calls Tryz.prog 34 #[rv, x.v, .func (.func 36) #[] #[]] w fun e w' => e = .returned (f L.length).v ∧ Below w.heap.size w w' := by
  obtain ⟨ra, rc, rfl⟩ := row_shape0 hR.own
  have HT := hide (fun y pv tv M' hs hL' hmo hcs hsb hx hxS w1 hp ht => withRound_any y B pv tv M' hs hL' hmo hcs hsb hx hxS w1 hp ht)
  have HR := hide hR
  have HF := hide hf
  have HFB := hide hfb
  have HLL := hide hL
  have HF0 := hide h0
  obtain ⟨T, hT⟩ : ∃ T, T = f L.length := ⟨_, rfl⟩
  rw [← hT]
  have HTE := hide hT
  obtain ⟨V2, hV2⟩ : ∃ W, W = (w.alloc (Obj.cells #[.int .i64 x.R, .int .i64 x.P, .int .i64 x.H, .int .i64 x.L, .int .i64 x.S.W1, .int .i64 x.S.W2, .int .i64 x.S.W3] 27)).alloc (Obj.cells #[Value.int .i64 0, Value.int .i64 0, Value.int .i64 0, Value.int .i64 0, Value.int .i64 0, Value.int .i64 0, Value.int .i64 0] 27) := ⟨_, rfl⟩
  have b2 : Below w.heap.size w V2 := by rw [hV2]; exact (Gr.below_new _ _).alloc (by simp) _
  have HX2 : Hid (Blk V2 w.heap.size (totC (f 0)) 27) := by show Blk _ _ _ _; rw [h0, hV2]; exact Gr.Blk.new0.alloc
  have HZ2 : Hid (Blk V2 (w.heap.size + 1) (totC totZ) 27) := by show Blk _ _ _ _; rw [hV2]; exact Gr.Blk.new1
  clear hR hf hfb hL h0 hT
  unfold TotI.v
  go_enter Tryz.func34, Tryz.ntmps34
  go_wp2_with fail
  rw [← hV2]
  clear hV2
  go_loopw [11] (fun iv wr => ∃ (j : Nat), iv = .int .i64 (j : Int) ∧ j ≤ L.length ∧ Hid (Blk wr w.heap.size (totC (f j)) 27) ∧ Hid (Blk wr (w.heap.size + 1) (totC totZ) 27) ∧ Below w.heap.size w wr) (fun iv _ => L.length - (intOf iv).toNat)
  case atStart => exact ⟨0, rfl, Nat.zero_le _, unhide HX2, unhide HZ2, b2⟩
  case round =>
    obtain ⟨j, rfl, hj, HX, HZ, hb⟩ := hrel
    clear HX2 HZ2 b2
    by_cases hlt : j < L.length
    · have hR := (unhide HR).below hb
      have hjv : j < vs.length := by rw [hR.len]; exact hlt
      have hpool := hR.pool j hjv hlt
      have hpart := hR.part j hjv hlt
      obtain ⟨pa, pc, hpv⟩ := row_shape0 hpool
      obtain ⟨ta, tc, htv⟩ := row_shape0 hpart
      obtain ⟨gv, hgv⟩ : ∃ gv, ra = some ⟨gv, 0, none⟩ := by
        rcases hR.own.2 with ⟨h1, h2⟩ | ⟨gv, cap, cur, h1, _⟩
        · omega
        · simp at h1; exact ⟨gv, h1.1⟩
      subst hgv
      have q0 : wr.cell? ⟨gv, j * 2, none⟩ = some (.slice pa L[j].1.length pc) := by rw [hR.own.cellAt (j * 2) (by omega), ← hpv]; exact (flat_at vs j hjv).1
      have q1 : wr.cell? ⟨gv, j * 2 + 1, none⟩ = some (.slice ta L[j].2.length tc) := by rw [hR.own.cellAt (j * 2 + 1) (by omega), ← htv]; exact (flat_at vs j hjv).2
      rw [htv] at hpart
      obtain ⟨g1, g2, g3, g4, g5⟩ := unhide HLL j hlt
      obtain ⟨g6, g7⟩ := unhide HFB j hj
      have hFj := unhide HF j hlt
      have n9 := Gr.below_new wr (Obj.cells #[.slice pa L[j].1.length pc, .slice ta L[j].2.length tc] 98)
      have hTj := hide (unhide HT (f j) (.slice pa L[j].1.length pc) (.slice ta L[j].2.length tc) L[j].2 g1 g2 g3 g4 g5 g6 g7 (wr.alloc (Obj.cells #[.slice pa L[j].1.length pc, .slice ta L[j].2.length tc] 98)) ⟨_, _, _, rfl⟩ (Gr.own_below hpart n9))
      rw [← hFj] at hTj
      have X9 := (unhide HX).below n9
      have HX9 := hide X9
      have HZ9 := hide ((unhide HZ).below n9)
      have HB9 := hide (hb.trans (n9.mono hb.size))
      have HR1 := hide X9.range
      have hi1 := hide (infoTotL (f j))
      have hyv : (f j).v = .agg (totC (f j)) := rfl
      rw [hyv] at hTj
      have hx0 : (0 : Int) ≤ (j : Int) := by omega
      have hx1 : (j : Int) < ((L.length : Nat) : Int) := by omega
      clear hR hpool hpart hpv htv g1 g2 g3 g4 g5 g6 g7 hFj n9 X9 hyv HX HZ hb
      obtain ⟨y2, hy2⟩ : ∃ y, y = f (j + 1) := ⟨_, rfl⟩
      rw [← hy2] at hTj
      have HY2 := hide hy2
      have hyv2 : y2.v = .agg (totC y2) := rfl
      rw [hyv2] at hTj
      have hi2 := hide (infoTotF y2)
      have h1 := hide (tot_one y2)
      clear hy2 hyv2
      generalize L[j].1.length = pl at *
      generalize L[j].2.length = tl at *
      generalize hC : totC (f j) = D at HR1 hi1 hTj
      clear hC
      generalize hE : totC y2 = E at hTj hi2 h1
      have HEE := hide hE
      clear hE
      go_wp2_with (refine wpList_load_mid rfl 27 _ rfl w.heap.size 0 rfl D.toList _ (unhide HR1) Tryz.underlying27 rfl (unhide hi1) ?_)
      refine (unhide hTj).mono ?_
      rintro e w5 ⟨rfl, hb5⟩
      have X5 := (unhide HX9).below hb5
      have Z5 := (unhide HZ9).below hb5
      have b5 := (unhide HB9).trans (hb5.mono (unhide HB9).size)
      have HR5 : Hid (w5.there w.heap.size 0 E.size) := X5.there 0 _ (by rw [← unhide HEE]; exact Nat.le_refl 7)
      have HX5 : Hid (Blk (w5.setCells w.heap.size 0 E.toList) w.heap.size (totC (f (j + 1))) 27) := by
        show Blk _ _ _ _
        rw [← unhide HEE, ← unhide HY2]
        exact tot_put X5
      have HZ5 : Hid (Blk (w5.setCells w.heap.size 0 E.toList) (w.heap.size + 1) (totC totZ) 27) := Gr.Blk.many_other (by omega) _ _ Z5
      have HB5 := hide (Gr.below_setCells w.heap.size w.heap.size (Nat.le_refl _) E.toList 0 w5 w b5)
      clear X5 Z5 b5 hb5 hTj HX9 HZ9 HB9 HR1 hi1 HEE HY2
      go_wp2_with (refine wpList_store_mid rfl 27 _ _ rfl w.heap.size 0 E rfl rfl (unhide HR5) (unhide hi2) (unhide h1) ?_)
      exact ⟨⟨j + 1, by go_num, by omega, unhide HX5, unhide HZ5, unhide HB5⟩, by simp [intOf]; omega⟩
    · obtain rfl : j = L.length := by omega
      rw [← unhide HTE] at HX
      have hX := unhide HX
      have HR1 := hide hX.range
      have HR5 : Hid (wr.there (w.heap.size + 1) 0 (totC T).size) := (unhide HZ).there 0 _ (Nat.le_refl 7)
      have hi1 := hide (infoTotL T)
      have hi2 := hide (infoTotF T)
      have h1 := hide (tot_one T)
      have HF := hide (tot_put (y := T) (unhide HZ))
      have HB := hide (Gr.below_setCells w.heap.size (w.heap.size + 1) (by omega) (totC T).toList 0 wr w hb)
      generalize hC : totC T = D at HR1 HR5 hi1 hi2 h1
      have HCE := hide hC
      clear hC HX HZ hX hb
      go_wp2_with (first
        | refine wpList_load_mid rfl 27 _ rfl w.heap.size 0 rfl D.toList _ (unhide HR1) Tryz.underlying27 rfl (unhide hi1) ?_
        | refine wpList_store_mid rfl 27 _ _ rfl (w.heap.size + 1) 0 D rfl rfl (unhide HR5) (unhide hi2) (unhide h1) ?_)
      have hc := unhide HCE
      subst hc
      (try simp only [Exit.inBlock, Exit.then])
      refine bodyPost_ret (results_tot Tryz.results34 _ _ (w.heap.size + 1) T rfl (unhide HF)) rfl ?_
      exact ⟨rfl, unhide HB⟩
end Rg
end Go.Proofs.YtjblkijicfmkgaaGreatDoor
namespace Go.Proofs.YtjblkijicfmkgaaGreatDoor
namespace Rg
open Go.RowKit
open Gr (Blk Kept)
theorem reg_tot {Q : PL} {R : Rgs} (hst : stateOk Q = true) (hf : regFold R0 Q = some R) : R.rds.length ≤ 6 ∧ totV Q = totTo Q (memTot R 12) R.rds.length ∧ totTo Q (memTot R 12) 0 = memTot R 12 ∧ (∀ j (h : j < R.rds.length), totTo Q (memTot R 12) (j + 1) = totNext (totTo Q (memTot R 12) j) (Gr.sums (cV R.rds[j].2).Q (cV R.rds[j].2).M)) ∧ (∀ j, j ≤ R.rds.length → (0 ≤ (totTo Q (memTot R 12) j).R ∧ (totTo Q (memTot R 12) j).R ≤ 1000) ∧ Gr.SB (totTo Q (memTot R 12) j).S 900) ∧ ∀ j (h : j < R.rds.length), (joinB R.rds[j].2).size ≤ 1048576 ∧ R.rds[j].2.length ≤ 1048576 ∧ Gr.matchOk (cV R.rds[j].2).s (cV R.rds[j].2).Q (cV R.rds[j].2).M = true ∧ Gr.csize (cV R.rds[j].2).Q (cV R.rds[j].2).M (cV R.rds[j].2).Y (cV R.rds[j].2).G ≤ 1048576 ∧ Gr.SB (Gr.sums (cV R.rds[j].2).Q (cV R.rds[j].2).M) 9 := by
  obtain ⟨I, ha, hr, h6, h1, _⟩ := round_rog hst hf
  have hcv : ∀ j (h : j < R.rds.length), cV R.rds[j].2 = Gr.rcV (textP Q j) := fun j h => by
    obtain ⟨_, e2, e3, _⟩ := h1 j h
    unfold cV
    rw [if_pos e3, e2]
  refine ⟨h6, ?_, ?_, fun j h => ?_, fun j h => ?_, fun j h => ?_⟩
  · rw [totV_is hst I ha, hr]
    unfold totTo memTot plusS
    simp
  · unfold totTo memTot plusS sumQ
    simp
  · rw [totTo_step, hcv j h]
  · have h2 := sumQ_bound hst j (by omega)
    unfold totTo memTot plusS
    unfold Gr.SB at h2 ⊢
    simp only
    omega
  · obtain ⟨_, e2, _, e4⟩ := h1 j h
    have hsz : (textP Q j).size ≤ 1048576 := by
      have h1 := text_size Q j
      have h2 := map_tot (state_map hst).1
      omega
    have := I.rl _ (List.getElem_mem h)
    rw [hcv j h]
    exact ⟨by rw [e2]; exact hsz, by omega, e4.mok, e4.small, e4.sums⟩
end Rg
namespace Gr
open Go.RowKit
set_option maxRecDepth 100000 in
set_option maxHeartbeats 1000000 in
theorem implTotals_any (B : Nat) (v : Value) (Q : List (ByteArray × ByteArray)) (h1 : pasize Q ≤ 1048576) (w : World) (hB : B ≤ w.heap.size) (ht : Rg.Tab w.heap.size w) (hv : PaAt w v B Q) :
    Calls Tryz.prog 11 #[v] w fun e w' => e = .returned (.tuple #[(Rg.totV Q).v, .bool (Rg.stateOk Q)]) ∧ Below w.heap.size w w' := by
  obtain ⟨a, c, rfl, hQ, _⟩ := hv
  have RG := hide (fun w1 (hb : Below w.heap.size w w1) => Rg.register_any a Q.length c B Q (pasize_le h1).1 w1 (by have := hb.size; omega) ((ht.below hb).mono hb.size) (hQ.below hb hB))
  rw [Rg.reg_is] at RG
  have hN : Rg.stateOk Q = false → Rg.totV Q = Rg.totZ := fun h => by unfold Rg.totV; rw [h]; rfl
  have HRT := hide (fun R h1 h2 => Rg.reg_tot (Q := Q) (R := R) h1 h2)
  obtain ⟨T, hT⟩ : ∃ T, T = Rg.totV Q := ⟨_, rfl⟩
  rw [← hT] at hN HRT ⊢
  generalize Rg.stateOk Q = st at RG hN HRT ⊢
  obtain ⟨V1, hV1⟩ : ∃ W, W = w.alloc (Obj.cells #[Value.int .i64 0, Value.int .i64 0, Value.int .i64 0, Value.int .i64 0, Value.int .i64 0, Value.int .i64 0, Value.int .i64 0] 27) := ⟨_, rfl⟩
  have b1 : Below w.heap.size w V1 := by rw [hV1]; exact below_new _ _
  have HZ1 : Hid (Blk V1 w.heap.size (Rg.totC Rg.totZ) 27) := by show Blk _ _ _ _; rw [hV1]; exact Blk.new0
  clear hQ ht hT
  go_enter Tryz.func11, Tryz.ntmps11
  go_wp2_with fail
  rw [← hV1]
  clear hV1
  refine (unhide RG V1 b1).mono ?_
  rintro e w2 ⟨⟨R, rfl, hR, hf⟩, hb2⟩
  have b2 := b1.trans (hb2.mono b1.size)
  have Z2 := (unhide HZ1).below hb2
  have hzl := (unhide HZ1).lt
  have HB2 := hide b2
  clear hb2 b1 RG
  cases st with
  | false =>
    have hTe := hN rfl
    subst hTe
    have r0 : w2.cell? ⟨w.heap.size, 0, none⟩ = some (.int .i64 0) := Z2.cell 0 _ rfl
    have r1 : w2.cell? ⟨w.heap.size, 1, none⟩ = some (.int .i64 0) := Z2.cell 1 _ rfl
    have r2 : w2.cell? ⟨w.heap.size, 2, none⟩ = some (.int .i64 0) := Z2.cell 2 _ rfl
    have r3 : w2.cell? ⟨w.heap.size, 3, none⟩ = some (.int .i64 0) := Z2.cell 3 _ rfl
    have r4 : w2.cell? ⟨w.heap.size, 4, none⟩ = some (.int .i64 0) := Z2.cell 4 _ rfl
    have r5 : w2.cell? ⟨w.heap.size, 5, none⟩ = some (.int .i64 0) := Z2.cell 5 _ rfl
    have r6 : w2.cell? ⟨w.heap.size, 6, none⟩ = some (.int .i64 0) := Z2.cell 6 _ rfl
    have z0 := Z2.froz 0
    have z1 := Z2.froz 1
    have z2 := Z2.froz 2
    have z3 := Z2.froz 3
    have z4 := Z2.froz 4
    have z5 := Z2.froz 5
    have z6 := Z2.froz 6
    have HF : Hid (Blk _ w.heap.size (Rg.totC Rg.totZ) 27) := Rg.set7 (y0 := .int .i64 0) (y1 := .int .i64 0) (y2 := .int .i64 0) (y3 := .int .i64 0) (y4 := .int .i64 0) (y5 := .int .i64 0) (y6 := .int .i64 0) Z2
    have HB := hide (b2.trans ((Rg.kept7 w2 w.heap.size (.int .i64 0) (.int .i64 0) (.int .i64 0) (.int .i64 0) (.int .i64 0) (.int .i64 0) (.int .i64 0)).below b2.size (fun i hi => by omega)))
    clear hR hf Z2 b2
    go_wp2_with fail
    (try simp only [Exit.inBlock, Exit.then])
    refine bodyPost_ret (Rg.results_tot2 Tryz.results11 _ _ w.heap.size Rg.totZ rfl (unhide HF)) rfl ?_
    exact ⟨rfl, unhide HB⟩
  | true =>
    obtain ⟨f6, f1, f2, f3, f4, f5⟩ := unhide HRT R rfl (hf rfl)
    have hRR := hR
    obtain ⟨_, rv, vs, hk0, hrd0⟩ := hR
    obtain ⟨ra, rc, hrv⟩ := Rg.row_shape0 hrd0.own
    have hgl := hk0.lt
    have c600 : w2.cell? ⟨V1.heap.size, 600, none⟩ = some (.slice ra R.rds.length rc) := hk0.cell 600 _ (by rw [Rg.regC_at _ _ _ (by omega), Rg.cell_rds, hrv])
    have MT := hide (fun w3 (hb : Below w2.heap.size w2 w3) => Rg.members_total V1.heap.size V1.heap.size R w3 (hRR.below hb) (by have := hb.size; omega))
    have FT := hide (fun w3 (hb : Below w2.heap.size w2 w3) => Rg.foldTot_any V1.heap.size rv vs R.rds (fun j => Rg.totTo Q (Rg.memTot R 12) j) (Rg.memTot R 12) (by omega) f2 f3 f4 f5 w3 (hrd0.below hb))
    rw [hrv] at FT
    simp only [← f1] at FT
    generalize R.rds.length = n at c600 FT
    generalize Rg.memTot R 12 = M at MT FT
    unfold Rg.TotI.v at MT FT
    clear f1 f2 f3 f4 f5 hk0 hrd0 hrv hf hRR HRT hN
    have ne1 : ¬ V1.heap.size = w.heap.size := by omega
    have ne2 : ¬ w.heap.size = V1.heap.size := by omega
    have HZ2 := hide Z2
    clear Z2 b2
    go_wp2_with fail
    go_region_held3 (fun u => u.cell? ⟨V1.heap.size, 600, none⟩ = some (.slice ra n rc))
      (first | go_keep | with_reducible exact j0 | with_reducible exact k0 | with_reducible exact i0)
      (first
        | (go_at_call 35; refine (unhide MT w2.drew (Below.refl _ _).drew).mono ?_; rintro e w5 ⟨rfl, hb5⟩; have B5 := hide ((Below.refl w2.heap.size w2).drew.trans hb5); have j0 := (hb5.cell (p := ⟨V1.heap.size, 600, none⟩) hgl).trans c600)
        | (go_at_call 34; refine (unhide FT w5 (unhide B5)).mono ?_; rintro e w6 ⟨rfl, hb6⟩; have hz5 := (unhide B5).size; have B6 := hide ((unhide B5).trans (hb6.mono hz5)); have k0 := (hb6.cell (p := ⟨V1.heap.size, 600, none⟩) (by simp; omega)).trans j0; have Z6 := (unhide HZ2).below (unhide B6); have r0 : w6.cell? ⟨w.heap.size, 0, none⟩ = some (.int .i64 0) := Z6.cell 0 _ rfl; have r1 : w6.cell? ⟨w.heap.size, 1, none⟩ = some (.int .i64 0) := Z6.cell 1 _ rfl; have r2 : w6.cell? ⟨w.heap.size, 2, none⟩ = some (.int .i64 0) := Z6.cell 2 _ rfl; have r3 : w6.cell? ⟨w.heap.size, 3, none⟩ = some (.int .i64 0) := Z6.cell 3 _ rfl; have r4 : w6.cell? ⟨w.heap.size, 4, none⟩ = some (.int .i64 0) := Z6.cell 4 _ rfl; have r5 : w6.cell? ⟨w.heap.size, 5, none⟩ = some (.int .i64 0) := Z6.cell 5 _ rfl; have r6 : w6.cell? ⟨w.heap.size, 6, none⟩ = some (.int .i64 0) := Z6.cell 6 _ rfl; have z0 := Z6.froz 0; have z1 := Z6.froz 1; have z2 := Z6.froz 2; have z3 := Z6.froz 3; have z4 := Z6.froz 4; have z5 := Z6.froz 5; have z6 := Z6.froz 6; have X8 := Rg.set7 (y0 := .int .i64 T.R) (y1 := .int .i64 T.P) (y2 := .int .i64 T.H) (y3 := .int .i64 T.L) (y4 := .int .i64 T.S.W1) (y5 := .int .i64 T.S.W2) (y6 := .int .i64 T.S.W3) Z6; have K8 := Rg.kept7 w6 w.heap.size (.int .i64 T.R) (.int .i64 T.P) (.int .i64 T.H) (.int .i64 T.L) (.int .i64 T.S.W1) (.int .i64 T.S.W2) (.int .i64 T.S.W3); have hz6 := hb6.size; have i0 := (World.cell?_of_block (a := ⟨V1.heap.size, 600, none⟩) (K8.2.2.2.2 V1.heap.size (by omega) ne1)).trans k0))
    have b6 := (unhide HB2).trans ((unhide B6).mono (unhide HB2).size)
    have HBF := hide (b6.trans (K8.below b6.size (fun i hi => by omega)))
    have HXF := hide X8
    clear B5 B6 K8 X8 Z6 b6 hb5 hb6 HZ2 HZ1 MT FT c600 j0 k0 i0 r0 r1 r2 r3 r4 r5 r6 z0 z1 z2 z3 z4 z5 z6
    go_wp2_with fail
    (try simp only [Exit.inBlock, Exit.then])
    refine bodyPost_ret (Rg.results_tot2 Tryz.results11 _ _ w.heap.size T rfl (unhide HXF)) rfl ?_
    exact ⟨rfl, unhide HBF⟩
end Gr
end Go.Proofs.YtjblkijicfmkgaaGreatDoor
namespace Go.Proofs.YtjblkijicfmkgaaGreatDoor
namespace Gr
open Go.RowKit
def ToAt (_w : World) (v : Value) (_B : Nat) (x : Rg.TotI) : Prop := v = x.v
def ToOwn (_w : World) (_B : Nat) (v : Value) (x : Rg.TotI) : Prop := v = x.v
theorem ToAt.below {w w' : World} {v : Value} {B C : Nat} {x : Rg.TotI} (h : ToAt w v B x) (_hb : Below C w w') (_hC : B ≤ C) : ToAt w' v B x := h
theorem ToOwn.at {w : World} {B : Nat} {v : Value} {x : Rg.TotI} (h : ToOwn w B v x) : ToAt w v w.heap.size x := h
theorem ToOwn.below {w w' : World} {B : Nat} {v : Value} {x : Rg.TotI} (h : ToOwn w B v x) (_hb : Below w.heap.size w w') : ToOwn w' B v x := h
set_option maxRecDepth 100000 in
set_option maxHeartbeats 1000000 in
theorem eqTotal_same (x : Rg.TotI) (w : World) :
    Calls Tryz.prog 12 #[x.v, x.v] w fun e w' => e = .returned (.bool true) ∧ Below w.heap.size w w' := by
  have ES := hide (fun w1 => eqSums_same x.S w1)
  have n0 : (x.R != x.R) = false := by simp
  have n1 : (x.P != x.P) = false := by simp
  have n2 : (x.H != x.H) = false := by simp
  have n3 : (x.L != x.L) = false := by simp
  unfold SumsI.v at ES
  unfold Rg.TotI.v
  go_enter Tryz.func12, Tryz.ntmps12
  go_wp2_with fail
  refine (unhide ES _).mono ?_
  rintro e w1 ⟨rfl, hb1⟩
  have b1 := (((Below.refl w.heap.size w).alloc (Nat.le_refl _) (Obj.cells #[.int .i64 x.R, .int .i64 x.P, .int .i64 x.H, .int .i64 x.L, .int .i64 x.S.W1, .int .i64 x.S.W2, .int .i64 x.S.W3] 27)).alloc (by simp) (Obj.cells #[.int .i64 x.R, .int .i64 x.P, .int .i64 x.H, .int .i64 x.L, .int .i64 x.S.W1, .int .i64 x.S.W2, .int .i64 x.S.W3] 27))
  have HB := hide (b1.trans (hb1.mono b1.size))
  clear b1 hb1
  go_wp2
  go_ret
  exact ⟨rfl, unhide HB⟩
theorem eqTotal_gen (v u : Value) (B B' : Nat) (x : Rg.TotI) (w : World) (_hB : B ≤ w.heap.size) (_hB' : B' ≤ w.heap.size) (hv : ToAt w v B x) (hu : ToAt w u B' x) :
    Calls Tryz.prog 12 #[v, u] w fun e w' => e = .returned (.bool true) ∧ Below w.heap.size w w' := by
  unfold ToAt at hv hu
  subst hv hu
  exact eqTotal_same x w
theorem specTotals_gen (B : Nat) (v : Value) (Q : List (ByteArray × ByteArray)) (h1 : pasize Q ≤ 1048576) (w : World) (hB : B ≤ w.heap.size) (hv : PaAt w v B Q) :
    Calls Tryz.prog 9 #[v] w fun e w' => (∃ d, e = .returned (.tuple #[d, .bool (Rg.stateOk Q)]) ∧ ToOwn w' w.heap.size d (Rg.totV Q)) ∧ Below w.heap.size w w' := by
  obtain ⟨a, c, rfl, hQ, _⟩ := hv
  refine (Rg.specTotals_any a Q.length c B Q (pasize_le h1).1 w hB hQ).mono ?_
  rintro e w' ⟨rfl, hb⟩
  exact ⟨⟨_, rfl, rfl⟩, hb⟩
theorem implTotals_gen (B : Nat) (v : Value) (Q : List (ByteArray × ByteArray)) (h1 : pasize Q ≤ 1048576) (w : World) (hB : B ≤ w.heap.size) (ht : Rg.Tab w.heap.size w) (hv : PaAt w v B Q) :
    Calls Tryz.prog 11 #[v] w fun e w' => (∃ d, e = .returned (.tuple #[d, .bool (Rg.stateOk Q)]) ∧ ToOwn w' w.heap.size d (Rg.totV Q)) ∧ Below w.heap.size w w' := by
  refine (implTotals_any B v Q h1 w hB ht hv).mono ?_
  rintro e w' ⟨rfl, hb⟩
  exact ⟨⟨_, rfl, rfl⟩, hb⟩
end Gr
end Go.Proofs.YtjblkijicfmkgaaGreatDoor
