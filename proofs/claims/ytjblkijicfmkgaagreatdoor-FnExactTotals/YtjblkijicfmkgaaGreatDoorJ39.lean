/-
 Rg9, Rg10, LgW.
-/
import Derived.Test.YtjblkijicfmkgaaGreatDoorJ34
import Derived.Test.YtjblkijicfmkgaaGreatDoorJ35
import Derived.Test.YtjblkijicfmkgaaGreatDoorJ23
import Derived.Test.YtjblkijicfmkgaaGreatDoorJ27
import Derived.Deep.RegionHeld3
namespace Go.Proofs.YtjblkijicfmkgaaGreatDoor
namespace Rg
open Go.RowKit
def roOk (Q : PL) (r : Int) : Bool := stateOk Q && (decide (0 ≤ r) && decide (r ≤ (rnds Q : Int) - 1))
def roP (Q : PL) (r : Int) : List Int := if roOk Q r = true then poolP Q r.toNat else []
def roC (Q : PL) (r : Int) : Gr.RC := if roOk Q r = true then Gr.rcV (textP Q r.toNat) else ⟨0, [], [], [], [], ⟨0, false⟩⟩
theorem cert_none (w : World) (B : Nat) : Gr.CeAt w (.agg #[.int .i64 0, .slice none 0 0, .slice none 0 0, .slice none 0 0, .slice none 0 0]) B 0 [] [] [] [] :=
  ⟨none, 0, none, 0, none, 0, none, 0, rfl, ⟨_, _, _, rfl, rfl, fun j hj => absurd hj (Nat.not_lt_zero _)⟩, ⟨_, _, rfl, rfl, fun j hj => absurd hj (Nat.not_lt_zero _)⟩, ⟨_, _, _, _, _, _, rfl, ⟨rfl, fun j hj => absurd hj (Nat.not_lt_zero _)⟩, ⟨rfl, fun j hj => absurd hj (Nat.not_lt_zero _)⟩, by simp [Gr.PrIn]⟩, by simp, by simp⟩
theorem results_round {fn : Func} {q p u : Tmp} (h : fn.results = #[.tmp q, .cell p 59, .tmp u]) (tmps : Array Value) (w : World) (g : Nat) (x0 x1 x2 x3 x4 : Value) (hp : tmps.getD p undef = .pointer (some ⟨g, 0, none⟩)) (hg : Gr.Blk w g #[x0, x1, x2, x3, x4] 59) :
    (results fn tmps).run Tryz.prog w = .ok (.tuple #[tmps.getD q undef, .agg #[x0, x1, x2, x3, x4], tmps.getD u undef]) w := by
  have c0 := hg.cell 0 x0 rfl
  have c1 := hg.cell 1 x1 rfl
  have c2 := hg.cell 2 x2 rfl
  have c3 := hg.cell 3 x3 rfl
  have c4 := hg.cell 4 x4 rfl
  have hp' : tmps[p]?.getD undef = .pointer (some ⟨g, 0, none⟩) := by simpa using hp
  simp [results, h, hp', go_sem, c0, c1, c2, c3, c4]
theorem grps_at {w : World} {B : Nat} {v : Value} {G : List Gr.GrpI} {xs : List Value} (h : w.ownsRow B 136 2 v G.length xs) (hg : Gr.GV w B xs G) : ∃ a c, v = .slice a G.length c ∧ Gr.groupsAt w a G.length w.heap.size G := by
  rcases h.2 with ⟨rfl, h0⟩ | ⟨g, cap, cur, rfl, _, hh, _⟩
  · exact ⟨none, 0, by rw [h0], rfl, fun j hj => by omega⟩
  · refine ⟨_, _, rfl, rfl, fun j hj => ?_⟩
    obtain ⟨u, h1, h2, h3⟩ := hg.2 j hj
    obtain ⟨a', c', rfl, hI⟩ := h3.at
    refine ⟨g, 0, a', c', rfl, (h.lt g rfl).2, ?_, ?_, hI⟩
    · rw [Nat.zero_add, h.cellAt (j * 2) (by omega)]; exact h1
    · rw [Nat.zero_add, h.cellAt (j * 2 + 1) (by omega)]; exact h2
theorem cnew_at {w : World} {lo : Nat} {v : Value} {s : Int} {Q : List Gr.EdgeI} {M : List Gr.CoupleI} {Y : List Int} {G : List Gr.GrpI} (h : Gr.CNew w lo v s Q M Y G) (hn : Gr.csize Q M Y G ≤ 1048576) : Gr.CeAt w v w.heap.size s Q M Y G := by
  obtain ⟨l1, l2, l3⟩ := Gr.csize_le hn
  obtain ⟨m1, m2, m3⟩ := Gr.psize_le l3
  obtain ⟨v1, v2, v3, v4, xs, rfl, h1, h2, h3, h4, h5⟩ := h
  obtain ⟨a, c0, rfl, k1⟩ := Gr.edgesAt.of_own h1
  obtain ⟨a1, c1, rfl, k2⟩ := Gr.couplesAt.of_own h2
  obtain ⟨a2, c2, rfl, k3⟩ := Gr.intsAt_of_own h3
  obtain ⟨a3, c3, rfl, k4⟩ := grps_at h4 h5
  exact ⟨a, c0, a1, c1, a2, c2, a3, c3, rfl, ⟨_, _, _, rfl, k1⟩, ⟨_, _, rfl, k2⟩, ⟨_, _, _, _, _, _, rfl, k3, k4, by omega, by omega, fun q hq => by have := m3 q hq; omega⟩, by omega, by omega⟩
theorem state_map {Q : PL} (h : stateOk Q = true) : Tr.MapR Q ∧ rnds Q ≤ 6 := by
  unfold stateOk at h
  simp only [Bool.and_eq_true, decide_eq_true_eq] at h
  exact ⟨h.1, h.2.1⟩
set_option maxRecDepth 100000 in
set_option maxHeartbeats 4000000 in
theorem specRound_any (a : Option Addr) (len cap B : Nat) (Q : PL) (r : Int) (hlen : len ≤ 1048576) (w : World) (hB : B ≤ w.heap.size) (hs : Tr.PairsAt w a len B Q) :
    Calls Tryz.prog 30 #[.slice a len cap, .int .i64 r] w fun e w' => (∃ d c, e = .returned (.tuple #[d, c, .bool (roOk Q r)]) ∧ Gr.InOwn w' w.heap.size d (roP Q r) ∧ Gr.CeAt w' c w'.heap.size (roC Q r).s (roC Q r).Q (roC Q r).M (roC Q r).Y (roC Q r).G) ∧ Below w.heap.size w w' := by
  have SO := hide (fun w1 (hb : Below w.heap.size w w1) => state_any a len cap B Q hlen w1 (by have := hb.size; omega) (hs.below hb hB))
  have hO : roOk Q r = (stateOk Q && (decide (0 ≤ r) && decide (r ≤ (rnds Q : Int) - 1))) := rfl
  have hP : roP Q r = if roOk Q r = true then poolP Q r.toNat else [] := rfl
  have hC : roC Q r = if roOk Q r = true then Gr.rcV (textP Q r.toNat) else ⟨0, [], [], [], [], ⟨0, false⟩⟩ := rfl
  have IN := hide (fun y x z w => Gr.l01In_is y x z w)
  generalize roOk Q r = O at hO hP hC ⊢
  generalize roP Q r = P at hP ⊢
  generalize roC Q r = C at hC ⊢
  have V0 : ∃ V, V = w.alloc (Obj.cells #[Value.int .i64 0, Value.slice none 0 0, Value.slice none 0 0, Value.slice none 0 0, Value.slice none 0 0] 59) := ⟨_, rfl⟩
  obtain ⟨V, hV⟩ := V0
  have bV : Below w.heap.size w V := by rw [hV]; exact Gr.below_new _ _
  have HM : Hid (Gr.Blk V w.heap.size #[Value.int .i64 0, Value.slice none 0 0, Value.slice none 0 0, Value.slice none 0 0, Value.slice none 0 0] 59) := by show Gr.Blk _ _ _ _; rw [hV]; exact Gr.Blk.new0
  cases hst : stateOk Q with
  | false =>
    rw [hst] at hO SO
    rw [Bool.false_and] at hO
    clear hst hs
    go_enter Tryz.func30, Tryz.ntmps30
    go_wp2_with fail
    rw [← hV]
    clear hV
    refine (unhide SO V bV).mono ?_
    rintro e w1 ⟨rfl, hb1⟩
    have b1 := bV.trans (hb1.mono bV.size)
    have HM1 := hide ((unhide HM).below hb1)
    clear hb1
    have HOf : Hid (O = false ∧ P = [] ∧ C = ⟨0, [], [], [], [], ⟨0, false⟩⟩) := by show _ ∧ _; rw [hP, hC, hO]; exact ⟨rfl, rfl, rfl⟩
    obtain ⟨W9, hW9⟩ : ∃ W, W = w1.alloc (Obj.cells #[] 3) := ⟨_, rfl⟩
    have n9 : Below w1.heap.size w1 W9 := by rw [hW9]; exact Gr.below_new _ _
    have m9 := (unhide HM1).below n9
    have b9 := b1.trans (n9.mono b1.size)
    have o9 : Gr.Blk W9 w1.heap.size #[] 3 := by rw [hW9]; exact Gr.Blk.new0
    have r0 : W9.cell? ⟨w.heap.size, 0, none⟩ = some (.int .i64 0) := m9.cell 0 _ rfl
    have f0 := m9.froz 0
    have r1 : W9.cell? ⟨w.heap.size, 1, none⟩ = some (.slice none 0 0) := m9.cell 1 _ rfl
    have f1 := m9.froz 1
    have r2 : W9.cell? ⟨w.heap.size, 2, none⟩ = some (.slice none 0 0) := m9.cell 2 _ rfl
    have f2 := m9.froz 2
    have r3 : W9.cell? ⟨w.heap.size, 3, none⟩ = some (.slice none 0 0) := m9.cell 3 _ rfl
    have f3 := m9.froz 3
    have r4 : W9.cell? ⟨w.heap.size, 4, none⟩ = some (.slice none 0 0) := m9.cell 4 _ rfl
    have f4 := m9.froz 4
    have z9 := m9.lt
    have hle9 := b1.size
    have HFin : Hid (Below w.heap.size w (((((W9.setCell ⟨w.heap.size, 0, none⟩ (.int .i64 0)).setCell ⟨w.heap.size, 1, none⟩ (.slice none 0 0)).setCell ⟨w.heap.size, 2, none⟩ (.slice none 0 0)).setCell ⟨w.heap.size, 3, none⟩ (.slice none 0 0)).setCell ⟨w.heap.size, 4, none⟩ (.slice none 0 0)) ∧ Gr.Blk (((((W9.setCell ⟨w.heap.size, 0, none⟩ (.int .i64 0)).setCell ⟨w.heap.size, 1, none⟩ (.slice none 0 0)).setCell ⟨w.heap.size, 2, none⟩ (.slice none 0 0)).setCell ⟨w.heap.size, 3, none⟩ (.slice none 0 0)).setCell ⟨w.heap.size, 4, none⟩ (.slice none 0 0)) w.heap.size #[Value.int .i64 0, Value.slice none 0 0, Value.slice none 0 0, Value.slice none 0 0, Value.slice none 0 0] 59 ∧ Gr.InOwn (((((W9.setCell ⟨w.heap.size, 0, none⟩ (.int .i64 0)).setCell ⟨w.heap.size, 1, none⟩ (.slice none 0 0)).setCell ⟨w.heap.size, 2, none⟩ (.slice none 0 0)).setCell ⟨w.heap.size, 3, none⟩ (.slice none 0 0)).setCell ⟨w.heap.size, 4, none⟩ (.slice none 0 0)) w.heap.size (.slice (some ⟨w1.heap.size, 0, none⟩) 0 0) []) := by
      refine ⟨?_, ?_, ?_⟩
      · exact ((((b9.setCell (p := ⟨w.heap.size, 0, none⟩) (Nat.le_refl _) _).setCell (p := ⟨w.heap.size, 1, none⟩) (Nat.le_refl _) _).setCell (p := ⟨w.heap.size, 2, none⟩) (Nat.le_refl _) _).setCell (p := ⟨w.heap.size, 3, none⟩) (Nat.le_refl _) _).setCell (p := ⟨w.heap.size, 4, none⟩) (Nat.le_refl _) _
      · exact ((((m9.set 0 _).set 1 _).set 2 _).set 3 _).set 4 _
      · have hne : w1.heap.size ≠ w.heap.size := by have := (unhide HM1).lt; omega
        exact Gr.own_empty (((((o9.set_other hne 0 _).set_other hne 1 _).set_other hne 2 _).set_other hne 3 _).set_other hne 4 _) (by omega)
    rw [hW9] at r0 r1 r2 r3 r4 f0 f1 f2 f3 f4 HFin
    clear hW9 n9 m9 b9 o9
    go_wp2_with fail
    obtain ⟨q1, q2, q3⟩ := unhide HFin
    (try simp only [Exit.inBlock, Exit.then])
    refine bodyPost_ret (results_round Tryz.results30 _ _ w.heap.size _ _ _ _ _ rfl q2) rfl ?_
    rw [(unhide HOf).1, (unhide HOf).2.1, (unhide HOf).2.2]
    exact ⟨⟨_, _, rfl, q3, cert_none _ _⟩, q1⟩
  | true =>
    rw [hst] at hO SO
    rw [Bool.true_and] at hO
    obtain ⟨hM, h6⟩ := state_map hst
    have hL := hs.1
    have hQ120 := hM.1
    have htot := map_tot hM
    have RN := hide (fun w1 (hb : Below w.heap.size w w1) => rounds_any a len cap B Q (by omega) w1 (by have := hb.size; omega) (hs.below hb hB))
    have TX := hide (fun rn (hr : rn ≤ 1000) w1 (hb : Below w.heap.size w w1) => text_any a len cap B Q rn (by omega) hlen (by omega) w1 (by have := hb.size; omega) (hs.below hb hB))
    have PO := hide (fun rn (hr : rn ≤ 1000) w1 (hb : Below w.heap.size w w1) => pool_any a len cap B Q rn (by omega) hlen (by omega) w1 (by have := hb.size; omega) (hs.below hb hB))
    have RC := hide (fun rn w1 => Gr.specReadCert_new (textP Q rn) (Nat.le_trans (text_size Q rn) (by omega)) w1)
    have wr1 : IntKind.i64.wrap ((rnds Q : Int) - 1) = (rnds Q : Int) - 1 := by
      have e : ∀ x : Int, -10 ≤ x → x ≤ 10 → IntKind.i64.wrap x = x := fun x h0 h1 => by
        have e : IntKind.i64.wrap x = if (9223372036854775808 : Int) ≤ x % 18446744073709551616 then x % 18446744073709551616 - 18446744073709551616 else x % 18446744073709551616 := by
          simp [IntKind.wrap, IntKind.signed, IntKind.bits]
        rw [e]
        split <;> omega
      exact e _ (by omega) (by omega)
    have INr := hide (fun w => unhide IN r 0 ((rnds Q : Int) - 1) w)
    clear hst hM hs hL htot hQ120
    go_enter Tryz.func30, Tryz.ntmps30
    go_wp2_with fail
    rw [← hV]
    clear hV
    refine (unhide SO V bV).mono ?_
    rintro e w1 ⟨rfl, hb1⟩
    have b1 := bV.trans (hb1.mono bV.size)
    have HM1 := hide ((unhide HM).below hb1)
    clear hb1
    go_wp2_with fail
    refine (unhide RN w1 b1).mono ?_
    rintro e w2 ⟨rfl, hb2⟩
    have b2 := b1.trans (hb2.mono b1.size)
    have HM2 := hide ((unhide HM1).below hb2)
    clear hb2
    go_wp2_with fail
    refine (unhide INr w2).mono ?_
    rintro e w3 ⟨rfl, rfl⟩
    by_cases hr : 0 ≤ r ∧ r ≤ (rnds Q : Int) - 1
    · have hrt : (decide (0 ≤ r) && decide (r ≤ (rnds Q : Int) - 1)) = true := by simp; omega
      rw [hrt] at hO ⊢
      obtain ⟨rn, rfl⟩ := Int.eq_ofNat_of_zero_le hr.1
      rw [hO, if_pos rfl, Int.toNat_natCast] at hP hC
      have hr6 : rn ≤ 1000 := by omega
      have TXr := hide (unhide TX rn hr6)
      have POr := hide (unhide PO rn hr6)
      have RCr := hide (unhide RC rn)
      rw [← hP] at POr
      have hcs : Gr.csize C.Q C.M C.Y C.G ≤ 1048576 := by rw [hC]; exact (Gr.rc_small _).1
      rw [← hC] at RCr
      generalize Gr.rcOk (textP Q rn) = ok at RCr
      generalize textP Q rn = T at TXr RCr
      subst hO
      clear hP hC TX PO RC hrt
      go_wp2_with fail
      refine (unhide TXr _ b2).mono ?_
      rintro e w4 ⟨rfl, hb4⟩
      have b4 := b2.trans (hb4.mono b2.size)
      have HM4 := hide ((unhide HM2).below hb4)
      clear hb4
      go_wp2_with fail
      refine (unhide RCr w4).mono ?_
      rintro e w5 ⟨⟨d5, rfl, hd5, hn5⟩, hb5⟩
      have b5 := b4.trans (hb5.mono b4.size)
      have HM5 := hide ((unhide HM4).below hb5)
      have HD5 := hide hn5
      have hz4 := b4.size
      obtain ⟨a1, c1, a2, c2, a3, c3, a4, c4, rfl⟩ := hd5.shape
      clear hb5 hd5 hn5
      obtain ⟨U, hU⟩ : ∃ W, W = w5.alloc (Obj.cells #[Value.int .i64 C.s, Value.slice a1 C.Q.length c1, Value.slice a2 C.M.length c2, Value.slice a3 C.Y.length c3, Value.slice a4 C.G.length c4] 59) := ⟨_, rfl⟩
      have nU : Below w5.heap.size w5 U := by rw [hU]; exact Gr.below_new _ _
      have HXU : Hid (Gr.Blk U w5.heap.size #[Value.int .i64 C.s, Value.slice a1 C.Q.length c1, Value.slice a2 C.M.length c2, Value.slice a3 C.Y.length c3, Value.slice a4 C.G.length c4] 59) := by show Gr.Blk _ _ _ _; rw [hU]; exact Gr.Blk.new0
      have bU := b5.trans (nU.mono b5.size)
      have HMU := hide ((unhide HM5).below nU)
      have HDU := hide ((unhide HD5).below nU)
      have zU := nU.size
      go_wp2_with fail
      rw [← hU]
      clear hU nU
      have k0 : U.cell? ⟨w5.heap.size, 0, none⟩ = some (Value.int .i64 C.s) := (unhide HXU).cell 0 _ rfl
      have k1 : U.cell? ⟨w5.heap.size, 1, none⟩ = some (Value.slice a1 C.Q.length c1) := (unhide HXU).cell 1 _ rfl
      have k2 : U.cell? ⟨w5.heap.size, 2, none⟩ = some (Value.slice a2 C.M.length c2) := (unhide HXU).cell 2 _ rfl
      have k3 : U.cell? ⟨w5.heap.size, 3, none⟩ = some (Value.slice a3 C.Y.length c3) := (unhide HXU).cell 3 _ rfl
      have k4 : U.cell? ⟨w5.heap.size, 4, none⟩ = some (Value.slice a4 C.G.length c4) := (unhide HXU).cell 4 _ rfl
      have r0 : U.cell? ⟨w.heap.size, 0, none⟩ = some (.int .i64 0) := (unhide HMU).cell 0 _ rfl
      have r1 : U.cell? ⟨w.heap.size, 1, none⟩ = some (.slice none 0 0) := (unhide HMU).cell 1 _ rfl
      have r2 : U.cell? ⟨w.heap.size, 2, none⟩ = some (.slice none 0 0) := (unhide HMU).cell 2 _ rfl
      have r3 : U.cell? ⟨w.heap.size, 3, none⟩ = some (.slice none 0 0) := (unhide HMU).cell 3 _ rfl
      have r4 : U.cell? ⟨w.heap.size, 4, none⟩ = some (.slice none 0 0) := (unhide HMU).cell 4 _ rfl
      have zk := (unhide HXU).lt
      have zm := (unhide HMU).lt
      have zmm := (unhide HM5).lt
      have hne : w5.heap.size ≠ w.heap.size := by omega
      have hne1 : ¬ w5.heap.size = w.heap.size := hne
      have hne2 : ¬ w.heap.size = w5.heap.size := by omega
      go_region_held3 (fun u => u.cell? ⟨w5.heap.size, 0, none⟩ = some (Value.int .i64 C.s) ∧ u.cell? ⟨w5.heap.size, 1, none⟩ = some (Value.slice a1 C.Q.length c1) ∧ u.cell? ⟨w5.heap.size, 2, none⟩ = some (Value.slice a2 C.M.length c2) ∧ u.cell? ⟨w5.heap.size, 3, none⟩ = some (Value.slice a3 C.Y.length c3) ∧ u.cell? ⟨w5.heap.size, 4, none⟩ = some (Value.slice a4 C.G.length c4))
        (first | go_keep | with_reducible exact ⟨j0, j1, j2, j3, j4⟩ | with_reducible exact ⟨i0, i1, i2, i3, i4⟩)
        (first | (go_at_call 49; refine (unhide POr _ bU.drew).mono ?_; rintro e w7 ⟨⟨d7, rfl, ho7⟩, hb7⟩; have HO7 := hide ho7; have m7 := (unhide HMU).drew.below hb7; have q0 := m7.cell 0 _ rfl; have q1 := m7.cell 1 _ rfl; have q2 := m7.cell 2 _ rfl; have q3 := m7.cell 3 _ rfl; have q4 := m7.cell 4 _ rfl; have f0 := m7.froz 0; have f1 := m7.froz 1; have f2 := m7.froz 2; have f3 := m7.froz 3; have f4 := m7.froz 4; have j0 := (hb7.cell (p := ⟨w5.heap.size, 0, none⟩) zk).trans k0; have j1 := (hb7.cell (p := ⟨w5.heap.size, 1, none⟩) zk).trans k1; have j2 := (hb7.cell (p := ⟨w5.heap.size, 2, none⟩) zk).trans k2; have j3 := (hb7.cell (p := ⟨w5.heap.size, 3, none⟩) zk).trans k3; have j4 := (hb7.cell (p := ⟨w5.heap.size, 4, none⟩) zk).trans k4; have x8 := ((((((unhide HXU).drew.below hb7).set_other hne 0 (Value.int .i64 C.s)).set_other hne 1 (Value.slice a1 C.Q.length c1)).set_other hne 2 (Value.slice a2 C.M.length c2)).set_other hne 3 (Value.slice a3 C.Y.length c3)).set_other hne 4 (Value.slice a4 C.G.length c4); have i0 := x8.cell 0 _ rfl; have i1 := x8.cell 1 _ rfl; have i2 := x8.cell 2 _ rfl; have i3 := x8.cell 3 _ rfl; have i4 := x8.cell 4 _ rfl))
      have hb8 : Below w.heap.size w w7 := bU.drew.trans (hb7.mono bU.drew.size)
      have kc : Gr.Kept (fun k => k = w.heap.size) w7 (((((w7.setCell ⟨w.heap.size, 0, none⟩ (Value.int .i64 C.s)).setCell ⟨w.heap.size, 1, none⟩ (Value.slice a1 C.Q.length c1)).setCell ⟨w.heap.size, 2, none⟩ (Value.slice a2 C.M.length c2)).setCell ⟨w.heap.size, 3, none⟩ (Value.slice a3 C.Y.length c3)).setCell ⟨w.heap.size, 4, none⟩ (Value.slice a4 C.G.length c4)) := (((((Gr.Kept.set (S := fun k => k = w.heap.size) _ _ _ _ rfl).trans (Gr.Kept.set (S := fun k => k = w.heap.size) _ _ _ _ rfl)).trans (Gr.Kept.set (S := fun k => k = w.heap.size) _ _ _ _ rfl)).trans (Gr.Kept.set (S := fun k => k = w.heap.size) _ _ _ _ rfl)).trans (Gr.Kept.set (S := fun k => k = w.heap.size) _ _ _ _ rfl))
      have y1 : Below w.heap.size w (((((w7.setCell ⟨w.heap.size, 0, none⟩ (Value.int .i64 C.s)).setCell ⟨w.heap.size, 1, none⟩ (Value.slice a1 C.Q.length c1)).setCell ⟨w.heap.size, 2, none⟩ (Value.slice a2 C.M.length c2)).setCell ⟨w.heap.size, 3, none⟩ (Value.slice a3 C.Y.length c3)).setCell ⟨w.heap.size, 4, none⟩ (Value.slice a4 C.G.length c4)) := (((((hb8.setCell (p := ⟨w.heap.size, 0, none⟩) (Nat.le_refl _) _).setCell (p := ⟨w.heap.size, 1, none⟩) (Nat.le_refl _) _).setCell (p := ⟨w.heap.size, 2, none⟩) (Nat.le_refl _) _).setCell (p := ⟨w.heap.size, 3, none⟩) (Nat.le_refl _) _).setCell (p := ⟨w.heap.size, 4, none⟩) (Nat.le_refl _) _)
      have y2 : Gr.Blk (((((w7.setCell ⟨w.heap.size, 0, none⟩ (Value.int .i64 C.s)).setCell ⟨w.heap.size, 1, none⟩ (Value.slice a1 C.Q.length c1)).setCell ⟨w.heap.size, 2, none⟩ (Value.slice a2 C.M.length c2)).setCell ⟨w.heap.size, 3, none⟩ (Value.slice a3 C.Y.length c3)).setCell ⟨w.heap.size, 4, none⟩ (Value.slice a4 C.G.length c4)) w.heap.size #[Value.int .i64 C.s, Value.slice a1 C.Q.length c1, Value.slice a2 C.M.length c2, Value.slice a3 C.Y.length c3, Value.slice a4 C.G.length c4] 59 := ((((m7.set 0 _).set 1 _).set 2 _).set 3 _).set 4 _
      have y3 : Gr.InOwn (((((w7.setCell ⟨w.heap.size, 0, none⟩ (Value.int .i64 C.s)).setCell ⟨w.heap.size, 1, none⟩ (Value.slice a1 C.Q.length c1)).setCell ⟨w.heap.size, 2, none⟩ (Value.slice a2 C.M.length c2)).setCell ⟨w.heap.size, 3, none⟩ (Value.slice a3 C.Y.length c3)).setCell ⟨w.heap.size, 4, none⟩ (Value.slice a4 C.G.length c4)) w.heap.size d7 P := ((unhide HO7).kept kc (fun g hg he => by have := ((unhide HO7).blk g hg).1; have e2 : U.drew.heap.size = U.heap.size := rfl; omega)).lower (by have e2 : U.drew.heap.size = U.heap.size := rfl; omega)
      have y4 : Gr.CNew (((((w7.setCell ⟨w.heap.size, 0, none⟩ (Value.int .i64 C.s)).setCell ⟨w.heap.size, 1, none⟩ (Value.slice a1 C.Q.length c1)).setCell ⟨w.heap.size, 2, none⟩ (Value.slice a2 C.M.length c2)).setCell ⟨w.heap.size, 3, none⟩ (Value.slice a3 C.Y.length c3)).setCell ⟨w.heap.size, 4, none⟩ (Value.slice a4 C.G.length c4)) _ (.agg #[Value.int .i64 C.s, Value.slice a1 C.Q.length c1, Value.slice a2 C.M.length c2, Value.slice a3 C.Y.length c3, Value.slice a4 C.G.length c4]) C.s C.Q C.M C.Y C.G := ((unhide HDU).below ((Below.refl U.heap.size U).drew.trans hb7)).kept kc (fun k hk => by omega)
      have y5 := cnew_at y4 hcs
      have HY := hide (And.intro y1 (And.intro y2 (And.intro y3 y5)))
      clear y1 y2 y3 y4 y5 kc m7 x8 q0 q1 q2 q3 q4 f0 f1 f2 f3 f4 i0 i1 i2 i3 i4 j0 j1 j2 j3 j4 k0 k1 k2 k3 k4 r0 r1 r2 r3 r4
      go_wp2_with fail
      obtain ⟨y1, y2, y3, y5⟩ := unhide HY
      (try simp only [Exit.inBlock, Exit.then])
      refine bodyPost_ret (results_round Tryz.results30 _ _ w.heap.size _ _ _ _ _ rfl y2) rfl ?_
      exact ⟨⟨_, _, rfl, y3, y5⟩, y1⟩
    · skip
      have hrf : (decide (0 ≤ r) && decide (r ≤ (rnds Q : Int) - 1)) = false := by
        rw [Bool.eq_false_iff]
        simp
        omega
      rw [hrf] at hO ⊢
      clear hrf
      have HOf : Hid (O = false ∧ P = [] ∧ C = ⟨0, [], [], [], [], ⟨0, false⟩⟩) := by show _ ∧ _; rw [hP, hC, hO]; exact ⟨rfl, rfl, rfl⟩
      obtain ⟨W9, hW9⟩ : ∃ W, W = w3.alloc (Obj.cells #[] 3) := ⟨_, rfl⟩
      have n9 : Below w3.heap.size w3 W9 := by rw [hW9]; exact Gr.below_new _ _
      have m9 := (unhide HM2).below n9
      have b9 := b2.trans (n9.mono b2.size)
      have o9 : Gr.Blk W9 w3.heap.size #[] 3 := by rw [hW9]; exact Gr.Blk.new0
      have r0 : W9.cell? ⟨w.heap.size, 0, none⟩ = some (.int .i64 0) := m9.cell 0 _ rfl
      have f0 := m9.froz 0
      have r1 : W9.cell? ⟨w.heap.size, 1, none⟩ = some (.slice none 0 0) := m9.cell 1 _ rfl
      have f1 := m9.froz 1
      have r2 : W9.cell? ⟨w.heap.size, 2, none⟩ = some (.slice none 0 0) := m9.cell 2 _ rfl
      have f2 := m9.froz 2
      have r3 : W9.cell? ⟨w.heap.size, 3, none⟩ = some (.slice none 0 0) := m9.cell 3 _ rfl
      have f3 := m9.froz 3
      have r4 : W9.cell? ⟨w.heap.size, 4, none⟩ = some (.slice none 0 0) := m9.cell 4 _ rfl
      have f4 := m9.froz 4
      have z9 := m9.lt
      have hle9 := b2.size
      have HFin : Hid (Below w.heap.size w (((((W9.setCell ⟨w.heap.size, 0, none⟩ (.int .i64 0)).setCell ⟨w.heap.size, 1, none⟩ (.slice none 0 0)).setCell ⟨w.heap.size, 2, none⟩ (.slice none 0 0)).setCell ⟨w.heap.size, 3, none⟩ (.slice none 0 0)).setCell ⟨w.heap.size, 4, none⟩ (.slice none 0 0)) ∧ Gr.Blk (((((W9.setCell ⟨w.heap.size, 0, none⟩ (.int .i64 0)).setCell ⟨w.heap.size, 1, none⟩ (.slice none 0 0)).setCell ⟨w.heap.size, 2, none⟩ (.slice none 0 0)).setCell ⟨w.heap.size, 3, none⟩ (.slice none 0 0)).setCell ⟨w.heap.size, 4, none⟩ (.slice none 0 0)) w.heap.size #[Value.int .i64 0, Value.slice none 0 0, Value.slice none 0 0, Value.slice none 0 0, Value.slice none 0 0] 59 ∧ Gr.InOwn (((((W9.setCell ⟨w.heap.size, 0, none⟩ (.int .i64 0)).setCell ⟨w.heap.size, 1, none⟩ (.slice none 0 0)).setCell ⟨w.heap.size, 2, none⟩ (.slice none 0 0)).setCell ⟨w.heap.size, 3, none⟩ (.slice none 0 0)).setCell ⟨w.heap.size, 4, none⟩ (.slice none 0 0)) w.heap.size (.slice (some ⟨w3.heap.size, 0, none⟩) 0 0) []) := by
        refine ⟨?_, ?_, ?_⟩
        · exact ((((b9.setCell (p := ⟨w.heap.size, 0, none⟩) (Nat.le_refl _) _).setCell (p := ⟨w.heap.size, 1, none⟩) (Nat.le_refl _) _).setCell (p := ⟨w.heap.size, 2, none⟩) (Nat.le_refl _) _).setCell (p := ⟨w.heap.size, 3, none⟩) (Nat.le_refl _) _).setCell (p := ⟨w.heap.size, 4, none⟩) (Nat.le_refl _) _
        · exact ((((m9.set 0 _).set 1 _).set 2 _).set 3 _).set 4 _
        · have hne : w3.heap.size ≠ w.heap.size := by have := (unhide HM2).lt; omega
          exact Gr.own_empty (((((o9.set_other hne 0 _).set_other hne 1 _).set_other hne 2 _).set_other hne 3 _).set_other hne 4 _) (by omega)
      rw [hW9] at r0 r1 r2 r3 r4 f0 f1 f2 f3 f4 HFin
      clear hW9 n9 m9 b9 o9
      go_wp2_with fail
      obtain ⟨q1, q2, q3⟩ := unhide HFin
      (try simp only [Exit.inBlock, Exit.then])
      refine bodyPost_ret (results_round Tryz.results30 _ _ w.heap.size _ _ _ _ _ rfl q2) rfl ?_
      rw [(unhide HOf).1, (unhide HOf).2.1, (unhide HOf).2.2]
      exact ⟨⟨_, _, rfl, q3, cert_none _ _⟩, q1⟩
end Rg
end Go.Proofs.YtjblkijicfmkgaaGreatDoor
namespace Go.Proofs.YtjblkijicfmkgaaGreatDoor
namespace Rg
open Go.RowKit
open Gr (Blk below_new)
set_option maxRecDepth 100000 in
set_option maxHeartbeats 4000000 in
theorem ids_word (a : Option Addr) (len cap B : Nat) (Q : PL) (wd : ByteArray) (hwd : wd.toList ≠ []) (hlen : len ≤ 1048576) (hk : ∀ q ∈ Q, 1 ≤ q.1.size ∧ q.1.size ≤ 8) (w : World) (hB : B ≤ w.heap.size) (hs : Tr.PairsAt w a len B Q) :
    Calls Tryz.prog 29 #[.slice a len cap, .string wd] w fun e w' => (∃ d, e = .returned d ∧ w'.ownsRow w.heap.size 3 1 d (idsP wd.toList Q).length (Gr.intsV (idsP wd.toList Q))) ∧ Below w.heap.size w w' := by
  obtain ⟨i0, hi0, hz0, hz1, hz2⟩ := info_parts Gr.info3
  have HO0 : Hid ((w.alloc (.cells #[] 3)).ownsRow w.heap.size 3 1 (.slice (some ⟨w.heap.size, 0, none⟩) 0 0) 0 (Gr.intsV [])) := World.ownsRow_made w #[] 0 (by omega) (Nat.zero_le _) rfl
  have HC := hide hs.2
  have HPR := hide hk
  have HST := hide (fun j h => ids_step wd.toList Q j h)
  have NU := hide (fun t w1 => num_any t w1)
  have HWD := hide hwd
  have hw0 : (wd.toList == []) = false := by cases h : wd.toList with | nil => exact absurd h hwd | cons x y => rfl
  clear hwd
  obtain ⟨P, hP⟩ : ∃ x, x = idsP wd.toList Q := ⟨_, rfl⟩
  rw [← hP]
  have HP0 : Hid (P = [] ++ idsP wd.toList (Q.drop 0)) := hP
  have hL := hs.1
  clear hP hs hk
  subst hL
  go_enter Tryz.func29, Tryz.ntmps29
  go_wp2_with fail
  go_loopw [5, 6] (fun v i wr => ∃ (j : Nat) (L : List Int), i = .int .i64 (j : Int) ∧ j ≤ Q.length ∧ L.length ≤ j ∧ Hid (P = L ++ idsP wd.toList (Q.drop j)) ∧ Hid (wr.ownsRow w.heap.size 3 1 v L.length (Gr.intsV L)) ∧ Below w.heap.size w wr) (fun _ i _ => Q.length - (intOf i).toNat)
  case atStart => exact ⟨0, [], rfl, Nat.zero_le _, Nat.zero_le _, unhide HP0, unhide HO0, Gr.below_new _ _⟩
  case round =>
    obtain ⟨j, L, rfl, hj, hLj, HY, HO, hb⟩ := hrel
    have hown := unhide HO
    have hbs := hb.size
    by_cases hlt : j < Q.length
    · obtain ⟨b, off, rfl, hbB, d0, d1⟩ := unhide HC j hlt
      have HQ := hide ((unhide HY).trans (by rw [unhide HST j hlt]))
      have hp := unhide HPR Q[j] (List.getElem_mem hlt)
      generalize Q[j] = q at d0 d1 HQ hp
      obtain ⟨x, y⟩ := q
      simp only at d0 d1 HQ hp
      have d2 := (hb.cell (p := ⟨b, off + j * 2, none⟩) (by simp; omega)).trans d0
      have d3 := (hb.cell (p := ⟨b, off + j * 2 + 1, none⟩) (by simp; omega)).trans d1
      have l0 : 0 < x.size := by omega
      have e0 := byteAt_eq l0
      have hxi : (0 : Int) < (x.size : Int) := by omega
      have hx1 : (1 : Int) ≤ (x.size : Int) := by omega
      have hxz : (x.size : Int) ≤ 8 := by omega
      have hjn : (j : Int) < ((Q.length : Nat) : Int) := by omega
      have HNU := hide (fun w1 => unhide NU (x.extract 1 x.size) w1)
      rw [e0] at HQ
      generalize numP (x.extract 1 x.size) = o at HNU HQ
      clear d0 d1 e0 hp
      by_cases h118 : (x[0]'l0).toNat = 118
      · have hbq : (((x[0]'l0).toNat : Int) == 118) = true := by rw [h118]; rfl
        cases hw : (y.toList == wd.toList)
        · have HQ2 := hide (unhide HQ)
          rw [if_neg (by rw [hw]; simp [unhide HWD])] at HQ2
          clear h118 HQ hown
          go_wp2_with fail
          exact ⟨⟨j + 1, L, by go_num, by omega, by omega, unhide HQ2, unhide HO, hb⟩, by simp [intOf]; omega⟩
        · have HQ2 := hide (unhide HQ)
          rw [if_pos ⟨h118, Or.inr hw⟩] at HQ2
          clear h118 HQ
          have HY2 : Hid (P = (L ++ [oN o]) ++ idsP wd.toList (Q.drop (j + 1))) := by show _ = _; rw [unhide HQ2, List.append_assoc]; rfl
          go_wp2_with fail
          refine (unhide HNU _).mono ?_
          rintro e w3 ⟨rfl, hb3⟩
          have hown3 := Gr.own_below hown hb3
          have b3 := hb.trans (hb3.mono hb.size)
          have hbs3 := b3.size
          clear hown d2 d3
          go_wp2_with (at_builtin; refine wpList_append_own _ rfl _ _ 50 rfl w.heap.size 3 i0 (.int .i64 0) 1 8 Tryz.underlying50 hi0 hz0 hz1 hz2 rfl (by decide) _ _ _ rfl (hown3.alloc _) ⟨w3.heap.size, 0, none⟩ 1 1 [.int .i64 (oN o)] rfl rfl (cell_one_new _ _ _) (by intro u hu; simp at hu; subst hu; rfl) ?c3 ?c4 ?c5 ?_)
          case c3 => unfold maxLen; omega
          case c4 => omega
          case c5 => simp; omega
          intro v' w4 hown' hgrow _
          have hb4 := below_append b3 (Nat.le_refl _) hown3 hgrow
          have HO2 := hide (own_intI hown')
          clear hown3 hown' hgrow
          go_wp2_with fail
          exact ⟨⟨j + 1, _, by go_num, by omega, by rw [List.length_append]; simp; omega, unhide HY2, unhide HO2, hb4⟩, by simp [intOf]; omega⟩
      · have hbq : (((x[0]'l0).toNat : Int) == 118) = false := by rw [beq_eq_false_iff_ne]; omega
        have HQ2 := hide (unhide HQ)
        rw [if_neg (fun h => h118 h.1)] at HQ2
        clear h118 HQ hown
        go_wp2_with fail
        exact ⟨⟨j + 1, L, by go_num, by omega, by omega, unhide HQ2, unhide HO, hb⟩, by simp [intOf]; omega⟩
    · have hPe : P = L := by rw [unhide HY, List.drop_eq_nil_of_le (by omega)]; simp [idsP]
      have HO2 : Hid (wr.ownsRow w.heap.size 3 1 u5 P.length (Gr.intsV P)) := by rw [hPe]; exact hown
      clear hown hPe
      go_wp2
      go_ret
      exact ⟨⟨_, rfl, unhide HO2⟩, hb⟩
end Rg
end Go.Proofs.YtjblkijicfmkgaaGreatDoor
