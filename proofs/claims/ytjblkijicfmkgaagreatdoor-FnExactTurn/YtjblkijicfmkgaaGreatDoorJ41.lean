/-
  Texts of this claim, one behind the other: Rg9, Rg10, LgM, Lg4.
-/
import Derived.Test.YtjblkijicfmkgaaGreatDoorJ34
import Derived.Test.YtjblkijicfmkgaaGreatDoorJ37
import Derived.Test.YtjblkijicfmkgaaGreatDoorJ19
import Derived.Test.YtjblkijicfmkgaaGreatDoorJ28
import Derived.Deep.RegionHeld3
import Derived.Test.YtjblkijicfmkgaaGreatDoorJ36
import Derived.Test.YtjblkijicfmkgaaGreatDoorJ11
import Derived.Test.YtjblkijicfmkgaaGreatDoorJ8
import Derived.Test.YtjblkijicfmkgaaGreatDoorJ2

/-
  The contract of spec.RoundOf.
-/
namespace Go.Proofs.YtjblkijicfmkgaaGreatDoor
namespace Rg
open Go.RowKit

/-- Whether there is such a round. -/
def roOk (Q : PL) (r : Int) : Bool := stateOk Q && (decide (0 ≤ r) && decide (r ≤ (rnds Q : Int) - 1))
def roP (Q : PL) (r : Int) : List Int := if roOk Q r = true then poolP Q r.toNat else []
def roC (Q : PL) (r : Int) : Gr.RC := if roOk Q r = true then Gr.rcV (textP Q r.toNat) else ⟨0, [], [], [], [], ⟨0, false⟩⟩

theorem cert_none (w : World) (B : Nat) : Gr.CeAt w (.agg #[.int .i64 0, .slice none 0 0, .slice none 0 0, .slice none 0 0, .slice none 0 0]) B 0 [] [] [] [] :=
  ⟨none, 0, none, 0, none, 0, none, 0, rfl, ⟨_, _, _, rfl, rfl, fun j hj => absurd hj (Nat.not_lt_zero _)⟩, ⟨_, _, rfl, rfl, fun j hj => absurd hj (Nat.not_lt_zero _)⟩, ⟨_, _, _, _, _, _, rfl, ⟨rfl, fun j hj => absurd hj (Nat.not_lt_zero _)⟩, ⟨rfl, fun j hj => absurd hj (Nat.not_lt_zero _)⟩, by simp [Gr.PrIn]⟩, by simp, by simp⟩

theorem results_round {fn : Func} {q p u : Tmp} (h : fn.results = #[.tmp q, .cell p 59, .tmp u]) (tmps : Array Value) (w : World) (g : Nat) (x0 x1 x2 x3 x4 : Value) (hp : tmps.getD p undef = .pointer (some ⟨g, 0, none⟩)) (hg : Gr.Blk w g #[x0, x1, x2, x3, x4] 59) :
    (results fn tmps).run Tryz.prog w = .ok (.tuple #[tmps.getD q undef, .agg #[x0, x1, x2, x3, x4], tmps.getD u undef]) w := by
  have c0 := hg.cell 0 x0 rfl
  have c1 := hg.cell 1 x1 rfl
  have c2 := hg.cell 2 x2 rfl
  have c3 := hg.cell 3 x3 rfl
  have c4 := hg.cell 4 x4 rfl
  have hp' : tmps[p]?.getD undef = .pointer (some ⟨g, 0, none⟩) := by simpa using hp
  simp [results, h, hp', go_sem, c0, c1, c2, c3, c4]

theorem grps_at {w : World} {B : Nat} {v : Value} {G : List Gr.GrpI} {xs : List Value} (h : w.ownsRow B 136 2 v G.length xs) (hg : Gr.GV w B xs G) : ∃ a c, v = .slice a G.length c ∧ Gr.groupsAt w a G.length w.heap.size G := by
  rcases h.2 with ⟨rfl, h0⟩ | ⟨g, cap, cur, rfl, _, hh, _⟩
  · exact ⟨none, 0, by rw [h0], rfl, fun j hj => by omega⟩
  · refine ⟨_, _, rfl, rfl, fun j hj => ?_⟩
    obtain ⟨u, h1, h2, h3⟩ := hg.2 j hj
    obtain ⟨a', c', rfl, hI⟩ := h3.at
    refine ⟨g, 0, a', c', rfl, (h.lt g rfl).2, ?_, ?_, hI⟩
    · rw [Nat.zero_add, h.cellAt (j * 2) (by omega)]; exact h1
    · rw [Nat.zero_add, h.cellAt (j * 2 + 1) (by omega)]; exact h2

theorem cnew_at {w : World} {lo : Nat} {v : Value} {s : Int} {Q : List Gr.EdgeI} {M : List Gr.CoupleI} {Y : List Int} {G : List Gr.GrpI} (h : Gr.CNew w lo v s Q M Y G) (hn : Gr.csize Q M Y G ≤ 1048576) : Gr.CeAt w v w.heap.size s Q M Y G := by
  obtain ⟨l1, l2, l3⟩ := Gr.csize_le hn
  obtain ⟨m1, m2, m3⟩ := Gr.psize_le l3
  obtain ⟨v1, v2, v3, v4, xs, rfl, h1, h2, h3, h4, h5⟩ := h
  obtain ⟨a, c0, rfl, k1⟩ := Gr.edgesAt.of_own h1
  obtain ⟨a1, c1, rfl, k2⟩ := Gr.couplesAt.of_own h2
  obtain ⟨a2, c2, rfl, k3⟩ := Gr.intsAt_of_own h3
  obtain ⟨a3, c3, rfl, k4⟩ := grps_at h4 h5
  exact ⟨a, c0, a1, c1, a2, c2, a3, c3, rfl, ⟨_, _, _, rfl, k1⟩, ⟨_, _, rfl, k2⟩, ⟨_, _, _, _, _, _, rfl, k3, k4, by omega, by omega, fun q hq => by have := m3 q hq; omega⟩, by omega, by omega⟩

theorem state_map {Q : PL} (h : stateOk Q = true) : Tr.MapR Q ∧ rnds Q ≤ 6 := by
  unfold stateOk at h
  simp only [Bool.and_eq_true, decide_eq_true_eq] at h
  exact ⟨h.1, h.2.1⟩

set_option maxRecDepth 100000 in
set_option maxHeartbeats 4000000 in
theorem specRound_any (a : Option Addr) (len cap B : Nat) (Q : PL) (r : Int) (hlen : len ≤ 1048576) (w : World) (hB : B ≤ w.heap.size) (hs : Tr.PairsAt w a len B Q) :
    Calls Tryz.prog 30 #[.slice a len cap, .int .i64 r] w fun e w' => (∃ d c, e = .returned (.tuple #[d, c, .bool (roOk Q r)]) ∧ Gr.InOwn w' w.heap.size d (roP Q r) ∧ Gr.CeAt w' c w'.heap.size (roC Q r).s (roC Q r).Q (roC Q r).M (roC Q r).Y (roC Q r).G) ∧ Below w.heap.size w w' := by
  have SO := hide (fun w1 (hb : Below w.heap.size w w1) => state_any a len cap B Q hlen w1 (by have := hb.size; omega) (hs.below hb hB))
  have hO : roOk Q r = (stateOk Q && (decide (0 ≤ r) && decide (r ≤ (rnds Q : Int) - 1))) := rfl
  have hP : roP Q r = if roOk Q r = true then poolP Q r.toNat else [] := rfl
  have hC : roC Q r = if roOk Q r = true then Gr.rcV (textP Q r.toNat) else ⟨0, [], [], [], [], ⟨0, false⟩⟩ := rfl
  have IN := hide (fun y x z w => Gr.l01In_is y x z w)
  generalize roOk Q r = O at hO hP hC ⊢
  generalize roP Q r = P at hP ⊢
  generalize roC Q r = C at hC ⊢
  have V0 : ∃ V, V = w.alloc (Obj.cells #[Value.int .i64 0, Value.slice none 0 0, Value.slice none 0 0, Value.slice none 0 0, Value.slice none 0 0] 59) := ⟨_, rfl⟩
  obtain ⟨V, hV⟩ := V0
  have bV : Below w.heap.size w V := by rw [hV]; exact Gr.below_new _ _
  have HM : Hid (Gr.Blk V w.heap.size #[Value.int .i64 0, Value.slice none 0 0, Value.slice none 0 0, Value.slice none 0 0, Value.slice none 0 0] 59) := by show Gr.Blk _ _ _ _; rw [hV]; exact Gr.Blk.new0
  cases hst : stateOk Q with
  | false =>
    rw [hst] at hO SO
    rw [Bool.false_and] at hO
    clear hst hs
    go_enter Tryz.func30, Tryz.ntmps30
    go_wp2_with fail
    rw [← hV]
    clear hV
    refine (unhide SO V bV).mono ?_
    rintro e w1 ⟨rfl, hb1⟩
    have b1 := bV.trans (hb1.mono bV.size)
    have HM1 := hide ((unhide HM).below hb1)
    clear hb1
    have HOf : Hid (O = false ∧ P = [] ∧ C = ⟨0, [], [], [], [], ⟨0, false⟩⟩) := by show _ ∧ _; rw [hP, hC, hO]; exact ⟨rfl, rfl, rfl⟩
    obtain ⟨W9, hW9⟩ : ∃ W, W = w1.alloc (Obj.cells #[] 3) := ⟨_, rfl⟩
    have n9 : Below w1.heap.size w1 W9 := by rw [hW9]; exact Gr.below_new _ _
    have m9 := (unhide HM1).below n9
    have b9 := b1.trans (n9.mono b1.size)
    have o9 : Gr.Blk W9 w1.heap.size #[] 3 := by rw [hW9]; exact Gr.Blk.new0
    have r0 : W9.cell? ⟨w.heap.size, 0, none⟩ = some (.int .i64 0) := m9.cell 0 _ rfl
    have f0 := m9.froz 0
    have r1 : W9.cell? ⟨w.heap.size, 1, none⟩ = some (.slice none 0 0) := m9.cell 1 _ rfl
    have f1 := m9.froz 1
    have r2 : W9.cell? ⟨w.heap.size, 2, none⟩ = some (.slice none 0 0) := m9.cell 2 _ rfl
    have f2 := m9.froz 2
    have r3 : W9.cell? ⟨w.heap.size, 3, none⟩ = some (.slice none 0 0) := m9.cell 3 _ rfl
    have f3 := m9.froz 3
    have r4 : W9.cell? ⟨w.heap.size, 4, none⟩ = some (.slice none 0 0) := m9.cell 4 _ rfl
    have f4 := m9.froz 4
    have z9 := m9.lt
    have hle9 := b1.size
    have HFin : Hid (Below w.heap.size w (((((W9.setCell ⟨w.heap.size, 0, none⟩ (.int .i64 0)).setCell ⟨w.heap.size, 1, none⟩ (.slice none 0 0)).setCell ⟨w.heap.size, 2, none⟩ (.slice none 0 0)).setCell ⟨w.heap.size, 3, none⟩ (.slice none 0 0)).setCell ⟨w.heap.size, 4, none⟩ (.slice none 0 0)) ∧ Gr.Blk (((((W9.setCell ⟨w.heap.size, 0, none⟩ (.int .i64 0)).setCell ⟨w.heap.size, 1, none⟩ (.slice none 0 0)).setCell ⟨w.heap.size, 2, none⟩ (.slice none 0 0)).setCell ⟨w.heap.size, 3, none⟩ (.slice none 0 0)).setCell ⟨w.heap.size, 4, none⟩ (.slice none 0 0)) w.heap.size #[Value.int .i64 0, Value.slice none 0 0, Value.slice none 0 0, Value.slice none 0 0, Value.slice none 0 0] 59 ∧ Gr.InOwn (((((W9.setCell ⟨w.heap.size, 0, none⟩ (.int .i64 0)).setCell ⟨w.heap.size, 1, none⟩ (.slice none 0 0)).setCell ⟨w.heap.size, 2, none⟩ (.slice none 0 0)).setCell ⟨w.heap.size, 3, none⟩ (.slice none 0 0)).setCell ⟨w.heap.size, 4, none⟩ (.slice none 0 0)) w.heap.size (.slice (some ⟨w1.heap.size, 0, none⟩) 0 0) []) := by
      refine ⟨?_, ?_, ?_⟩
      · exact ((((b9.setCell (p := ⟨w.heap.size, 0, none⟩) (Nat.le_refl _) _).setCell (p := ⟨w.heap.size, 1, none⟩) (Nat.le_refl _) _).setCell (p := ⟨w.heap.size, 2, none⟩) (Nat.le_refl _) _).setCell (p := ⟨w.heap.size, 3, none⟩) (Nat.le_refl _) _).setCell (p := ⟨w.heap.size, 4, none⟩) (Nat.le_refl _) _
      · exact ((((m9.set 0 _).set 1 _).set 2 _).set 3 _).set 4 _
      · have hne : w1.heap.size ≠ w.heap.size := by have := (unhide HM1).lt; omega
        exact Gr.own_empty (((((o9.set_other hne 0 _).set_other hne 1 _).set_other hne 2 _).set_other hne 3 _).set_other hne 4 _) (by omega)
    rw [hW9] at r0 r1 r2 r3 r4 f0 f1 f2 f3 f4 HFin
    clear hW9 n9 m9 b9 o9
    go_wp2_with fail
    obtain ⟨q1, q2, q3⟩ := unhide HFin
    (try simp only [Exit.inBlock, Exit.then])
    refine bodyPost_ret (results_round Tryz.results30 _ _ w.heap.size _ _ _ _ _ rfl q2) rfl ?_
    rw [(unhide HOf).1, (unhide HOf).2.1, (unhide HOf).2.2]
    exact ⟨⟨_, _, rfl, q3, cert_none _ _⟩, q1⟩
  | true =>
    rw [hst] at hO SO
    rw [Bool.true_and] at hO
    obtain ⟨hM, h6⟩ := state_map hst
    have hL := hs.1
    have hQ120 := hM.1
    have htot := map_tot hM
    have RN := hide (fun w1 (hb : Below w.heap.size w w1) => rounds_any a len cap B Q (by omega) w1 (by have := hb.size; omega) (hs.below hb hB))
    have TX := hide (fun rn (hr : rn ≤ 1000) w1 (hb : Below w.heap.size w w1) => text_any a len cap B Q rn (by omega) hlen (by omega) w1 (by have := hb.size; omega) (hs.below hb hB))
    have PO := hide (fun rn (hr : rn ≤ 1000) w1 (hb : Below w.heap.size w w1) => pool_any a len cap B Q rn (by omega) hlen (by omega) w1 (by have := hb.size; omega) (hs.below hb hB))
    have RC := hide (fun rn w1 => Gr.specReadCert_new (textP Q rn) (Nat.le_trans (text_size Q rn) (by omega)) w1)
    have wr1 : IntKind.i64.wrap ((rnds Q : Int) - 1) = (rnds Q : Int) - 1 := by
      have e : ∀ x : Int, -10 ≤ x → x ≤ 10 → IntKind.i64.wrap x = x := fun x h0 h1 => by
        have e : IntKind.i64.wrap x = if (9223372036854775808 : Int) ≤ x % 18446744073709551616 then x % 18446744073709551616 - 18446744073709551616 else x % 18446744073709551616 := by
          simp [IntKind.wrap, IntKind.signed, IntKind.bits]
        rw [e]
        split <;> omega
      exact e _ (by omega) (by omega)
    have INr := hide (fun w => unhide IN r 0 ((rnds Q : Int) - 1) w)
    clear hst hM hs hL htot hQ120
    go_enter Tryz.func30, Tryz.ntmps30
    go_wp2_with fail
    rw [← hV]
    clear hV
    refine (unhide SO V bV).mono ?_
    rintro e w1 ⟨rfl, hb1⟩
    have b1 := bV.trans (hb1.mono bV.size)
    have HM1 := hide ((unhide HM).below hb1)
    clear hb1
    go_wp2_with fail
    refine (unhide RN w1 b1).mono ?_
    rintro e w2 ⟨rfl, hb2⟩
    have b2 := b1.trans (hb2.mono b1.size)
    have HM2 := hide ((unhide HM1).below hb2)
    clear hb2
    go_wp2_with fail
    refine (unhide INr w2).mono ?_
    rintro e w3 ⟨rfl, rfl⟩
    by_cases hr : 0 ≤ r ∧ r ≤ (rnds Q : Int) - 1
    · have hrt : (decide (0 ≤ r) && decide (r ≤ (rnds Q : Int) - 1)) = true := by simp; omega
      rw [hrt] at hO ⊢
      obtain ⟨rn, rfl⟩ := Int.eq_ofNat_of_zero_le hr.1
      rw [hO, if_pos rfl, Int.toNat_natCast] at hP hC
      have hr6 : rn ≤ 1000 := by omega
      have TXr := hide (unhide TX rn hr6)
      have POr := hide (unhide PO rn hr6)
      have RCr := hide (unhide RC rn)
      rw [← hP] at POr
      have hcs : Gr.csize C.Q C.M C.Y C.G ≤ 1048576 := by rw [hC]; exact (Gr.rc_small _).1
      rw [← hC] at RCr
      generalize Gr.rcOk (textP Q rn) = ok at RCr
      generalize textP Q rn = T at TXr RCr
      subst hO
      clear hP hC TX PO RC hrt
      go_wp2_with fail
      refine (unhide TXr _ b2).mono ?_
      rintro e w4 ⟨rfl, hb4⟩
      have b4 := b2.trans (hb4.mono b2.size)
      have HM4 := hide ((unhide HM2).below hb4)
      clear hb4
      go_wp2_with fail
      refine (unhide RCr w4).mono ?_
      rintro e w5 ⟨⟨d5, rfl, hd5, hn5⟩, hb5⟩
      have b5 := b4.trans (hb5.mono b4.size)
      have HM5 := hide ((unhide HM4).below hb5)
      have HD5 := hide hn5
      have hz4 := b4.size
      obtain ⟨a1, c1, a2, c2, a3, c3, a4, c4, rfl⟩ := hd5.shape
      clear hb5 hd5 hn5
      obtain ⟨U, hU⟩ : ∃ W, W = w5.alloc (Obj.cells #[Value.int .i64 C.s, Value.slice a1 C.Q.length c1, Value.slice a2 C.M.length c2, Value.slice a3 C.Y.length c3, Value.slice a4 C.G.length c4] 59) := ⟨_, rfl⟩
      have nU : Below w5.heap.size w5 U := by rw [hU]; exact Gr.below_new _ _
      have HXU : Hid (Gr.Blk U w5.heap.size #[Value.int .i64 C.s, Value.slice a1 C.Q.length c1, Value.slice a2 C.M.length c2, Value.slice a3 C.Y.length c3, Value.slice a4 C.G.length c4] 59) := by show Gr.Blk _ _ _ _; rw [hU]; exact Gr.Blk.new0
      have bU := b5.trans (nU.mono b5.size)
      have HMU := hide ((unhide HM5).below nU)
      have HDU := hide ((unhide HD5).below nU)
      have zU := nU.size
      go_wp2_with fail
      rw [← hU]
      clear hU nU
      have k0 : U.cell? ⟨w5.heap.size, 0, none⟩ = some (Value.int .i64 C.s) := (unhide HXU).cell 0 _ rfl
      have k1 : U.cell? ⟨w5.heap.size, 1, none⟩ = some (Value.slice a1 C.Q.length c1) := (unhide HXU).cell 1 _ rfl
      have k2 : U.cell? ⟨w5.heap.size, 2, none⟩ = some (Value.slice a2 C.M.length c2) := (unhide HXU).cell 2 _ rfl
      have k3 : U.cell? ⟨w5.heap.size, 3, none⟩ = some (Value.slice a3 C.Y.length c3) := (unhide HXU).cell 3 _ rfl
      have k4 : U.cell? ⟨w5.heap.size, 4, none⟩ = some (Value.slice a4 C.G.length c4) := (unhide HXU).cell 4 _ rfl
      have r0 : U.cell? ⟨w.heap.size, 0, none⟩ = some (.int .i64 0) := (unhide HMU).cell 0 _ rfl
      have r1 : U.cell? ⟨w.heap.size, 1, none⟩ = some (.slice none 0 0) := (unhide HMU).cell 1 _ rfl
      have r2 : U.cell? ⟨w.heap.size, 2, none⟩ = some (.slice none 0 0) := (unhide HMU).cell 2 _ rfl
      have r3 : U.cell? ⟨w.heap.size, 3, none⟩ = some (.slice none 0 0) := (unhide HMU).cell 3 _ rfl
      have r4 : U.cell? ⟨w.heap.size, 4, none⟩ = some (.slice none 0 0) := (unhide HMU).cell 4 _ rfl
      have zk := (unhide HXU).lt
      have zm := (unhide HMU).lt
      have zmm := (unhide HM5).lt
      have hne : w5.heap.size ≠ w.heap.size := by omega
      have hne1 : ¬ w5.heap.size = w.heap.size := hne
      have hne2 : ¬ w.heap.size = w5.heap.size := by omega
      go_region_held3 (fun u => u.cell? ⟨w5.heap.size, 0, none⟩ = some (Value.int .i64 C.s) ∧ u.cell? ⟨w5.heap.size, 1, none⟩ = some (Value.slice a1 C.Q.length c1) ∧ u.cell? ⟨w5.heap.size, 2, none⟩ = some (Value.slice a2 C.M.length c2) ∧ u.cell? ⟨w5.heap.size, 3, none⟩ = some (Value.slice a3 C.Y.length c3) ∧ u.cell? ⟨w5.heap.size, 4, none⟩ = some (Value.slice a4 C.G.length c4))
        (first | go_keep | with_reducible exact ⟨j0, j1, j2, j3, j4⟩ | with_reducible exact ⟨i0, i1, i2, i3, i4⟩)
        (first | (go_at_call 49; refine (unhide POr _ bU.drew).mono ?_; rintro e w7 ⟨⟨d7, rfl, ho7⟩, hb7⟩; have HO7 := hide ho7; have m7 := (unhide HMU).drew.below hb7; have q0 := m7.cell 0 _ rfl; have q1 := m7.cell 1 _ rfl; have q2 := m7.cell 2 _ rfl; have q3 := m7.cell 3 _ rfl; have q4 := m7.cell 4 _ rfl; have f0 := m7.froz 0; have f1 := m7.froz 1; have f2 := m7.froz 2; have f3 := m7.froz 3; have f4 := m7.froz 4; have j0 := (hb7.cell (p := ⟨w5.heap.size, 0, none⟩) zk).trans k0; have j1 := (hb7.cell (p := ⟨w5.heap.size, 1, none⟩) zk).trans k1; have j2 := (hb7.cell (p := ⟨w5.heap.size, 2, none⟩) zk).trans k2; have j3 := (hb7.cell (p := ⟨w5.heap.size, 3, none⟩) zk).trans k3; have j4 := (hb7.cell (p := ⟨w5.heap.size, 4, none⟩) zk).trans k4; have x8 := ((((((unhide HXU).drew.below hb7).set_other hne 0 (Value.int .i64 C.s)).set_other hne 1 (Value.slice a1 C.Q.length c1)).set_other hne 2 (Value.slice a2 C.M.length c2)).set_other hne 3 (Value.slice a3 C.Y.length c3)).set_other hne 4 (Value.slice a4 C.G.length c4); have i0 := x8.cell 0 _ rfl; have i1 := x8.cell 1 _ rfl; have i2 := x8.cell 2 _ rfl; have i3 := x8.cell 3 _ rfl; have i4 := x8.cell 4 _ rfl))
      have hb8 : Below w.heap.size w w7 := bU.drew.trans (hb7.mono bU.drew.size)
      have kc : Gr.Kept (fun k => k = w.heap.size) w7 (((((w7.setCell ⟨w.heap.size, 0, none⟩ (Value.int .i64 C.s)).setCell ⟨w.heap.size, 1, none⟩ (Value.slice a1 C.Q.length c1)).setCell ⟨w.heap.size, 2, none⟩ (Value.slice a2 C.M.length c2)).setCell ⟨w.heap.size, 3, none⟩ (Value.slice a3 C.Y.length c3)).setCell ⟨w.heap.size, 4, none⟩ (Value.slice a4 C.G.length c4)) := (((((Gr.Kept.set (S := fun k => k = w.heap.size) _ _ _ _ rfl).trans (Gr.Kept.set (S := fun k => k = w.heap.size) _ _ _ _ rfl)).trans (Gr.Kept.set (S := fun k => k = w.heap.size) _ _ _ _ rfl)).trans (Gr.Kept.set (S := fun k => k = w.heap.size) _ _ _ _ rfl)).trans (Gr.Kept.set (S := fun k => k = w.heap.size) _ _ _ _ rfl))
      have y1 : Below w.heap.size w (((((w7.setCell ⟨w.heap.size, 0, none⟩ (Value.int .i64 C.s)).setCell ⟨w.heap.size, 1, none⟩ (Value.slice a1 C.Q.length c1)).setCell ⟨w.heap.size, 2, none⟩ (Value.slice a2 C.M.length c2)).setCell ⟨w.heap.size, 3, none⟩ (Value.slice a3 C.Y.length c3)).setCell ⟨w.heap.size, 4, none⟩ (Value.slice a4 C.G.length c4)) := (((((hb8.setCell (p := ⟨w.heap.size, 0, none⟩) (Nat.le_refl _) _).setCell (p := ⟨w.heap.size, 1, none⟩) (Nat.le_refl _) _).setCell (p := ⟨w.heap.size, 2, none⟩) (Nat.le_refl _) _).setCell (p := ⟨w.heap.size, 3, none⟩) (Nat.le_refl _) _).setCell (p := ⟨w.heap.size, 4, none⟩) (Nat.le_refl _) _)
      have y2 : Gr.Blk (((((w7.setCell ⟨w.heap.size, 0, none⟩ (Value.int .i64 C.s)).setCell ⟨w.heap.size, 1, none⟩ (Value.slice a1 C.Q.length c1)).setCell ⟨w.heap.size, 2, none⟩ (Value.slice a2 C.M.length c2)).setCell ⟨w.heap.size, 3, none⟩ (Value.slice a3 C.Y.length c3)).setCell ⟨w.heap.size, 4, none⟩ (Value.slice a4 C.G.length c4)) w.heap.size #[Value.int .i64 C.s, Value.slice a1 C.Q.length c1, Value.slice a2 C.M.length c2, Value.slice a3 C.Y.length c3, Value.slice a4 C.G.length c4] 59 := ((((m7.set 0 _).set 1 _).set 2 _).set 3 _).set 4 _
      have y3 : Gr.InOwn (((((w7.setCell ⟨w.heap.size, 0, none⟩ (Value.int .i64 C.s)).setCell ⟨w.heap.size, 1, none⟩ (Value.slice a1 C.Q.length c1)).setCell ⟨w.heap.size, 2, none⟩ (Value.slice a2 C.M.length c2)).setCell ⟨w.heap.size, 3, none⟩ (Value.slice a3 C.Y.length c3)).setCell ⟨w.heap.size, 4, none⟩ (Value.slice a4 C.G.length c4)) w.heap.size d7 P := ((unhide HO7).kept kc (fun g hg he => by have := ((unhide HO7).blk g hg).1; have e2 : U.drew.heap.size = U.heap.size := rfl; omega)).lower (by have e2 : U.drew.heap.size = U.heap.size := rfl; omega)
      have y4 : Gr.CNew (((((w7.setCell ⟨w.heap.size, 0, none⟩ (Value.int .i64 C.s)).setCell ⟨w.heap.size, 1, none⟩ (Value.slice a1 C.Q.length c1)).setCell ⟨w.heap.size, 2, none⟩ (Value.slice a2 C.M.length c2)).setCell ⟨w.heap.size, 3, none⟩ (Value.slice a3 C.Y.length c3)).setCell ⟨w.heap.size, 4, none⟩ (Value.slice a4 C.G.length c4)) _ (.agg #[Value.int .i64 C.s, Value.slice a1 C.Q.length c1, Value.slice a2 C.M.length c2, Value.slice a3 C.Y.length c3, Value.slice a4 C.G.length c4]) C.s C.Q C.M C.Y C.G := ((unhide HDU).below ((Below.refl U.heap.size U).drew.trans hb7)).kept kc (fun k hk => by omega)
      have y5 := cnew_at y4 hcs
      have HY := hide (And.intro y1 (And.intro y2 (And.intro y3 y5)))
      clear y1 y2 y3 y4 y5 kc m7 x8 q0 q1 q2 q3 q4 f0 f1 f2 f3 f4 i0 i1 i2 i3 i4 j0 j1 j2 j3 j4 k0 k1 k2 k3 k4 r0 r1 r2 r3 r4
      go_wp2_with fail
      obtain ⟨y1, y2, y3, y5⟩ := unhide HY
      (try simp only [Exit.inBlock, Exit.then])
      refine bodyPost_ret (results_round Tryz.results30 _ _ w.heap.size _ _ _ _ _ rfl y2) rfl ?_
      exact ⟨⟨_, _, rfl, y3, y5⟩, y1⟩
    · skip
      have hrf : (decide (0 ≤ r) && decide (r ≤ (rnds Q : Int) - 1)) = false := by
        rw [Bool.eq_false_iff]
        simp
        omega
      rw [hrf] at hO ⊢
      clear hrf
      have HOf : Hid (O = false ∧ P = [] ∧ C = ⟨0, [], [], [], [], ⟨0, false⟩⟩) := by show _ ∧ _; rw [hP, hC, hO]; exact ⟨rfl, rfl, rfl⟩
      obtain ⟨W9, hW9⟩ : ∃ W, W = w3.alloc (Obj.cells #[] 3) := ⟨_, rfl⟩
      have n9 : Below w3.heap.size w3 W9 := by rw [hW9]; exact Gr.below_new _ _
      have m9 := (unhide HM2).below n9
      have b9 := b2.trans (n9.mono b2.size)
      have o9 : Gr.Blk W9 w3.heap.size #[] 3 := by rw [hW9]; exact Gr.Blk.new0
      have r0 : W9.cell? ⟨w.heap.size, 0, none⟩ = some (.int .i64 0) := m9.cell 0 _ rfl
      have f0 := m9.froz 0
      have r1 : W9.cell? ⟨w.heap.size, 1, none⟩ = some (.slice none 0 0) := m9.cell 1 _ rfl
      have f1 := m9.froz 1
      have r2 : W9.cell? ⟨w.heap.size, 2, none⟩ = some (.slice none 0 0) := m9.cell 2 _ rfl
      have f2 := m9.froz 2
      have r3 : W9.cell? ⟨w.heap.size, 3, none⟩ = some (.slice none 0 0) := m9.cell 3 _ rfl
      have f3 := m9.froz 3
      have r4 : W9.cell? ⟨w.heap.size, 4, none⟩ = some (.slice none 0 0) := m9.cell 4 _ rfl
      have f4 := m9.froz 4
      have z9 := m9.lt
      have hle9 := b2.size
      have HFin : Hid (Below w.heap.size w (((((W9.setCell ⟨w.heap.size, 0, none⟩ (.int .i64 0)).setCell ⟨w.heap.size, 1, none⟩ (.slice none 0 0)).setCell ⟨w.heap.size, 2, none⟩ (.slice none 0 0)).setCell ⟨w.heap.size, 3, none⟩ (.slice none 0 0)).setCell ⟨w.heap.size, 4, none⟩ (.slice none 0 0)) ∧ Gr.Blk (((((W9.setCell ⟨w.heap.size, 0, none⟩ (.int .i64 0)).setCell ⟨w.heap.size, 1, none⟩ (.slice none 0 0)).setCell ⟨w.heap.size, 2, none⟩ (.slice none 0 0)).setCell ⟨w.heap.size, 3, none⟩ (.slice none 0 0)).setCell ⟨w.heap.size, 4, none⟩ (.slice none 0 0)) w.heap.size #[Value.int .i64 0, Value.slice none 0 0, Value.slice none 0 0, Value.slice none 0 0, Value.slice none 0 0] 59 ∧ Gr.InOwn (((((W9.setCell ⟨w.heap.size, 0, none⟩ (.int .i64 0)).setCell ⟨w.heap.size, 1, none⟩ (.slice none 0 0)).setCell ⟨w.heap.size, 2, none⟩ (.slice none 0 0)).setCell ⟨w.heap.size, 3, none⟩ (.slice none 0 0)).setCell ⟨w.heap.size, 4, none⟩ (.slice none 0 0)) w.heap.size (.slice (some ⟨w3.heap.size, 0, none⟩) 0 0) []) := by
        refine ⟨?_, ?_, ?_⟩
        · exact ((((b9.setCell (p := ⟨w.heap.size, 0, none⟩) (Nat.le_refl _) _).setCell (p := ⟨w.heap.size, 1, none⟩) (Nat.le_refl _) _).setCell (p := ⟨w.heap.size, 2, none⟩) (Nat.le_refl _) _).setCell (p := ⟨w.heap.size, 3, none⟩) (Nat.le_refl _) _).setCell (p := ⟨w.heap.size, 4, none⟩) (Nat.le_refl _) _
        · exact ((((m9.set 0 _).set 1 _).set 2 _).set 3 _).set 4 _
        · have hne : w3.heap.size ≠ w.heap.size := by have := (unhide HM2).lt; omega
          exact Gr.own_empty (((((o9.set_other hne 0 _).set_other hne 1 _).set_other hne 2 _).set_other hne 3 _).set_other hne 4 _) (by omega)
      rw [hW9] at r0 r1 r2 r3 r4 f0 f1 f2 f3 f4 HFin
      clear hW9 n9 m9 b9 o9
      go_wp2_with fail
      obtain ⟨q1, q2, q3⟩ := unhide HFin
      (try simp only [Exit.inBlock, Exit.then])
      refine bodyPost_ret (results_round Tryz.results30 _ _ w.heap.size _ _ _ _ _ rfl q2) rfl ?_
      rw [(unhide HOf).1, (unhide HOf).2.1, (unhide HOf).2.2]
      exact ⟨⟨_, _, rfl, q3, cert_none _ _⟩, q1⟩

end Rg
end Go.Proofs.YtjblkijicfmkgaaGreatDoor

/-
  The specification's contract of RoundOf, in the form that a law's walk asks for; what it tells is small.
-/
namespace Go.Proofs.YtjblkijicfmkgaaGreatDoor
namespace Gr
open Go.RowKit

theorem specRound_gen (B : Nat) (v : Value) (Q : List (ByteArray × ByteArray)) (r : Int) (h1 : pasize Q ≤ 1048576) (w : World) (hB : B ≤ w.heap.size) (hv : PaAt w v B Q) :
    Calls Tryz.prog 30 #[v, .int .i64 r] w fun e w' => (∃ d c, e = .returned (.tuple #[d, c, .bool (Rg.roOk Q r)]) ∧ InOwn w' w.heap.size d (Rg.roP Q r) ∧ CeAt w' c w'.heap.size (Rg.roC Q r).s (Rg.roC Q r).Q (Rg.roC Q r).M (Rg.roC Q r).Y (Rg.roC Q r).G) ∧ Below w.heap.size w w' := by
  obtain ⟨a, c, rfl, hQ, _⟩ := hv
  exact Rg.specRound_any a Q.length c B Q r (pasize_le h1).1 w hB hQ

theorem roC_small (Q : List (ByteArray × ByteArray)) (r : Int) : csize (Rg.roC Q r).Q (Rg.roC Q r).M (Rg.roC Q r).Y (Rg.roC Q r).G ≤ 1048576 ∧ mkAll 1 (Rg.roC Q r).Q (Rg.roC Q r).M (Rg.roC Q r).Y (Rg.roC Q r).G ≤ 100000000 := by
  unfold Rg.roC
  split
  · exact rc_small _
  · simp [csize, psize, mkAll, mkY, mkM, gbulk, offQ]

theorem roP_small (Q : List (ByteArray × ByteArray)) (r : Int) : (Rg.roP Q r).length ≤ 100000 := by
  unfold Rg.roP
  split
  · rename_i h
    unfold Rg.roOk at h
    rw [Bool.and_eq_true] at h
    have hM := (Rg.state_map h.1).1
    have h2 := Rg.get_size Q (Rg.qk r.toNat)
    have h3 := Rg.map_tot hM
    unfold Rg.poolP
    rw [List.length_map, ByteArray.toList_eq]
    show (Rg.oT (Rg.getP Q (Rg.qk r.toNat))).data.toList.length ≤ _
    rw [Array.length_toList]
    exact Nat.le_trans h2 h3
  · simp
end Gr
end Go.Proofs.YtjblkijicfmkgaaGreatDoor

/-
  The ledger as mathematics: a round's couples as ids, with whom an id is, in how many rounds it was, what the rounds come to, and a round shown.
-/
namespace Go.Proofs.YtjblkijicfmkgaaGreatDoor
namespace Rg
open Go.RowKit

/-- The couples of a round of a state, as ids. -/
def roM (Q : PL) (r : Int) : List Gr.CoupleI := coupK (roP Q r) (roC Q r).M

/-- What holds of a round of a right state. -/
structure RoG (K : List Int) (C : Gr.RC) : Prop where
  mok : Gr.matchOk C.s C.Q C.M = true
  size : C.s = (K.length : Int)
  few : K.length ≤ 9
  pool : ∀ x ∈ K, 0 ≤ x ∧ x < 12
  small : Gr.csize C.Q C.M C.Y C.G ≤ 1048576

theorem RoG.couples {K : List Int} {C : Gr.RC} (h : RoG K C) : ∀ c ∈ C.M, 0 ≤ c.A ∧ c.A < (K.length : Int) ∧ 0 ≤ c.B ∧ c.B < (K.length : Int) := by
  intro c hc
  obtain ⟨hg, _, hm⟩ := Gr.match_sound h.mok
  have := (Gr.match_pm hg C.M none [] hm).1 c hc
  have := h.size
  omega

theorem RoG.little {K : List Int} {C : Gr.RC} (h : RoG K C) : C.M.length ≤ 9 := (Gr.match_sound h.mok).2.1

theorem RoG.sums {K : List Int} {C : Gr.RC} (h : RoG K C) : Gr.SB (Gr.sums C.Q C.M) 9 := by
  obtain ⟨hg, h9, hm⟩ := Gr.match_sound h.mok
  have key : ∀ (L : List Gr.CoupleI) (t : Gr.SumsI) (n : Int), Gr.SB t n → (∀ x ∈ L, 0 ≤ Gr.atFrom x.A x.B 0 C.Q) → Gr.SB (Gr.sumsFrom C.Q t L) (n + (L.length : Int)) := by
    intro L
    induction L with
    | nil => intro t n ht _; simpa [Gr.sumsFrom] using ht
    | cons x r ih =>
      intro t n ht hx
      have h1 := ih _ (n + 1) (ht.add (Gr.edgeN_ok hg (hx x List.mem_cons_self))) (fun y hy => hx y (List.mem_cons_of_mem _ hy))
      show Gr.SB (Gr.sumsFrom C.Q _ r) _
      rw [List.length_cons]
      exact h1.mono (by omega)
  exact (key C.M ⟨0, 0, 0⟩ 0 (Gr.SB.zero _ (by omega)) (Gr.mFrom_at C.Q C.M none [] hm)).mono (by omega)

theorem RoG.sumsR {K : List Int} {C : Gr.RC} (h : RoG K C) : Gr.sumsR C.s C.Q C.M = Gr.sums C.Q C.M := by
  unfold Gr.sumsR
  rw [if_pos h.mok]

/-- The couples of a right state's round are ids. -/
theorem RoG.ids {K : List Int} {C : Gr.RC} (h : RoG K C) : ∀ c ∈ coupK K C.M, (0 ≤ c.A ∧ c.A < 12) ∧ 0 ≤ c.B ∧ c.B < 12 := by
  intro c hc
  unfold coupK at hc
  obtain ⟨d, hd, rfl⟩ := List.mem_map.1 hc
  obtain ⟨a0, a1, b0, b1⟩ := h.couples d hd
  obtain ⟨i, hi, _, e1⟩ := kid_at a0 a1
  obtain ⟨j, hj, _, e2⟩ := kid_at b0 b1
  simp only
  rw [e1, e2]
  exact ⟨h.pool _ (List.getElem_mem hi), h.pool _ (List.getElem_mem hj)⟩

/-- What a right state's rounds are, in the register and in the map. -/
theorem round_rog {Q : PL} {R : Rgs} (hst : stateOk Q = true) (hf : regFold R0 Q = some R) : Inv Q R ∧ Asc Q ∧ rnds Q = R.rds.length ∧ R.rds.length ≤ 6 ∧ (∀ r (h : r < R.rds.length), poolP Q r = R.rds[r].1 ∧ joinB R.rds[r].2 = textP Q r ∧ Gr.partsT (joinB R.rds[r].2) = R.rds[r].2 ∧ RoG R.rds[r].1 (Gr.rcV (textP Q r))) ∧ ∀ a, a < 12 → (R.mem a).1 = 3 → (R.mem a).2 < R.rds.length := by
  obtain ⟨R', hf', I, ha, hc, hr⟩ := reg_inv hst
  rw [hf] at hf'
  cases hf'
  have hc' := hc
  unfold checks roundsR at hc'
  simp only [Bool.and_eq_true, decide_eq_true_eq] at hc'
  have h6 := hc'.2.1.2
  refine ⟨I, ha, hr, h6, fun r h => ?_, (membersOk_iff R).1 hc'.2.2⟩
  have ht := I.t r (by omega)
  rw [List.getElem?_eq_getElem h] at ht
  change joinB R.rds[r].2 = textP Q r at ht
  have hrd := hc'.2.1.1 _ (List.getElem_mem h)
  unfold rdOk poolR at hrd
  simp only [Bool.and_eq_true, decide_eq_true_eq] at hrd
  obtain ⟨⟨hpt, hrc⟩, hs, hj, h9, hch⟩ := hrd
  have hrc' := hrc
  rw [ht] at hrc hs
  have hcert := (Gr.rc_is hrc).1
  unfold Gr.certR at hcert
  simp only [Bool.and_eq_true] at hcert
  refine ⟨(inv_pool I r (by omega) h).2, ht, hpt, hcert.2.1, hs, h9, fun x hx => ?_, (Gr.rc_small _).1⟩
  have := hj x hx
  unfold joined at this
  simp only [Bool.and_eq_true, decide_eq_true_eq] at this
  exact ⟨this.1, this.2.1⟩

/-- The same of the map alone. -/
theorem round_map {Q : PL} (hst : stateOk Q = true) (r : Nat) (h : r < rnds Q) : RoG (poolP Q r) (Gr.rcV (textP Q r)) := by
  obtain ⟨R, hf, _⟩ := reg_inv hst
  obtain ⟨_, _, h1, _, h2, _⟩ := round_rog hst hf
  obtain ⟨e1, _, _, e2⟩ := h2 r (by omega)
  rw [e1]
  exact e2

theorem roOk_at {Q : PL} {r : Nat} (hst : stateOk Q = true) (h : r < rnds Q) : roOk Q (r : Int) = true ∧ roP Q (r : Int) = poolP Q r ∧ roC Q (r : Int) = Gr.rcV (textP Q r) := by
  have h1 : roOk Q (r : Int) = true := by unfold roOk; rw [hst, decide_eq_true (by omega), decide_eq_true (by omega)]; rfl
  unfold roP roC
  rw [if_pos h1, if_pos h1, Int.toNat_natCast]
  exact ⟨h1, rfl, rfl⟩

theorem ro_bounds (Q : PL) (r : Int) : (roC Q r).M.length ≤ 9 ∧ (∀ c ∈ (roC Q r).M, 0 ≤ c.A ∧ c.A < ((roP Q r).length : Int) ∧ 0 ≤ c.B ∧ c.B < ((roP Q r).length : Int)) ∧ (roP Q r).length ≤ 9 ∧ (∀ x ∈ roP Q r, 0 ≤ x ∧ x < 12) ∧ ∀ c ∈ roM Q r, (0 ≤ c.A ∧ c.A < 12) ∧ 0 ≤ c.B ∧ c.B < 12 := by
  cases h : roOk Q r with
  | true =>
    have h' := h
    unfold roOk at h'
    simp only [Bool.and_eq_true, decide_eq_true_eq] at h'
    obtain ⟨hst, h0, h1⟩ := h'
    obtain ⟨n, rfl⟩ := Int.eq_ofNat_of_zero_le h0
    have hn : n < rnds Q := by omega
    obtain ⟨_, e1, e2⟩ := roOk_at hst hn
    have hg := round_map hst n hn
    unfold roM
    rw [e1, e2]
    exact ⟨hg.little, hg.couples, hg.few, hg.pool, hg.ids⟩
  | false =>
    have e1 : roP Q r = [] := by unfold roP; rw [h]; rfl
    have e2 : (roC Q r).M = [] := by unfold roC; rw [h]; rfl
    unfold roM coupK
    rw [e1, e2]
    simp

theorem roM_length (Q : PL) (r : Int) : (roM Q r).length ≤ 9 := by
  unfold roM
  rw [coupK_length]
  exact (ro_bounds Q r).1

/-- The round in which an id is paired. -/
def whoR (Q : PL) (x : Int) : Option Nat := if stateOk Q = true ∧ 0 ≤ x ∧ x < 12 then (match getP Q (k1 118 x.toNat) with | none => none | some v => if byteAt v 0 = 112 then rdD (v.extract 1 v.size) else none) else none

/-- With whom an id is paired. -/
def whoX (Q : PL) (x : Int) : Option (Int × Nat) := match whoR Q x with | none => none | some r => (mateM (roM Q (r : Int)) x).map fun y => (y, r)

def whoA (Q : PL) (x : Int) : Int := match whoX Q x with | none => 0 | some p => p.1
def whoN (Q : PL) (x : Int) : Int := match whoX Q x with | none => 0 | some p => (p.2 : Int)
def whoB (Q : PL) (x : Int) : Bool := (whoX Q x).isSome

theorem stand_three {v : ByteArray} {s : Nat × Nat} (h : standV v = some s) : (s.1 = 3 ∧ byteAt v 0 = 112 ∧ rdD (v.extract 1 v.size) = some s.2) ∨ (s.1 ≠ 3 ∧ byteAt v 0 ≠ 112) := by
  unfold standV at h
  split at h
  · rename_i hv
    simp only [Option.some.injEq] at h
    subst h
    right
    refine ⟨by simp, ?_⟩
    have hl : v.toList = [97] := eq_of_beq hv
    have := byte_head hl
    rw [this]
    decide
  · split at h
    · rename_i hv
      simp only [Option.some.injEq] at h
      subst h
      right
      refine ⟨by simp, ?_⟩
      have hl : v.toList = [108] := eq_of_beq hv
      have := byte_head hl
      rw [this]
      decide
    · split at h
      · rename_i h112
        left
        obtain ⟨r, hr, rfl⟩ := Option.map_eq_some_iff.1 h
        exact ⟨rfl, h112, hr⟩
      · cases h

/-- The register tells the round, too. -/
theorem whoR_is {Q : PL} {R : Rgs} (hst : stateOk Q = true) (I : Inv Q R) (a : Nat) (h : a < 12) : whoR Q (a : Int) = if (R.mem a).1 = 3 then some (R.mem a).2 else none := by
  unfold whoR
  rw [if_pos ⟨hst, by omega, by omega⟩, Int.toNat_natCast]
  have hv := I.v a h
  cases hg : getP Q (k1 118 a) with
  | none =>
    rw [hg] at hv
    simp only at hv
    rw [hv]
    simp
  | some v =>
    rw [hg] at hv
    simp only at hv ⊢
    rcases stand_three hv with ⟨h1, h2, h3⟩ | ⟨h1, h2⟩
    · rw [if_pos h1, if_pos h2, h3]
    · rw [if_neg h1, if_neg h2]

/-- In how many of the first n rounds an id was in the pool. -/
def turnN (Q : PL) (x : Int) : Nat → Nat
  | 0 => 0
  | n + 1 => if inK (poolP Q n) x = true then turnN Q x n + 1 else turnN Q x n

theorem turnN_le (Q : PL) (x : Int) : ∀ n, turnN Q x n ≤ n
  | 0 => Nat.le_refl _
  | n + 1 => by
    have := turnN_le Q x n
    rw [turnN]
    split <;> omega

def turnV (Q : PL) (x : Int) : Int := if stateOk Q = true ∧ inK (idsP [] Q) x = true then ((turnN Q x (rnds Q) : Nat) : Int) else -1

theorem joined_ids {Q : PL} {R : Rgs} (I : Inv Q R) (ha : Asc Q) (x : Int) : inK (idsP [] Q) x = joined R x := by
  rw [ids_is I ha, Bool.eq_iff_iff]
  unfold inK
  rw [List.contains_iff_mem, who_mem]
  constructor
  · rintro ⟨a, _, h, rfl⟩
    exact h
  · intro h
    have h' := h
    unfold joined at h'
    simp only [Bool.and_eq_true, decide_eq_true_eq] at h'
    refine ⟨x.toNat, by omega, ?_, by omega⟩
    unfold isIn
    rw [Int.toNat_of_nonneg h'.1]
    exact h

/-- What the first n rounds come to. -/
def sumQ (Q : PL) : Nat → Gr.SumsI
  | 0 => ⟨0, 0, 0⟩
  | n + 1 => plusS (sumQ Q n) (Gr.sums (Gr.rcV (textP Q n)).Q (Gr.rcV (textP Q n)).M)

theorem sumQ_bound {Q : PL} (hst : stateOk Q = true) : ∀ n, n ≤ rnds Q → Gr.SB (sumQ Q n) (9 * (n : Int))
  | 0, _ => Gr.SB.zero _ (by omega)
  | n + 1, h => by
    have h1 := sumQ_bound hst n (by omega)
    have h2 := (round_map hst n (by omega)).sums
    unfold Gr.SB at *
    show (0 ≤ (sumQ Q n).W1 + _ ∧ (sumQ Q n).W1 + _ ≤ _) ∧ (0 ≤ (sumQ Q n).W2 + _ ∧ (sumQ Q n).W2 + _ ≤ _) ∧ (0 ≤ (sumQ Q n).W3 + _ ∧ (sumQ Q n).W3 + _ ≤ _)
    omega

/-- How many of the first n ids stand so. -/
def memN (R : Rgs) (s : Nat) : Nat → Nat
  | 0 => 0
  | n + 1 => if (R.mem n).1 = s then memN R s n + 1 else memN R s n

theorem memN_le (R : Rgs) (s : Nat) : ∀ n, memN R s n ≤ n
  | 0 => Nat.le_refl _
  | n + 1 => by
    have := memN_le R s n
    rw [memN]
    split <;> omega

theorem who_len (f : Nat → Bool) (R : Rgs) (s : Nat) : ∀ n, n ≤ 12 → (∀ a, a < 12 → f a = decide ((R.mem a).1 = s)) → (whoTo f n).length = memN R s n
  | 0, _, _ => rfl
  | n + 1, hn, h => by
    have ih := who_len f R s n (by omega) h
    rw [who_succ, memN, h n (by omega)]
    by_cases hs : (R.mem n).1 = s
    · rw [if_pos hs, decide_eq_true hs, if_pos rfl, List.length_append, ih]
      rfl
    · rw [if_neg hs, decide_eq_false hs, if_neg (by simp), ih]

theorem mem_four {Q : PL} {R : Rgs} (I : Inv Q R) (a : Nat) (h : a < 12) : (R.mem a).1 ≤ 3 := by
  have hv := I.v a h
  cases hg : getP Q (k1 118 a) with
  | none =>
    rw [hg] at hv
    simp only at hv
    rw [hv]
    simp
  | some v =>
    rw [hg] at hv
    simp only at hv
    unfold standV at hv
    split at hv
    · simp only [Option.some.injEq] at hv; rw [← hv]; simp
    · split at hv
      · simp only [Option.some.injEq] at hv; rw [← hv]; simp
      · split at hv
        · obtain ⟨r, _, e⟩ := Option.map_eq_some_iff.1 hv
          rw [← e]
          simp
        · cases hv

theorem who_all (R : Rgs) : ∀ n, n ≤ 12 → (∀ a, a < 12 → (R.mem a).1 ≤ 3) → (whoTo (isIn R) n).length = memN R 1 n + memN R 2 n + memN R 3 n
  | 0, _, _ => rfl
  | n + 1, hn, h => by
    have ih := who_all R n (by omega) h
    have h3 := h n (by omega)
    have hj : isIn R n = decide ((R.mem n).1 ≠ 0) := by
      unfold isIn joined
      rw [decide_eq_true (by omega), decide_eq_true (by omega), Bool.true_and, Bool.true_and, Int.toNat_natCast]
    rw [who_succ, hj, memN, memN, memN]
    have : (R.mem n).1 = 0 ∨ (R.mem n).1 = 1 ∨ (R.mem n).1 = 2 ∨ (R.mem n).1 = 3 := by omega
    rcases this with e | e | e | e <;> rw [e] <;> simp [ih] <;> omega

def isLf (R : Rgs) (a : Nat) : Bool := decide ((R.mem a).1 = 2)

theorem stand_left {v : ByteArray} {s : Nat × Nat} (h : standV v = some s) : s.1 = 2 ↔ v.toList = [108] := by
  unfold standV at h
  split at h
  · rename_i hv
    simp only [Option.some.injEq] at h
    subst h
    rw [eq_of_beq hv]
    simp
  · split at h
    · rename_i hv
      simp only [Option.some.injEq] at h
      subst h
      simp [eq_of_beq hv]
    · rename_i hv
      have hv' : v.toList ≠ [108] := fun e => hv (by rw [e]; rfl)
      split at h
      · obtain ⟨r, _, e⟩ := Option.map_eq_some_iff.1 h
        rw [← e]
        simp [hv']
      · cases h

theorem left_is {Q : PL} {R : Rgs} (I : Inv Q R) (ha : Asc Q) : idsP [108] Q = whoTo (isLf R) 12 := by
  obtain ⟨h1, h2⟩ := asc_num ha I.f [108]
  refine lt_eq _ _ h1 (who_asc _ _) (fun x => ?_)
  rw [who_mem]
  constructor
  · intro hx
    obtain ⟨a, h12, rfl, p, hp, hk, hw⟩ := h2 x hx
    refine ⟨a, h12, ?_, rfl⟩
    have hv := I.v a h12
    have hg := getP_mem ha hp
    rw [hk] at hg
    rw [hg] at hv
    simp only at hv
    unfold isLf
    refine decide_eq_true ((stand_left hv).2 ?_)
    rcases hw with h | h
    · cases h
    · exact h
  · rintro ⟨a, h12, hj, rfl⟩
    unfold isLf at hj
    simp only [decide_eq_true_eq] at hj
    have hv := I.v a h12
    cases hg : getP Q (k1 118 a) with
    | none => rw [hg] at hv; simp only at hv; rw [hv] at hj; cases hj
    | some v =>
      rw [hg] at hv
      simp only at hv
      obtain ⟨p, hp, hk, h3⟩ := get_pair Q _ v hg
      refine ids_mem Q p a hp (by omega) hk (Or.inr ?_)
      rw [h3]
      exact (stand_left hv).1 hj

def totV (Q : PL) : TotI := if stateOk Q = true then ⟨(rnds Q : Int), ((idsP [] Q).length : Int) - ((idsP [97] Q).length : Int) - ((idsP [108] Q).length : Int), ((idsP [97] Q).length : Int), ((idsP [108] Q).length : Int), sumQ Q (rnds Q)⟩ else ⟨0, 0, 0, 0, ⟨0, 0, 0⟩⟩

/-- What the program adds up over its members. -/
def memTot (R : Rgs) (n : Nat) : TotI := ⟨0, ((memN R 3 n : Nat) : Int), ((memN R 1 n : Nat) : Int), ((memN R 2 n : Nat) : Int), ⟨0, 0, 0⟩⟩

theorem totV_is {Q : PL} {R : Rgs} (hst : stateOk Q = true) (I : Inv Q R) (ha : Asc Q) : totV Q = { memTot R 12 with R := (rnds Q : Int), S := sumQ Q (rnds Q) } := by
  unfold totV memTot
  rw [if_pos hst]
  have h1 : (idsP [97] Q).length = memN R 1 12 := by
    rw [here_is I ha]
    refine who_len _ R 1 12 (by omega) (fun a h => ?_)
    unfold isHr isHereR
    rw [decide_eq_true (by omega), decide_eq_true (by omega), Bool.true_and, Bool.true_and, Int.toNat_natCast]
  have h2 : (idsP [108] Q).length = memN R 2 12 := by
    rw [left_is I ha]
    exact who_len _ R 2 12 (by omega) (fun a h => rfl)
  have h3 : (idsP [] Q).length = memN R 1 12 + memN R 2 12 + memN R 3 12 := by
    rw [ids_is I ha]
    exact who_all R 12 (by omega) (fun a h => mem_four I a h)
  rw [h1, h2, h3]
  simp only [TotI.mk.injEq, true_and, and_true]
  omega

/-- A number's figures. -/
def dB (x : Int) : ByteArray := ⟨(Lib.itoa x).toArray⟩

theorem dB_size (x : Int) (h0 : 0 ≤ x) (h1 : x ≤ 1000000000) : (dB x).size ≤ 20 := by
  obtain ⟨n, rfl⟩ := Int.eq_ofNat_of_zero_le h0
  have := itoa_short n (by omega)
  unfold dB
  simpa [ByteArray.size] using this

/-- A couple, told. -/
def cT (c : Gr.CoupleI) : ByteArray := ((⟨#[32]⟩ ++ dB c.A) ++ ⟨#[43]⟩) ++ dB c.B
/-- One alone, told. -/
def aT (x : Int) : ByteArray := ⟨#[32]⟩ ++ dB x

def cAll (M : List Gr.CoupleI) : ByteArray := joinB (M.map cT)
def aAll (M : List Gr.CoupleI) (K : List Int) : ByteArray := joinB ((K.filter fun x => (mateM M x).isNone).map aT)

theorem cAll_snoc (M : List Gr.CoupleI) (j : Nat) (h : j < M.length) : cAll (M.take (j + 1)) = cAll (M.take j) ++ cT M[j] := by
  unfold cAll
  rw [List.take_succ_eq_append_getElem h, List.map_append]
  exact joinB_snoc _ _

theorem aAll_snoc (M : List Gr.CoupleI) (K : List Int) (j : Nat) (h : j < K.length) : aAll M (K.take (j + 1)) = if (mateM M K[j]).isSome = true then aAll M (K.take j) else aAll M (K.take j) ++ aT K[j] := by
  unfold aAll
  rw [List.take_succ_eq_append_getElem h, List.filter_append, List.map_append]
  cases hm : mateM M K[j] with
  | none =>
    rw [if_neg (show ¬ (none : Option Int).isSome = true by simp)]
    simp only [List.filter_cons, hm, Option.isNone_none, if_true, List.filter_nil, List.map_cons, List.map_nil]
    exact joinB_snoc _ _
  | some y =>
    rw [if_pos (show (some y).isSome = true from rfl)]
    simp [hm]

def rdB : ByteArray := ⟨#[114, 111, 117, 110, 100, 32]⟩
def alB : ByteArray := ⟨#[59, 32, 97, 108, 111, 110, 101, 58]⟩

/-- What is shown of a round behind its number. -/
def shT (K : List Int) (M : List Gr.CoupleI) : ByteArray := (cAll M ++ alB) ++ aAll M K

/-- A round, shown. -/
def showT (r : Int) (K : List Int) (M : List Gr.CoupleI) : ByteArray := ((rdB ++ dB r) ++ ⟨#[58]⟩) ++ shT K M

def showV (Q : PL) (r : Int) : ByteArray := if roOk Q r = true then showT r (roP Q r) (roM Q r) else ⟨#[]⟩

end Rg
end Go.Proofs.YtjblkijicfmkgaaGreatDoor

/-
  The ledger, the specification's: in how many rounds an id was.
-/
namespace Go.Proofs.YtjblkijicfmkgaaGreatDoor
namespace Rg
open Go.RowKit
open Gr (Blk Kept Grown)

set_option maxRecDepth 100000 in
set_option maxHeartbeats 4000000 in
theorem specTurn_any (a : Option Addr) (len cap B : Nat) (Q : PL) (x : Int) (hlen : len ≤ 1048576) (w : World) (hB : B ≤ w.heap.size) (hs : Tr.PairsAt w a len B Q) :
    Calls Tryz.prog 22 #[.slice a len cap, .int .i64 x] w fun e w' => e = .returned (.int .i64 (turnV Q x)) ∧ Below w.heap.size w w' := by
  have SO := hide (fun w1 (hb : Below w.heap.size w w1) => state_any a len cap B Q hlen w1 (by have := hb.size; omega) (hs.below hb hB))
  have hV : turnV Q x = if stateOk Q = true ∧ inK (idsP [] Q) x = true then ((turnN Q x (rnds Q) : Nat) : Int) else -1 := rfl
  generalize turnV Q x = V at hV ⊢
  cases hst : stateOk Q with
  | false =>
    rw [hst] at hV SO
    rw [if_neg (by simp)] at hV
    subst hV
    clear hs
    go_enter Tryz.func22, Tryz.ntmps22
    go_wp2_with fail
    refine (unhide SO w (Below.refl _ _)).mono ?_
    rintro e w1 ⟨rfl, hb1⟩
    go_wp2
    go_ret
    exact ⟨rfl, hb1⟩
  | true =>
    rw [hst] at hV SO
    obtain ⟨hM, h6⟩ := state_map hst
    have hQ120 := hM.1
    have htot := map_tot hM
    have hL := hs.1
    have II := hide (fun w1 (hb : Below w.heap.size w w1) => ids_all a len cap B Q hlen (fun q hq => ⟨(map_pair hM q hq).1, (map_pair hM q hq).2.1⟩) w1 (by have := hb.size; omega) (hs.below hb hB))
    have RN := hide (fun w1 (hb : Below w.heap.size w w1) => rounds_any a len cap B Q (by omega) w1 (by have := hb.size; omega) (hs.below hb hB))
    have PO := hide (fun rn (hr : rn ≤ 1000) w1 (hb : Below w.heap.size w w1) => pool_any a len cap B Q rn (by omega) hlen (by omega) w1 (by have := hb.size; omega) (hs.below hb hB))
    have hids : (idsP [] Q).length ≤ 1048576 := Nat.le_trans (ids_short [] Q) (by omega)
    have HPL : Hid (∀ rn, (poolP Q rn).length ≤ 1048576) := fun rn => by
      have h1 := get_size Q (qk rn)
      have h2 : (poolP Q rn).length = (oT (getP Q (qk rn))).size := by
        unfold poolP
        rw [List.length_map, ByteArray.toList_eq]
        exact Array.length_toList
      omega
    have HTN := hide (fun n => turnN_le Q x n)
    have HTS : Hid (∀ n, turnN Q x (n + 1) = if inK (poolP Q n) x = true then turnN Q x n + 1 else turnN Q x n) := fun n => rfl
    obtain ⟨n, hn⟩ : ∃ n, n = rnds Q := ⟨_, rfl⟩
    rw [← hn] at RN hV h6
    clear hst hM hs htot hQ120 hn
    go_enter Tryz.func22, Tryz.ntmps22
    go_wp2_with fail
    refine (unhide SO w (Below.refl _ _)).mono ?_
    rintro e w1 ⟨rfl, b1⟩
    go_wp2_with fail
    refine (unhide II w1 b1).mono ?_
    rintro e w2 ⟨⟨d, rfl, hO⟩, hb2⟩
    obtain ⟨pa, pc, rfl, hK⟩ := (show Gr.InOwn w2 w1.heap.size d (idsP [] Q) from hO).at
    have b2 := b1.trans (hb2.mono b1.size)
    have LI := hide (l03In_any pa (idsP [] Q).length pc w2.heap.size (idsP [] Q) x hids w2 hK)
    clear hO hK hb2 b1
    go_wp2_with fail
    refine (unhide LI).mono ?_
    rintro e w3 ⟨rfl, rfl⟩
    clear LI
    cases hin : inK (idsP [] Q) x with
    | false =>
      rw [hin, if_neg (by simp)] at hV
      subst hV
      clear hin
      go_wp2
      go_ret
      exact ⟨rfl, b2⟩
    | true =>
      rw [hin, if_pos (by simp)] at hV
      clear hin hids II SO
      have HB2 := hide b2
      clear b2
      go_wp2_with fail
      go_loopw [5, 6] (fun nv iv wr => ∃ (j m : Nat), nv = .int .i64 (m : Int) ∧ iv = .int .i64 (j : Int) ∧ j ≤ n ∧ Hid (m = turnN Q x j) ∧ m ≤ j ∧ Below w.heap.size w wr) (fun _ iv _ => n - (intOf iv).toNat)
      case atStart => exact ⟨0, 0, rfl, rfl, Nat.zero_le _, rfl, Nat.zero_le _, unhide HB2⟩
      case round =>
        obtain ⟨j, m, rfl, rfl, hj, HM, hm, hb⟩ := hrel
        clear HB2
        go_wp2_with fail
        refine (unhide RN wr hb).mono ?_
        rintro e w4 ⟨rfl, hb4⟩
        have b4 := hb.trans (hb4.mono hb.size)
        clear hb4 hb
        by_cases hlt : j < n
        · have hj1 : (j : Int) < (n : Int) := by omega
          have POj := hide (unhide PO j (by omega))
          have hpl := unhide HPL j
          have HTSj := hide (unhide HTS j)
          generalize poolP Q j = K at POj hpl HTSj
          go_wp2_with fail
          refine (unhide POj w4 b4).mono ?_
          rintro e w5 ⟨⟨d5, rfl, hO5⟩, hb5⟩
          obtain ⟨qa, qc, rfl, hK5⟩ := hO5.at
          have b5 := b4.trans (hb5.mono b4.size)
          have LI := hide (l03In_any qa K.length qc w5.heap.size K x hpl w5 hK5)
          clear hO5 hK5 hb5
          go_wp2_with fail
          refine (unhide LI).mono ?_
          rintro e w6 ⟨rfl, rfl⟩
          clear LI
          cases hin : inK K x with
          | true =>
            have HM2 : Hid (m + 1 = turnN Q x (j + 1)) := by show _ = _; rw [unhide HTSj, hin, if_pos rfl, ← unhide HM]
            clear hin HTSj HM
            go_wp2_with fail
            exact ⟨⟨j + 1, m + 1, by go_num, by go_num, by omega, unhide HM2, by omega, b5⟩, by simp [intOf]; omega⟩
          | false =>
            have HM2 : Hid (m = turnN Q x (j + 1)) := by show _ = _; rw [unhide HTSj, hin, if_neg (by simp), ← unhide HM]
            clear hin HTSj HM
            go_wp2_with fail
            exact ⟨⟨j + 1, m, by go_num, by go_num, by omega, unhide HM2, by omega, b5⟩, by simp [intOf]; omega⟩
        · obtain rfl : j = n := by omega
          have hVm : V = (m : Int) := by rw [hV, ← unhide HM]
          subst hVm
          have hj1 : ¬ (j : Int) < (j : Int) := by omega
          clear hV HM
          go_wp2
          go_ret
          exact ⟨rfl, b4⟩

end Rg
end Go.Proofs.YtjblkijicfmkgaaGreatDoor
