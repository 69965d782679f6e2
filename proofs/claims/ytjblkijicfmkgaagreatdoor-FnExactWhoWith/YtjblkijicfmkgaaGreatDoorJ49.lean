/-
  Texts of this claim, one behind the other: Lg7, Lg9, Lg10, Lg11, Lg12.
-/
import Derived.Test.YtjblkijicfmkgaaGreatDoorJ48
import Derived.Test.YtjblkijicfmkgaaGreatDoorJ42
import Derived.Test.YtjblkijicfmkgaaGreatDoorJ47
import Derived.Test.YtjblkijicfmkgaaGreatDoorJ41
import Derived.Test.YtjblkijicfmkgaaGreatDoorJ2
import Derived.Test.YtjblkijicfmkgaaGreatDoorJ35

/-
  The ledger, the program's: CouplesOf and WhoWith, in the laws' form.
-/
namespace Go.Proofs.YtjblkijicfmkgaaGreatDoor
namespace Rg
open Go.RowKit
open Gr (Blk Kept Grown)

/-- What stands in a right register, for a round. -/
theorem reg_round {Q : PL} {R : Rgs} (hst : stateOk Q = true) (hf : regFold R0 Q = some R) : rnds Q = R.rds.length ∧ R.rds.length ≤ 6 ∧ (∀ j (h : j < R.rds.length), roM Q (j : Int) = coupK R.rds[j].1 (cV R.rds[j].2).M ∧ roP Q (j : Int) = R.rds[j].1 ∧ (joinB R.rds[j].2).size ≤ 1048576 ∧ R.rds[j].2.length ≤ 1048576 ∧ (cV R.rds[j].2).M.length ≤ 9 ∧ R.rds[j].1.length ≤ 9 ∧ (∀ x ∈ R.rds[j].1, 0 ≤ x ∧ x < 12) ∧ ∀ c ∈ (cV R.rds[j].2).M, 0 ≤ c.A ∧ c.A < (R.rds[j].1.length : Int) ∧ 0 ≤ c.B ∧ c.B < (R.rds[j].1.length : Int)) ∧ ∀ a : Nat, a < 12 → whoR Q (a : Int) = (if (R.mem a).1 = 3 then some (R.mem a).2 else none) ∧ ((R.mem a).1 = 3 → (R.mem a).2 < R.rds.length) := by
  obtain ⟨I, ha, hr, h6, h1, hm⟩ := round_rog hst hf
  refine ⟨hr, h6, fun j h => ?_, fun a h => ⟨whoR_is hst I a h, hm a h⟩⟩
  obtain ⟨e1, e2, e3, e4⟩ := h1 j h
  have hcv : cV R.rds[j].2 = Gr.rcV (textP Q j) := by unfold cV; rw [if_pos e3, e2]
  obtain ⟨_, o1, o2⟩ := roOk_at hst (show j < rnds Q by omega)
  have hsz : (textP Q j).size ≤ 1048576 := by
    have h1 := text_size Q j
    have h2 := map_tot (state_map hst).1
    omega
  refine ⟨?_, by rw [o1, e1], by rw [e2]; exact hsz, ?_, by rw [hcv]; exact e4.little, e4.few, e4.pool, by rw [hcv]; exact e4.couples⟩
  · unfold roM
    rw [o1, o2, e1, hcv]
  · have := I.rl _ (List.getElem_mem h)
    omega

end Rg
namespace Gr
open Go.RowKit

theorem roM_len (Q : List (ByteArray × ByteArray)) (r : Int) : (Rg.roM Q r).length ≤ 9 := Rg.roM_length Q r

set_option maxRecDepth 100000 in
set_option maxHeartbeats 2000000 in
theorem implCouples_gen (B : Nat) (v : Value) (Q : List (ByteArray × ByteArray)) (r : Int) (h1 : pasize Q ≤ 1048576) (w : World) (hB : B ≤ w.heap.size) (ht : Rg.Tab w.heap.size w) (hv : PaAt w v B Q) :
    Calls Tryz.prog 17 #[v, .int .i64 r] w fun e w' => (∃ d, e = .returned (.tuple #[d, .bool (Rg.roOk Q r)]) ∧ CoOwn w' w.heap.size d (Rg.roM Q r)) ∧ Below w.heap.size w w' := by
  obtain ⟨a, c, rfl, hQ, _⟩ := hv
  have RG := hide (fun w1 (hb : Below w.heap.size w w1) => Rg.register_any a Q.length c B Q (pasize_le h1).1 w1 (by have := hb.size; omega) ((ht.below hb).mono hb.size) (hQ.below hb hB))
  rw [Rg.reg_is] at RG
  have hOK : Rg.roOk Q r = (Rg.stateOk Q && (decide (0 ≤ r) && decide (r ≤ (Rg.rnds Q : Int) - 1))) := rfl
  have hRM : Rg.roM Q r = Rg.coupK (Rg.roP Q r) (Rg.roC Q r).M := rfl
  have hRN : Rg.roOk Q r = false → Rg.roM Q r = [] := fun h => by
    unfold Rg.roM Rg.roC
    rw [h]
    rfl
  have HRR := hide (fun R h1 h2 => Rg.reg_round (Q := Q) (R := R) h1 h2)
  generalize Rg.roM Q r = RM at hRM hRN ⊢
  generalize Rg.roOk Q r = OK at hOK hRN ⊢
  have HSTQ : Hid (∀ R, Rg.stateOk Q = true → Rg.regFold Rg.R0 Q = some R → Rg.rnds Q = R.rds.length ∧ ∀ j : Nat, r = (j : Int) → ∀ (h : j < R.rds.length), RM = Rg.coupK R.rds[j].1 (Rg.cV R.rds[j].2).M) := fun R a1 a2 => by
    obtain ⟨e1, _, e3, _⟩ := unhide HRR R a1 a2
    refine ⟨e1, fun j hj h => ?_⟩
    subst hj
    rw [hRM]
    exact (e3 j h).1
  generalize Rg.stateOk Q = st at RG hOK HRR HSTQ
  clear hRM hQ ht
  go_enter Tryz.func17, Tryz.ntmps17
  go_wp2_with fail
  refine (unhide RG w (Below.refl _ _)).mono ?_
  rintro e w1 ⟨⟨R, rfl, hR, hf⟩, b1⟩
  cases st with
  | false =>
    rw [Bool.false_and] at hOK
    subst hOK
    have hRe := hRN rfl
    subst hRe
    clear hf hR RG HRR HSTQ
    go_wp2
    go_ret2
    exact ⟨⟨_, rfl, rfl, .inl ⟨rfl, rfl⟩⟩, b1⟩
  | true =>
    rw [Bool.true_and] at hOK
    obtain ⟨f1, f6, f3, _⟩ := unhide HRR R rfl (hf rfl)
    obtain ⟨_, g3⟩ := unhide HSTQ R rfl (hf rfl)
    have IP := hide (fun w2 => isPlace_is r (R.rds.length : Int) w2)
    have hpl : (decide (0 ≤ r) && decide (r < (R.rds.length : Int))) = OK := by rw [hOK, f1, Bool.eq_iff_iff]; simp only [Bool.and_eq_true, decide_eq_true_eq]; omega
    rw [hpl] at IP
    obtain ⟨_, rv, vs, hk0, hrd0⟩ := hR
    obtain ⟨ra, rc, hrv⟩ := Rg.row_shape0 hrd0.own
    have c600 : w1.cell? ⟨w.heap.size, 600, none⟩ = some (.slice ra R.rds.length rc) := hk0.cell 600 _ (by rw [Rg.regC_at _ _ _ (by omega), Rg.cell_rds, hrv])
    by_cases hin : 0 ≤ r ∧ r < (R.rds.length : Int)
    · obtain ⟨n, rfl⟩ := Int.eq_ofNat_of_zero_le hin.1
      have hn : n < R.rds.length := by omega
      have hOKt : OK = true := by rw [← hpl, decide_eq_true hin.1, decide_eq_true hin.2]; rfl
      subst hOKt
      have hRM := g3 n rfl hn
      obtain ⟨_, _, p3, p4, p5, p6, p7, p8⟩ := f3 n hn
      have hnv : n < vs.length := by rw [hrd0.len]; exact hn
      have hpool := hrd0.pool n hnv hn
      have hpart := hrd0.part n hnv hn
      obtain ⟨pa, pc, hpv⟩ := Rg.row_shape0 hpool
      obtain ⟨ta, tc, htv⟩ := Rg.row_shape0 hpart
      rw [hrv] at hrd0
      obtain ⟨gv, hgv⟩ : ∃ gv, ra = some ⟨gv, 0, none⟩ := by
        rcases hrd0.own.2 with ⟨h1, h2⟩ | ⟨gv, cap, cur, h1, _⟩
        · omega
        · simp at h1; exact ⟨gv, h1.1⟩
      subst hgv
      have q0 : w1.cell? ⟨gv, n * 2, none⟩ = some (.slice pa R.rds[n].1.length pc) := by rw [hrd0.own.cellAt (n * 2) (by omega), ← hpv]; exact (Rg.flat_at vs n hnv).1
      have q1 : w1.cell? ⟨gv, n * 2 + 1, none⟩ = some (.slice ta R.rds[n].2.length tc) := by rw [hrd0.own.cellAt (n * 2 + 1) (by omega), ← htv]; exact (Rg.flat_at vs n hnv).2
      rw [hpv] at hpool
      rw [htv] at hpart
      have CE := hide (Rg.couples_any w.heap.size (.slice pa R.rds[n].1.length pc) (.slice ta R.rds[n].2.length tc) R.rds[n].1 R.rds[n].2 p3 p4 p5 p8 w1 hpool hpart)
      rw [← hRM] at CE
      have hnn : ((n : Nat) : Int) < ((R.rds.length : Nat) : Int) := hin.2
      have hn0 : (0 : Int) ≤ ((n : Nat) : Int) := by omega
      clear f1 f3 g3 p3 p4 p5 p6 p7 p8 hpv htv hpool hpart hOK hpl hf hrd0 hk0 hRN hrv HRR HSTQ RG hRM hin
      generalize R.rds[n].1.length = pl at q0 CE
      generalize R.rds[n].2.length = tl at q1 CE
      go_wp2_with fail
      refine (unhide IP _).mono ?_
      rintro e w2 ⟨rfl, rfl⟩
      go_wp2_with fail
      refine (unhide CE).mono ?_
      rintro e w3 ⟨⟨d3, rfl, h3⟩, hb3⟩
      have HD := hide (CoOwn.lower h3 b1.size)
      have HB := hide (b1.trans (hb3.mono b1.size))
      clear h3 hb3
      go_wp2
      go_ret2
      exact ⟨⟨_, rfl, unhide HD⟩, unhide HB⟩
    · have hOKf : OK = false := by
        rw [← hpl, Bool.and_eq_false_iff, decide_eq_false_iff_not, decide_eq_false_iff_not]
        omega
      subst hOKf
      have hRe := hRN rfl
      subst hRe
      clear hf f1 f3 g3 hpl hOK hk0 hrd0 HRR HSTQ RG
      go_wp2_with fail
      refine (unhide IP _).mono ?_
      rintro e w2 ⟨rfl, rfl⟩
      go_wp2
      go_ret2
      exact ⟨⟨_, rfl, rfl, .inl ⟨rfl, rfl⟩⟩, b1⟩

theorem specCouples_gen (B : Nat) (v : Value) (Q : List (ByteArray × ByteArray)) (r : Int) (h1 : pasize Q ≤ 1048576) (w : World) (hB : B ≤ w.heap.size) (hv : PaAt w v B Q) :
    Calls Tryz.prog 16 #[v, .int .i64 r] w fun e w' => (∃ d, e = .returned (.tuple #[d, .bool (Rg.roOk Q r)]) ∧ CoOwn w' w.heap.size d (Rg.roM Q r)) ∧ Below w.heap.size w w' := by
  obtain ⟨a, c, rfl, hQ, _⟩ := hv
  exact Rg.specCouples_any a Q.length c B Q r (pasize_le h1).1 w hB hQ

end Gr
end Go.Proofs.YtjblkijicfmkgaaGreatDoor

/-
  The ledger, the program's: WhoWith, in the laws' form.
-/
namespace Go.Proofs.YtjblkijicfmkgaaGreatDoor
namespace Gr
open Go.RowKit

set_option maxRecDepth 100000 in
set_option maxHeartbeats 2000000 in
theorem implWho_gen (B : Nat) (v : Value) (Q : List (ByteArray × ByteArray)) (x : Int) (h1 : pasize Q ≤ 1048576) (w : World) (hB : B ≤ w.heap.size) (ht : Rg.Tab w.heap.size w) (hv : PaAt w v B Q) :
    Calls Tryz.prog 15 #[v, .int .i64 x] w fun e w' => e = .returned (.tuple #[.int .i64 (Rg.whoA Q x), .int .i64 (Rg.whoN Q x), .bool (Rg.whoB Q x)]) ∧ Below w.heap.size w w' := by
  rw [Rg.whoVal_is]
  obtain ⟨a, c, rfl, hQ, _⟩ := hv
  have RG := hide (fun w1 (hb : Below w.heap.size w w1) => Rg.register_any a Q.length c B Q (pasize_le h1).1 w1 (by have := hb.size; omega) ((ht.below hb).mono hb.size) (hQ.below hb hB))
  rw [Rg.reg_is] at RG
  have hV : Rg.whoX Q x = match Rg.whoR Q x with | none => none | some r => (Rg.mateM (Rg.roM Q (r : Int)) x).map fun y => (y, r) := rfl
  have hW0 : ∀ h : ¬ (Rg.stateOk Q = true ∧ 0 ≤ x ∧ x < 12), Rg.whoR Q x = none := fun h => by unfold Rg.whoR; rw [if_neg h]
  have HRR := hide (fun R h1 h2 => Rg.reg_round (Q := Q) (R := R) h1 h2)
  generalize Rg.whoX Q x = X at hV ⊢
  have IP := hide (fun w2 => isPlace_is x 12 w2)
  cases hst : Rg.stateOk Q with
  | false =>
    rw [hst] at RG
    have hX : X = none := by rw [hV, hW0 (by rw [hst]; simp)]
    subst hX
    clear hQ ht hV hW0 HRR hst
    go_enter Tryz.func15, Tryz.ntmps15
    go_wp2_with fail
    refine (unhide RG w (Below.refl _ _)).mono ?_
    rintro e w1 ⟨⟨R, rfl, hR, hf⟩, b1⟩
    go_wp2
    go_ret3
    exact ⟨rfl, b1⟩
  | true =>
    rw [hst] at RG
    by_cases hr : 0 ≤ x ∧ x < 12
    · obtain ⟨n, rfl⟩ := Int.eq_ofNat_of_zero_le hr.1
      have hn : n < 12 := by omega
      have hti : (decide ((0 : Int) ≤ (n : Int)) && decide ((n : Int) < 12)) = true := by simp; omega
      rw [hti] at IP
      clear hQ ht hW0
      have HST := hide hst
      clear hst
      go_enter Tryz.func15, Tryz.ntmps15
      go_wp2_with fail
      refine (unhide RG w (Below.refl _ _)).mono ?_
      rintro e w1 ⟨⟨R, rfl, hR, hf⟩, b1⟩
      obtain ⟨f1, f6, f3, f4⟩ := unhide HRR R (unhide HST) (hf (by simp))
      obtain ⟨m0, m1⟩ := hR.mem n hn
      obtain ⟨g1, g2⟩ := f4 n hn
      rw [g1] at hV
      have hn0 : (0 : Int) ≤ (n : Int) := hr.1
      have hn1 : (n : Int) < 12 := hr.2
      by_cases h3 : (R.mem n).1 = 3
      · have hb3 : ((((R.mem n).1 : Nat) : Int) != 3) = false := by rw [h3]; rfl
        rw [if_pos h3] at hV
        simp only [] at hV
        have hrl := g2 h3
        obtain ⟨e0, _, p3, p4, p5, p6, p7, p8⟩ := f3 (R.mem n).2 hrl
        generalize hrn : (R.mem n).2 = rn at hrl hV m1 e0 p3 p4 p5 p6 p7 p8
        obtain ⟨_, rv, vs, hk0, hrd0⟩ := hR
        obtain ⟨ra, rc, hrv⟩ := Rg.row_shape0 hrd0.own
        have c600 : w1.cell? ⟨w.heap.size, 600, none⟩ = some (.slice ra R.rds.length rc) := hk0.cell 600 _ (by rw [Rg.regC_at _ _ _ (by omega), Rg.cell_rds, hrv])
        have hnv : rn < vs.length := by rw [hrd0.len]; exact hrl
        have hpool := hrd0.pool rn hnv hrl
        have hpart := hrd0.part rn hnv hrl
        obtain ⟨pa, pc, hpv⟩ := Rg.row_shape0 hpool
        obtain ⟨ta, tc, htv⟩ := Rg.row_shape0 hpart
        rw [hrv] at hrd0
        obtain ⟨gv, hgv⟩ : ∃ gv, ra = some ⟨gv, 0, none⟩ := by
          rcases hrd0.own.2 with ⟨h1, h2⟩ | ⟨gv, cap, cur, h1, _⟩
          · omega
          · simp at h1; exact ⟨gv, h1.1⟩
        subst hgv
        have q0 : w1.cell? ⟨gv, rn * 2, none⟩ = some (.slice pa R.rds[rn].1.length pc) := by rw [hrd0.own.cellAt (rn * 2) (by omega), ← hpv]; exact (Rg.flat_at vs rn hnv).1
        have q1 : w1.cell? ⟨gv, rn * 2 + 1, none⟩ = some (.slice ta R.rds[rn].2.length tc) := by rw [hrd0.own.cellAt (rn * 2 + 1) (by omega), ← htv]; exact (Rg.flat_at vs rn hnv).2
        rw [hpv] at hpool
        rw [htv] at hpart
        have CE := hide (Rg.couples_any w.heap.size (.slice pa R.rds[rn].1.length pc) (.slice ta R.rds[rn].2.length tc) R.rds[rn].1 R.rds[rn].2 p3 p4 p5 p8 w1 hpool hpart)
        rw [← e0] at CE
        have hml := Rg.roM_length Q (rn : Int)
        generalize Rg.roM Q (rn : Int) = M at CE hV hml
        have hnn : ((rn : Nat) : Int) < ((R.rds.length : Nat) : Int) := by omega
        have hrn0 : (0 : Int) ≤ ((rn : Nat) : Int) := by omega
        clear f1 f3 f4 g1 g2 p3 p4 p5 p6 p7 p8 hpv htv hpool hpart hf hrd0 hk0 hrv HRR RG hr hti
        generalize (((R.mem n).1 : Nat) : Int) = s1 at m0 hb3
        generalize R.rds[rn].1.length = pl at q0 CE
        generalize R.rds[rn].2.length = tl at q1 CE
        have HV := hide hV
        have HMA := hide (fun a' c' w2 B' (hB' : B' ≤ w2.heap.size) hM => Rg.mate_any a' M.length c' B' M (n : Int) (by omega) w2 hB' hM)
        clear hV h3 hrn
        generalize Rg.mateM M (n : Int) = o at HV HMA
        go_wp2_with fail
        refine (unhide IP _).mono ?_
        rintro e w2 ⟨rfl, rfl⟩
        go_wp2_with fail
        refine (unhide CE).mono ?_
        rintro e w3 ⟨⟨d3, rfl, h3⟩, hb3⟩
        obtain ⟨ma, mc, rfl, hM⟩ := h3.at
        have MA := hide (unhide HMA ma mc w3 w3.heap.size (Nat.le_refl _) hM)
        have b3 := b1.trans (hb3.mono b1.size)
        clear h3 hM hb3 HMA
        go_wp2_with fail
        refine (unhide MA).mono ?_
        rintro e w4 ⟨rfl, hb4⟩
        have b4 := b3.trans (hb4.mono b3.size)
        clear hb4 MA
        cases o with
        | none =>
          have hX : X = none := unhide HV
          subst hX
          rw [show Rg.mateV none = .tuple #[.int .i64 0, .bool false] from rfl]
          clear HV
          go_wp2
          go_ret3
          exact ⟨rfl, b4⟩
        | some y =>
          have hX : X = some (y, rn) := unhide HV
          subst hX
          rw [show Rg.mateV (some y) = .tuple #[.int .i64 y, .bool true] from rfl]
          clear HV
          go_wp2
          go_ret3
          exact ⟨rfl, b4⟩
      · have hb3 : ((((R.mem n).1 : Nat) : Int) != 3) = true := by rw [bne_iff_ne]; omega
        rw [if_neg h3] at hV
        have hX : X = none := hV
        subst hX
        clear hV f1 f3 f4 g1 g2 hR hf HRR RG hr hti m1
        generalize (((R.mem n).1 : Nat) : Int) = s1 at m0 hb3
        clear h3
        go_wp2_with fail
        refine (unhide IP _).mono ?_
        rintro e w2 ⟨rfl, rfl⟩
        go_wp2
        go_ret3
        exact ⟨rfl, b1⟩
    · have hX : X = none := by rw [hV, hW0 (by rintro ⟨_, h⟩; exact hr h)]
      subst hX
      have hti : (decide ((0 : Int) ≤ x) && decide (x < 12)) = false := by simp; omega
      rw [hti] at IP
      clear hQ ht hV hW0 HRR hst hr hti
      go_enter Tryz.func15, Tryz.ntmps15
      go_wp2_with fail
      refine (unhide RG w (Below.refl _ _)).mono ?_
      rintro e w1 ⟨⟨R, rfl, hR, hf⟩, b1⟩
      go_wp2_with fail
      refine (unhide IP _).mono ?_
      rintro e w2 ⟨rfl, rfl⟩
      go_wp2
      go_ret3
      exact ⟨rfl, b1⟩

theorem specWho_gen (B : Nat) (v : Value) (Q : List (ByteArray × ByteArray)) (x : Int) (h1 : pasize Q ≤ 1048576) (w : World) (hB : B ≤ w.heap.size) (hv : PaAt w v B Q) :
    Calls Tryz.prog 14 #[v, .int .i64 x] w fun e w' => e = .returned (.tuple #[.int .i64 (Rg.whoA Q x), .int .i64 (Rg.whoN Q x), .bool (Rg.whoB Q x)]) ∧ Below w.heap.size w w' := by
  rw [Rg.whoVal_is]
  obtain ⟨a, c, rfl, hQ, _⟩ := hv
  exact Rg.specWho_any a Q.length c B Q x (pasize_le h1).1 w hB hQ

end Gr
end Go.Proofs.YtjblkijicfmkgaaGreatDoor

/-
  The ledger, the program's: what is shown of a round.
-/
namespace Go.Proofs.YtjblkijicfmkgaaGreatDoor
namespace Rg
open Go.RowKit
open Gr (Blk Kept Grown wp_region_pre)

theorem joinB_le (n : Nat) : ∀ (L : List ByteArray), (∀ x ∈ L, x.size ≤ n) → (joinB L).size ≤ n * L.length := by
  intro L h
  have e : (joinB L).size = ((L.map (·.data.toList)).flatten).length := by rw [← joinB_list]; rfl
  rw [e]
  clear e
  induction L with
  | nil => simp
  | cons x L ih =>
    have h1 := h x List.mem_cons_self
    have h2 := ih (fun y hy => h y (List.mem_cons_of_mem _ hy))
    have h3 : x.data.toList.length = x.size := Array.length_toList
    rw [List.map_cons, List.flatten_cons, List.length_append, List.length_cons, h3, Nat.mul_succ]
    omega

theorem cT_size (c : Gr.CoupleI) (hA : 0 ≤ c.A ∧ c.A < 12) (hB : 0 ≤ c.B ∧ c.B < 12) : (cT c).size ≤ 42 := by
  have h1 := dB_size c.A hA.1 (by omega)
  have h2 := dB_size c.B hB.1 (by omega)
  unfold cT
  rw [ByteArray.size_append, ByteArray.size_append, ByteArray.size_append]
  have e1 : (ByteArray.mk #[32]).size = 1 := rfl
  have e2 : (ByteArray.mk #[43]).size = 1 := rfl
  omega

theorem aT_size (x : Int) (h : 0 ≤ x ∧ x < 12) : (aT x).size ≤ 21 := by
  have h1 := dB_size x h.1 (by omega)
  unfold aT
  rw [ByteArray.size_append]
  have e1 : (ByteArray.mk #[32]).size = 1 := rfl
  omega

theorem cAll_size (M : List Gr.CoupleI) (h : ∀ c ∈ M, (0 ≤ c.A ∧ c.A < 12) ∧ 0 ≤ c.B ∧ c.B < 12) (k : Nat) : (cAll (M.take k)).size ≤ 42 * M.length := by
  unfold cAll
  refine Nat.le_trans (joinB_le 42 _ (fun x hx => ?_)) ?_
  · obtain ⟨c, hc, rfl⟩ := List.mem_map.1 hx
    have := h c (List.mem_of_mem_take hc)
    exact cT_size c this.1 this.2
  · refine Nat.mul_le_mul_left _ ?_
    rw [List.length_map, List.length_take]
    omega

theorem aAll_size (M : List Gr.CoupleI) (K : List Int) (h : ∀ x ∈ K, 0 ≤ x ∧ x < 12) (k : Nat) : (aAll M (K.take k)).size ≤ 21 * K.length := by
  unfold aAll
  refine Nat.le_trans (joinB_le 21 _ (fun x hx => ?_)) ?_
  · obtain ⟨c, hc, rfl⟩ := List.mem_map.1 hx
    exact aT_size c (h c (List.mem_of_mem_take (List.mem_filter.1 hc).1))
  · refine Nat.mul_le_mul_left _ ?_
    rw [List.length_map]
    refine Nat.le_trans (List.length_filter_le _ _) ?_
    rw [List.length_take]
    omega

/-- A builder that is written on. -/
theorem bld_next {B b : Nat} {s t : ByteArray} {w5 : World} (h : Lib.IsBuilder 126 5 B b (Lib.byteCells s.data.toList) w5) (hs : s.size + t.size ≤ 140737488355328) (hB : B ≤ w5.heap.size) :
    Calls Tryz.prog 76 #[.pointer (some ⟨b, 0, none⟩), .string t] w5 fun e w' => (∃ v, e = .returned v) ∧ Lib.IsBuilder 126 5 B b (Lib.byteCells (s ++ t).data.toList) w' ∧ Below B w5 w' := by
  refine (Tryz.Builder_WriteString B b (Lib.byteCells s.data.toList) t w5 h (by rw [Lib.byteCells_length]; have : s.data.toList.length = s.size := Array.length_toList; omega) hB).mono ?_
  rintro e w' ⟨rfl, h6, b6⟩
  refine ⟨⟨_, rfl⟩, .inr ?_, b6⟩
  have e1 : Lib.byteCells (s ++ t).data.toList = Lib.byteCells s.data.toList ++ Lib.strCells t := by
    unfold Lib.byteCells Lib.strCells
    rw [← List.map_append]
    congr 1
  rw [e1]
  exact h6

theorem bld_below {B b : Nat} {xs : List Value} {wr w5 : World} (h : Lib.IsBuilder 126 5 B b xs wr) (h5 : Below wr.heap.size wr w5) : Lib.IsBuilder 126 5 B b xs w5 := by
  have hmv : ∀ {p : Value}, Lib.BuilderAt 126 5 B b p xs wr → Lib.BuilderAt 126 5 B b p xs w5 := fun {p} h => by
    obtain ⟨h1, v, h2, h3, h4⟩ := h
    refine ⟨h1, v, ?_, Gr.own_below h3 h5, h4⟩
    have hlt : b < wr.heap.size := by
      rcases Nat.lt_or_ge b wr.heap.size with h | h
      · exact h
      · rw [Array.getElem?_eq_none h] at h2; cases h2
    rw [h5.block _ hlt]
    exact h2
  rcases h with h | h
  · exact .inl (hmv h)
  · exact .inr (hmv h)

set_option maxRecDepth 100000 in
set_option maxHeartbeats 4000000 in
theorem shown_any (B : Nat) (pv tv : Value) (K : List Int) (L : List ByteArray) (hs : (joinB L).size ≤ 1048576) (hL : L.length ≤ 1048576) (h9 : (cV L).M.length ≤ 9) (hK9 : K.length ≤ 9) (hKi : ∀ x ∈ K, 0 ≤ x ∧ x < 12) (hM : ∀ c ∈ (cV L).M, 0 ≤ c.A ∧ c.A < (K.length : Int) ∧ 0 ≤ c.B ∧ c.B < (K.length : Int)) (hMi : ∀ c ∈ coupK K (cV L).M, (0 ≤ c.A ∧ c.A < 12) ∧ 0 ≤ c.B ∧ c.B < 12) (w : World) (ht : Tab w.heap.size w) (hp : Gr.InOwn w B pv K) (htv : w.ownsRow B 9 1 tv L.length (Gr.textsV L)) :
    Calls Tryz.prog 56 #[.agg #[pv, tv]] w fun e w' => e = .returned (.string (shT K (coupK K (cV L).M))) ∧ Below w.heap.size w w' := by
  have CE := hide (fun w1 (hb : Below w.heap.size w w1) => couples_any B pv tv K L hs hL h9 hM w1 (Gr.own_below hp hb) (Gr.own_below htv hb))
  have hml : (coupK K (cV L).M).length ≤ 9 := by rw [coupK_length]; exact h9
  generalize coupK K (cV L).M = M at CE hMi hml ⊢
  obtain ⟨pa, pc, rfl, hK⟩ := hp.at
  obtain ⟨ta, tc, rfl⟩ := row_shape0 htv
  have DE := hide (fun (x : Int) (h : 0 ≤ x ∧ x < 12) w1 (hb : Below w.heap.size w w1) => Dc.implDec_any x (by omega) (by omega) w1 (ht.below hb).here)
  have HKK := hide (fun w1 (hb : Below w.heap.size w w1) => hK.below hb (Nat.le_refl _))
  have HKI := hide hKi
  have HMI := hide hMi
  have HCS := hide (fun k => cAll_size M hMi k)
  have HAS := hide (fun k => aAll_size M K hKi k)
  have HCN := hide (fun j h => cAll_snoc M j h)
  have HAN := hide (fun j h => aAll_snoc M K j h)
  have HCE : Hid (cAll (M.take M.length) = cAll M) := by show _ = _; rw [List.take_length]
  have HAE : Hid ((cAll M ++ alB) ++ aAll M (K.take K.length) = shT K M) := by show _ = _; rw [List.take_length]; rfl
  have HMA := hide (fun a' c' x w2 B' (hB' : B' ≤ w2.heap.size) hM => mate_any a' M.length c' B' M x (by omega) w2 hB' hM)
  have HDS := hide (fun (x : Int) (h : 0 ≤ x ∧ x < 12) => dB_size x h.1 (by omega))
  obtain ⟨V1, hV1⟩ : ∃ W, W = w.alloc (Obj.cells #[.slice pa K.length pc, .slice ta L.length tc] 98) := ⟨_, rfl⟩
  have b1 : Below w.heap.size w V1 := by rw [hV1]; exact Gr.below_new _ _
  have H1 : Hid (Blk V1 w.heap.size #[.slice pa K.length pc, .slice ta L.length tc] 98) := by show Blk _ _ _ _; rw [hV1]; exact Gr.Blk.new0
  have p1 : V1.cell? ⟨w.heap.size, 0, none⟩ = some (.slice pa K.length pc) := (unhide H1).cell 0 _ rfl
  have p2 : V1.cell? ⟨w.heap.size, 1, none⟩ = some (.slice ta L.length tc) := (unhide H1).cell 1 _ rfl
  obtain ⟨T, hT⟩ : ∃ T, T = shT K M := ⟨_, rfl⟩
  rw [← hT]
  rw [← hT] at HAE
  clear hK hp htv ht hMi hM hKi hT
  rw [hV1] at p1 p2
  go_enter Tryz.func56, Tryz.ntmps56
  go_wp2_with fail
  rw [← hV1]
  clear hV1 p1 p2
  refine (unhide CE V1 b1).mono ?_
  rintro e w2 ⟨⟨d, rfl, hd⟩, hb2⟩
  obtain ⟨ma, mc, rfl, hMM⟩ := hd.at
  have b2 := b1.trans (hb2.mono b1.size)
  have H2 := hide ((unhide H1).below hb2)
  have HM2 := hide hMM
  have HB2 := hide b2
  have hz2 := b2.size
  have hw0 := (unhide H2).lt
  have HB0 : Hid (Lib.IsBuilder 126 5 w2.heap.size w2.heap.size (Lib.byteCells (cAll (M.take 0)).data.toList) (w2.alloc (Obj.cells #[.pointer none, .slice none 0 0] 126))) :=
    .inl ⟨Nat.le_refl _, .slice none 0 0, heap_alloc_new w2 _, ⟨rfl, .inl ⟨rfl, rfl⟩⟩, by simp [Value.ownBlock]⟩
  have n0 := Gr.below_new w2 (Obj.cells #[.pointer none, .slice none 0 0] 126)
  have HN0 := hide n0
  clear hd hMM hb2 b1 b2 CE H1 n0
  go_wp2_with fail
  go_loopw [15] (fun iv wr => ∃ (k : Nat), iv = .int .i64 (k : Int) ∧ k ≤ M.length ∧ Hid (Lib.IsBuilder 126 5 w2.heap.size w2.heap.size (Lib.byteCells (cAll (M.take k)).data.toList) wr) ∧ Below w2.heap.size w2 wr) (fun iv _ => M.length - (intOf iv).toNat)
  case atStart => exact ⟨0, rfl, Nat.zero_le _, unhide HB0, unhide HN0⟩
  case round =>
    obtain ⟨k, rfl, hk, HB, hb⟩ := hrel
    clear HB0 HN0
    have hbs := hb.size
    by_cases hlt : k < M.length
    · obtain ⟨b, off, rfl, hbB, d0, d1⟩ := (unhide HM2).2 k hlt
      rw [← hb.cell (p := ⟨b, off + k * 2, none⟩) (by simp; omega)] at d0
      rw [← hb.cell (p := ⟨b, off + k * 2 + 1, none⟩) (by simp; omega)] at d1
      have hci := unhide HMI _ (List.getElem_mem hlt)
      have HN1 := hide (unhide HCN k hlt)
      have hcs := unhide HCS k
      generalize M[k] = y at d0 d1 hci HN1
      obtain ⟨ya, yb⟩ := y
      simp only at d0 d1 hci HN1
      have hx0 : (0 : Int) ≤ (k : Int) := by omega
      have hx1 : (k : Int) < (M.length : Int) := by omega
      obtain ⟨V9, hV9⟩ : ∃ W, W = wr.alloc (Obj.cells #[Value.int .i64 ya, Value.int .i64 yb] 93) := ⟨_, rfl⟩
      have n9 : Below wr.heap.size wr V9 := by rw [hV9]; exact Gr.below_new _ _
      have x9 : Blk V9 wr.heap.size #[Value.int .i64 ya, Value.int .i64 yb] 93 := by rw [hV9]; exact Gr.Blk.new0
      have HB9 := hide (bld_below (unhide HB) n9)
      have b9 := hb.trans (n9.mono hb.size)
      have b9w := (unhide HB2).trans (b9.mono hz2)
      have G (d : Grown V9.heap.size V9) : Below w.heap.size w d.w := b9w.trans (d.below.mono b9w.size)
      have hxl := x9.lt
      have k0 : ∀ d : Grown V9.heap.size V9, d.w.cell? ⟨wr.heap.size, 0, none⟩ = some (.int .i64 ya) := fun d => (d.below.cell (p := ⟨wr.heap.size, 0, none⟩) hxl).trans (x9.cell 0 _ rfl)
      have k1 : ∀ d : Grown V9.heap.size V9, d.w.cell? ⟨wr.heap.size, 1, none⟩ = some (.int .i64 yb) := fun d => (d.below.cell (p := ⟨wr.heap.size, 1, none⟩) hxl).trans (x9.cell 1 _ rfl)
      have DA := hide (fun (z : Int) (hz : z = ya ∨ z = yb) (d : Grown V9.heap.size V9) => unhide DE z (by rcases hz with rfl | rfl; exact hci.1; exact hci.2) d.w (G d))
      have hda := unhide HDS ya hci.1
      have hdb := unhide HDS yb hci.2
      have HDA : Hid (∀ z : Int, (⟨(Lib.itoa z).toArray⟩ : ByteArray) = dB z) := fun _ => rfl
      simp only [unhide HDA] at DA
      have h32 : (ByteArray.mk #[32]).size = 1 := rfl
      have h43 : (ByteArray.mk #[43]).size = 1 := rfl
      have s1 : (ByteArray.mk #[32] ++ dB ya).size = 1 + (dB ya).size := by rw [ByteArray.size_append, h32]
      have s2 : ((ByteArray.mk #[32] ++ dB ya) ++ ByteArray.mk #[43]).size = 2 + (dB ya).size := by rw [ByteArray.size_append, s1, h43]; omega
      have s3 : (((ByteArray.mk #[32] ++ dB ya) ++ ByteArray.mk #[43]) ++ dB yb).size = 2 + (dB ya).size + (dB yb).size := by rw [ByteArray.size_append, s2]
      have hcat1 : ¬ 9223372036854775807 < (ByteArray.mk #[32]).size + (dB ya).size := by omega
      have hcat2 : ¬ 9223372036854775807 < (ByteArray.mk #[32] ++ dB ya).size + (ByteArray.mk #[43]).size := by omega
      have hcat3 : ¬ 9223372036854775807 < ((ByteArray.mk #[32] ++ dB ya) ++ ByteArray.mk #[43]).size + (dB yb).size := by omega
      have WSk : Hid (∀ w5, Below V9.heap.size V9 w5 → Calls Tryz.prog 76 #[.pointer (some ⟨w2.heap.size, 0, none⟩), .string (((ByteArray.mk #[32] ++ dB ya) ++ ByteArray.mk #[43]) ++ dB yb)] w5 fun e w' => (∃ v, e = .returned v) ∧ Lib.IsBuilder 126 5 w2.heap.size w2.heap.size (Lib.byteCells (cAll (M.take (k + 1))).data.toList) w' ∧ Below w2.heap.size w5 w') := fun w5 h5 => by
        rw [unhide HN1]
        exact bld_next (bld_below (unhide HB9) h5) (by rw [s3]; omega) (by have := h5.size; have := b9.size; omega)
      have HB9B := hide b9
      have hzV : w2.heap.size ≤ V9.heap.size := b9.size
      clear n9 x9 hb HB HN1 HB9 b9w hxl
      go_wp2_with fail
      rw [← hV9]
      clear hV9 d0 d1 b9
      refine wp_region_pre V9.heap.size 9 1 #[true, true, true, true, true, true, true, true, true, false] (by kernel_rfl) (by kernel_rfl) (by kernel_rfl) (by kernel_rfl) (by kernel_rfl) (by kernel_rfl) ?_
      (try simp only [List.take_succ_cons, List.take_zero])
      repeat (go_big_quiet_step (first
        | (go_at_call_of 55 (Value.int IntKind.i64 ya); exact Gr.Calls.grown (Nat.le_refl _) (unhide DA ya (Or.inl rfl) _))
        | (go_at_call_of 55 (Value.int IntKind.i64 yb); exact Gr.Calls.grown (Nat.le_refl _) (unhide DA yb (Or.inr rfl) _))))
      refine wpQuiet_nil ?_
      rintro w5 ⟨d5, rfl⟩
      obtain ⟨W5, hb5⟩ := d5
      dsimp only
      refine wpAny_ready (rs := [9]) (fuel := 0) (by kernel_rfl) (by simp) ?_
      refine AllReady.cons (i := 9) rfl (fun K hK => ?_) AllReady.nil
      go_simp
      refine (unhide WSk W5 hb5).mono ?_
      rintro e w6 ⟨⟨v6, rfl⟩, h6, b6⟩
      refine hK _ _ ?_
      clear hK K
      refine ⟨by kernel_rfl, ?_⟩
      have HW6 := hide h6
      have B6 : Below w2.heap.size w2 w6 := (unhide HB9B).trans ((hb5.mono hzV).trans b6)
      clear h6 b6 hb5 W5 k0 k1 DA WSk
      go_wp2
      go_roundw
      case rel => exact ⟨k + 1, by go_num, by omega, unhide HW6, B6⟩
      case measure => simp [intOf]; omega
    · obtain rfl : k = M.length := by omega
      have HBx := hide (unhide HB)
      rw [unhide HCE] at HBx
      have hxl := hb.size
      have p0 : wr.cell? ⟨w.heap.size, 0, none⟩ = some (.slice pa K.length pc) := (hb.cell (p := ⟨w.heap.size, 0, none⟩) hw0).trans ((unhide H2).cell 0 _ rfl)
      have hcs := unhide HCS M.length
      rw [unhide HCE] at hcs
      have h8 : alB.size = 8 := rfl
      have WA := hide (bld_next (t := alB) (unhide HBx) (by omega) hxl)
      have HBL := hide hb
      clear HB hb HCS HCN
      go_wp2_with fail
      refine (unhide WA).mono ?_
      rintro e w3 ⟨⟨v3, rfl⟩, h3, hb3⟩
      have HB3 := hide h3
      have b3 := (unhide HBL).trans hb3
      have HL3 := hide b3
      have p3 : w3.cell? ⟨w.heap.size, 0, none⟩ = some (.slice pa K.length pc) := (b3.cell (p := ⟨w.heap.size, 0, none⟩) hw0).trans ((unhide H2).cell 0 _ rfl)
      have hcs2 : (cAll M ++ alB).size ≤ 42 * M.length + 8 := by rw [ByteArray.size_append, h8]; omega
      have HS0 : Hid (Lib.IsBuilder 126 5 w2.heap.size w2.heap.size (Lib.byteCells ((cAll M ++ alB) ++ aAll M (K.take 0)).data.toList) w3) := by
        have e : (cAll M ++ alB) ++ aAll M (K.take 0) = cAll M ++ alB := by
          apply ByteArray.ext
          rw [← Array.toList_inj]
          show ((cAll M ++ alB) ++ (⟨#[]⟩ : ByteArray)).data.toList = _
          simp
        show Lib.IsBuilder _ _ _ _ _ _
        rw [e]
        exact h3
      clear h3 hb3 b3 WA p0 HBx hcs
      generalize cAll M ++ alB = CA at hcs2 HS0 HAE HB3
      go_wp2_with fail
      go_loopw [34] (fun iv wr => ∃ (k : Nat), iv = .int .i64 (k : Int) ∧ k ≤ K.length ∧ Hid (Lib.IsBuilder 126 5 w2.heap.size w2.heap.size (Lib.byteCells (CA ++ aAll M (K.take k)).data.toList) wr) ∧ Below w2.heap.size w2 wr) (fun iv _ => K.length - (intOf iv).toNat)
      case atStart => exact ⟨0, rfl, Nat.zero_le _, unhide HS0, unhide HL3⟩
      case round =>
        obtain ⟨k, rfl, hk, HB, hb⟩ := hrel
        clear HS0 HL3
        have hbs := hb.size
        have bw := (unhide HB2).trans (hb.mono hz2)
        by_cases hlt : k < K.length
        · obtain ⟨b, off, rfl, hbB, d0⟩ := (unhide HKK wr bw).2 k hlt
          have hci := unhide HKI _ (List.getElem_mem hlt)
          have HN1 := hide (unhide HAN k hlt)
          have has := unhide HAS k
          generalize K[k] = x at d0 hci HN1
          have hx0 : (0 : Int) ≤ (k : Int) := by omega
          have hx1 : (k : Int) < (K.length : Int) := by omega
          have MA := hide (unhide HMA ma mc x wr w2.heap.size hbs ((unhide HM2).below hb (Nat.le_refl _)))
          have hsz : (CA ++ aAll M (K.take k)).size ≤ 1000 := by rw [ByteArray.size_append]; omega
          have HBW := hide bw
          clear bw
          generalize mateM M x = o at MA HN1
          go_wp2_with fail
          refine (unhide MA).mono ?_
          rintro e w4 ⟨rfl, hb4⟩
          have b4 := hb.trans (hb4.mono hbs)
          have HB4 := hide (bld_below (unhide HB) hb4)
          have HBW4 := hide ((unhide HBW).trans (hb4.mono (unhide HBW).size))
          clear hb4 hb HB HBW MA
          cases o with
          | some y =>
            rw [show mateV (some y) = .tuple #[.int .i64 y, .bool true] from rfl]
            have HBn : Hid (Lib.IsBuilder 126 5 w2.heap.size w2.heap.size (Lib.byteCells (CA ++ aAll M (K.take (k + 1))).data.toList) w4) := by
              show Lib.IsBuilder _ _ _ _ _ _
              rw [unhide HN1, if_pos (show (some y).isSome = true from rfl)]
              exact unhide HB4
            clear HB4 HN1
            go_wp2_with fail
            exact ⟨⟨k + 1, by go_num, by omega, unhide HBn, b4⟩, by simp [intOf]; omega⟩
          | none =>
            rw [show mateV none = .tuple #[.int .i64 0, .bool false] from rfl]
            have DX := hide (unhide DE x hci w4 (unhide HBW4))
            have hda := unhide HDS x hci
            have hdx : (⟨(Lib.itoa x).toArray⟩ : ByteArray) = dB x := rfl
            rw [hdx] at DX
            clear hdx
            have h32 : (ByteArray.mk #[32]).size = 1 := rfl
            have s1 : (ByteArray.mk #[32] ++ dB x).size = 1 + (dB x).size := by rw [ByteArray.size_append, h32]
            have hcat1 : ¬ 9223372036854775807 < (ByteArray.mk #[32]).size + (dB x).size := by omega
            have WSk : Hid (∀ w5, Below w4.heap.size w4 w5 → Calls Tryz.prog 76 #[.pointer (some ⟨w2.heap.size, 0, none⟩), .string (ByteArray.mk #[32] ++ dB x)] w5 fun e w' => (∃ v, e = .returned v) ∧ Lib.IsBuilder 126 5 w2.heap.size w2.heap.size (Lib.byteCells (CA ++ aAll M (K.take (k + 1))).data.toList) w' ∧ Below w2.heap.size w5 w') := fun w5 h5 => by
              have e : CA ++ aAll M (K.take (k + 1)) = (CA ++ aAll M (K.take k)) ++ (ByteArray.mk #[32] ++ dB x) := by
                rw [unhide HN1, if_neg (show ¬ (none : Option Int).isSome = true by simp), ByteArray.append_assoc]
                rfl
              rw [e]
              exact bld_next (bld_below (unhide HB4) h5) (by rw [s1]; omega) (by have := h5.size; have := b4.size; omega)
            generalize dB x = dx at DX hcat1 s1 WSk hda
            clear HB4 HN1
            go_wp2_with fail
            refine (unhide DX).mono ?_
            rintro e w5 ⟨rfl, hb5⟩
            have WS5 := hide (unhide WSk w5 hb5)
            have b5 := b4.trans (hb5.mono b4.size)
            clear hb5 WSk DX
            go_wp2_with fail
            refine (unhide WS5).mono ?_
            rintro e w6 ⟨⟨v6, rfl⟩, h6, hb6⟩
            have HB6 := hide h6
            have b6 := b5.trans hb6
            clear h6 hb6 WS5
            go_wp2_with fail
            exact ⟨⟨k + 1, by go_num, by omega, unhide HB6, b6⟩, by simp [intOf]; omega⟩
        · obtain rfl : k = K.length := by omega
          have hBt := unhide HB
          rw [unhide HAE] at hBt
          have STk := hide (Tryz.Builder_String_any w2.heap.size w2.heap.size _ wr hBt hbs)
          have hE : (⟨T.data.toList.toArray⟩ : ByteArray) = T := by simp
          rw [hE] at STk
          have HBW := hide bw
          clear hE hBt HB bw hb
          go_wp2_with fail
          refine (unhide STk).mono ?_
          rintro e w4 ⟨rfl, hb4⟩
          have b4 := (unhide HBW).trans (hb4.mono hz2)
          go_wp2
          go_ret
          exact ⟨rfl, b4⟩

end Rg
end Go.Proofs.YtjblkijicfmkgaaGreatDoor

/-
  The ledger, the program's: ShowRound, in the laws' form.
-/
namespace Go.Proofs.YtjblkijicfmkgaaGreatDoor
namespace Rg
open Go.RowKit

theorem shT_size (K : List Int) (M : List Gr.CoupleI) (hK : ∀ x ∈ K, 0 ≤ x ∧ x < 12) (hM : ∀ c ∈ M, (0 ≤ c.A ∧ c.A < 12) ∧ 0 ≤ c.B ∧ c.B < 12) (h9 : K.length ≤ 9) (hm : M.length ≤ 9) : (shT K M).size ≤ 1000 := by
  have h1 := cAll_size M hM M.length
  have h2 := aAll_size M K hK K.length
  rw [List.take_length] at h1 h2
  have h8 : alB.size = 8 := rfl
  unfold shT
  rw [ByteArray.size_append, ByteArray.size_append]
  omega

end Rg
namespace Gr
open Go.RowKit

set_option maxRecDepth 100000 in
set_option maxHeartbeats 2000000 in
theorem implShow_gen (B : Nat) (v : Value) (Q : List (ByteArray × ByteArray)) (r : Int) (h1 : pasize Q ≤ 1048576) (w : World) (hB : B ≤ w.heap.size) (ht : Rg.Tab w.heap.size w) (hv : PaAt w v B Q) :
    Calls Tryz.prog 25 #[v, .int .i64 r] w fun e w' => e = .returned (.string (Rg.showV Q r)) ∧ Below w.heap.size w w' := by
  obtain ⟨a, c, rfl, hQ, _⟩ := hv
  have RG := hide (fun w1 (hb : Below w.heap.size w w1) => Rg.register_any a Q.length c B Q (pasize_le h1).1 w1 (by have := hb.size; omega) ((ht.below hb).mono hb.size) (hQ.below hb hB))
  rw [Rg.reg_is] at RG
  have hOK : Rg.roOk Q r = (Rg.stateOk Q && (decide (0 ≤ r) && decide (r ≤ (Rg.rnds Q : Int) - 1))) := rfl
  have hSV : Rg.showV Q r = if Rg.roOk Q r = true then Rg.showT r (Rg.roP Q r) (Rg.roM Q r) else ⟨#[]⟩ := rfl
  have HRR := hide (fun R h1 h2 => Rg.reg_round (Q := Q) (R := R) h1 h2)
  have HRB := hide (Rg.ro_bounds Q r).2.2.2.2
  have HTT := hide ht
  generalize Rg.showV Q r = T at hSV ⊢
  generalize Rg.roOk Q r = OK at hOK hSV
  have HSTQ : Hid (∀ R, Rg.stateOk Q = true → Rg.regFold Rg.R0 Q = some R → Rg.rnds Q = R.rds.length ∧ ∀ j : Nat, r = (j : Int) → ∀ (h : j < R.rds.length), Rg.roM Q r = Rg.coupK R.rds[j].1 (Rg.cV R.rds[j].2).M ∧ Rg.roP Q r = R.rds[j].1) := fun R a1 a2 => by
    obtain ⟨e1, _, e3, _⟩ := unhide HRR R a1 a2
    refine ⟨e1, fun j hj h => ?_⟩
    subst hj
    exact ⟨(e3 j h).1, (e3 j h).2.1⟩
  generalize Rg.roM Q r = RM at hSV HSTQ HRB
  generalize Rg.roP Q r = RP at hSV HSTQ
  generalize Rg.stateOk Q = st at RG hOK HRR HSTQ
  clear hQ ht
  go_enter Tryz.func25, Tryz.ntmps25
  go_wp2_with fail
  refine (unhide RG w (Below.refl _ _)).mono ?_
  rintro e w1 ⟨⟨R, rfl, hR, hf⟩, b1⟩
  cases st with
  | false =>
    rw [Bool.false_and] at hOK
    subst hOK
    rw [if_neg (by simp)] at hSV
    subst hSV
    clear hf hR RG HRR HSTQ HRB
    go_wp2
    go_ret
    exact ⟨rfl, b1⟩
  | true =>
    rw [Bool.true_and] at hOK
    obtain ⟨f1, f6, f3, _⟩ := unhide HRR R rfl (hf rfl)
    obtain ⟨_, g3⟩ := unhide HSTQ R rfl (hf rfl)
    have IP := hide (fun w2 => isPlace_is r (R.rds.length : Int) w2)
    have hpl : (decide (0 ≤ r) && decide (r < (R.rds.length : Int))) = OK := by rw [hOK, f1, Bool.eq_iff_iff]; simp only [Bool.and_eq_true, decide_eq_true_eq]; omega
    rw [hpl] at IP
    obtain ⟨_, rv, vs, hk0, hrd0⟩ := hR
    obtain ⟨ra, rc, hrv⟩ := Rg.row_shape0 hrd0.own
    have c600 : w1.cell? ⟨w.heap.size, 600, none⟩ = some (.slice ra R.rds.length rc) := hk0.cell 600 _ (by rw [Rg.regC_at _ _ _ (by omega), Rg.cell_rds, hrv])
    by_cases hin : 0 ≤ r ∧ r < (R.rds.length : Int)
    · obtain ⟨n, rfl⟩ := Int.eq_ofNat_of_zero_le hin.1
      have hn : n < R.rds.length := by omega
      have hOKt : OK = true := by rw [← hpl, decide_eq_true hin.1, decide_eq_true hin.2]; rfl
      subst hOKt
      obtain ⟨hRM, hRP⟩ := g3 n rfl hn
      obtain ⟨_, _, p3, p4, p5, p6, p7, p8⟩ := f3 n hn
      have hnv : n < vs.length := by rw [hrd0.len]; exact hn
      have hpool := hrd0.pool n hnv hn
      have hpart := hrd0.part n hnv hn
      obtain ⟨pa, pc, hpv⟩ := Rg.row_shape0 hpool
      obtain ⟨ta, tc, htv⟩ := Rg.row_shape0 hpart
      rw [hrv] at hrd0
      obtain ⟨gv, hgv⟩ : ∃ gv, ra = some ⟨gv, 0, none⟩ := by
        rcases hrd0.own.2 with ⟨h1, h2⟩ | ⟨gv, cap, cur, h1, _⟩
        · omega
        · simp at h1; exact ⟨gv, h1.1⟩
      subst hgv
      have hgl := hk0.lt
      have hgvl := (hrd0.own.lt gv rfl).2
      have q0 : w1.cell? ⟨gv, n * 2, none⟩ = some (.slice pa R.rds[n].1.length pc) := by rw [hrd0.own.cellAt (n * 2) (by omega), ← hpv]; exact (Rg.flat_at vs n hnv).1
      have q1 : w1.cell? ⟨gv, n * 2 + 1, none⟩ = some (.slice ta R.rds[n].2.length tc) := by rw [hrd0.own.cellAt (n * 2 + 1) (by omega), ← htv]; exact (Rg.flat_at vs n hnv).2
      rw [hpv] at hpool
      rw [htv] at hpart
      have hb := unhide HRB
      rw [hRM] at hb
      have hs1000 := Rg.shT_size R.rds[n].1 (Rg.coupK R.rds[n].1 (Rg.cV R.rds[n].2).M) p7 hb p6 (by rw [Rg.coupK_length]; exact p5)
      have SH := hide (fun (d : Grown w1.heap.size w1) => Rg.shown_any w.heap.size (.slice pa R.rds[n].1.length pc) (.slice ta R.rds[n].2.length tc) R.rds[n].1 R.rds[n].2 p3 p4 p5 p6 p7 p8 hb d.w (((unhide HTT).below (b1.trans (d.below.mono b1.size))).mono (b1.trans (d.below.mono b1.size)).size) (Gr.own_below hpool d.below) (Gr.own_below hpart d.below))
      have DE := hide (fun (d : Grown w1.heap.size w1) => Dc.implDec_any (n : Int) (by omega) (by omega) d.w ((unhide HTT).below (b1.trans (d.below.mono b1.size))).here)
      have hdx : (⟨(Lib.itoa (n : Int)).toArray⟩ : ByteArray) = Rg.dB (n : Int) := rfl
      rw [hdx] at DE
      have hds := Rg.dB_size (n : Int) (by omega) (by omega)
      rw [if_pos rfl, hRM, hRP] at hSV
      have HSV := hide (hSV.trans (show Rg.showT (n : Int) R.rds[n].1 (Rg.coupK R.rds[n].1 (Rg.cV R.rds[n].2).M) = ((⟨#[114, 111, 117, 110, 100, 32]⟩ ++ Rg.dB (n : Int)) ++ ⟨#[58]⟩) ++ Rg.shT R.rds[n].1 (Rg.coupK R.rds[n].1 (Rg.cV R.rds[n].2).M) from rfl))
      have hnn : ((n : Nat) : Int) < ((R.rds.length : Nat) : Int) := hin.2
      have hn0 : (0 : Int) ≤ ((n : Nat) : Int) := by omega
      have k0 : ∀ d : Grown w1.heap.size w1, d.w.cell? ⟨w.heap.size, 600, none⟩ = some (.slice (some ⟨gv, 0, none⟩) R.rds.length rc) := fun d => (d.below.cell (p := ⟨w.heap.size, 600, none⟩) hgl).trans c600
      have k1 : ∀ d : Grown w1.heap.size w1, d.w.cell? ⟨gv, n * 2, none⟩ = some (.slice pa R.rds[n].1.length pc) := fun d => (d.below.cell (p := ⟨gv, n * 2, none⟩) hgvl).trans q0
      have k2 : ∀ d : Grown w1.heap.size w1, d.w.cell? ⟨gv, n * 2 + 1, none⟩ = some (.slice ta R.rds[n].2.length tc) := fun d => (d.below.cell (p := ⟨gv, n * 2 + 1, none⟩) hgvl).trans q1
      clear f1 f3 g3 p3 p4 p5 p6 p7 p8 hpv htv hpool hpart hOK hpl hf hrd0 hk0 hrv HRR HSTQ RG hRM hRP hin q0 q1 hdx hSV hb HRB HTT
      generalize Rg.shT R.rds[n].1 (Rg.coupK R.rds[n].1 (Rg.cV R.rds[n].2).M) = sh at SH HSV hs1000
      generalize R.rds[n].1.length = pl at k1 SH
      generalize R.rds[n].2.length = tl at k2 SH
      generalize Rg.dB (n : Int) = dn at DE HSV hds
      have h6 : (ByteArray.mk #[114, 111, 117, 110, 100, 32]).size = 6 := rfl
      have h11 : (ByteArray.mk #[58]).size = 1 := rfl
      have s1 : (ByteArray.mk #[114, 111, 117, 110, 100, 32] ++ dn).size = 6 + dn.size := by rw [ByteArray.size_append, h6]
      have s2 : ((ByteArray.mk #[114, 111, 117, 110, 100, 32] ++ dn) ++ ByteArray.mk #[58]).size = 7 + dn.size := by rw [ByteArray.size_append, s1, h11]; omega
      have hc1 : ¬ 9223372036854775807 < (ByteArray.mk #[114, 111, 117, 110, 100, 32]).size + dn.size := by omega
      have hc2 : ¬ 9223372036854775807 < (ByteArray.mk #[114, 111, 117, 110, 100, 32] ++ dn).size + (ByteArray.mk #[58]).size := by omega
      have hc3 : ¬ 9223372036854775807 < ((ByteArray.mk #[114, 111, 117, 110, 100, 32] ++ dn) ++ ByteArray.mk #[58]).size + sh.size := by omega
      have HB1 := hide b1
      clear b1 s1 s2
      go_wp2_with fail
      refine (unhide IP _).mono ?_
      rintro e w2 ⟨rfl, rfl⟩
      go_wp2_with fail
      refine wp_region_grown w2.heap.size (by kernel_rfl) (by kernel_rfl) ?_
      repeat (go_big_quiet_step (first
        | (go_at_call 55; exact Gr.Calls.grown (Nat.le_refl _) (unhide DE _))
        | (go_at_call 56; exact Gr.Calls.grown (Nat.le_refl _) (unhide SH _))))
      refine wpQuiet_nil ?_
      rintro w5 ⟨d5, rfl⟩
      obtain ⟨W5, hb5⟩ := d5
      dsimp only
      have HB5 := hide ((unhide HB1).trans (hb5.mono (unhide HB1).size))
      have hTe := unhide HSV
      subst hTe
      clear k0 k1 k2 DE SH hb5
      go_wp2
      go_ret
      exact ⟨rfl, unhide HB5⟩
    · have hOKf : OK = false := by
        rw [← hpl, Bool.and_eq_false_iff, decide_eq_false_iff_not, decide_eq_false_iff_not]
        omega
      subst hOKf
      rw [if_neg (by simp)] at hSV
      subst hSV
      clear hf f1 f3 g3 hpl hOK hk0 hrd0 HRR HSTQ RG HRB
      go_wp2_with fail
      refine (unhide IP _).mono ?_
      rintro e w2 ⟨rfl, rfl⟩
      go_wp2
      go_ret
      exact ⟨rfl, b1⟩

end Gr
end Go.Proofs.YtjblkijicfmkgaaGreatDoor

/-
  The ledger, the specification's: ShowRound.
-/
namespace Go.Proofs.YtjblkijicfmkgaaGreatDoor
namespace Rg
open Go.RowKit
open Gr (Blk Kept Grown)

theorem ints_two (x y : Int) : ∀ u ∈ [Value.int .i64 x, Value.int .i64 y], u.oneCell' = true := couple_one x y

theorem ints_mono {w : World} {a : Option Addr} {n B C : Nat} {K : List Int} (h : IntsAt w a n B K) (hC : B ≤ C) : IntsAt w a n C K := by
  refine ⟨h.1, fun j hj => ?_⟩
  obtain ⟨b, off, e, hb, hc⟩ := h.2 j hj
  exact ⟨b, off, e, by omega, hc⟩

theorem showV_no {Q : PL} {r : Int} (h : roOk Q r = false) : showV Q r = ⟨#[]⟩ := by unfold showV; rw [h]; rfl

set_option maxRecDepth 100000 in
set_option maxHeartbeats 4000000 in
theorem specShow_any (a : Option Addr) (len cap B : Nat) (Q : PL) (r : Int) (hlen : len ≤ 1048576) (w : World) (hB : B ≤ w.heap.size) (hs : Tr.PairsAt w a len B Q) :
    Calls Tryz.prog 24 #[.slice a len cap, .int .i64 r] w fun e w' => e = .returned (.string (showV Q r)) ∧ Below w.heap.size w w' := by
  obtain ⟨i0, hi0, hz0, hz1, hz2⟩ := info_parts Gr.info3
  have CO := hide (fun w1 (hb : Below w.heap.size w w1) => specCouples_any a len cap B Q r hlen w1 (by have := hb.size; omega) (hs.below hb hB))
  cases hok : roOk Q r with
  | false =>
    rw [showV_no hok]
    rw [hok] at CO
    clear hs hok
    go_enter Tryz.func24, Tryz.ntmps24
    go_wp2_with fail
    refine (unhide CO w (Below.refl _ _)).mono ?_
    rintro e w1 ⟨⟨d, rfl, hd⟩, hb1⟩
    obtain ⟨ma, mc, rfl, hM⟩ := hd.at
    go_wp2
    go_ret
    exact ⟨rfl, hb1⟩
  | true =>
    rw [hok] at CO
    have hok' := hok
    unfold roOk at hok'
    simp only [Bool.and_eq_true, decide_eq_true_eq] at hok'
    obtain ⟨hst, h0, h1⟩ := hok'
    obtain ⟨n, rfl⟩ := Int.eq_ofNat_of_zero_le h0
    obtain ⟨hMp, h6⟩ := state_map hst
    have hQ120 := hMp.1
    have htot := map_tot hMp
    have hL := hs.1
    have hn : n < rnds Q := by omega
    obtain ⟨_, oP, _⟩ := roOk_at hst hn
    have PO := hide (fun w1 (hb : Below w.heap.size w w1) => pool_any a len cap B Q n (by omega) hlen (by omega) w1 (by have := hb.size; omega) (hs.below hb hB))
    rw [← oP] at PO
    have DE := hide (fun (x : Int) (h0 : 0 ≤ x) (h1 : x ≤ 1000000) w1 => Dc.specDec_any x (by omega) (by omega) w1)
    have hdx : ∀ x : Int, (⟨(Lib.itoa x).toArray⟩ : ByteArray) = dB x := fun _ => rfl
    simp only [hdx] at DE
    obtain ⟨_, _, hK9, hKI, hMI⟩ := ro_bounds Q (n : Int)
    have hml := roM_length Q (n : Int)
    have hTV : showV Q (n : Int) = showT (n : Int) (roP Q (n : Int)) (roM Q (n : Int)) := by unfold showV; rw [hok]; rfl
    generalize showV Q (n : Int) = T at hTV ⊢
    generalize roM Q (n : Int) = M at CO hMI hml hTV
    generalize roP Q (n : Int) = K at PO hK9 hKI hTV
    have HCS := hide (fun k => cAll_size M hMI k)
    have HAS := hide (fun k => aAll_size M K hKI k)
    have HCN := hide (fun j h => cAll_snoc M j h)
    have HAN := hide (fun j h => aAll_snoc M K j h)
    have HUN := hide (fun j h => used_snoc M j h)
    have HUL := hide (fun M' => used_length M')
    have HUI := hide (fun x => used_is M x)
    have HMI := hide hMI
    have HKI := hide hKI
    have HDS := hide (fun (x : Int) (h : 0 ≤ x ∧ x < 12) => dB_size x h.1 (by omega))
    have HCE : Hid (cAll (M.take M.length) = cAll M) := by show _ = _; rw [List.take_length]
    have HUE : Hid (usedM (M.take M.length) = usedM M) := by show _ = _; rw [List.take_length]
    have HAE : Hid (aAll M (K.take K.length) = aAll M K) := by show _ = _; rw [List.take_length]
    have hds := dB_size (n : Int) (by omega) (by omega)
    have hn5 : (n : Int) ≤ 1000000 := by omega
    have hn0 : (0 : Int) ≤ (n : Int) := by omega
    have HTV := hide hTV
    clear hs hok hst hMp htot hQ120 hL oP hdx hMI hKI hTV h0 h1 hn h6
    have D0 := hide (unhide DE (n : Int) hn0 hn5)
    go_enter Tryz.func24, Tryz.ntmps24
    go_wp2_with fail
    refine (unhide CO w (Below.refl _ _)).mono ?_
    rintro e w1 ⟨⟨d, rfl, hd⟩, b1⟩
    obtain ⟨ma, mc, rfl, hM⟩ := hd.at
    have HMM := hide hM
    clear hd hM CO
    go_wp2_with fail
    refine (unhide D0 w1).mono ?_
    rintro e w2 ⟨rfl, hb2⟩
    have HM2 := hide ((unhide HMM).below hb2 (Nat.le_refl _))
    have hz12 := hb2.size
    have b2 := b1.trans (hb2.mono b1.size)
    have h6 : (ByteArray.mk #[114, 111, 117, 110, 100, 32]).size = 6 := rfl
    have h11 : (ByteArray.mk #[58]).size = 1 := rfl
    have s1 : (ByteArray.mk #[114, 111, 117, 110, 100, 32] ++ dB (n : Int)).size = 6 + (dB (n : Int)).size := by rw [ByteArray.size_append, h6]
    have s2 : ((ByteArray.mk #[114, 111, 117, 110, 100, 32] ++ dB (n : Int)) ++ ByteArray.mk #[58]).size ≤ 30 := by rw [ByteArray.size_append, s1, h11]; omega
    have hc1 : ¬ 9223372036854775807 < (ByteArray.mk #[114, 111, 117, 110, 100, 32]).size + (dB (n : Int)).size := by omega
    have hc2 : ¬ 9223372036854775807 < (ByteArray.mk #[114, 111, 117, 110, 100, 32] ++ dB (n : Int)).size + (ByteArray.mk #[58]).size := by omega
    have HTE : Hid (T = ((((ByteArray.mk #[114, 111, 117, 110, 100, 32] ++ dB (n : Int)) ++ ByteArray.mk #[58]) ++ cAll M) ++ alB) ++ aAll M K) := by
      show _ = _
      rw [unhide HTV]
      unfold showT shT
      rw [show rdB = ByteArray.mk #[114, 111, 117, 110, 100, 32] from rfl]
      simp only [ByteArray.append_assoc]
    have HB2 := hide b2
    have hzb := b2.size
    clear hb2 b1 b2 HMM D0 HTV
    have hO0 : (w2.alloc (.cells #[] 3)).ownsRow w2.heap.size 3 1 (.slice (some ⟨w2.heap.size, 0, none⟩) 0 0) (usedM (M.take 0)).length (Gr.intsV (usedM (M.take 0))) := World.ownsRow_made w2 #[] 0 (by omega) (Nat.zero_le _) rfl
    have HO0 := hide hO0
    have HN0 := hide (Gr.below_new w2 (Obj.cells #[] 3))
    go_wp2_with fail
    generalize hS0 : (ByteArray.mk #[114, 111, 117, 110, 100, 32] ++ dB (n : Int)) ++ ByteArray.mk #[58] = S0 at s2 HTE
    clear s1 hc1 hc2 hds hO0
    go_loopw [7, 8, 9] (fun sv uv iv wr => ∃ (j : Nat) (s : ByteArray), sv = .string s ∧ iv = .int .i64 (j : Int) ∧ j ≤ M.length ∧ Hid (s = S0 ++ cAll (M.take j)) ∧ Hid (wr.ownsRow w2.heap.size 3 1 uv (usedM (M.take j)).length (Gr.intsV (usedM (M.take j)))) ∧ Below w2.heap.size w2 wr) (fun _ _ iv _ => M.length - (intOf iv).toNat)
    case atStart =>
      refine ⟨0, _, rfl, rfl, Nat.zero_le _, ?_, unhide HO0, unhide HN0⟩
      show _ = _
      apply ByteArray.ext
      rw [← Array.toList_inj]
      show _ = (S0 ++ (⟨#[]⟩ : ByteArray)).data.toList
      simp
    case round =>
      obtain ⟨j, s, rfl, rfl, hj, HS, HO, hb⟩ := hrel
      clear HO0 HN0
      by_cases hlt : j < M.length
      · obtain ⟨b, off, rfl, hbB, d0, d1⟩ := (unhide HM2).2 j hlt
        rw [← hb.cell (p := ⟨b, off + j * 2, none⟩) (by simp; omega)] at d0
        rw [← hb.cell (p := ⟨b, off + j * 2 + 1, none⟩) (by simp; omega)] at d1
        have hci := unhide HMI _ (List.getElem_mem hlt)
        have HN1 := hide (unhide HCN j hlt)
        have HU1 := hide (unhide HUN j hlt)
        have hcs := unhide HCS j
        have hul := unhide HUL (M.take j)
        have htl : (M.take j).length = j := by rw [List.length_take]; omega
        rw [htl] at hul
        generalize M[j] = y at d0 d1 hci HN1 HU1
        obtain ⟨ya, yb⟩ := y
        simp only at d0 d1 hci HN1 HU1
        have hx0 : (0 : Int) ≤ (j : Int) := by omega
        have hx1 : (j : Int) < (M.length : Int) := by omega
        have hss : s.size ≤ 500 := by have := unhide HS; rw [this, ByteArray.size_append]; omega
        have DA := hide (fun (z : Int) (hz : z = ya ∨ z = yb) w1 => unhide DE z (by rcases hz with rfl | rfl; exact hci.1.1; exact hci.2.1) (by rcases hz with rfl | rfl; (have := hci.1; omega); (have := hci.2; omega)) w1)
        have hda := unhide HDS ya hci.1
        have hdb := unhide HDS yb hci.2
        have h32 : (ByteArray.mk #[32]).size = 1 := rfl
        have h43 : (ByteArray.mk #[43]).size = 1 := rfl
        have e1 : (s ++ ByteArray.mk #[32]).size = s.size + 1 := by rw [ByteArray.size_append, h32]
        have e2 : ((s ++ ByteArray.mk #[32]) ++ dB ya).size = s.size + 1 + (dB ya).size := by rw [ByteArray.size_append, e1]
        have e3 : (((s ++ ByteArray.mk #[32]) ++ dB ya) ++ ByteArray.mk #[43]).size = s.size + 2 + (dB ya).size := by rw [ByteArray.size_append, e2, h43]; omega
        have hc1 : ¬ 9223372036854775807 < s.size + (ByteArray.mk #[32]).size := by omega
        have hc2 : ¬ 9223372036854775807 < (s ++ ByteArray.mk #[32]).size + (dB ya).size := by omega
        have hc3 : ¬ 9223372036854775807 < ((s ++ ByteArray.mk #[32]) ++ dB ya).size + (ByteArray.mk #[43]).size := by omega
        have hc4 : ¬ 9223372036854775807 < (((s ++ ByteArray.mk #[32]) ++ dB ya) ++ ByteArray.mk #[43]).size + (dB yb).size := by omega
        have HS2 : Hid ((((s ++ ByteArray.mk #[32]) ++ dB ya) ++ ByteArray.mk #[43]) ++ dB yb = S0 ++ cAll (M.take (j + 1))) := by
          show _ = _
          rw [unhide HN1, unhide HS]
          unfold cT
          simp only [ByteArray.append_assoc]
        have hbl : b < wr.heap.size := by have := hb.size; omega
        have k0 : ∀ d : Grown wr.heap.size wr, d.w.cell? ⟨b, off + j * 2, none⟩ = some (.int .i64 ya) := fun d => (d.below.cell (p := ⟨b, off + j * 2, none⟩) hbl).trans d0
        have k1 : ∀ d : Grown wr.heap.size wr, d.w.cell? ⟨b, off + j * 2 + 1, none⟩ = some (.int .i64 yb) := fun d => (d.below.cell (p := ⟨b, off + j * 2 + 1, none⟩) hbl).trans d1
        have ho := unhide HO
        obtain ⟨ua, uc, rfl⟩ := row_shape0 ho
        have HO5 := hide (fun W5 (h5 : Below wr.heap.size wr W5) => Gr.own_below ho h5)
        have HB5 := hide (fun W5 (h5 : Below wr.heap.size wr W5) => hb.trans (h5.mono hb.size))
        clear ho HO e1 e2 e3 hcs d0 d1 HS HN1
        go_wp2_with fail
        refine Gr.wp_region_grown wr.heap.size (by kernel_rfl) (by kernel_rfl) ?_
        repeat (go_big_quiet_step (first
          | (go_at_call_of 54 (Value.int IntKind.i64 ya); exact Gr.Calls.grown (Nat.le_refl _) (unhide DA ya (Or.inl rfl) _))
          | (go_at_call_of 54 (Value.int IntKind.i64 yb); exact Gr.Calls.grown (Nat.le_refl _) (unhide DA yb (Or.inr rfl) _))))
        refine wpQuiet_nil ?_
        rintro w5 ⟨d5, rfl⟩
        have q0 := k0 d5
        have q1 := k1 d5
        obtain ⟨W5, hb5⟩ := d5
        dsimp only at q0 q1 ⊢
        have hown := unhide HO5 W5 hb5
        have hbW := unhide HB5 W5 hb5
        have hzW := hb5.size
        generalize (((s ++ ByteArray.mk #[32]) ++ dB ya) ++ ByteArray.mk #[43]) ++ dB yb = sn at HS2
        generalize hUL : (usedM (M.take j)).length = ul at hown hul
        clear k0 k1 DA HO5 HB5 hc1 hc2 hc3 hc4 hb5 hb
        have hlow : ∀ g, (Value.slice ua ul uc).ownBlock = some g → w2.heap.size ≤ g ∧ g < W5.heap.size := hown.lt
        have OA2 : Hid ((W5.alloc (Obj.cells #[Value.int .i64 ya, Value.int .i64 yb] 3)).drew.ownsRow w2.heap.size 3 1 (.slice ua ul uc) ul (Gr.intsV (usedM (M.take j)))) := (hown.alloc _).drew
        have HNW : Hid (∀ j' u, [Value.int .i64 ya, Value.int .i64 yb][j']? = some u → (W5.alloc (Obj.cells #[Value.int .i64 ya, Value.int .i64 yb] 3)).drew.cell? ((⟨W5.heap.size, 0, none⟩ : Addr).add j') = some u) := fun j' u hu => World.news_of_block (w := (W5.alloc (Obj.cells #[Value.int .i64 ya, Value.int .i64 yb] 3))) (cs := #[Value.int .i64 ya, Value.int .i64 yb]) (t := 3) (fr := (0, 0)) (heap_alloc_new W5 _) j' u (by simpa using hu)
        have hjm : ul + 2 ≤ maxLen := by unfold maxLen; omega
        have hj16 : (ul + 2) * 8 ≤ 140737488355328 := by omega
        have hbs : w2.heap.size ≤ (W5.alloc (Obj.cells #[Value.int .i64 ya, Value.int .i64 yb] 3)).drew.heap.size := by show _ ≤ (W5.alloc _).heap.size; have := hbW.size; simp; omega
        have hhs : (W5.alloc (Obj.cells #[Value.int .i64 ya, Value.int .i64 yb] 3)).drew.heap.size = W5.heap.size + 1 := by show (W5.alloc _).heap.size = _; simp
        have hz2w := hbW.size
        clear hul
        go_wp2_with fail
        go_region_held_law (fun u => u.cell? ⟨b, off + j * 2, none⟩ = some (.int .i64 ya) ∧ u.cell? ⟨b, off + j * 2 + 1, none⟩ = some (.int .i64 yb))
          (first | with_reducible exact ⟨j0, j1⟩ | go_keep)
          (first
            | (refine step_append_lies _ (by rfl) _ _ _ (by rfl) w2.heap.size 3 i0 _ 1 8 Tryz.underlying50 hi0 hz0 hz1 hz2 rfl (by omega) (.slice ua ul uc) ul (Gr.intsV (usedM (M.take j))) (by rfl) (unhide OA2) ⟨W5.heap.size, 0, none⟩ 2 2 [.int .i64 ya, .int .i64 yb] (by rfl) (by rfl) (unhide HNW) (ints_two _ _) (by omega) hjm hj16 hbs (W5.heap.size + 1) hhs ?_; intro g cap w4 hown4 hgrow4 hat4 hlt4; have j0 : w4.cell? ⟨b, off + j * 2, none⟩ = some (.int .i64 ya) := (hgrow4.cell_far ⟨b, off + j * 2, none⟩ (by rw [hhs]; simp; omega) (fun e => by have := hlow _ e.symm; simp at this; omega)).trans ((Gr.below_new W5 _).drew.cell (p := ⟨b, off + j * 2, none⟩) (by simp; omega) |>.trans q0); have j1 : w4.cell? ⟨b, off + j * 2 + 1, none⟩ = some (.int .i64 yb) := (hgrow4.cell_far ⟨b, off + j * 2 + 1, none⟩ (by rw [hhs]; simp; omega) (fun e => by have := hlow _ e.symm; simp at this; omega)).trans ((Gr.below_new W5 _).drew.cell (p := ⟨b, off + j * 2 + 1, none⟩) (by simp; omega) |>.trans q1)))
        all_goals
          have hb4 : Below w2.heap.size w2 w4 := (((hbW.alloc hbW.size _).drew).grown hgrow4 (by rw [hhs]; omega) (fun k hk => by have := hlow k hk; omega))
          have HO4 : Hid (w4.ownsRow w2.heap.size 3 1 (.slice (some ⟨g, 0, none⟩) (ul + 2) cap) (usedM (M.take (j + 1))).length (Gr.intsV (usedM (M.take (j + 1))))) := by
            show World.ownsRow _ _ _ _ _ _ _
            rw [unhide HU1, List.length_append, hUL]
            simpa [Gr.intsV] using hown4
          clear hown4 hgrow4 hat4 hlt4 j0 j1 q0 q1 OA2 HNW HU1 hlow hown hbW hUL
          go_wp2_with fail
          exact ⟨⟨j + 1, sn, rfl, by go_num, by omega, unhide HS2, unhide HO4, hb4⟩, by simp [intOf]; omega⟩
      · obtain rfl : j = M.length := by omega
        have hS := unhide HS
        rw [unhide HCE] at hS
        have hO := unhide HO
        rw [unhide HUE] at hO
        obtain ⟨ua, uc, hua, hUK⟩ := (show Gr.InOwn wr w2.heap.size u8 (usedM M) from hO).at
        subst hua
        have HUK := hide hUK
        have hcs := unhide HCS M.length
        rw [unhide HCE] at hcs
        have hul : (usedM M).length ≤ 1000 := by have := unhide HUL M; omega
        have hss : s.size ≤ 500 := by rw [hS, ByteArray.size_append]; omega
        have h8 : (ByteArray.mk #[59, 32, 97, 108, 111, 110, 101, 58]).size = 8 := rfl
        have hc1 : ¬ 9223372036854775807 < s.size + (ByteArray.mk #[59, 32, 97, 108, 111, 110, 101, 58]).size := by omega
        have bw := (unhide HB2).trans (hb.mono hzb)
        have POw := hide (unhide PO wr bw)
        have hsz2 : (s ++ ByteArray.mk #[59, 32, 97, 108, 111, 110, 101, 58]).size ≤ 508 := by rw [ByteArray.size_append]; omega
        have HTT : Hid (T = (s ++ ByteArray.mk #[59, 32, 97, 108, 111, 110, 101, 58]) ++ aAll M K) := by
          show _ = _
          rw [unhide HTE, hS]
          rfl
        have HBW := hide bw
        clear hS hO HO HS hUK bw hcs PO hb HTE HCS HCN HUN HCE HUE
        go_wp2_with fail
        refine (unhide POw).mono ?_
        rintro e w4 ⟨⟨d4, rfl, hd4⟩, hb4⟩
        obtain ⟨ka, kc, rfl, hKA⟩ := hd4.at
        have HKA := hide hKA
        have HU4 := hide (ints_mono ((unhide HUK).below hb4 (Nat.le_refl _)) hb4.size)
        have b4 := (unhide HBW).trans (hb4.mono (unhide HBW).size)
        have HB4 := hide b4
        have hz4 := hb4.size
        clear hd4 hKA hb4 b4 POw HUK hc1
        have HT0 : Hid (s ++ ByteArray.mk #[59, 32, 97, 108, 111, 110, 101, 58] = (s ++ ByteArray.mk #[59, 32, 97, 108, 111, 110, 101, 58]) ++ aAll M (K.take 0)) := by
          show _ = _
          apply ByteArray.ext
          rw [← Array.toList_inj]
          show _ = ((s ++ ByteArray.mk #[59, 32, 97, 108, 111, 110, 101, 58]) ++ (⟨#[]⟩ : ByteArray)).data.toList
          simp
        generalize s ++ ByteArray.mk #[59, 32, 97, 108, 111, 110, 101, 58] = CA at hsz2 HTT HT0 ⊢
        go_wp2_with fail
        go_loopw [7, 11] (fun sv iv w5 => ∃ (k : Nat) (s : ByteArray), sv = .string s ∧ iv = .int .i64 (k : Int) ∧ k ≤ K.length ∧ Hid (s = CA ++ aAll M (K.take k)) ∧ Below w4.heap.size w4 w5) (fun _ iv _ => K.length - (intOf iv).toNat)
        case atStart => exact ⟨0, _, rfl, rfl, Nat.zero_le _, unhide HT0, Below.refl _ _⟩
        case round =>
          obtain ⟨k, s, rfl, rfl, hk, HS, hb⟩ := hrel
          clear HT0
          by_cases hlt : k < K.length
          · obtain ⟨b, off, rfl, hbB, d0⟩ := (unhide HKA).2 k hlt
            rw [← hb.cell (p := ⟨b, off + k, none⟩) (by simp; omega)] at d0
            have hci := unhide HKI _ (List.getElem_mem hlt)
            have HN1 := hide (unhide HAN k hlt)
            have has := unhide HAS k
            generalize K[k] = x at d0 hci HN1
            have hx0 : (0 : Int) ≤ (k : Int) := by omega
            have hx1 : (k : Int) < (K.length : Int) := by omega
            have hss2 : s.size ≤ 1000 := by have := unhide HS; rw [this, ByteArray.size_append]; omega
            have LI := hide (l03In_any ua (usedM M).length uc w4.heap.size (usedM M) x (by omega) wr ((unhide HU4).below hb (Nat.le_refl _)))
            rw [unhide HUI x] at LI
            generalize mateM M x = o at LI HN1
            go_wp2_with fail
            refine (unhide LI).mono ?_
            rintro e w6 ⟨rfl, rfl⟩
            clear LI
            cases o with
            | some y =>
              rw [show (some y : Option Int).isSome = true from rfl]
              have HSn : Hid (s = CA ++ aAll M (K.take (k + 1))) := by
                show _ = _
                rw [unhide HN1, if_pos (show (some y).isSome = true from rfl)]
                exact unhide HS
              clear HS HN1 d0
              go_wp2_with fail
              exact ⟨⟨k + 1, s, rfl, by go_num, by omega, unhide HSn, hb⟩, by simp [intOf]; omega⟩
            | none =>
              rw [show (none : Option Int).isSome = false from rfl]
              have DX := hide (fun w1 => unhide DE x hci.1 (by omega) w1)
              have hda := unhide HDS x hci
              have h32 : (ByteArray.mk #[32]).size = 1 := rfl
              have e1 : (s ++ ByteArray.mk #[32]).size = s.size + 1 := by rw [ByteArray.size_append, h32]
              have hc1 : ¬ 9223372036854775807 < s.size + (ByteArray.mk #[32]).size := by omega
              have hc2 : ¬ 9223372036854775807 < (s ++ ByteArray.mk #[32]).size + (dB x).size := by omega
              have HSn : Hid ((s ++ ByteArray.mk #[32]) ++ dB x = CA ++ aAll M (K.take (k + 1))) := by
                show _ = _
                rw [unhide HN1, if_neg (show ¬ (none : Option Int).isSome = true by simp), unhide HS]
                unfold aT
                simp only [ByteArray.append_assoc]
              clear HS HN1 e1
              go_wp2_with fail
              refine (unhide DX _).mono ?_
              rintro e w7 ⟨rfl, hb7⟩
              have b7 := hb.trans (hb7.mono hb.size)
              clear hb7
              go_wp2_with fail
              exact ⟨⟨k + 1, _, rfl, by go_num, by omega, unhide HSn, b7⟩, by simp [intOf]; omega⟩
          · obtain rfl : k = K.length := by omega
            have hS := unhide HS
            rw [unhide HAE] at hS
            have hTs : T = s := (unhide HTT).trans hS.symm
            subst hTs
            have b9 := (unhide HB4).trans (hb.mono (unhide HB4).size)
            clear HS hS HTT hb
            go_wp2
            go_ret
            exact ⟨rfl, b9⟩

end Rg
namespace Gr
open Go.RowKit

theorem specShow_gen (B : Nat) (v : Value) (Q : List (ByteArray × ByteArray)) (r : Int) (h1 : pasize Q ≤ 1048576) (w : World) (hB : B ≤ w.heap.size) (hv : PaAt w v B Q) :
    Calls Tryz.prog 24 #[v, .int .i64 r] w fun e w' => e = .returned (.string (Rg.showV Q r)) ∧ Below w.heap.size w w' := by
  obtain ⟨a, c, rfl, hQ, _⟩ := hv
  exact Rg.specShow_any a Q.length c B Q r (pasize_le h1).1 w hB hQ

end Gr
end Go.Proofs.YtjblkijicfmkgaaGreatDoor
