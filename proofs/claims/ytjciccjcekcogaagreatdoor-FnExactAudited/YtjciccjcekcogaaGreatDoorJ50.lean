/-
  Texts of this claim, one behind the other: Rg10, Au3, Au4.
-/
import Derived.Test.YtjciccjcekcogaaGreatDoorJ48
import Derived.Test.YtjciccjcekcogaaGreatDoorJ49
import Derived.Test.YtjciccjcekcogaaGreatDoorJ35

/-
  The specification's contract of RoundOf, in the form that a law's walk asks for; what it tells is small.
-/
namespace Go.Proofs.YtjciccjcekcogaaGreatDoor
namespace Gr
open Go.RowKit

theorem specRound_gen (B : Nat) (v : Value) (Q : List (ByteArray × ByteArray)) (r : Int) (h1 : pasize Q ≤ 1048576) (w : World) (hB : B ≤ w.heap.size) (hv : PaAt w v B Q) :
    Calls Tryz.prog 12 #[v, .int .i64 r] w fun e w' => (∃ d c, e = .returned (.tuple #[d, c, .bool (Rg.roOk Q r)]) ∧ InOwn w' w.heap.size d (Rg.roP Q r) ∧ CeAt w' c w'.heap.size (Rg.roC Q r).s (Rg.roC Q r).Q (Rg.roC Q r).M (Rg.roC Q r).Y (Rg.roC Q r).G) ∧ Below w.heap.size w w' := by
  obtain ⟨a, c, rfl, hQ, _⟩ := hv
  exact Rg.specRound_any a Q.length c B Q r (pasize_le h1).1 w hB hQ

theorem roC_small (Q : List (ByteArray × ByteArray)) (r : Int) : csize (Rg.roC Q r).Q (Rg.roC Q r).M (Rg.roC Q r).Y (Rg.roC Q r).G ≤ 1048576 ∧ mkAll 1 (Rg.roC Q r).Q (Rg.roC Q r).M (Rg.roC Q r).Y (Rg.roC Q r).G ≤ 100000000 := by
  unfold Rg.roC
  split
  · exact rc_small _
  · simp [csize, psize, mkAll, mkY, mkM, gbulk, offQ]

theorem roP_small (Q : List (ByteArray × ByteArray)) (r : Int) : (Rg.roP Q r).length ≤ 100000 := by
  unfold Rg.roP
  split
  · rename_i h
    unfold Rg.roOk at h
    rw [Bool.and_eq_true] at h
    have hM := (Rg.state_map h.1).1
    have h2 := Rg.get_size Q (Rg.qk r.toNat)
    have h3 := Rg.map_tot hM
    unfold Rg.poolP
    rw [List.length_map, ByteArray.toList_eq]
    show (Rg.oT (Rg.getP Q (Rg.qk r.toNat))).data.toList.length ≤ _
    rw [Array.length_toList]
    exact Nat.le_trans h2 h3
  · simp
end Gr
end Go.Proofs.YtjciccjcekcogaaGreatDoor

/-
  Audits: the contracts of spec.l13Ids for any word, and of spec.Audited.
-/
namespace Go.Proofs.YtjciccjcekcogaaGreatDoor
namespace Rg
open Go.RowKit
open Gr (Blk below_new)

set_option maxRecDepth 100000 in
set_option maxHeartbeats 4000000 in
theorem ids_word (a : Option Addr) (len cap B : Nat) (Q : PL) (wd : ByteArray) (hwd : wd.toList ≠ []) (hlen : len ≤ 1048576) (hk : ∀ q ∈ Q, 1 ≤ q.1.size ∧ q.1.size ≤ 8) (w : World) (hB : B ≤ w.heap.size) (hs : Tr.PairsAt w a len B Q) :
    Calls Tryz.prog 18 #[.slice a len cap, .string wd] w fun e w' => (∃ d, e = .returned d ∧ w'.ownsRow w.heap.size 3 1 d (idsP wd.toList Q).length (Gr.intsV (idsP wd.toList Q))) ∧ Below w.heap.size w w' := by
  obtain ⟨i0, hi0, hz0, hz1, hz2⟩ := info_parts Gr.info3
  have HO0 : Hid ((w.alloc (.cells #[] 3)).ownsRow w.heap.size 3 1 (.slice (some ⟨w.heap.size, 0, none⟩) 0 0) 0 (Gr.intsV [])) := World.ownsRow_made w #[] 0 (by omega) (Nat.zero_le _) rfl
  have HC := hide hs.2
  have HPR := hide hk
  have HST := hide (fun j h => ids_step wd.toList Q j h)
  have NU := hide (fun t w1 => num_any t w1)
  have HWD := hide hwd
  have hw0 : (wd.toList == []) = false := by cases h : wd.toList with | nil => exact absurd h hwd | cons x y => rfl
  clear hwd
  obtain ⟨P, hP⟩ : ∃ x, x = idsP wd.toList Q := ⟨_, rfl⟩
  rw [← hP]
  have HP0 : Hid (P = [] ++ idsP wd.toList (Q.drop 0)) := hP
  have hL := hs.1
  clear hP hs hk
  subst hL
  go_enter Tryz.func18, Tryz.ntmps18
  go_wp2_with fail
  go_loopw [5, 6] (fun v i wr => ∃ (j : Nat) (L : List Int), i = .int .i64 (j : Int) ∧ j ≤ Q.length ∧ L.length ≤ j ∧ Hid (P = L ++ idsP wd.toList (Q.drop j)) ∧ Hid (wr.ownsRow w.heap.size 3 1 v L.length (Gr.intsV L)) ∧ Below w.heap.size w wr) (fun _ i _ => Q.length - (intOf i).toNat)
  case atStart => exact ⟨0, [], rfl, Nat.zero_le _, Nat.zero_le _, unhide HP0, unhide HO0, Gr.below_new _ _⟩
  case round =>
    obtain ⟨j, L, rfl, hj, hLj, HY, HO, hb⟩ := hrel
    have hown := unhide HO
    have hbs := hb.size
    by_cases hlt : j < Q.length
    · obtain ⟨b, off, rfl, hbB, d0, d1⟩ := unhide HC j hlt
      have HQ := hide ((unhide HY).trans (by rw [unhide HST j hlt]))
      have hp := unhide HPR Q[j] (List.getElem_mem hlt)
      generalize Q[j] = q at d0 d1 HQ hp
      obtain ⟨x, y⟩ := q
      simp only at d0 d1 HQ hp
      have d2 := (hb.cell (p := ⟨b, off + j * 2, none⟩) (by simp; omega)).trans d0
      have d3 := (hb.cell (p := ⟨b, off + j * 2 + 1, none⟩) (by simp; omega)).trans d1
      have l0 : 0 < x.size := by omega
      have e0 := byteAt_eq l0
      have hxi : (0 : Int) < (x.size : Int) := by omega
      have hx1 : (1 : Int) ≤ (x.size : Int) := by omega
      have hxz : (x.size : Int) ≤ 8 := by omega
      have hjn : (j : Int) < ((Q.length : Nat) : Int) := by omega
      have HNU := hide (fun w1 => unhide NU (x.extract 1 x.size) w1)
      rw [e0] at HQ
      generalize numP (x.extract 1 x.size) = o at HNU HQ
      clear d0 d1 e0 hp
      by_cases h118 : (x[0]'l0).toNat = 118
      · have hbq : (((x[0]'l0).toNat : Int) == 118) = true := by rw [h118]; rfl
        cases hw : (y.toList == wd.toList)
        · have HQ2 := hide (unhide HQ)
          rw [if_neg (by rw [hw]; simp [unhide HWD])] at HQ2
          clear h118 HQ hown
          go_wp2_with fail
          exact ⟨⟨j + 1, L, by go_num, by omega, by omega, unhide HQ2, unhide HO, hb⟩, by simp [intOf]; omega⟩
        · have HQ2 := hide (unhide HQ)
          rw [if_pos ⟨h118, Or.inr hw⟩] at HQ2
          clear h118 HQ
          have HY2 : Hid (P = (L ++ [oN o]) ++ idsP wd.toList (Q.drop (j + 1))) := by show _ = _; rw [unhide HQ2, List.append_assoc]; rfl
          go_wp2_with fail
          refine (unhide HNU _).mono ?_
          rintro e w3 ⟨rfl, hb3⟩
          have hown3 := Gr.own_below hown hb3
          have b3 := hb.trans (hb3.mono hb.size)
          have hbs3 := b3.size
          clear hown d2 d3
          go_wp2_with (at_builtin; refine wpList_append_own _ rfl _ _ 33 rfl w.heap.size 3 i0 (.int .i64 0) 1 8 Tryz.underlying33 hi0 hz0 hz1 hz2 rfl (by decide) _ _ _ rfl (hown3.alloc _) ⟨w3.heap.size, 0, none⟩ 1 1 [.int .i64 (oN o)] rfl rfl (cell_one_new _ _ _) (by intro u hu; simp at hu; subst hu; rfl) ?c3 ?c4 ?c5 ?_)
          case c3 => unfold maxLen; omega
          case c4 => omega
          case c5 => simp; omega
          intro v' w4 hown' hgrow _
          have hb4 := below_append b3 (Nat.le_refl _) hown3 hgrow
          have HO2 := hide (own_intI hown')
          clear hown3 hown' hgrow
          go_wp2_with fail
          exact ⟨⟨j + 1, _, by go_num, by omega, by rw [List.length_append]; simp; omega, unhide HY2, unhide HO2, hb4⟩, by simp [intOf]; omega⟩
      · have hbq : (((x[0]'l0).toNat : Int) == 118) = false := by rw [beq_eq_false_iff_ne]; omega
        have HQ2 := hide (unhide HQ)
        rw [if_neg (fun h => h118 h.1)] at HQ2
        clear h118 HQ hown
        go_wp2_with fail
        exact ⟨⟨j + 1, L, by go_num, by omega, by omega, unhide HQ2, unhide HO, hb⟩, by simp [intOf]; omega⟩
    · have hPe : P = L := by rw [unhide HY, List.drop_eq_nil_of_le (by omega)]; simp [idsP]
      have HO2 : Hid (wr.ownsRow w.heap.size 3 1 u5 P.length (Gr.intsV P)) := by rw [hPe]; exact hown
      clear hown hPe
      go_wp2
      go_ret
      exact ⟨⟨_, rfl, unhide HO2⟩, hb⟩

end Rg
end Go.Proofs.YtjciccjcekcogaaGreatDoor

/-
  The contract of spec.Audited.
-/
namespace Go.Proofs.YtjciccjcekcogaaGreatDoor
namespace Rg
open Go.RowKit
open Gr (Blk below_new)

/-- A place in the first couples. -/
def prTo (M : List Gr.CoupleI) (i k : Nat) : Bool := pr (M.take k) i

theorem prTo_step (M : List Gr.CoupleI) (i k : Nat) (h : k < M.length) : prTo M i (k + 1) = (prTo M i k || (decide (M[k].A = (i : Int)) || decide (M[k].B = (i : Int)))) := by
  unfold prTo pr
  rw [List.take_succ_eq_append_getElem h, List.any_append]
  simp

theorem prTo_end (M : List Gr.CoupleI) (i k : Nat) (h : M.length ≤ k) : prTo M i k = pr M i := by
  unfold prTo
  rw [List.take_of_length_le h]

/-- What the specification asks of a round, in parts. -/
theorem aud_parts (Q : PL) (f r : Nat) : (∀ i, i < (poolP Q r).length → (pr (Gr.rcV (textP Q r)).M i == vP Q r ((poolP Q r).getD i 0).toNat) = false → audTo Q (f + 1) r = false) ∧ (∀ x ∈ idsP (pW r).toList Q, inK (poolP Q r) x = false → audTo Q (f + 1) r = false) ∧
    ((∀ i, i < (poolP Q r).length → (pr (Gr.rcV (textP Q r)).M i == vP Q r ((poolP Q r).getD i 0).toNat) = true) → (∀ x ∈ idsP (pW r).toList Q, inK (poolP Q r) x = true) → audTo Q (f + 1) r = audTo Q f (r + 1)) := by
  rw [audTo_step]
  refine ⟨fun i hi h => ?_, fun x hx h => ?_, fun h1 h2 => ?_⟩
  · have : sAud Q r (poolP Q r) (Gr.rcV (textP Q r)).M = false := by
      unfold sAud
      rw [Bool.and_eq_false_iff]
      left
      rw [Bool.eq_false_iff]
      intro hc
      rw [List.all_eq_true] at hc
      rw [hc i (List.mem_range.2 hi)] at h
      cases h
    rw [this, Bool.false_and]
  · have : sAud Q r (poolP Q r) (Gr.rcV (textP Q r)).M = false := by
      unfold sAud
      rw [Bool.and_eq_false_iff]
      right
      rw [Bool.eq_false_iff]
      intro hc
      rw [List.all_eq_true] at hc
      rw [hc x hx] at h
      cases h
    rw [this, Bool.false_and]
  · have : sAud Q r (poolP Q r) (Gr.rcV (textP Q r)).M = true := by
      unfold sAud
      rw [Bool.and_eq_true, List.all_eq_true, List.all_eq_true]
      exact ⟨fun i hi => h1 i (List.mem_range.1 hi), h2⟩
    rw [this, Bool.true_and]

/-- A round of a right state, as the specification tells it. -/
theorem spec_round {Q : PL} (hst : stateOk Q = true) : rnds Q ≤ 6 ∧ Q.length ≤ 1000 ∧ (∀ q ∈ Q, 1 ≤ q.1.size ∧ q.1.size ≤ 8) ∧ ∀ r, r < rnds Q → roOk Q (r : Int) = true ∧ roP Q (r : Int) = poolP Q r ∧ roC Q (r : Int) = Gr.rcV (textP Q r) ∧ RoF (poolP Q r) (Gr.rcV (textP Q r)) ∧ (pW r).size ≤ 30 := by
  obtain ⟨R, hf, _⟩ := reg_inv hst
  obtain ⟨I, ha, hr, h6, hrd⟩ := round_rof hst hf
  have hM := (state_map hst).1
  refine ⟨by omega, ?_, ?_, fun r h => ?_⟩
  · have := hM.1; omega
  · exact fun q hq => ⟨(map_pair hM q hq).1, (map_pair hM q hq).2.1⟩
  · have hlt : r < R.rds.length := by omega
    obtain ⟨p1, p2, p3⟩ := hrd r hlt
    have ho : roOk Q (r : Int) = true := by
      unfold roOk
      rw [hst, decide_eq_true (by omega), decide_eq_true (by omega)]
      rfl
    refine ⟨ho, ?_, ?_, by rw [p1]; exact p3, ?_⟩
    · unfold roP; rw [if_pos ho, Int.toNat_natCast]
    · unfold roC; rw [if_pos ho, Int.toNat_natCast]
    · unfold pW
      rw [ByteArray.size_append]
      have := itoa_short r (by omega)
      have e : (ByteArray.mk (Lib.itoa (r : Int)).toArray).size = (Lib.itoa (r : Int)).length := by simp [ByteArray.size]
      have : (ByteArray.mk #[112]).size = 1 := rfl
      omega

set_option maxRecDepth 100000 in
set_option maxHeartbeats 8000000 in
theorem specAud_any (a : Option Addr) (len cap B : Nat) (Q : PL) (hlen : len ≤ 1048576) (w : World) (hB : B ≤ w.heap.size) (hs : Tr.PairsAt w a len B Q) :
    Calls Tryz.prog 5 #[.slice a len cap] w fun e w' => e = .returned (.bool (audM Q)) ∧ Below w.heap.size w w' := by
  have SO := hide (state_any a len cap B Q hlen w hB hs)
  rw [audM_is]
  cases hst : stateOk Q with
  | false =>
    rw [hst] at SO
    rw [Bool.false_and]
    clear hs
    go_enter Tryz.func5, Tryz.ntmps5
    go_wp2_with fail
    refine (unhide SO).mono ?_
    rintro e w1 ⟨rfl, b1⟩
    go_wp2
    go_ret
    exact ⟨rfl, b1⟩
  | true =>
    rw [hst] at SO
    rw [Bool.true_and]
    obtain ⟨h6, h1000, hks, hrd⟩ := spec_round hst
    have hlq := hs.1
    have RN := hide (fun w1 (hb : Below w.heap.size w w1) => rounds_any a len cap B Q (by omega) w1 (by have := hb.size; omega) (hs.below hb hB))
    have RO := hide (fun (r : Nat) (h : r < rnds Q) w1 (hb : Below w.heap.size w w1) => specRound_any a len cap B Q (r : Int) hlen w1 (by have := hb.size; omega) (hs.below hb hB))
    have GE := hide (fun k w1 (hb : Below w.heap.size w w1) => get_any a len cap B Q k hlen w1 (hs.below hb hB))
    have IW := hide (fun wd hwd w1 (hb : Below w.heap.size w w1) => ids_word a len cap B Q wd hwd hlen hks w1 (by have := hb.size; omega) (hs.below hb hB))
    have HRD := hide hrd
    have HPT := hide (fun f r => aud_parts Q f r)
    obtain ⟨X, hX⟩ : ∃ X, X = audTo Q (rnds Q) 0 := ⟨_, rfl⟩
    rw [← hX]
    have HX0 : Hid (X = audTo Q (rnds Q - 0) 0) := hX
    have HEND : Hid (∀ r, audTo Q 0 r = true) := fun r => rfl
    have HQL : Hid (Q.length ≤ 1000) := h1000
    clear hX hs hks hrd hst hlq h1000
    generalize rnds Q = N at RN RO HRD HX0 h6
    go_enter Tryz.func5, Tryz.ntmps5
    go_wp2_with fail
    refine (unhide SO).mono ?_
    rintro e w1 ⟨rfl, b1⟩
    go_wp2_with fail
    go_loopw [3] (fun i wr => ∃ r : Nat, i = .int .i64 (r : Int) ∧ r ≤ N ∧ Hid (X = audTo Q (N - r) r) ∧ Below w.heap.size w wr) (fun i _ => N - (intOf i).toNat)
    case atStart => exact ⟨0, rfl, Nat.zero_le _, unhide HX0, b1⟩
    case round =>
      obtain ⟨r, rfl, hr, HY, hb⟩ := hrel
      have RN1 := hide (unhide RN wr hb)
      by_cases hlt : r < N
      · have hri : (r : Int) < (N : Int) := by omega
        obtain ⟨o1, o2, o3, hrf, hpw⟩ := unhide HRD r hlt
        have RO1 := hide (fun w1 hb => unhide RO r hlt w1 hb)
        rw [o1, o2, o3] at RO1
        have hpt := unhide HPT (N - (r + 1)) r
        rw [show N - (r + 1) + 1 = N - r by omega] at hpt
        rw [← unhide HY] at hpt
        obtain ⟨q1, q2, q3⟩ := hpt
        have HQ1 := hide q1
        have HQ2 := hide q2
        have HQ3 := hide q3
        have HRF := hide hrf
        have hsm := Gr.cert_small hrf.cert
        obtain ⟨l1, l2, _⟩ := Gr.csize_le hsm.1
        have hK9 := hrf.few
        have hMl := hrf.little
        have hsE := hrf.size
        have HVP : Hid (∀ i, vP Q r i = ((oT (getP Q (⟨#[118]⟩ ++ tw i))).toList == ((⟨#[112]⟩ : ByteArray) ++ ⟨(Lib.itoa (r : Int)).toArray⟩).toList)) := fun i => rfl
        clear q1 q2 q3 o1 o2 o3 hsm
        generalize hK : poolP Q r = K at RO1 HQ1 HQ2 HQ3 HRF hK9 hsE
        generalize Gr.rcV (textP Q r) = C at RO1 HQ1 HQ3 HRF l1 l2 hsE hMl
        clear hK hrf
        obtain ⟨Cs, CQ, CM, CY, CG, Cc⟩ := C
        simp only at RO1 HQ1 HQ3 l1 l2 hsE hMl
        subst hsE
        go_wp2_with fail
        refine (unhide RN1).mono ?_
        rintro e w2 ⟨rfl, hb2⟩
        have b2 := hb.trans (hb2.mono hb.size)
        clear hb2
        go_wp2_with fail
        refine (unhide RO1 w2 b2).mono ?_
        rintro e w3 ⟨⟨d, c3, rfl, hO, hCe⟩, hb3⟩
        have b3 := b2.trans (hb3.mono b2.size)
        have hIn := hO.at
        obtain ⟨pa, pc, rfl⟩ := hIn.shape
        obtain ⟨e1, k1, e2, k2, e3, k3, e4, k4, rfl, hGr, hCo, _⟩ := hCe
        clear hO hb3 RO1
        obtain ⟨W, hW⟩ : ∃ W, W = w3.alloc (Obj.cells #[.int .i64 ((K.length : Nat) : Int), .slice e1 CQ.length k1, .slice e2 CM.length k2, .slice e3 CY.length k3, .slice e4 CG.length k4] 42) := ⟨_, rfl⟩
        have bW : Below w3.heap.size w3 W := by rw [hW]; exact below_new _ _
        have mW : Blk W w3.heap.size #[.int .i64 ((K.length : Nat) : Int), .slice e1 CQ.length k1, .slice e2 CM.length k2, .slice e3 CY.length k3, .slice e4 CG.length k4] 42 := by rw [hW]; exact Gr.Blk.new0
        have b4 := b3.trans (bW.mono b3.size)
        have hIn4 := (hIn.below bW (Nat.le_refl _)).mono bW.size
        have hGr4 := (hGr.below bW (Nat.le_refl _)).mono bW.size
        have hCo4 := (hCo.below bW (Nat.le_refl _)).mono bW.size
        have BE := hide (fun w1 (hb : Below W.heap.size W w1) => Gr.specBestSums_gen W.heap.size _ ((K.length : Nat) : Int) CQ l1 w1 hb.size (hGr4.below hb (Nat.le_refl _)))
        have SU := hide (fun w1 (hb : Below W.heap.size W w1) => Gr.specSumsOf_gen W.heap.size _ ((K.length : Nat) : Int) CQ _ CM l1 l2 w1 hb.size (hGr4.below hb (Nat.le_refl _)) (hCo4.below hb (Nat.le_refl _)))
        rw [(unhide HRF).match, (unhide HRF).best] at SU
        generalize Gr.bestR ((K.length : Nat) : Int) CQ = bs at BE SU
        generalize Gr.graphOk ((K.length : Nat) : Int) CQ = gk at BE
        have HIN := hide hIn4
        have HCO := hide hCo4
        have HB4 := hide b4
        have MW := hide mW
        have x0 : W.cell? ⟨w3.heap.size, 0, none⟩ = some (.int .i64 ((K.length : Nat) : Int)) := mW.cell 0 _ rfl
        have x1 : W.cell? ⟨w3.heap.size, 1, none⟩ = some (.slice e1 CQ.length k1) := mW.cell 1 _ rfl
        have hzW := b3.size
        have ltW := mW.lt
        clear hIn hGr hCo hIn4 hGr4 hCo4 mW bW b4 b3
        rw [hW] at x0 x1
        go_wp2_with fail
        rw [← hW]
        clear hW x0 x1
        refine (unhide BE W (Below.refl _ _)).mono ?_
        rintro e w5 ⟨⟨d5, rfl, hd5⟩, hb5⟩
        unfold Gr.SuOwn Gr.SumsI.v at hd5
        subst hd5
        obtain ⟨V, hV⟩ : ∃ W, W = w5.alloc (Obj.cells #[.int .i64 bs.W1, .int .i64 bs.W2, .int .i64 bs.W3] 46) := ⟨_, rfl⟩
        have bV : Below W.heap.size W V := by rw [hV]; exact hb5.alloc hb5.size _
        have mV : Blk V w5.heap.size #[.int .i64 bs.W1, .int .i64 bs.W2, .int .i64 bs.W3] 46 := by rw [hV]; exact Gr.Blk.new0
        have nV := (unhide MW).below bV
        have x0 : V.cell? ⟨w3.heap.size, 0, none⟩ = some (.int .i64 ((K.length : Nat) : Int)) := nV.cell 0 _ rfl
        have x1 : V.cell? ⟨w3.heap.size, 1, none⟩ = some (.slice e1 CQ.length k1) := nV.cell 1 _ rfl
        have x2 : V.cell? ⟨w3.heap.size, 2, none⟩ = some (.slice e2 CM.length k2) := nV.cell 2 _ rfl
        have ltV := mV.lt
        have MV := hide mV
        have hz5 := hb5.size
        clear mV nV hb5
        rw [hV] at x0 x1 x2
        go_wp2_with fail
        rw [← hV]
        clear hV x0 x1 x2
        refine (unhide SU V bV).mono ?_
        rintro e w6 ⟨⟨d6, rfl, hd6⟩, hb6⟩
        unfold Gr.SuOwn Gr.SumsI.v at hd6
        subst hd6
        have b6 := bV.trans (hb6.mono bV.size)
        have m6 := (unhide MV).below hb6
        have n6 := (unhide MW).below b6
        have y0 : w6.cell? ⟨w5.heap.size, 0, none⟩ = some (.int .i64 bs.W1) := m6.cell 0 _ rfl
        have y1 : w6.cell? ⟨w5.heap.size, 1, none⟩ = some (.int .i64 bs.W2) := m6.cell 1 _ rfl
        have y2 : w6.cell? ⟨w5.heap.size, 2, none⟩ = some (.int .i64 bs.W3) := m6.cell 2 _ rfl
        have x0 : w6.cell? ⟨w3.heap.size, 0, none⟩ = some (.int .i64 ((K.length : Nat) : Int)) := n6.cell 0 _ rfl
        have lt6 := m6.lt
        have lt6' := n6.lt
        obtain ⟨U, hU⟩ : ∃ W, W = w6.alloc (Obj.cells #[.int .i64 bs.W1, .int .i64 bs.W2, .int .i64 bs.W3] 46) := ⟨_, rfl⟩
        have bU : Below W.heap.size W U := by rw [hU]; exact b6.alloc b6.size _
        have HBU := hide ((unhide HB4).trans (bU.mono (unhide HB4).size))
        have MU := hide ((unhide MW).below bU)
        have HINU := hide (((unhide HIN).below bU (Nat.le_refl _)).mono bU.size)
        have HCOU := hide (((unhide HCO).below bU (Nat.le_refl _)).mono bU.size)
        have HB6 := hide b6
        clear bV hb6 m6 n6 b6 MV MW HIN HCO bU HB4
        go_wp2_with fail
        rw [← hU]
        clear hU x0 y0 y1 y2 lt6 lt6'
        have ltU := (unhide MU).lt
        have hzU := (unhide HBU).size
        go_loopw [11] (fun i wr => ∃ j : Nat, i = .int .i64 (j : Int) ∧ j ≤ K.length ∧ Hid (∀ i, i < j → (pr CM i == vP Q r (K.getD i 0).toNat) = true) ∧ Below U.heap.size U wr) (fun i _ => K.length - (intOf i).toNat)
        case atStart => exact ⟨0, rfl, Nat.zero_le _, fun i h => absurd h (Nat.not_lt_zero _), Below.refl _ _⟩
        case round =>
          obtain ⟨j, rfl, hj, HZ, hbu⟩ := hrel
          by_cases hjl : j < K.length
          · have hji : (j : Int) < ((K.length : Nat) : Int) := by omega
            have hInr := (unhide HINU).below hbu (Nat.le_refl _)
            obtain ⟨pa', pc', epa, hIs⟩ := hInr
            simp only [Value.slice.injEq, true_and] at epa
            obtain ⟨rfl, rfl⟩ := epa
            obtain ⟨pb, po, rfl, hpb, d0⟩ := hIs.2 j hjl
            have h12 := (unhide HRF).pool _ (List.getElem_mem hjl)
            obtain ⟨kid, hkid⟩ := Int.eq_ofNat_of_zero_le h12.1
            have hkl : kid < 12 := by omega
            rw [hkid] at d0
            have hgd : (K.getD j 0).toNat = kid := by rw [List.getD_eq_getElem?_getD, List.getElem?_eq_getElem hjl]; show (K[j]).toNat = kid; rw [hkid]; rfl
            have HQ1j := hide (unhide HQ1 j hjl)
            rw [hgd, unhide HVP kid] at HQ1j
            have HZ2 : Hid ((pr CM j == vP Q r kid) = true → ∀ i, i < j + 1 → (pr CM i == vP Q r (K.getD i 0).toNat) = true) := fun h i hi => by
              rcases Nat.lt_succ_iff_lt_or_eq.1 hi with h2 | rfl
              · exact unhide HZ i h2
              · rw [hgd]; exact h
            rw [unhide HVP kid] at HZ2
            have mr := (unhide MU).below hbu
            have x2 : wr.cell? ⟨w3.heap.size, 2, none⟩ = some (.slice e2 CM.length k2) := mr.cell 2 _ rfl
            have ltr := mr.lt
            have HDJ := hide d0
            clear hkid hgd h12 hIs mr
            obtain ⟨wq, hwq⟩ : ∃ W, W = wr := ⟨_, rfl⟩
            subst hwq
            have HP0 : Hid (false = prTo CM j 0) := by show _ = _; unfold prTo pr; simp
            have HPS := hide (fun k h => prTo_step CM j k h)
            have HPE := hide (prTo_end CM j CM.length (Nat.le_refl _))
            have hCor := (unhide HCOU).below hbu (Nat.le_refl _)
            obtain ⟨ca', cc', eca, hCs⟩ := hCor
            simp only [Value.slice.injEq, true_and] at eca
            obtain ⟨rfl, rfl⟩ := eca
            have HCS := hide hCs.2
            clear hCs
            go_wp2_with fail
            go_loopw [12, 13] (fun p i wv => ∃ k : Nat, p = .bool (prTo CM j k) ∧ i = .int .i64 (k : Int) ∧ k ≤ CM.length ∧ wv = wq) (fun _ i _ => CM.length - (intOf i).toNat)
            case atStart => exact ⟨0, congrArg Value.bool (unhide HP0), rfl, Nat.zero_le _, rfl⟩
            case round =>
              obtain ⟨k, rfl, rfl, hk, rfl⟩ := hrel
              by_cases hkl : k < CM.length
              · have hki : (k : Int) < ((CM.length : Nat) : Int) := by omega
                obtain ⟨cb, co, rfl, _, g0, g1⟩ := unhide HCS k hkl
                have HP2 := hide (unhide HPS k hkl)
                generalize (CM[k]).A = cA at g0 HP2
                generalize (CM[k]).B = cB at g1 HP2
                generalize prTo CM j k = bk at HP2
                cases bk with
                | true =>
                  rw [Bool.true_or] at HP2
                  go_wp2_with fail
                  exact ⟨⟨k + 1, congrArg Value.bool (unhide HP2).symm, by go_num, by omega, by first | rfl | trivial⟩, by simp [intOf]; omega⟩
                | false =>
                  rw [Bool.false_or] at HP2
                  by_cases hA : cA = (j : Int)
                  · rw [decide_eq_true hA, Bool.true_or] at HP2
                    subst hA
                    go_wp2_with fail
                    exact ⟨⟨k + 1, congrArg Value.bool (unhide HP2).symm, by go_num, by omega, by first | rfl | trivial⟩, by simp [intOf]; omega⟩
                  · rw [decide_eq_false hA, Bool.false_or] at HP2
                    have hA2 : (cA == (j : Int)) = false := by simp [hA]
                    by_cases hB2 : cB = (j : Int)
                    · rw [decide_eq_true hB2] at HP2
                      subst hB2
                      go_wp2_with fail
                      exact ⟨⟨k + 1, congrArg Value.bool (unhide HP2).symm, by go_num, by omega, by first | rfl | trivial⟩, by simp [intOf]; omega⟩
                    · rw [decide_eq_false hB2] at HP2
                      have hB3 : (cB == (j : Int)) = false := by simp [hB2]
                      go_wp2_with fail
                      exact ⟨⟨k + 1, congrArg Value.bool (unhide HP2).symm, by go_num, by omega, by first | rfl | trivial⟩, by simp [intOf]; omega⟩
              · obtain rfl : k = CM.length := by omega
                have hpe := unhide HPE
                rw [hpe]
                have d1 := unhide HDJ
                have TW := hide (fun w1 => two_any kid (by omega) w1)
                have hts : (tw kid).size ≤ 21 := tw_size kid (by omega)
                have DE := hide (fun w1 => Dc.specDec_any (r : Int) (by omega) (by omega) w1)
                have hds : (ByteArray.mk (Lib.itoa (r : Int)).toArray).size ≤ 20 := by have := itoa_short r (by omega); simpa [ByteArray.size] using this
                have HBW : Hid (Below w.heap.size w wr) := (unhide HBU).trans (hbu.mono (unhide HBU).size)
                have HUR := hide hbu
                go_wp2_with fail
                refine (unhide TW _).mono ?_
                rintro e w7 ⟨rfl, hb7⟩
                have b7 := (unhide HBW).trans (hb7.mono (unhide HBW).size)
                have u7 := (unhide HUR).trans (hb7.mono (unhide HUR).size)
                have GE7 := hide (unhide GE (⟨#[118]⟩ ++ tw kid) w7 b7)
                clear hb7
                generalize getP Q (⟨#[118]⟩ ++ tw kid) = gv at GE7 HQ1j HZ2
                go_wp2_with fail
                refine (unhide GE7).mono ?_
                rintro e w8 ⟨rfl, rfl⟩
                generalize oT gv = vv at HQ1j HZ2
                go_wp2_with fail
                refine (unhide DE _).mono ?_
                rintro e w9 ⟨rfl, hb9⟩
                have b9 := b7.trans (hb9.mono b7.size)
                have u9 := u7.trans (hb9.mono u7.size)
                clear hb9 b7 u7
                generalize (ByteArray.mk (Lib.itoa (r : Int)).toArray) = dd at hds HQ1j HZ2 ⊢
                generalize pr CM j = bp at HQ1j HZ2 ⊢
                cases hq : (vv.toList == ((⟨#[112]⟩ : ByteArray) ++ dd).toList) with
                | true =>
                  rw [hq] at HQ1j HZ2
                  cases bp with
                  | true =>
                    have HZ3 := hide (unhide HZ2 rfl)
                    go_wp2_with fail
                    exact ⟨⟨j + 1, by go_num, by omega, HZ3, u9⟩, by simp [intOf]; omega⟩
                  | false =>
                    obtain rfl : X = false := unhide HQ1j rfl
                    go_wp2
                    go_ret
                    exact ⟨rfl, b9⟩
                | false =>
                  rw [hq] at HQ1j HZ2
                  cases bp with
                  | true =>
                    obtain rfl : X = false := unhide HQ1j rfl
                    go_wp2
                    go_ret
                    exact ⟨rfl, b9⟩
                  | false =>
                    have HZ3 := hide (unhide HZ2 rfl)
                    go_wp2_with fail
                    exact ⟨⟨j + 1, by go_num, by omega, HZ3, u9⟩, by simp [intOf]; omega⟩
          · obtain rfl : j = K.length := by omega
            have hb10 := (unhide HBU).trans (hbu.mono (unhide HBU).size)
            have HX4 := hide (fun h2 => unhide HQ3 (unhide HZ) h2)
            have DE := hide (fun w1 => Dc.specDec_any (r : Int) (by omega) (by omega) w1)
            have hds : (ByteArray.mk (Lib.itoa (r : Int)).toArray).size ≤ 20 := by have := itoa_short r (by omega); simpa [ByteArray.size] using this
            have hpe : pW r = (⟨#[112]⟩ : ByteArray) ++ ⟨(Lib.itoa (r : Int)).toArray⟩ := rfl
            have hwd : (pW r).toList ≠ [] := by rw [pW_list]; simp
            rw [hpe] at hwd HQ2 HX4
            have IW1 := hide (fun w1 hb => unhide IW _ hwd w1 hb)
            generalize (ByteArray.mk (Lib.itoa (r : Int)).toArray) = dd at hds DE IW1 HQ2 HX4
            have HUR := hide hbu
            clear hpe hwd HQ1 HQ3 HZ HVP
            go_wp2_with fail
            refine (unhide DE _).mono ?_
            rintro e w9 ⟨rfl, hb9⟩
            have b9 := hb10.trans (hb9.mono hb10.size)
            have u9 := (unhide HUR).trans (hb9.mono (unhide HUR).size)
            clear hb9 hb10
            go_wp2_with fail
            refine (unhide IW1 w9 b9).mono ?_
            rintro e w10 ⟨⟨d, rfl, hO⟩, hb10⟩
            have b10 := b9.trans (hb10.mono b9.size)
            have u10 := u9.trans (hb10.mono u9.size)
            have HID := hide (show Gr.InOwn w10 w9.heap.size d (idsP ((⟨#[112]⟩ : ByteArray) ++ dd).toList Q) from hO).at
            clear hO hb10 b9 u9
            have hLl : (idsP ((⟨#[112]⟩ : ByteArray) ++ dd).toList Q).length ≤ 1048576 := Nat.le_trans (ids_short _ Q) (by have := unhide HQL; omega)
            generalize idsP ((⟨#[112]⟩ : ByteArray) ++ dd).toList Q = L at HID HQ2 HX4 hLl
            obtain ⟨da, dc, rfl, hIL⟩ := unhide HID
            have HIL := hide hIL.2
            have hInr := (unhide HINU).below u10 (Nat.le_refl _)
            obtain ⟨pa', pc', epa, hIs⟩ := hInr
            simp only [Value.slice.injEq, true_and] at epa
            obtain ⟨rfl, rfl⟩ := epa
            have hzu := u10.size
            have L3 := hide (fun x w1 (hb : Below w10.heap.size w10 w1) => l03In_any pa K.length pc U.heap.size K x (by omega) w1 (hIs.below hb hzu))
            have HQ2L : Hid (∀ t (h : t < L.length), inK K L[t] = false → X = false) := fun t h hx => unhide HQ2 _ (List.getElem_mem h) hx
            have HX5 : Hid ((∀ i (h : i < L.length), inK K L[i] = true) → X = audTo Q (N - (r + 1)) (r + 1)) := fun h => unhide HX4 (fun x hx => by obtain ⟨i, hi, rfl⟩ := List.getElem_of_mem hx; exact h i hi)
            clear hIL hIs HID HX4 HQ2 u10
            go_wp2_with fail
            go_loopw [17] (fun i wv => ∃ t : Nat, i = .int .i64 (t : Int) ∧ t ≤ L.length ∧ Hid (∀ i (h : i < L.length), i < t → inK K L[i] = true) ∧ Below w10.heap.size w10 wv) (fun i _ => L.length - (intOf i).toNat)
            case atStart => exact ⟨0, rfl, Nat.zero_le _, fun i h h0 => absurd h0 (Nat.not_lt_zero _), Below.refl _ _⟩
            case round =>
              obtain ⟨t, rfl, htl, HT, hbt⟩ := hrel
              by_cases hlt2 : t < L.length
              · have hti : (t : Int) < ((L.length : Nat) : Int) := by omega
                obtain ⟨db, doo, rfl, hdb, g0⟩ := unhide HIL t hlt2
                rw [← hbt.cell (p := ⟨db, doo + t, none⟩) (by simp; omega)] at g0
                have L4 := hide (unhide L3 L[t] wr hbt)
                have HN4 := hide (unhide HQ2L t hlt2)
                have HT2 : Hid (inK K L[t] = true → ∀ i (h : i < L.length), i < t + 1 → inK K L[i] = true) := fun h0 i h hi => by
                  rcases Nat.lt_succ_iff_lt_or_eq.1 hi with h2 | rfl
                  · exact unhide HT i h h2
                  · exact h0
                generalize inK K L[t] = ok at L4 HN4 HT2
                generalize L[t] = x at g0 L4
                cases ok with
                | false =>
                  obtain rfl : X = false := unhide HN4 rfl
                  have b11 := b10.trans (hbt.mono b10.size)
                  go_wp2_with fail
                  refine (unhide L4).mono ?_
                  rintro e w11 ⟨rfl, rfl⟩
                  go_wp2
                  go_ret
                  exact ⟨rfl, b11⟩
                | true =>
                  have HT3 := hide (unhide HT2 rfl)
                  go_wp2_with fail
                  refine (unhide L4).mono ?_
                  rintro e w11 ⟨rfl, rfl⟩
                  go_wp2_with fail
                  exact ⟨⟨t + 1, by go_num, by omega, HT3, hbt⟩, by simp [intOf]; omega⟩
              · have HY2 : Hid (X = audTo Q (N - (r + 1)) (r + 1)) := unhide HX5 (fun i h => unhide HT i h (by omega))
                have hti : ¬ (t : Int) < ((L.length : Nat) : Int) := by omega
                have b11 := b10.trans (hbt.mono b10.size)
                go_wp2_with fail
                exact ⟨⟨r + 1, by go_num, by omega, HY2, b11⟩, by simp [intOf]; omega⟩
      · obtain rfl : X = true := by rw [unhide HY, show N - r = 0 by omega]; exact unhide HEND r
        have hri : ¬ (r : Int) < (N : Int) := by omega
        go_wp2_with fail
        refine (unhide RN1).mono ?_
        rintro e w2 ⟨rfl, hb2⟩
        have b2 := hb.trans (hb2.mono hb.size)
        go_wp2
        go_ret
        exact ⟨rfl, b2⟩

end Rg
end Go.Proofs.YtjciccjcekcogaaGreatDoor
