/-
  Texts of this claim, one behind the other: Sc5.
-/
import Derived.Test.YtjhnippfepbjmaaGreatDoorJ15
import Derived.Test.YtjhnippfepbjmaaGreatDoorJ12
import Derived.Test.YtjhnippfepbjmaaGreatDoorJ17
import Derived.Test.YtjhnippfepbjmaaGreatDoorJ37

/-
  The contract of spec.ReadScript.
-/
namespace Go.Proofs.YtjhnippfepbjmaaGreatDoor
namespace Sc
open Go.RowKit
open Gr (DeedI own_lower InOwn InAt DeAt Blk below_new)

/-- What ReadScript hands back. -/
def RsPost (B : Nat) (w' : World) (e : Ending) (R : Res) : Prop :=
  ∃ v ks, e = .returned (.tuple #[.int .i64 (R.s : Int), v, .int .i64 R.f]) ∧ DsOwn w' B v ks R.d ∧ DistK ks

theorem runM_nil (P : ByteArray → Option (List ByteArray)) (i : Nat) (st : St) : runM P i [] st = if st.s = 0 then ⟨0, [], 1⟩ else ⟨st.s, st.d, 0⟩ := by rw [runM]

theorem runM_fault {P : ByteArray → Option (List ByteArray)} {i : Nat} {l : ByteArray} {r : List ByteArray} {st : St} (h : P l = none) : runM P i (l :: r) st = ⟨0, [], ((i + 1 : Nat) : Int)⟩ := by rw [runM, h]

theorem runM_bad {P : ByteArray → Option (List ByteArray)} {i : Nat} {l : ByteArray} {r p : List ByteArray} {st : St} (h : P l = some p) (h2 : partM st p = none) : runM P i (l :: r) st = ⟨0, [], ((i + 1 : Nat) : Int)⟩ := by rw [runM, h]; simp only [h2]

theorem runM_on {P : ByteArray → Option (List ByteArray)} {i : Nat} {l : ByteArray} {r p : List ByteArray} {st st' : St} (h : P l = some p) (h2 : partM st p = some st') : runM P i (l :: r) st = runM P (i + 1) r st' := by rw [runM, h]; simp only [h2]

theorem part_rem {st : St} {x : ByteArray} {r : List ByteArray} (h : isRem x = true) : partM st (x :: r) = some st := by simp only [partM]; rw [if_pos h]
theorem part_tell {st : St} {x : ByteArray} {r : List ByteArray} (h : isRem x = false) : partM st (x :: r) = tellM st (x :: r) := by simp only [partM]; rw [if_neg (by rw [h]; simp)]
theorem tell_hall {st : St} {p : List ByteArray} (h : st.s = 0) : tellM st p = (hallM p).map (fun n => ⟨n, st.d⟩) := by unfold tellM; rw [if_pos h]
theorem tell_deed {st : St} {p : List ByteArray} (h : st.s ≠ 0) : tellM st p = (match deedM p with | none => none | some d => if st.d.length < 40 then some ⟨st.s, st.d ++ [d]⟩ else none) := by unfold tellM; rw [if_neg h]; cases deedM p <;> rfl

theorem hall_not {p : List ByteArray} (h : ¬ (p.length = 2 ∧ ∃ x r, p = x :: r ∧ isHall x = true)) : hallM p = none := by
  match p, h with
  | [], _ => rfl
  | [_], _ => rfl
  | [x, n], h =>
    simp only [hallM]
    rw [if_neg (fun e => h ⟨rfl, x, [n], rfl, e⟩)]
  | _ :: _ :: _ :: _, _ => rfl

theorem hall_is {x n : ByteArray} (h : isHall x = true) : hallM [x, n] = (match rdD n with | some k => if 4 ≤ k ∧ k ≤ 400 then some k else none | none => none) := by
  simp only [hallM]
  rw [if_pos h]
  cases rdD n <;> rfl

theorem specParts' (s : ByteArray) (w : World) : Calls Tryz.prog 10 #[.string s] w fun e w' => (∃ v, e = .returned (.tuple #[v, .bool (Pt.partsO s).isSome]) ∧ w'.ownsRow w.heap.size 9 1 v ((Pt.partsO s).getD []).length (tx ((Pt.partsO s).getD []))) ∧ Below w.heap.size w w' := Pt.specParts s w

/-- What stands at a line's beginning. -/
structure RL (w V : World) (al : Option Addr) (LL : List ByteArray) (R : Res) (i : Nat) (st : St) (ks : List Value) (out : Value) (wr : World) : Prop where
  tx : txAt wr al V.heap.size LL
  own : DsOwn wr V.heap.size out ks st.d
  dist : DistK ks
  bel : Below V.heap.size V wr
  few : st.d.length ≤ 40
  res : runM Pt.partsO i (LL.drop i) st = R

theorem RL.below {w V : World} {al : Option Addr} {LL : List ByteArray} {R : Res} {i : Nat} {st : St} {ks : List Value} {out : Value} {wr w' : World} (h : RL w V al LL R i st ks out wr) (hb : Below wr.heap.size wr w') : RL w V al LL R i st ks out w' :=
  ⟨h.tx.below hb h.bel.size, h.own.below hb, h.dist, h.bel.trans (hb.mono h.bel.size), h.few, h.res⟩

theorem RL.next {w V : World} {al : Option Addr} {LL : List ByteArray} {R : Res} {i : Nat} {st st' : St} {ks ks' : List Value} {out out' : Value} {wr w' : World} {p : List ByteArray} (h : RL w V al LL R i st ks out wr) (hi : i < LL.length) (hp : Pt.partsO LL[i] = some p) (h2 : partM st p = some st') (htx : txAt w' al V.heap.size LL) (ho : DsOwn w' V.heap.size out' ks' st'.d) (hd : DistK ks') (hb : Below V.heap.size V w') (hf : st'.d.length ≤ 40) : RL w V al LL R (i + 1) st' ks' out' w' :=
  ⟨htx, ho, hd, hb, hf, by rw [← h.res, List.drop_eq_getElem_cons hi, runM_on hp h2]⟩

theorem RL.fault {w V : World} {al : Option Addr} {LL : List ByteArray} {R : Res} {i : Nat} {st : St} {ks : List Value} {out : Value} {wr : World} (h : RL w V al LL R i st ks out wr) (hi : i < LL.length) (hp : Pt.partsO LL[i] = none) : R = ⟨0, [], ((i + 1 : Nat) : Int)⟩ := by
  rw [← h.res, List.drop_eq_getElem_cons hi, runM_fault hp]

theorem RL.bad {w V : World} {al : Option Addr} {LL : List ByteArray} {R : Res} {i : Nat} {st : St} {ks : List Value} {out : Value} {wr : World} {p : List ByteArray} (h : RL w V al LL R i st ks out wr) (hi : i < LL.length) (hp : Pt.partsO LL[i] = some p) (h2 : partM st p = none) : R = ⟨0, [], ((i + 1 : Nat) : Int)⟩ := by
  rw [← h.res, List.drop_eq_getElem_cons hi, runM_bad hp h2]

theorem RL.last {w V : World} {al : Option Addr} {LL : List ByteArray} {R : Res} {st : St} {ks : List Value} {out : Value} {wr : World} (h : RL w V al LL R LL.length st ks out wr) : R = if st.s = 0 then ⟨0, [], 1⟩ else ⟨st.s, st.d, 0⟩ := by
  rw [← h.res, List.drop_of_length_le (Nat.le_refl _), runM_nil]

theorem lines_small (t : ByteArray) : (lines t).length ≤ t.size + 1 := linesF_len t t.size 0 0

set_option maxRecDepth 100000 in
set_option maxHeartbeats 8000000 in
theorem specScript (t : ByteArray) (ht : t.size ≤ 1048576) (w : World) :
    Calls Tryz.prog 4 #[.string t] w fun e w' => RsPost w.heap.size w' e (scriptM Pt.partsO t) ∧ Below w.heap.size w w' := by
  obtain ⟨V0, hV0⟩ : ∃ W, W = w.alloc (Obj.cells #[] 46) := ⟨_, rfl⟩
  have b0 : Below w.heap.size w V0 := by rw [hV0]; exact below_new _ _
  have n0 : DsOwn V0 w.heap.size (.slice (some ⟨w.heap.size, 0, none⟩) 0 0) [] [] := by rw [hV0]; exact DsOwn.made w _ (Nat.le_refl _)
  by_cases h6 : 6000 < t.size
  · have h6i : (6000 : Int) < (t.size : Int) := by omega
    have hR : scriptM Pt.partsO t = ⟨0, [], -1⟩ := by unfold scriptM; rw [if_pos h6]
    rw [hR]
    clear hR
    go_enter Tryz.func4, Tryz.ntmps4
    go_wp2
    go_ret3
    rw [← hV0]
    exact ⟨⟨_, [], rfl, n0, DistK.nil⟩, b0⟩
  · have h6i : ¬ (6000 : Int) < (t.size : Int) := by omega
    have SL := hide (fun w => specLines t (by omega) w)
    have hll := lines_small t
    by_cases h60 : 60 < (lines t).length
    · have hR : scriptM Pt.partsO t = ⟨0, [], -1⟩ := by unfold scriptM; rw [if_neg h6, if_pos h60]
      rw [hR]
      have h60i : (60 : Int) < ((lines t).length : Int) := by omega
      generalize lines t = LL at SL h60i
      clear hR h60 hll
      go_enter Tryz.func4, Tryz.ntmps4
      go_wp2_with fail
      rw [← hV0]
      clear hV0
      refine (unhide SL V0).mono ?_
      rintro e w1 ⟨⟨v, rfl, hv⟩, hb1⟩
      obtain ⟨a, c, hve, _⟩ := own_tx hv
      subst hve
      have n1 := n0.below hb1
      have b1 := b0.trans (hb1.mono b0.size)
      clear hv hb1 n0 b0
      go_wp2
      go_ret3
      exact ⟨⟨_, [], rfl, n1, DistK.nil⟩, b1⟩
    · have hR : scriptM Pt.partsO t = runM Pt.partsO 0 (lines t) ⟨0, []⟩ := by unfold scriptM; rw [if_neg h6, if_neg h60]
      rw [hR]
      have h60i : ¬ (60 : Int) < ((lines t).length : Int) := by omega
      have hl60 : (lines t).length ≤ 60 := by omega
      generalize lines t = LL at SL h60i hl60
      obtain ⟨R, hRR⟩ : ∃ R, R = runM Pt.partsO 0 LL ⟨0, []⟩ := ⟨_, rfl⟩
      rw [← hRR]
      have HRR := hide hRR
      clear hR h60 hll hRR
      go_enter Tryz.func4, Tryz.ntmps4
      go_wp2_with fail
      rw [← hV0]
      clear hV0
      refine (unhide SL V0).mono ?_
      rintro e w1 ⟨⟨v, rfl, hv⟩, hb1⟩
      obtain ⟨a, c, hve, _⟩ := own_tx hv
      subst hve
      have n1 := n0.below hb1
      have b1 := b0.trans (hb1.mono b0.size)
      clear hv hb1 n0 b0
      go_wp2_with fail
      refine (unhide SL w1).mono ?_
      rintro e w2 ⟨⟨v, rfl, hv⟩, hb2⟩
      obtain ⟨al, cl, hve, hcl, htl, hal⟩ := own_tx hv
      subst hve
      have n2 := n1.below hb2
      have b2 := b1.trans (hb2.mono b1.size)
      obtain ⟨n, hn⟩ : ∃ n, n = LL.length := ⟨_, rfl⟩
      have HN := hide hn
      rw [← hn] at h60i hl60 ⊢
      have HV : Hid (RL w w2 al LL R 0 ⟨0, []⟩ [] (.slice (some ⟨w2.heap.size, 0, none⟩) 0 0) (w2.alloc (Obj.cells #[] 46))) :=
        ⟨htl.below (below_new _ _) (Nat.le_refl _), DsOwn.made w2 _ (Nat.le_refl _), DistK.nil, below_new _ _, by simp, by rw [List.drop_zero]; exact (unhide HRR).symm⟩
      have SP := hide (fun s w => specParts' s w)
      have RD := hide (fun x w => specRD x w)
      have FS := hide (fun x w => specFmt_any x w)
      have HAL := hide hal
      obtain ⟨i0, hi0, iz0, iz1, iz2⟩ := info_parts infoDeed
      clear hv hb2 n1 b1 htl hn SL HRR hal
      go_wp2_with fail
      go_loopw [7, 8, 9] (fun sec out ai wr => ∃ (i : Nat) (st : St) (ks : List Value), sec = .int .i64 (st.s : Int) ∧ ai = .int .i64 (i : Int) ∧ i ≤ n ∧ st.s ≤ 400 ∧ Hid (RL w w2 al LL R i st ks out wr)) (fun _ _ ai _ => n - (intOf ai).toNat)
      case atStart => exact ⟨0, ⟨0, []⟩, [], rfl, rfl, Nat.zero_le _, by simp, HV⟩
      case round =>
        obtain ⟨i, st, ks, rfl, rfl, hi, hs4, HL⟩ := hrel
        have hbw := (unhide HL).bel
        have hbs := hbw.size
        have nw := n2.below hbw
        have bw := b2.trans (hbw.mono b2.size)
        by_cases hlt : i < n
        · have hiL : i < LL.length := by rw [← unhide HN]; exact hlt
          obtain ⟨bl, ol, hal, hblB, hcl2⟩ := (unhide HL).tx i hiL
          subst hal
          have SP1 := hide (unhide SP LL[i])
          have HPE : Hid (∀ p, Pt.partsO LL[i] = some p → p.length ≤ 8 ∧ ∀ x ∈ p, 0 < x.size ∧ x.size ≤ 400) := fun p h => Pt.parts_each h
          have HFA : Hid (Pt.partsO LL[i] = none → R = ⟨0, [], ((i + 1 : Nat) : Int)⟩) := fun h => (unhide HL).fault hiL h
          have HBA : Hid (∀ p, Pt.partsO LL[i] = some p → partM st p = none → R = ⟨0, [], ((i + 1 : Nat) : Int)⟩) := fun p h h2 => (unhide HL).bad hiL h h2
          have HNX : Hid (∀ p st' ks' out' w', Pt.partsO LL[i] = some p → partM st p = some st' → txAt w' (some ⟨bl, ol, none⟩) w2.heap.size LL → DsOwn w' w2.heap.size out' ks' st'.d → DistK ks' → Below w2.heap.size w2 w' → st'.d.length ≤ 40 → RL w w2 (some ⟨bl, ol, none⟩) LL R (i + 1) st' ks' out' w') := fun p st' ks' out' w' h h2 h3 h4 h5 h6 h7 => (unhide HL).next hiL h h2 h3 h4 h5 h6 h7
          generalize LL[i] = ln at hcl2 SP1 HPE HFA HBA HNX
          generalize Pt.partsO ln = po at SP1 HPE HFA HBA HNX
          have hx0 : (0 : Int) ≤ (i : Int) := by omega
          have hx1 : (i : Int) < (n : Int) := by omega
          cases po with
          | none =>
            have hRe := unhide HFA rfl
            subst hRe
            go_wp2_with fail
            refine (unhide SP1 wr).mono ?_
            rintro e w4 ⟨⟨v4, rfl, ho4⟩, hb4⟩
            have n4 := nw.below hb4
            have b4 := bw.trans (hb4.mono bw.size)
            clear ho4 hb4 nw bw hbw
            go_wp2
            go_ret3
            exact ⟨⟨_, [], by go_num, n4, DistK.nil⟩, b4⟩
          | some p =>
            obtain ⟨hp8, hpx⟩ := unhide HPE p rfl
            have HPX := hide hpx
            have SP2 : Hid (∀ w, Calls Tryz.prog 10 #[.string ln] w fun e w' => (∃ v, e = .returned (.tuple #[v, .bool true]) ∧ w'.ownsRow w.heap.size 9 1 v p.length (tx p)) ∧ Below w.heap.size w w') := SP1
            have HBA2 := hide (fun h2 => unhide HBA p rfl h2)
            have HNX2 := hide (fun st' ks' out' w' h2 h3 h4 h5 h6 h7 => unhide HNX p st' ks' out' w' rfl h2 h3 h4 h5 h6 h7)
            clear HPE HFA hpx SP1 HBA HNX
            match p, hp8, HPX, SP2, HBA2, HNX2 with
            | [], _, _, SP2, _, HNX2 =>
              go_wp2_with fail
              refine (unhide SP2 wr).mono ?_
              rintro e w4 ⟨⟨v4, rfl, ho4⟩, hb4⟩
              obtain ⟨ap, cp, hv4, hcp, ht4, hg4⟩ := own_tx ho4
              subst hv4
              have n4 := nw.below hb4
              have b4 := bw.trans (hb4.mono bw.size)
              have HL4 := hide ((unhide HL).below hb4)
              clear ho4 hb4 ht4 hg4
              go_wp2
              go_roundw
              case rel => exact ⟨i + 1, st, ks, rfl, by go_num, by omega, hs4, unhide HNX2 st ks _ w4 rfl (unhide HL4).tx (unhide HL4).own (unhide HL4).dist (unhide HL4).bel (unhide HL4).few⟩
              case measure => simp [intOf]; omega
            | x :: r, hp8, HPX, SP2, HBA2, HNX2 =>
              have hxs := (unhide HPX x (by simp)).1
              have hBx : ((x[0]'hxs).toNat : Int) ≤ 255 := by have := UInt8.toNat_lt (x[0]'hxs); omega
              have HBx := hide (show (byteAt x 0 : Int) = ((x[0]'hxs).toNat : Int) by rw [byteAt_eq hxs])
              have hxi : (0 : Int) < (x.size : Int) := by omega
              simp only [List.length_cons] at hp8 SP2
              obtain ⟨m, hm⟩ : ∃ m, m = r.length := ⟨_, rfl⟩
              have HM := hide hm
              have hm1 : ¬ (((m : Int) + 1) == 0) = true := by simp; omega
              go_wp2_with fail
              refine (unhide SP2 wr).mono ?_
              rintro e w4 ⟨⟨v4, rfl, ho4⟩, hb4⟩
              obtain ⟨ap, cp, hv4, hcp, ht4, hg4⟩ := own_tx ho4
              subst hv4
              have n4 := nw.below hb4
              have b4 := bw.trans (hb4.mono bw.size)
              have HL4 := hide ((unhide HL).below hb4)
              simp only [List.length_cons] at ho4 hcp hg4 ⊢
              obtain ⟨gp, hgp⟩ := hg4 (by omega)
              subst hgp
              have hz4 := (ht4 0 (by simp))
              obtain ⟨b', off', eb, hgpl, cx⟩ := hz4
              simp only [Option.some.injEq, Addr.mk.injEq, and_true] at eb
              obtain ⟨rfl, rfl⟩ := eb
              simp only [List.getElem_cons_zero, Nat.add_zero] at cx
              have HT4 := hide ht4
              rw [← hm] at hp8 hcp ⊢
              clear ho4 ht4 hg4 hm nw bw hbw
              by_cases hrm : ((x[0]'hxs).toNat : Int) = 35
              · have HRM : Hid (isRem x = true) := by
                  show _ = _
                  have := unhide HBx
                  unfold isRem
                  simp
                  omega
                have hrmb : (((x[0]'hxs).toNat : Int) == 35) = true := by rw [beq_iff_eq]; exact hrm
                go_wp2
                go_roundw
                case rel => exact ⟨i + 1, st, ks, rfl, by go_num, by omega, hs4, unhide HNX2 st ks _ w4 (part_rem (unhide HRM)) (unhide HL4).tx (unhide HL4).own (unhide HL4).dist (unhide HL4).bel (unhide HL4).few⟩
                case measure => simp [intOf]; omega
              · have HRM : Hid (isRem x = false) := by
                  show _ = _
                  have := unhide HBx
                  unfold isRem
                  simp
                  omega
                have hrmb : (((x[0]'hxs).toNat : Int) == 35) = false := by rw [beq_eq_false_iff_ne]; exact hrm
                by_cases hs0 : st.s = 0
                · have hs0i : ((st.s : Int) == 0) = true := by rw [beq_iff_eq]; omega
                  have HTE : Hid (partM st (x :: r) = (hallM (x :: r)).map (fun n => ⟨n, st.d⟩)) := by show _ = _; rw [part_tell (unhide HRM), tell_hall hs0]
                  obtain ⟨th, hth⟩ : ∃ t, t = (x.toList == [104, 97, 108, 108]) := ⟨_, rfl⟩
                  have HHA : Hid (isHall x = th) := hth.symm
                  have hq : (x.toList == [104, 97, 108, 108]) = th := hth.symm
                  clear hth
                  by_cases h2 : m = 1
                  · subst h2
                    cases th with
                    | false =>
                      have HRE : Hid (R = ⟨0, [], ((i + 1 : Nat) : Int)⟩) := unhide HBA2 (by rw [unhide HTE, hall_not (by rintro ⟨_, x', r', e, hx'⟩; cases e; rw [unhide HHA] at hx'; cases hx')]; rfl)
                      have hRe := unhide HRE
                      subst hRe
                      have FS1 := hide (fun w => specFmt_any 0 w)
                      have hfo : fmtOk 0 = false := rfl
                      rw [hfo] at FS1
                      generalize fmtL 0 = fl at FS1
                      generalize fmtT 0 = ft at FS1
                      go_wp2_with fail
                      refine (unhide FS1 w4).mono ?_
                      rintro e w6 ⟨⟨v0, v1, rfl, hd6⟩, hb6⟩
                      obtain ⟨A0, m0, C0, A1, m1, C1, e6, _, _⟩ := hd6.at
                      simp at e6
                      obtain ⟨rfl, rfl⟩ := e6
                      have n6 := n4.below hb6
                      have b6 := b4.trans (hb6.mono b4.size)
                      have n7 := n6.below (below_new w6 (Obj.cells #[.slice A0 m0 C0, .slice A1 m1 C1, .slice none 0 0, .int .i64 0, .int .i64 ft] 41))
                      have b7 := b6.alloc b6.size (Obj.cells #[.slice A0 m0 C0, .slice A1 m1 C1, .slice none 0 0, .int .i64 0, .int .i64 ft] 41)
                      clear hd6 hb6 n6 b6
                      go_wp2
                      go_ret3
                      exact ⟨⟨_, [], by go_num, n7, DistK.nil⟩, b7⟩
                    | true =>
                      obtain ⟨n', hr1⟩ := List.length_eq_one_iff.1 (unhide HM).symm
                      subst hr1
                      have cn : w4.cell? ⟨gp, 1, none⟩ = some (.string n') := by
                        obtain ⟨b', off', e, _, hcx⟩ := unhide HT4 1 (by simp)
                        simp only [Option.some.injEq, Addr.mk.injEq, and_true] at e
                        obtain ⟨rfl, rfl⟩ := e
                        simpa using hcx
                      have HHL : Hid (hallM [x, n'] = (match rdD n' with | some k => if 4 ≤ k ∧ k ≤ 400 then some k else none | none => none)) := by show _ = _; rw [hall_is (unhide HHA)]
                      have RX := hide (unhide RD n')
                      have hbd := oN_bd n'
                      generalize rdD n' = dn at HHL RX hbd
                      cases dn with
                      | none =>
                        have hRe := unhide HBA2 (by rw [unhide HTE, unhide HHL]; rfl)
                        subst hRe
                        change Hid (∀ w, Calls _ _ _ w fun e w' => e = .returned (.tuple #[.int .i64 0, .bool false]) ∧ _) at RX
                        have FS1 := hide (fun w => specFmt_any 0 w)
                        have hfo : fmtOk 0 = false := rfl
                        rw [hfo] at FS1
                        generalize fmtL 0 = fl at FS1
                        generalize fmtT 0 = ft at FS1
                        clear hbd
                        go_wp2_with fail
                        refine (unhide RX w4).mono ?_
                        rintro e w5 ⟨rfl, hb5⟩
                        have n5 := n4.below hb5
                        have b5 := b4.trans (hb5.mono b4.size)
                        clear hb5 n4 b4
                        go_wp2_with fail
                        refine (unhide FS1 w5).mono ?_
                        rintro e w6 ⟨⟨v0, v1, rfl, hd6⟩, hb6⟩
                        obtain ⟨A0, m0, C0, A1, m1, C1, e6, _, _⟩ := hd6.at
                        simp at e6
                        obtain ⟨rfl, rfl⟩ := e6
                        have n6 := n5.below hb6
                        have b6 := b5.trans (hb6.mono b5.size)
                        have n7 := n6.below (below_new w6 (Obj.cells #[.slice A0 m0 C0, .slice A1 m1 C1, .slice none 0 0, .int .i64 0, .int .i64 ft] 41))
                        have b7 := b6.alloc b6.size (Obj.cells #[.slice A0 m0 C0, .slice A1 m1 C1, .slice none 0 0, .int .i64 0, .int .i64 ft] 41)
                        clear hd6 hb6 n6 b6
                        go_wp2
                        go_ret3
                        exact ⟨⟨_, [], by go_num, n7, DistK.nil⟩, b7⟩
                      | some k =>
                        change Hid (∀ w, Calls _ _ _ w fun e w' => e = .returned (.tuple #[.int .i64 (k : Int), .bool true]) ∧ _) at RX
                        by_cases hk4 : 4 ≤ k ∧ k ≤ 400
                        · have HPT : Hid (partM st [x, n'] = some ⟨k, st.d⟩) := by show _ = _; rw [unhide HTE, unhide HHL]; simp only; rw [if_pos hk4]; rfl
                          have FS1 := hide (fun w => specFmt_any (k : Int) w)
                          have hfo : fmtOk (k : Int) = true := by unfold fmtOk; simp only [decide_eq_true_eq]; omega
                          rw [hfo] at FS1
                          generalize fmtL (k : Int) = fl at FS1
                          generalize fmtT (k : Int) = ft at FS1
                          have hk400 : k ≤ 400 := hk4.2
                          clear hbd hk4
                          go_wp2_with fail
                          refine (unhide RX w4).mono ?_
                          rintro e w5 ⟨rfl, hb5⟩
                          have HL5 := hide ((unhide HL4).below hb5)
                          clear hb5
                          go_wp2_with fail
                          refine (unhide FS1 w5).mono ?_
                          rintro e w6 ⟨⟨v0, v1, rfl, hd6⟩, hb6⟩
                          obtain ⟨A0, m0, C0, A1, m1, C1, e6, _, _⟩ := hd6.at
                          simp at e6
                          obtain ⟨rfl, rfl⟩ := e6
                          have HL7 := hide (((unhide HL5).below hb6).below (below_new w6 (Obj.cells #[.slice A0 m0 C0, .slice A1 m1 C1, .slice none 0 0, .int .i64 0, .int .i64 ft] 41)))
                          clear hd6 hb6
                          go_wp2
                          go_roundw
                          case rel => exact ⟨i + 1, ⟨k, st.d⟩, ks, rfl, by go_num, by omega, hk400, unhide HNX2 ⟨k, st.d⟩ ks _ _ (unhide HPT) (unhide HL7).tx (unhide HL7).own (unhide HL7).dist (unhide HL7).bel (unhide HL7).few⟩
                          case measure => simp [intOf]; omega
                        · have hRe := unhide HBA2 (by rw [unhide HTE, unhide HHL]; simp only; rw [if_neg hk4]; rfl)
                          subst hRe
                          have FS1 := hide (fun w => specFmt_any (k : Int) w)
                          have hfo : fmtOk (k : Int) = false := by unfold fmtOk; simp only [decide_eq_false_iff_not]; omega
                          rw [hfo] at FS1
                          generalize fmtL (k : Int) = fl at FS1
                          generalize fmtT (k : Int) = ft at FS1
                          clear hbd hk4
                          go_wp2_with fail
                          refine (unhide RX w4).mono ?_
                          rintro e w5 ⟨rfl, hb5⟩
                          have n5 := n4.below hb5
                          have b5 := b4.trans (hb5.mono b4.size)
                          clear hb5 n4 b4
                          go_wp2_with fail
                          refine (unhide FS1 w5).mono ?_
                          rintro e w6 ⟨⟨v0, v1, rfl, hd6⟩, hb6⟩
                          obtain ⟨A0, m0, C0, A1, m1, C1, e6, _, _⟩ := hd6.at
                          simp at e6
                          obtain ⟨rfl, rfl⟩ := e6
                          have n6 := n5.below hb6
                          have b6 := b5.trans (hb6.mono b5.size)
                          have n7 := n6.below (below_new w6 (Obj.cells #[.slice A0 m0 C0, .slice A1 m1 C1, .slice none 0 0, .int .i64 0, .int .i64 ft] 41))
                          have b7 := b6.alloc b6.size (Obj.cells #[.slice A0 m0 C0, .slice A1 m1 C1, .slice none 0 0, .int .i64 0, .int .i64 ft] 41)
                          clear hd6 hb6 n6 b6
                          go_wp2
                          go_ret3
                          exact ⟨⟨_, [], by go_num, n7, DistK.nil⟩, b7⟩
                  · have h2i : (((m : Int) + 1) == 2) = false := by rw [beq_eq_false_iff_ne]; omega
                    have HRE : Hid (R = ⟨0, [], ((i + 1 : Nat) : Int)⟩) := unhide HBA2 (by rw [unhide HTE, hall_not (by rintro ⟨hl, _⟩; rw [List.length_cons, ← unhide HM] at hl; omega)]; rfl)
                    have hRe := unhide HRE
                    subst hRe
                    have FS1 := hide (fun w => specFmt_any 0 w)
                    have hfo : fmtOk 0 = false := rfl
                    rw [hfo] at FS1
                    generalize fmtL 0 = fl at FS1
                    generalize fmtT 0 = ft at FS1
                    go_wp2_with fail
                    refine (unhide FS1 w4).mono ?_
                    rintro e w6 ⟨⟨v0, v1, rfl, hd6⟩, hb6⟩
                    obtain ⟨A0, m0, C0, A1, m1, C1, e6, _, _⟩ := hd6.at
                    simp at e6
                    obtain ⟨rfl, rfl⟩ := e6
                    have n6 := n4.below hb6
                    have b6 := b4.trans (hb6.mono b4.size)
                    have n7 := n6.below (below_new w6 (Obj.cells #[.slice A0 m0 C0, .slice A1 m1 C1, .slice none 0 0, .int .i64 0, .int .i64 ft] 41))
                    have b7 := b6.alloc b6.size (Obj.cells #[.slice A0 m0 C0, .slice A1 m1 C1, .slice none 0 0, .int .i64 0, .int .i64 ft] 41)
                    clear hd6 hb6 n6 b6
                    go_wp2
                    go_ret3
                    exact ⟨⟨_, [], by go_num, n7, DistK.nil⟩, b7⟩
                · have hs0i : ((st.s : Int) == 0) = false := by rw [beq_eq_false_iff_ne]; omega
                  have HTE : Hid (partM st (x :: r) = (match deedM (x :: r) with | none => none | some d => if st.d.length < 40 then some ⟨st.s, st.d ++ [d]⟩ else none)) := by show _ = _; rw [part_tell (unhide HRM), tell_deed hs0]
                  have SD := specDeed gp 0 cp w4.heap.size (x :: r) (by simp) (by rw [List.length_cons, ← unhide HM]; exact hp8) (by rw [List.length_cons, ← unhide HM]; exact hcp) (unhide HPX) w4 (Nat.le_refl _) (unhide HT4)
                  rw [List.length_cons, ← unhide HM] at SD
                  have HSD := hide SD
                  have hfew := (unhide HL4).few
                  obtain ⟨ao, co, hao⟩ := (unhide HL4).own.shape
                  subst hao
                  clear SD
                  generalize deedM (x :: r) = od at HSD HTE
                  go_wp2_with fail
                  refine (unhide HSD).mono ?_
                  rintro e w5 ⟨⟨y, ka, kn, kc, rfl, hY⟩, hb5⟩
                  have HY := hide hY
                  have n5 := n4.below hb5
                  have b5 := b4.trans (hb5.mono b4.size)
                  have HL5 := hide ((unhide HL4).below hb5)
                  obtain ⟨yT, yc, ys, yo, yp⟩ := y
                  have hb45 := hb5.size
                  obtain ⟨V6, hV6⟩ : ∃ W, W = w5.alloc (Obj.cells #[.string yT, .bool yc, .int .i64 ys, .slice ka kn kc, .int .i64 yo, .int .i64 yp] 46) := ⟨_, rfl⟩
                  have bV6 : Below w5.heap.size w5 V6 := by rw [hV6]; exact below_new _ _
                  have n6 := n5.below bV6
                  have b6 := b5.trans (bV6.mono b5.size)
                  have HL6 := hide ((unhide HL5).below bV6)
                  have m6 : Blk V6 w5.heap.size #[.string yT, .bool yc, .int .i64 ys, .slice ka kn kc, .int .i64 yo, .int .i64 yp] 46 := by rw [hV6]; exact Blk.new0
                  clear hY hb5 n4 b4 n5 b5 cx
                  cases od with
                  | none =>
                    have hRe := unhide HBA2 (unhide HTE)
                    subst hRe
                    clear m6
                    rw [hV6] at n6 b6
                    clear hV6 bV6 HL6
                    go_wp2
                    go_ret3
                    exact ⟨⟨_, [], by go_num, n6, DistK.nil⟩, b6⟩
                  | some d =>
                    obtain ⟨he1, he2, ho5⟩ := unhide HY d rfl
                    by_cases h40 : st.d.length < 40
                    · have HPT : Hid (partM st (x :: r) = some ⟨st.s, st.d ++ [d]⟩) := by show _ = _; rw [unhide HTE]; simp only; rw [if_pos h40]
                      have h40i : ((st.d.length : Int) == 40) = false := by rw [beq_eq_false_iff_ne]; omega
                      have c0 : V6.cell? ⟨w5.heap.size, 0, none⟩ = some (.string yT) := m6.cell 0 _ rfl
                      have c1 : V6.cell? ⟨w5.heap.size, 1, none⟩ = some (.bool yc) := m6.cell 1 _ rfl
                      have c2 : V6.cell? ⟨w5.heap.size, 2, none⟩ = some (.int .i64 ys) := m6.cell 2 _ rfl
                      have c3 : V6.cell? ⟨w5.heap.size, 3, none⟩ = some (.slice ka kn kc) := m6.cell 3 _ rfl
                      have c4 : V6.cell? ⟨w5.heap.size, 4, none⟩ = some (.int .i64 yo) := m6.cell 4 _ rfl
                      have c5 : V6.cell? ⟨w5.heap.size, 5, none⟩ = some (.int .i64 yp) := m6.cell 5 _ rfl
                      have zV6 := m6.lt
                      have ho6 := ho5.below bV6
                      obtain ⟨dI, dK⟩ := d
                      simp only at he1 he2 ho6
                      subst he1 he2
                      have hown6 := (unhide HL6).own.2.1
                      have hb26 := (unhide HL6).bel.size
                      have HO6 := hide ho6
                      have HBV := hide bV6
                      clear m6 ho5 ho6 bV6
                      go_upto_region 25 with fail
                      rw [← hV6]
                      clear hV6
                      go_wp2_with (at_builtin; refine wpList_append_own _ rfl _ _ 22 rfl w2.heap.size 46 i0 (.agg #[.string ⟨#[]⟩, .bool false, .int .i64 0, .slice none 0 0, .int .i64 0, .int .i64 0]) 6 72 Tryz.underlying22 hi0 iz0 iz1 iz2 rfl (by decide) _ _ _ rfl (hown6.alloc _) ⟨V6.heap.size, 0, none⟩ 1 1 [.string yT, .bool yc, .int .i64 ys, .slice ka dK.length kc, .int .i64 yo, .int .i64 yp] rfl rfl (World.news_of_block (heap_alloc_new V6 _)) (six_one _ _ _ _ _ _ _ _) ?_ ?_ ?_ ?_)
                      · unfold maxLen; omega
                      · omega
                      · first | omega | (simp; omega)
                      intro v' w7 hown7 hgrow _
                      have hXb := below_new V6 (Obj.cells #[.string yT, .bool yc, .int .i64 ys, .slice ka dK.length kc, .int .i64 yo, .int .i64 yp] 46)
                      have HLX := hide ((unhide HL6).below hXb)
                      have HDS := hide (DsOwn.snoc (d := (⟨yT, yc, ys, yo, yp⟩, dK)) (unhide HLX).own (InOwn.lower (B := w4.heap.size) ((unhide HO6).below hXb) (unhide HL4).bel.size) hgrow hown7)
                      have hb7 : Below w2.heap.size w2 w7 := ((unhide HLX).bel).grown hgrow (unhide HLX).bel.size (fun k hk => ((unhide HLX).own.2.1.lt k hk).1)
                      have HTX : Hid (txAt w7 (some ⟨bl, ol, none⟩) w2.heap.size LL) := by
                        intro j hj
                        obtain ⟨b1, o1, e1, h1, h2⟩ := (unhide HLX).tx j hj
                        refine ⟨b1, o1, e1, h1, ?_⟩
                        have h3 := ((Below.refl w2.heap.size _).grown hgrow (unhide HLX).bel.size (fun k hk => ((unhide HLX).own.2.1.lt k hk).1)).cell (p := ⟨b1, o1 + j, none⟩) h1
                        rw [h3]
                        exact h2
                      have HDI : Hid (DistK (ks ++ [Value.slice ka dK.length kc])) := (unhide HL4).dist.snoc (fun j hj g e1 e2 => by
                        have h1 := ((unhide HL4).own.2.2 j hj (by rw [← (unhide HL4).own.1]; exact hj)).blk g e1
                        have h2 := (Gr.InOwn.blk (unhide HO6) g e2).1
                        omega)
                      clear hown7 hgrow hown6 c0 c1 c2 c3 c4 c5 hXb
                      go_wp2
                      go_roundw
                      case rel => exact ⟨i + 1, ⟨st.s, st.d ++ [(⟨yT, yc, ys, yo, yp⟩, dK)]⟩, ks ++ [.slice ka dK.length kc], rfl, by go_num, by omega, hs4, unhide HNX2 _ _ _ w7 (unhide HPT) (unhide HTX) (unhide HDS) (unhide HDI) hb7 (by simp; omega)⟩
                      case measure => simp [intOf]; omega
                    · have hRe := unhide HBA2 (by rw [unhide HTE]; simp only; rw [if_neg h40])
                      subst hRe
                      have h40i : ((st.d.length : Int) == 40) = true := by rw [beq_iff_eq]; omega
                      clear m6
                      rw [hV6] at n6 b6
                      clear hV6 bV6 HL6 ho5 he1 he2
                      go_wp2
                      go_ret3
                      exact ⟨⟨_, [], by go_num, n6, DistK.nil⟩, b6⟩
        · obtain rfl : i = n := by omega
          have hRe := unhide HN
          subst hRe
          have hla := (unhide HL).last
          by_cases hs0 : st.s = 0
          · rw [if_pos hs0] at hla
            subst hla
            have hs0i : ((st.s : Int) == 0) = true := by rw [beq_iff_eq]; omega
            clear HL hbw
            go_wp2
            go_ret3
            exact ⟨⟨_, [], rfl, nw, DistK.nil⟩, bw⟩
          · rw [if_neg hs0] at hla
            subst hla
            have hs0i : ((st.s : Int) == 0) = false := by rw [beq_eq_false_iff_ne]; omega
            have hw2 := b2.size
            go_wp2
            go_ret3
            exact ⟨⟨_, ks, rfl, (unhide HL).own.lower hw2, (unhide HL).dist⟩, bw⟩

end Sc
end Go.Proofs.YtjhnippfepbjmaaGreatDoor
