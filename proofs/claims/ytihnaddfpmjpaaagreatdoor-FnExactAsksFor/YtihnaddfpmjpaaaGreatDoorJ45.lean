/-
 Ri10, Ri11, RiL, Ri12, CyA0, CyA1, CyA2.
-/
import Derived.Test.YtihnaddfpmjpaaaGreatDoorJ35
import Derived.Test.YtihnaddfpmjpaaaGreatDoorJ36
import Derived.Test.YtihnaddfpmjpaaaGreatDoorJ28
import Derived.Test.YtihnaddfpmjpaaaGreatDoorJ6
import Derived.Test.YtihnaddfpmjpaaaGreatDoorJ40
import Derived.Test.YtihnaddfpmjpaaaGreatDoorJ42
import Derived.Test.YtihnaddfpmjpaaaGreatDoorJ44
import Derived.Test.YtihnaddfpmjpaaaGreatDoorJ16
import Derived.Deep.RegionLaw
import Derived.Deep.AppendLies
import Derived.Test.YtihnaddfpmjpaaaGreatDoorJ3
import Derived.Deep.RegionHeld3
namespace Go.Proofs.YtihnaddfpmjpaaaGreatDoor
namespace Rg
open Go.RowKit
open Gr (Blk Kept)
theorem zero_reg (W : World) : (zeroValue 91).run Tryz.prog W = .ok (.agg (regC R0 (.slice none 0 0))) W := by kernel_rfl
theorem R0_at (w : World) : RegAt (w.alloc (Obj.cells (regC R0 (.slice none 0 0)) 91)) w.heap.size w.heap.size R0 :=
  ⟨Nat.le_refl _, .slice none 0 0, [], Gr.Blk.new0, ⟨rfl, ⟨rfl, .inl ⟨rfl, rfl⟩⟩, fun _ h => absurd h (Nat.not_lt_zero _), fun _ h => absurd h (Nat.not_lt_zero _), fun _ _ h => absurd h (Nat.not_lt_zero _)⟩⟩
def Bnd (j : Nat) (R : Rgs) : Prop := R.rds.length ≤ j ∧ ∀ y ∈ R.rds, y.2.length ≤ j ∧ (joinB y.2).size ≤ 40 * j ∧ y.1.length ≤ 40
theorem bnd_take {j : Nat} {R R' : Rgs} {k v : ByteArray} (hb : Bnd j R) (hv : v.size ≤ 40) (h : takeP R k v = some R') : Bnd (j + 1) R' := by
  have hmono : Bnd (j + 1) R := ⟨by have := hb.1; omega, fun y hy => by have := hb.2 y hy; omega⟩
  rcases take_form h with ⟨a, _, _, h2⟩ | ⟨a, b, _, _, _, h2⟩ | ⟨a, _, _, h2⟩ | ⟨a, b, _, _, _, h2⟩
  · unfold takeV at h2
    split at h2
    · split at h2
      · cases h2
      · simp only [Option.some.injEq] at h2; subst h2; exact hmono
    · cases h2
  · unfold takeE at h2
    split at h2
    · simp only [Option.some.injEq] at h2; subst h2; exact hmono
    · cases h2
  · unfold takeQ at h2
    split at h2
    · simp only [Option.some.injEq] at h2
      subst h2
      refine ⟨by simp; exact hb.1, fun y hy => ?_⟩
      rcases List.mem_append.1 hy with hy | hy
      · exact hmono.2 y hy
      · simp only [List.mem_singleton] at hy
        subst hy
        refine ⟨by simp, by show 0 ≤ _; omega, by show (bytesI v).length ≤ 40; rw [bytesI_length]; exact hv⟩
    · cases h2
  · unfold takeR at h2
    split at h2
    · cases h2
    · rename_i x hx
      split at h2
      · simp only [Option.some.injEq] at h2
        subst h2
        have hxm : x ∈ R.rds := List.mem_of_getElem? hx
        have hxb := hb.2 x hxm
        refine ⟨by simp only [List.length_set]; have := hb.1; omega, fun y hy => ?_⟩
        rcases List.mem_or_eq_of_mem_set hy with hy | hy
        · exact hmono.2 y hy
        · subst hy
          refine ⟨by simp; omega, ?_, hxb.2.2⟩
          show (joinB (x.2 ++ [v])).size ≤ _
          have : joinB (x.2 ++ [v]) = joinB x.2 ++ v := by unfold joinB; simp
          rw [this, ByteArray.size_append]
          omega
      · cases h2
theorem fold_step (R : Rgs) (Q : PL) (j : Nat) (h : j < Q.length) : regFold R (Q.drop j) = (match takeP R Q[j].1 Q[j].2 with | none => none | some R' => regFold R' (Q.drop (j + 1))) := by
  rw [List.drop_eq_getElem_cons h, regFold]
  rfl
set_option maxRecDepth 100000 in
set_option maxHeartbeats 4000000 in
theorem register_any (a : Option Addr) (len cap B : Nat) (Q : PL) (hlen : len ≤ 1048576) (w : World) (hB : B ≤ w.heap.size) (ht : Tab w.heap.size w) (hs : Tr.PairsAt w a len B Q) :
    Calls Tryz.prog 39 #[.slice a len cap] w fun e w' => (∃ R, e = .returned (.tuple #[.pointer (some ⟨w.heap.size, 0, none⟩), .bool (regOk Q)]) ∧ RegAt w' w.heap.size w.heap.size R ∧ (regOk Q = true → regFold R0 Q = some R)) ∧ Below w.heap.size w w' := by
  have hzv := zero_reg
  have R0A := hide (R0_at w)
  obtain ⟨Z, hZ⟩ : ∃ Z, Z = regC R0 (.slice none 0 0) := ⟨_, rfl⟩
  rw [← hZ] at hzv R0A
  clear hZ
  have MO := hide (fun w1 (hb : Below w.heap.size w w1) => Tr.implMap_any a len cap B Q hlen w1 (by have := hb.size; omega) (hs.below hb hB))
  have hX : regOk Q = (decide (Tr.MapR Q) && (match regFold R0 Q with | none => false | some R => checks R)) := rfl
  generalize regOk Q = X at hX
  by_cases hM : Tr.MapR Q
  · rw [decide_eq_true hM] at MO hX
    rw [Bool.true_and] at hX
    have hL := hs.1
    have h120 := hM.1
    have HMR := hide hM
    have HC := hide hs.2
    have HT := hide ht
    have HST := hide (fun R j h => fold_step R Q j h)
    have HF0 : Hid (regFold R0 Q = regFold R0 (Q.drop 0)) := rfl
    have HQ := hide hX
    have HB0 : Hid (Bnd 0 R0) := ⟨Nat.le_refl _, by simp [R0]⟩
    clear hX hs ht hM
    subst hL
    obtain ⟨F, hF⟩ : ∃ F, F = regFold R0 Q := ⟨_, rfl⟩
    rw [← hF] at HQ HF0 ⊢
    clear hF
    go_enter Tryz.func39, Tryz.ntmps39
    go_wp2_with fail
    refine (unhide MO _ (Gr.below_new _ _)).mono ?_
    rintro e w1 ⟨rfl, hb1⟩
    have HR1 := hide ((unhide R0A).below hb1)
    have bw1 := (Gr.below_new w (Obj.cells Z 91)).trans (hb1.mono (Gr.below_new w (Obj.cells Z 91)).size)
    clear hb1 hzv R0A MO
    go_wp2_with fail
    go_loopw [15] (fun i wr => ∃ (j : Nat) (R : Rgs), i = .int .i64 (j : Int) ∧ j ≤ Q.length ∧ Hid (RegAt wr w.heap.size w.heap.size R) ∧ Hid (F = regFold R (Q.drop j)) ∧ Hid (Bnd j R) ∧ Below w.heap.size w wr) (fun i _ => Q.length - (intOf i).toNat)
    case atStart => exact ⟨0, R0, rfl, Nat.zero_le _, unhide HR1, unhide HF0, unhide HB0, bw1⟩
    case round =>
      obtain ⟨j, R, rfl, hj, HR, HF, HBD, hb⟩ := hrel
      have hbd := unhide HBD
      by_cases hlt : j < Q.length
      · obtain ⟨b, off, rfl, hbB, d0, d1⟩ := unhide HC j hlt
        have hpr := (unhide HMR).2 j hlt
        unfold Tr.pairOk at hpr
        simp only [Bool.and_eq_true, decide_eq_true_eq] at hpr
        have HF2 := hide ((unhide HF).trans (unhide HST R j hlt))
        have TK := hide (fun w1 (hb1 : Below wr.heap.size wr w1) => take_any w.heap.size w.heap.size Q[j].1 Q[j].2 R (by omega) (by omega) (by omega) (by have := hbd.1; omega) (fun y hy => by have := (hbd.2 y hy).1; omega) w1 (Nat.le_trans hb.size hb1.size) ((unhide HT).below (hb.trans (hb1.mono hb.size))) ((unhide HR).below hb1))
        have HBT := hide (fun (R' : Rgs) (ht : takeP R Q[j].1 Q[j].2 = some R') => bnd_take hbd (by omega) ht)
        generalize Q[j] = q at d0 d1 HF2 TK HBT
        obtain ⟨x, y⟩ := q
        simp only at d0 d1 HF2 TK HBT
        rw [← hb.cell (p := ⟨b, off + j * 2, none⟩) (by simp; omega)] at d0
        rw [← hb.cell (p := ⟨b, off + j * 2 + 1, none⟩) (by simp; omega)] at d1
        have hj1 : (j : Int) < ((Q.length : Nat) : Int) := by omega
        generalize takeP R x y = T at HF2 TK HBT
        clear hpr HF hbd
        go_wp2_with fail
        refine (unhide TK _ (Gr.below_new _ _)).mono ?_
        rintro e w2 ⟨rfl, hR2, hb2⟩
        have b2 := hb.trans (((Gr.below_new wr (Obj.cells #[.string x, .string y] 55)).mono hb.size).trans hb2)
        cases T with
        | none =>
          have hFn : F = none := unhide HF2
          subst hFn
          have hXf : X = false := unhide HQ
          subst hXf
          have HR2 : Hid (RegAt w2 w.heap.size w.heap.size R) := hR2
          clear hR2 hb2
          go_wp2
          go_ret2
          exact ⟨⟨R, rfl, unhide HR2, fun h => by cases h⟩, b2⟩
        | some R' =>
          have HR2 : Hid (RegAt w2 w.heap.size w.heap.size R') := hR2
          have HF3 : Hid (F = regFold R' (Q.drop (j + 1))) := unhide HF2
          have HB3 := hide (unhide HBT R' rfl)
          clear hR2 hb2 HF2 HBT TK
          go_wp2_with fail
          exact ⟨⟨j + 1, R', by go_num, by omega, unhide HR2, unhide HF3, unhide HB3, b2⟩, by simp [intOf]; omega⟩
      · have hFs : F = some R := by rw [unhide HF, List.drop_eq_nil_of_le (by omega)]; rfl
        subst hFs
        have hXc : X = checks R := unhide HQ
        have hj1 : ¬ (j : Int) < ((Q.length : Nat) : Int) := by omega
        have LK := hide (links_any w.heap.size w.heap.size R wr (unhide HR))
        have RD := hide (fun w2 (hb2 : Below wr.heap.size wr w2) => rounds'_any w.heap.size w.heap.size R (by have := hbd.1; omega) (fun y hy => by have := hbd.2 y hy; omega) w2 ((unhide HR).below hb2))
        have ME := hide (fun w2 (hb2 : Below wr.heap.size wr w2) => members_any w.heap.size w.heap.size R w2 ((unhide HR).below hb2))
        have hck : checks R = (linksOk R && (roundsR R && membersOk R)) := rfl
        rw [hck] at hXc
        have HXC := hide hXc
        clear hck hXc hbd
        generalize linksOk R = b1 at LK HXC
        generalize roundsR R = b2 at RD HXC
        generalize membersOk R = b3 at ME HXC
        go_wp2_with fail
        refine (unhide LK).mono ?_
        rintro e w2 ⟨rfl, hb2⟩
        have e2 := hb.trans (hb2.mono hb.size)
        have R2 := hide ((unhide HR).below hb2)
        cases b1 with
        | false =>
          have hXf : X = false := unhide HXC
          subst hXf
          go_wp2
          go_ret2
          exact ⟨⟨R, rfl, unhide R2, fun _ => rfl⟩, e2⟩
        | true =>
          rw [Bool.true_and] at HXC
          go_wp2_with fail
          refine (unhide RD w2 hb2).mono ?_
          rintro e w3 ⟨rfl, hb3⟩
          have hb23 := hb2.trans (hb3.mono hb2.size)
          have e3 := hb.trans (hb23.mono hb.size)
          have R3 := hide ((unhide HR).below hb23)
          cases b2 with
          | false =>
            have hXf : X = false := unhide HXC
            subst hXf
            go_wp2
            go_ret2
            exact ⟨⟨R, rfl, unhide R3, fun _ => rfl⟩, e3⟩
          | true =>
            rw [Bool.true_and] at HXC
            go_wp2_with fail
            refine (unhide ME w3 hb23).mono ?_
            rintro e w4 ⟨rfl, hb4⟩
            have hb24 := hb23.trans (hb4.mono hb23.size)
            have e4 := hb.trans (hb24.mono hb.size)
            have R4 := hide ((unhide HR).below hb24)
            have hXf : X = b3 := unhide HXC
            subst hXf
            go_wp2
            go_ret2
            exact ⟨⟨R, rfl, unhide R4, fun _ => rfl⟩, e4⟩
  · rw [decide_eq_false hM, Bool.false_and] at hX
    rw [decide_eq_false hM] at MO
    subst hX
    go_enter Tryz.func39, Tryz.ntmps39
    go_wp2_with fail
    refine (unhide MO _ (Gr.below_new _ _)).mono ?_
    rintro e w1 ⟨rfl, hb1⟩
    have HR1 := hide ((unhide R0A).below hb1)
    have bw1 := (Gr.below_new w (Obj.cells Z 91)).trans (hb1.mono (Gr.below_new w (Obj.cells Z 91)).size)
    go_wp2
    go_ret2
    exact ⟨⟨R0, rfl, unhide HR1, fun h => by cases h⟩, bw1⟩
end Rg
end Go.Proofs.YtihnaddfpmjpaaaGreatDoor
namespace Go.Proofs.YtihnaddfpmjpaaaGreatDoor
namespace Rg
open Go.RowKit
open Gr (Blk Kept)
theorem who_snoc (f : Nat → Bool) (n : Nat) (h : f n = true) : whoTo f (n + 1) = whoTo f n ++ [(n : Int)] := by rw [who_succ, if_pos h]
theorem who_skip (f : Nat → Bool) (n : Nat) (h : f n = false) : whoTo f (n + 1) = whoTo f n := by rw [who_succ, if_neg (by rw [h]; simp)]
theorem who_short (f : Nat → Bool) : ∀ n, (whoTo f n).length ≤ n
  | 0 => by simp [whoTo]
  | n + 1 => by
    have := who_short f n
    rw [who_succ]
    split
    · simp; omega
    · omega
set_option maxRecDepth 100000 in
set_option maxHeartbeats 2000000 in
theorem thatJoined_any (B g : Nat) (R : Rgs) (w : World) (hR : RegAt w B g R) :
    Calls Tryz.prog 40 #[.pointer (some ⟨g, 0, none⟩), .func (.func 41) #[.pointer (some ⟨g, 0, none⟩)] #[]] w fun e w' => (∃ d, e = .returned d ∧ Gr.InOwn w' w.heap.size d (whoTo (isIn R) 12)) ∧ Below w.heap.size w w' := by
  obtain ⟨i0, hi0, hz0, hz1, hz2⟩ := info_parts Gr.info3
  have HE := hide (fun (i : Int) w1 (hb : Below w.heap.size w w1) => joined_any i B g R w1 (hR.below hb))
  have HS := hide (fun n h => who_snoc (isIn R) n h)
  have HK := hide (fun n h => who_skip (isIn R) n h)
  have HL := hide (who_short (isIn R))
  clear hR
  go_enter Tryz.func40, Tryz.ntmps40
  go_wp2_with fail
  go_loopw [5, 7] (fun v i wr => ∃ (j : Nat), i = .int .i64 (j : Int) ∧ j ≤ 12 ∧ Hid (wr.ownsRow w.heap.size 3 1 v (whoTo (isIn R) j).length (Gr.intsV (whoTo (isIn R) j))) ∧ Below w.heap.size w wr) (fun _ i _ => 12 - (intOf i).toNat)
  case atStart => exact ⟨0, rfl, Nat.zero_le _, ⟨rfl, .inl ⟨rfl, rfl⟩⟩, Below.refl _ _⟩
  case round =>
    obtain ⟨j, rfl, hj, HO, hb⟩ := hrel
    by_cases hlt : j < 12
    · have hj1 : (j : Int) < 12 := by omega
      have H1 := hide (unhide HE (j : Int) wr hb)
      have hS := unhide HS j
      have hK := unhide HK j
      have hL := unhide HL j
      change Hid (Calls _ _ _ _ fun e w' => e = .returned (.bool (isIn R j)) ∧ w' = wr) at H1
      have hown := unhide HO
      have hbs := hb.size
      generalize isIn R j = hr at H1 hS hK
      go_wp2_with fail
      refine (unhide H1).mono ?_
      rintro e w1 ⟨rfl, rfl⟩
      cases hr with
      | false =>
        have HO2 : Hid (w1.ownsRow w.heap.size 3 1 u5 (whoTo (isIn R) (j + 1)).length (Gr.intsV (whoTo (isIn R) (j + 1)))) := by show World.ownsRow _ _ _ _ _ _ _; rw [hK rfl]; exact hown
        clear hown hS hK
        go_wp2_with fail
        exact ⟨⟨j + 1, by go_num, by omega, unhide HO2, hb⟩, by simp [intOf]; omega⟩
      | true =>
        have HE2 : Hid (∀ (v' : Value) (w1 : World), w1.ownsRow w.heap.size 3 1 v' ((whoTo (isIn R) j).length + 1) (Gr.intsV (whoTo (isIn R) j) ++ [.int .i64 (j : Int)]) → w1.ownsRow w.heap.size 3 1 v' (whoTo (isIn R) (j + 1)).length (Gr.intsV (whoTo (isIn R) (j + 1)))) := fun v' w1 h => by rw [hS rfl]; exact own_int h
        generalize whoTo (isIn R) j = WL at hown hL HE2
        clear hS hK HO
        go_wp2_with (at_builtin; refine wpList_append_own _ rfl _ _ 24 rfl w.heap.size 3 i0 (.int .i64 0) 1 8 Tryz.underlying24 hi0 hz0 hz1 hz2 rfl (by decide) _ _ _ rfl (hown.alloc _) ⟨w1.heap.size, 0, none⟩ 1 1 [.int .i64 (j : Int)] rfl rfl (cell_one_new _ _ _) (by intro u hu; simp at hu; subst hu; rfl) ?c3 ?c4 ?c5 ?_)
        case c3 => unfold maxLen; omega
        case c4 => omega
        case c5 => simp; omega
        intro v' w3 hown' hgrow _
        have hb3 := below_append hb (Nat.le_refl _) hown hgrow
        have HO2 := hide (unhide HE2 v' w3 hown')
        clear hown hown' hgrow HE2
        go_wp2_with fail
        exact ⟨⟨j + 1, by go_num, by omega, unhide HO2, hb3⟩, by simp [intOf]; omega⟩
    · obtain rfl : j = 12 := by omega
      go_wp2
      go_ret
      exact ⟨⟨_, rfl, unhide HO⟩, hb⟩
end Rg
namespace Gr
open Go.RowKit
end Gr
end Go.Proofs.YtihnaddfpmjpaaaGreatDoor
namespace Go.Proofs.YtihnaddfpmjpaaaGreatDoor
namespace Rg
open Go.RowKit
open Gr (Blk Kept)
def isLeftR (R : Rgs) (i : Int) : Bool := decide (0 ≤ i) && (decide (i < 12) && decide ((R.mem i.toNat).1 = 2))
set_option maxRecDepth 100000 in
theorem left_any (i : Int) (B g : Nat) (R : Rgs) (w : World) (hR : RegAt w B g R) :
    Calls Tryz.prog 66 #[.pointer (some ⟨g, 0, none⟩), .int .i64 i] w fun e w' => e = .returned (.bool (isLeftR R i)) ∧ w' = w := by
  by_cases h : 0 ≤ i ∧ i < 12
  · obtain ⟨a, rfl⟩ := Int.eq_ofNat_of_zero_le h.1
    have c0 := (hR.mem a (by omega)).1
    have hj : isLeftR R (a : Int) = (((R.mem a).1 : Int) == 2) := by
      unfold isLeftR
      rw [decide_eq_true h.1, decide_eq_true h.2, Bool.true_and, Bool.true_and, Int.toNat_natCast, Bool.eq_iff_iff]
      simp only [decide_eq_true_eq, beq_iff_eq]
      omega
    rw [hj]
    generalize (((R.mem a).1 : Nat) : Int) = m at c0
    have IP := hide (fun w1 => Gr.isPlace_is (a : Int) 12 w1)
    rw [decide_eq_true h.1, decide_eq_true h.2] at IP
    have h1 : (a : Int) < 12 := h.2
    clear hR hj h
    go_enter Tryz.func66, Tryz.ntmps66
    go_wp2_with fail
    refine (unhide IP _).mono ?_
    rintro e w1 ⟨rfl, rfl⟩
    go_wp2
    go_ret
    exact ⟨rfl, rfl⟩
  · have hj : isLeftR R i = false := by
      unfold isLeftR
      by_cases h0 : 0 ≤ i
      · rw [decide_eq_false (show ¬ i < 12 by omega), Bool.false_and, Bool.and_false]
      · rw [decide_eq_false h0, Bool.false_and]
    have IP := hide (fun w1 => Gr.isPlace_is i 12 w1)
    have hf : (decide (0 ≤ i) && decide (i < 12)) = false := by
      by_cases h0 : 0 ≤ i
      · rw [decide_eq_false (show ¬ i < 12 by omega), Bool.and_false]
      · rw [decide_eq_false h0, Bool.false_and]
    rw [hf] at IP
    rw [hj]
    clear hR hj hf h
    go_enter Tryz.func66, Tryz.ntmps66
    go_wp2_with fail
    refine (unhide IP _).mono ?_
    rintro e w1 ⟨rfl, rfl⟩
    go_wp2
    go_ret
    exact ⟨rfl, rfl⟩
set_option maxRecDepth 100000 in
set_option maxHeartbeats 2000000 in
theorem thatLeft_any (B g : Nat) (R : Rgs) (w : World) (hR : RegAt w B g R) :
    Calls Tryz.prog 40 #[.pointer (some ⟨g, 0, none⟩), .func (.func 66) #[.pointer (some ⟨g, 0, none⟩)] #[]] w fun e w' => (∃ d, e = .returned d ∧ Gr.InOwn w' w.heap.size d (whoTo (isLf R) 12)) ∧ Below w.heap.size w w' := by
  obtain ⟨i0, hi0, hz0, hz1, hz2⟩ := info_parts Gr.info3
  have HE := hide (fun (i : Int) w1 (hb : Below w.heap.size w w1) => left_any i B g R w1 (hR.below hb))
  have HS := hide (fun n h => who_snoc (isLf R) n h)
  have HK := hide (fun n h => who_skip (isLf R) n h)
  have HL := hide (who_short (isLf R))
  clear hR
  go_enter Tryz.func40, Tryz.ntmps40
  go_wp2_with fail
  go_loopw [5, 7] (fun v i wr => ∃ (j : Nat), i = .int .i64 (j : Int) ∧ j ≤ 12 ∧ Hid (wr.ownsRow w.heap.size 3 1 v (whoTo (isLf R) j).length (Gr.intsV (whoTo (isLf R) j))) ∧ Below w.heap.size w wr) (fun _ i _ => 12 - (intOf i).toNat)
  case atStart => exact ⟨0, rfl, Nat.zero_le _, ⟨rfl, .inl ⟨rfl, rfl⟩⟩, Below.refl _ _⟩
  case round =>
    obtain ⟨j, rfl, hj, HO, hb⟩ := hrel
    by_cases hlt : j < 12
    · have hj1 : (j : Int) < 12 := by omega
      have h1 := unhide HE (j : Int) wr hb
      have eL : isLeftR R (j : Int) = isLf R j := by
        unfold isLeftR isLf
        rw [decide_eq_true (show (0 : Int) ≤ (j : Int) by omega), decide_eq_true hj1, Bool.true_and, Bool.true_and, Int.toNat_natCast]
      rw [eL] at h1
      have H1 := hide h1
      have hS := unhide HS j
      have hK := unhide HK j
      have hL := unhide HL j
      clear h1 eL
      have hown := unhide HO
      have hbs := hb.size
      generalize isLf R j = hr at H1 hS hK
      go_wp2_with fail
      refine (unhide H1).mono ?_
      rintro e w1 ⟨rfl, rfl⟩
      cases hr with
      | false =>
        have HO2 : Hid (w1.ownsRow w.heap.size 3 1 u5 (whoTo (isLf R) (j + 1)).length (Gr.intsV (whoTo (isLf R) (j + 1)))) := by show World.ownsRow _ _ _ _ _ _ _; rw [hK rfl]; exact hown
        clear hown hS hK
        go_wp2_with fail
        exact ⟨⟨j + 1, by go_num, by omega, unhide HO2, hb⟩, by simp [intOf]; omega⟩
      | true =>
        have HE2 : Hid (∀ (v' : Value) (w1 : World), w1.ownsRow w.heap.size 3 1 v' ((whoTo (isLf R) j).length + 1) (Gr.intsV (whoTo (isLf R) j) ++ [.int .i64 (j : Int)]) → w1.ownsRow w.heap.size 3 1 v' (whoTo (isLf R) (j + 1)).length (Gr.intsV (whoTo (isLf R) (j + 1)))) := fun v' w1 h => by rw [hS rfl]; exact own_int h
        generalize whoTo (isLf R) j = WL at hown hL HE2
        clear hS hK HO
        go_wp2_with (at_builtin; refine wpList_append_own _ rfl _ _ 24 rfl w.heap.size 3 i0 (.int .i64 0) 1 8 Tryz.underlying24 hi0 hz0 hz1 hz2 rfl (by decide) _ _ _ rfl (hown.alloc _) ⟨w1.heap.size, 0, none⟩ 1 1 [.int .i64 (j : Int)] rfl rfl (cell_one_new _ _ _) (by intro u hu; simp at hu; subst hu; rfl) ?c3 ?c4 ?c5 ?_)
        case c3 => unfold maxLen; omega
        case c4 => omega
        case c5 => simp; omega
        intro v' w3 hown' hgrow _
        have hb3 := below_append hb (Nat.le_refl _) hown hgrow
        have HO2 := hide (unhide HE2 v' w3 hown')
        clear hown hown' hgrow HE2
        go_wp2_with fail
        exact ⟨⟨j + 1, by go_num, by omega, unhide HO2, hb3⟩, by simp [intOf]; omega⟩
    · obtain rfl : j = 12 := by omega
      go_wp2
      go_ret
      exact ⟨⟨_, rfl, unhide HO⟩, hb⟩
end Rg
end Go.Proofs.YtihnaddfpmjpaaaGreatDoor
namespace Go.Proofs.YtihnaddfpmjpaaaGreatDoor
namespace Rg
open Go.RowKit
open Gr (Blk EdgeI GBox GrOwn edgesV Kept)
def linkE (R : Rgs) (x y : Int) (a b : Nat) : List EdgeI := match R.lnk x.toNat y.toNat with | none => [] | some t => [⟨(a : Int), (b : Int), (t.1 : Int), (t.2.1 : Int), (t.2.2 : Int)⟩]
def rowL (R : Rgs) (x : Int) (a : Nat) : Nat → List Int → List EdgeI
  | _, [] => []
  | b, y :: r => linkE R x y a b ++ rowL R x a (b + 1) r
def allL (R : Rgs) : Nat → List Int → List EdgeI
  | _, [] => []
  | a, x :: r => rowL R x a (a + 1) r ++ allL R (a + 1) r
theorem rowL_step (R : Rgs) (x : Int) (a : Nat) (P : List Int) (j : Nat) (h : j < P.length) : rowL R x a j (P.drop j) = linkE R x P[j] a j ++ rowL R x a (j + 1) (P.drop (j + 1)) := by
  rw [List.drop_eq_getElem_cons h, rowL]
theorem allL_step (R : Rgs) (P : List Int) (i : Nat) (h : i < P.length) : allL R i (P.drop i) = rowL R P[i] i (i + 1) (P.drop (i + 1)) ++ allL R (i + 1) (P.drop (i + 1)) := by
  rw [List.drop_eq_getElem_cons h, allL]
theorem linkE_is {Q : PL} {R : Rgs} (I : Inv Q R) (x y : Int) (hx : 0 ≤ x) (hxy : x < y) (hy : y < 12) (a b : Nat) : (match getP Q (ek x y) with | none => [] | some v => [edgeV a b v]) = linkE R x y a b := by
  have h := I.e x.toNat y.toNat (by omega) (by omega)
  change R.lnk x.toNat y.toNat = (getP Q (ek x y)).map bytes3 at h
  unfold linkE
  rw [h]
  cases getP Q (ek x y) <;> rfl
theorem row_is {Q : PL} {R : Rgs} (I : Inv Q R) (x : Int) (hx : 0 ≤ x) (a : Nat) : ∀ (P : List Int) (b : Nat), (∀ y ∈ P, x < y ∧ y < 12) → rowE Q x a b P = rowL R x a b P
  | [], b, _ => rfl
  | y :: r, b, h => by
    have hy := h y (by simp)
    rw [rowE, rowL, row_is I x hx a r (b + 1) (fun z hz => h z (by simp [hz])), ← linkE_is I x y hx hy.1 hy.2 a b]
    rfl
theorem all_is {Q : PL} {R : Rgs} (I : Inv Q R) : ∀ (P : List Int) (a : Nat), P.Pairwise (· < ·) → (∀ y ∈ P, 0 ≤ y ∧ y < 12) → allE Q a P = allL R a P
  | [], a, _, _ => rfl
  | x :: r, a, hp, h => by
    have h2 := List.pairwise_cons.1 hp
    rw [allE, allL, all_is I r (a + 1) h2.2 (fun y hy => h y (by simp [hy])), row_is I x (h x (by simp)).1 a r (a + 1) (fun y hy => ⟨h2.1 y hy, (h y (by simp [hy])).2⟩)]
theorem rowL_short (R : Rgs) (x : Int) (a : Nat) : ∀ (P : List Int) (b : Nat), (rowL R x a b P).length ≤ P.length
  | [], b => by simp [rowL]
  | y :: r, b => by
    have := rowL_short R x a r (b + 1)
    rw [rowL, List.length_append, List.length_cons]
    unfold linkE
    split <;> simp <;> omega
theorem allL_short (R : Rgs) : ∀ (P : List Int) (a : Nat), (allL R a P).length ≤ P.length * P.length
  | [], a => by simp [allL]
  | x :: r, a => by
    have h1 := allL_short R r (a + 1)
    have h2 := rowL_short R x a r (a + 1)
    rw [allL, List.length_append, List.length_cons, Nat.add_mul, Nat.mul_add]
    omega
theorem enterEdgeOf (vs : Array Value) (w : World) : (callFunc 82 vs).run Tryz.prog w = .ok (.enter 82 vs) w := by kernel_rfl
theorem news5 (W : World) (a b c d e : Int) (t : TypeId) : ∀ j u, [Value.int .i64 a, Value.int .i64 b, Value.int .i64 c, Value.int .i64 d, Value.int .i64 e][j]? = some u → (W.alloc (Obj.cells #[.int .i64 a, .int .i64 b, .int .i64 c, .int .i64 d, .int .i64 e] t)).cell? ((⟨W.heap.size, 0, none⟩ : Addr).add j) = some u :=
  World.news_of_block (heap_alloc_new W (Obj.cells #[.int .i64 a, .int .i64 b, .int .i64 c, .int .i64 d, .int .i64 e] t))
theorem five_one (a b c d e : Int) : ∀ u ∈ [Value.int .i64 a, Value.int .i64 b, Value.int .i64 c, Value.int .i64 d, Value.int .i64 e], u.oneCell' = true := by
  intro u hu
  simp at hu
  rcases hu with rfl | rfl | rfl | rfl | rfl <;> rfl
set_option maxRecDepth 100000 in
set_option maxHeartbeats 8000000 in
theorem graphOf_any (B g : Nat) (R : Rgs) (ap : Option Addr) (cp : Nat) (P : List Int) (hP : P.length ≤ 12) (hp : ∀ x ∈ P, 0 ≤ x ∧ x < 12) (w : World) (hR : RegAt w B g R) (hI : IntsAt w ap P.length w.heap.size P) :
    Calls Tryz.prog 46 #[.pointer (some ⟨g, 0, none⟩), .slice ap P.length cp] w fun e w' => (∃ d, e = .returned d ∧ GrOwn w' w.heap.size d (P.length : Int) (allL R 0 P)) ∧ Below w.heap.size w w' := by
  obtain ⟨ie, hie, ez0, ez1, ez2⟩ := info_parts Gr.infoEdge
  have HR := hide hR
  have hg := hR.lt
  have HC := hide hI.2
  have HPB := hide hp
  have HRS := hide (fun x a j h => rowL_step R x a P j h)
  have HAS := hide (fun i h => allL_step R P i h)
  obtain ⟨E, hE⟩ : ∃ E, E = allL R 0 P := ⟨_, rfl⟩
  have HEL : Hid (E.length ≤ 144) := by show _ ≤ _; rw [hE]; exact Nat.le_trans (allL_short R P 0) (Nat.mul_le_mul hP hP)
  have HE0 : Hid (E = [] ++ allL R 0 (P.drop 0)) := hE
  rw [← hE]
  clear hE hR hI hp
  have HG0 : Hid (GE w ((w.alloc (Obj.cells #[.int .i64 0, .slice none 0 0] 35)).alloc (Obj.cells #[.int .i64 ((P.length : Nat) : Int), .slice none 0 0] 35)) ((P.length : Nat) : Int) []) := by
    refine ⟨(Gr.below_new _ _).alloc (by simp) _, ?_, none, 0, ?_, ⟨rfl, .inl ⟨rfl, rfl⟩⟩⟩
    · exact Gr.Blk.new0.alloc
    · exact Gr.Blk.new1
  go_enter Tryz.func46, Tryz.ntmps46
  go_wp2_with fail
  go_loopw [15] (fun i wr => ∃ (k : Nat) (out : List EdgeI), i = .int .i64 (k : Int) ∧ k ≤ P.length ∧ Hid (E = out ++ allL R k (P.drop k)) ∧ Hid (GE w wr ((P.length : Nat) : Int) out)) (fun i _ => P.length - (intOf i).toNat)
  case atStart => exact ⟨0, [], rfl, Nat.zero_le _, unhide HE0, unhide HG0⟩
  case round =>
    obtain ⟨k, out0, rfl, hk, HEK, HGK⟩ := hrel
    by_cases hlt : k < P.length
    · obtain ⟨b, off, rfl, hbB, dk⟩ := unhide HC k hlt
      rw [← (unhide HGK).1.cell (p := ⟨b, off + k, none⟩) hbB] at dk
      have hki : (k : Int) < ((P.length : Nat) : Int) := by omega
      have hpk := unhide HPB _ (List.getElem_mem hlt)
      have HEK2 := hide ((unhide HEK).trans (by rw [unhide HAS k hlt]))
      have HRK := hide (fun j h => unhide HRS P[k] k j h)
      generalize P[k] = x at dk hpk HEK2 HRK
      obtain ⟨p, rfl⟩ := Int.eq_ofNat_of_zero_le hpk.1
      obtain ⟨wq, hwq⟩ : ∃ W, W = wr := ⟨_, rfl⟩
      subst hwq
      have HEI : Hid (E = out0 ++ rowL R (p : Int) k (k + 1) (P.drop (k + 1)) ++ allL R (k + 1) (P.drop (k + 1))) := by show _ = _; rw [List.append_assoc]; exact unhide HEK2
      clear HEK2 HEK
      go_wp2_with fail
      go_loopw [8] (fun i wr => ∃ (j : Nat) (out : List EdgeI), i = .int .i64 (j : Int) ∧ k + 1 ≤ j ∧ j ≤ P.length ∧ Hid (E = out ++ rowL R (p : Int) k j (P.drop j) ++ allL R (k + 1) (P.drop (k + 1))) ∧ Hid (GE w wr ((P.length : Nat) : Int) out)) (fun i _ => P.length - (intOf i).toNat)
      case atStart => exact ⟨k + 1, out0, by go_num, Nat.le_refl _, by omega, unhide HEI, unhide HGK⟩
      case round =>
        obtain ⟨j, out, rfl, hj1, hj, HEJ, HGJ⟩ := hrel
        by_cases hltj : j < P.length
        · obtain ⟨b', off', e', hbB', dj⟩ := unhide HC j hltj
          simp only [Option.some.injEq, Addr.mk.injEq, and_true] at e'
          obtain ⟨rfl, rfl⟩ := e'
          rw [← (unhide HGJ).1.cell (p := ⟨b, off + j, none⟩) hbB'] at dj
          have hji : (j : Int) < ((P.length : Nat) : Int) := by omega
          have hpj := unhide HPB _ (List.getElem_mem hltj)
          have HEJ2 := hide ((unhide HEJ).trans (by rw [unhide HRK j hltj]))
          generalize P[j] = y at dj hpj HEJ2
          obtain ⟨q, rfl⟩ := Int.eq_ofNat_of_zero_le hpj.1
          have hp12 : p < 12 := by omega
          have hq12 : q < 12 := by omega
          have hpi : (p : Int) < 12 := hpk.2
          have hqi : (q : Int) < 12 := hpj.2
          have hRw := (unhide HR).below ((unhide HGJ).1)
          have c0 := hRw.link p q hp12 hq12 0 (by omega)
          have c1 := hRw.link p q hp12 hq12 1 (by omega)
          have c2 := hRw.link p q hp12 hq12 2 (by omega)
          have c3 := hRw.link p q hp12 hq12 3 (by omega)
          rw [Nat.add_zero] at c0
          have hgw : g < wr.heap.size := Nat.lt_of_lt_of_le hg.2 (unhide HGJ).1.size
          have hbw : b < wr.heap.size := Nat.lt_of_lt_of_le hbB' (unhide HGJ).1.size
          have aj := ((Gr.below_new wr (Obj.cells #[.bool false, .int .i64 0, .int .i64 0, .int .i64 0] 86)).cell (p := ⟨b, off + j, none⟩) hbw).trans dj
          have hle : linkE R (p : Int) (q : Int) k j = match R.lnk p q with | none => [] | some t => [⟨(k : Int), (j : Int), (t.1 : Int), (t.2.1 : Int), (t.2.2 : Int)⟩] := rfl
          rw [hle] at HEJ2
          clear hle hRw HEJ
          cases ho : R.lnk p q with
          | none =>
            rw [ho] at c0 c1 c2 c3 HEJ2
            simp only [linkCell, if_true, if_neg (show ¬ (1 : Nat) = 0 by omega), if_neg (show ¬ (2 : Nat) = 0 by omega), if_neg (show ¬ (3 : Nat) = 0 by omega)] at c0 c1 c2 c3
            have HEJ3 : Hid (E = out ++ rowL R (p : Int) k (j + 1) (P.drop (j + 1)) ++ allL R (k + 1) (P.drop (k + 1))) := by show _ = _; rw [unhide HEJ2]; simp
            clear ho HEJ2
            have a0 := ((Gr.below_new wr (Obj.cells #[.bool false, .int .i64 0, .int .i64 0, .int .i64 0] 86)).cell (p := ⟨g, 24 + p * 48 + q * 4, none⟩) hgw).trans c0
            have a1 := ((Gr.below_new wr (Obj.cells #[.bool false, .int .i64 0, .int .i64 0, .int .i64 0] 86)).cell (p := ⟨g, 24 + p * 48 + q * 4 + 1, none⟩) hgw).trans c1
            have a2 := ((Gr.below_new wr (Obj.cells #[.bool false, .int .i64 0, .int .i64 0, .int .i64 0] 86)).cell (p := ⟨g, 24 + p * 48 + q * 4 + 2, none⟩) hgw).trans c2
            have a3 := ((Gr.below_new wr (Obj.cells #[.bool false, .int .i64 0, .int .i64 0, .int .i64 0] 86)).cell (p := ⟨g, 24 + p * 48 + q * 4 + 3, none⟩) hgw).trans c3
            go_wp2_with fail
            go_region
            go_wp2_with fail
            exact ⟨⟨j + 1, out, by go_num, by omega, by omega, unhide HEJ3, (unhide HGJ).below ((Gr.below_new wr _).drew)⟩, by simp [intOf]; omega⟩
          | some t =>
            obtain ⟨t1, t2, t3⟩ := t
            rw [ho] at c0 c1 c2 c3 HEJ2
            simp only [linkCell, if_true, if_neg (show ¬ (1 : Nat) = 0 by omega), if_neg (show ¬ (2 : Nat) = 0 by omega), if_neg (show ¬ (3 : Nat) = 0 by omega), if_neg (show ¬ (2 : Nat) = 1 by omega), if_neg (show ¬ (3 : Nat) = 1 by omega), if_neg (show ¬ (3 : Nat) = 2 by omega)] at c0 c1 c2 c3
            have HEJ3 : Hid (E = (out ++ [⟨(k : Int), (j : Int), (t1 : Int), (t2 : Int), (t3 : Int)⟩]) ++ rowL R (p : Int) k (j + 1) (P.drop (j + 1)) ++ allL R (k + 1) (P.drop (k + 1))) := by show _ = _; rw [unhide HEJ2]; simp
            have hol : out.length ≤ 144 := by
              have h1 := unhide HEL
              rw [unhide HEJ2, List.length_append, List.length_append] at h1
              omega
            clear ho HEJ2
            have a0 := ((Gr.below_new wr (Obj.cells #[.bool false, .int .i64 0, .int .i64 0, .int .i64 0] 86)).cell (p := ⟨g, 24 + p * 48 + q * 4, none⟩) hgw).trans c0
            have a1 := ((Gr.below_new wr (Obj.cells #[.bool false, .int .i64 0, .int .i64 0, .int .i64 0] 86)).cell (p := ⟨g, 24 + p * 48 + q * 4 + 1, none⟩) hgw).trans c1
            have a2 := ((Gr.below_new wr (Obj.cells #[.bool false, .int .i64 0, .int .i64 0, .int .i64 0] 86)).cell (p := ⟨g, 24 + p * 48 + q * 4 + 2, none⟩) hgw).trans c2
            have a3 := ((Gr.below_new wr (Obj.cells #[.bool false, .int .i64 0, .int .i64 0, .int .i64 0] 86)).cell (p := ⟨g, 24 + p * 48 + q * 4 + 3, none⟩) hgw).trans c3
            go_wp2_with fail
            go_region
            obtain ⟨W, hW⟩ : ∃ W, W = (wr.alloc (Obj.cells #[.bool true, .int .i64 (t1 : Int), .int .i64 (t2 : Int), .int .i64 (t3 : Int)] 86)).drew := ⟨_, rfl⟩
            rw [← hW]
            have mW : Blk W wr.heap.size #[.bool true, .int .i64 (t1 : Int), .int .i64 (t2 : Int), .int .i64 (t3 : Int)] 86 := by rw [hW]; exact Gr.Blk.new0.drew
            have gW : GE w W ((P.length : Nat) : Int) out := by rw [hW]; exact (unhide HGJ).below ((Gr.below_new wr _).drew)
            have hzw : wr.heap.size < W.heap.size := mW.lt
            have k0 : W.cell? ⟨wr.heap.size, 0, none⟩ = some (.bool true) := mW.cell 0 _ rfl
            have k1 : W.cell? ⟨wr.heap.size, 1, none⟩ = some (.int .i64 (t1 : Int)) := mW.cell 1 _ rfl
            have k2 : W.cell? ⟨wr.heap.size, 2, none⟩ = some (.int .i64 (t2 : Int)) := mW.cell 2 _ rfl
            have k3 : W.cell? ⟨wr.heap.size, 3, none⟩ = some (.int .i64 (t3 : Int)) := mW.cell 3 _ rfl
            obtain ⟨gb, g0, A, C, g1, g2⟩ := gW
            have HG0 := hide g0
            have HU := hide g1
            have HOE := hide g2
            have HBW := hide gb
            have y1 := g1.cells.2
            have hlt1 := g1.lt
            have HOD := hide g2.drew
            have hne : (Value.slice A out.length C).ownBlock ≠ some (w.heap.size + 1) := fun e => by have := (g2.lt _ e).1; omega
            have hjm : out.length + 1 ≤ maxLen := by unfold maxLen; omega
            have HEO := hide (fun w1 => Gr.edgeOf_any (k : Int) (j : Int) (t1 : Int) (t2 : Int) (t3 : Int) w1)
            unfold EdgeI.v Gr.w3 at HEO
            simp only at HEO
            generalize hol2 : out.length = l at *
            have HOL := hide hol2
            clear hol2 hW mW gb g0 g1 g2 a0 a1 a2 a3 c0 c1 c2 c3 aj dj dk HGJ
            go_wp2_with fail
            go_region_law
              (first
                | (refine step_call (by rfl) 82 _ _ (by rfl) #[.int .i64 (k : Int), .int .i64 (j : Int), .agg #[.int .i64 (t1 : Int), .int .i64 (t2 : Int), .int .i64 (t3 : Int)]] (by first | rfl | (simp [Act.eval]; done) | (simp [Act.put]; done)) enterEdgeOf _ (unhide HEO _) ?_; rintro e w13 ⟨rfl, hb13⟩; refine ⟨_, rfl, ?_⟩; have hown13 := Gr.own_below (unhide HOD) hb13; have HU13 := hide ((unhide HU).below ((Below.refl _ _).drew.trans hb13)); have s0 := (unhide HU13).cells.2; have hlt2 := (unhide HU13).lt; have s1 := ((Gr.below_new w13 (Obj.cells #[.int .i64 (k : Int), .int .i64 (j : Int), .int .i64 (t1 : Int), .int .i64 (t2 : Int), .int .i64 (t3 : Int)] 106)).cell (p := ⟨w.heap.size + 1, 1, none⟩) hlt2).trans s0; have hb01 : Below W.heap.size W w13 := (Below.refl _ _).drew.trans hb13)
                | (refine step_append_lies _ (by rfl) _ _ _ (by rfl) (w.heap.size + 2) 106 ie _ 5 40 Tryz.underlying33 hie ez0 ez1 ez2 rfl (by omega) (.slice A l C) l (edgesV out) (by show _ = _; kernel_rfl) (by first | exact hown13.alloc _ | exact (hown13.alloc _).drew) ⟨w13.heap.size, 0, none⟩ 1 1 [.int .i64 (k : Int), .int .i64 (j : Int), .int .i64 (t1 : Int), .int .i64 (t2 : Int), .int .i64 (t3 : Int)] (by show _ = _; kernel_rfl) (by rfl) (news5 _ _ _ _ _ _ _) (five_one _ _ _ _ _) (by omega) hjm (by omega) (by have := hb01.size; simp; omega) (w13.heap.size + 1) (by simp) ?_; intro ge cap w14 hown14 hgrow14 hat14 hlt14; have HU14 := hide (((unhide HU13).below (Gr.below_new w13 (Obj.cells #[.int .i64 (k : Int), .int .i64 (j : Int), .int .i64 (t1 : Int), .int .i64 (t2 : Int), .int .i64 (t3 : Int)] 106))).kept (Gr.Kept.of_grown hgrow14) (fun e => hne e)); have q0 := (unhide HU14).cells.2; have qf := (unhide HU14).froz 1))
            all_goals
              have hsn : edgesV out ++ [.int .i64 (k : Int), .int .i64 (j : Int), .int .i64 (t1 : Int), .int .i64 (t2 : Int), .int .i64 (t3 : Int)] = edgesV (out ++ [⟨(k : Int), (j : Int), (t1 : Int), (t2 : Int), (t3 : Int)⟩]) := (Gr.edgesV_snoc out ⟨(k : Int), (j : Int), (t1 : Int), (t2 : Int), (t3 : Int)⟩).symm
              rw [hsn] at hown14
              have hk14 := Gr.Kept.of_grown hgrow14
              have hk15 : Kept (fun i => i = w.heap.size + 1) w14 (w14.setCell ⟨w.heap.size + 1, 1, none⟩ (.slice (some ⟨ge, 0, none⟩) (l + 1) cap)) := Gr.Kept.set (S := fun i => i = w.heap.size + 1) _ _ _ _ rfl
              have bA : Below W.heap.size W (w13.alloc (Obj.cells #[.int .i64 (k : Int), .int .i64 (j : Int), .int .i64 (t1 : Int), .int .i64 (t2 : Int), .int .i64 (t3 : Int)] 106)) := hb01.alloc hb01.size _
              have hown14' := hk15.own hown14 (fun g' hg' e => by have := (hown14.lt g' hg').1; omega)
              have hbF : Below w.heap.size w (w14.setCell ⟨w.heap.size + 1, 1, none⟩ (.slice (some ⟨ge, 0, none⟩) (l + 1) cap)) := (((unhide HBW).trans (bA.mono (unhide HBW).size)).trans (hk14.below (by have := bA.size; have := (unhide HBW).size; omega) (fun i hi => by have := ((hown13.alloc (Obj.cells #[.int .i64 (k : Int), .int .i64 (j : Int), .int .i64 (t1 : Int), .int .i64 (t2 : Int), .int .i64 (t3 : Int)] 106)).lt i hi).1; omega))).trans (hk15.below (by have := bA.size; have := (unhide HBW).size; have := hk14.2.2.2.1; omega) (fun i hi => by omega))
              have g0F : GBox (w14.setCell ⟨w.heap.size + 1, 1, none⟩ (.slice (some ⟨ge, 0, none⟩) (l + 1) cap)) w.heap.size 0 (.slice none 0 0) := (((unhide HG0).below bA).kept hk14 (fun e => by have := ((hown13.alloc (Obj.cells #[.int .i64 (k : Int), .int .i64 (j : Int), .int .i64 (t1 : Int), .int .i64 (t2 : Int), .int .i64 (t3 : Int)] 106)).lt _ e).1; omega)).kept hk15 (by omega)
              have HGF : Hid (GE w (w14.setCell ⟨w.heap.size + 1, 1, none⟩ (.slice (some ⟨ge, 0, none⟩) (l + 1) cap)) ((P.length : Nat) : Int) (out ++ [⟨(k : Int), (j : Int), (t1 : Int), (t2 : Int), (t3 : Int)⟩])) := by
                have hl1 : (out ++ [(⟨(k : Int), (j : Int), (t1 : Int), (t2 : Int), (t3 : Int)⟩ : EdgeI)]).length = l + 1 := by rw [List.length_append, unhide HOL]; rfl
                refine ⟨hbF, g0F, some ⟨ge, 0, none⟩, cap, ?_, ?_⟩
                · rw [hl1]; exact (unhide HU14).one _
                · rw [hl1]; exact hown14'
              clear hown14 hgrow14 hat14 hb01 hown13 s0 s1 q0 qf hlt14 hb13 HU14 HU13 HOD HOE HU hne hjm hk15 hk14 hsn hown14' hbF g0F bA HG0
              go_wp2_with fail
              exact ⟨⟨j + 1, _, by go_num, by omega, by omega, unhide HEJ3, unhide HGF⟩, by simp [intOf]; omega⟩
        · obtain hjl : j = P.length := by omega
          have HEF : Hid (E = out ++ allL R (k + 1) (P.drop (k + 1))) := by
            show _ = _
            have := unhide HEJ
            rw [List.drop_eq_nil_of_le (show P.length ≤ j by omega)] at this
            simpa [rowL] using this
          have hji : ¬ (j : Int) < ((P.length : Nat) : Int) := by omega
          clear HEJ
          go_wp2_with fail
          exact ⟨⟨k + 1, out, by go_num, by omega, unhide HEF, unhide HGJ⟩, by simp [intOf]; omega⟩
    · have hEF : E = out0 := by
        have := unhide HEK
        rw [List.drop_eq_nil_of_le (show P.length ≤ k by omega)] at this
        simpa [allL] using this
      subst hEF
      have hki : ¬ (k : Int) < ((P.length : Nat) : Int) := by omega
      obtain ⟨gb, g0, A, C, g1, g2⟩ := unhide HGK
      obtain ⟨r0, r1⟩ := g1.cells
      obtain ⟨q0, q1⟩ := g0.cells
      have qf := g0.froz
      have hl := g0.lt
      have hk : Kept (fun i => i = w.heap.size) wr ((wr.setCell ⟨w.heap.size, 0, none⟩ (.int .i64 ((P.length : Nat) : Int))).setCell ⟨w.heap.size, 1, none⟩ (.slice A E.length C)) := Gr.Kept.trans (S := fun i => i = w.heap.size) (Gr.Kept.set (S := fun i => i = w.heap.size) _ _ _ _ rfl) (Gr.Kept.set (S := fun i => i = w.heap.size) _ _ _ _ rfl)
      have HF1 := hide (g0.two ((P.length : Nat) : Int) (.slice A E.length C))
      have HF2 := hide (gb.trans (hk.below gb.size (fun i hi => by omega)))
      have HF3 := hide (Gr.own_lower (show w.heap.size ≤ w.heap.size + 2 by omega) (hk.own g2 (fun g' hg' e => by have := (g2.lt g' hg').1; omega)))
      clear gb g0 g1 g2 hk HGK
      go_wp2
      (try simp only [Exit.inBlock, Exit.then])
      refine bodyPost_ret (Gr.results_rd1 Tryz.results46 _ _ _ _ _ rfl (Gr.load_graph (unhide HF1))) rfl ?_
      exact ⟨⟨_, rfl, _, rfl, unhide HF3⟩, unhide HF2⟩
end Rg
end Go.Proofs.YtihnaddfpmjpaaaGreatDoor
namespace Go.Proofs.YtihnaddfpmjpaaaGreatDoor
namespace Cy
open Go.RowKit
open Rg
open Gr (EdgeI AskI)
def isE (p : ByteArray × ByteArray) : Bool := decide (byteAt p.1 0 = 101)
def askE (p : ByteArray × ByteArray) : AskI := ⟨2, oN (numP (p.1.extract 1 3)), oN (numP (p.1.extract 3 p.1.size)), (byteAt p.2 0 : Int), (byteAt p.2 1 : Int), (byteAt p.2 2 : Int)⟩
def linksS (Q : PL) : List AskI := (Q.filter isE).map askE
def eachA (op : Int) (L : List Int) : List AskI := L.map fun x => ⟨op, x, 0, 0, 0, 0⟩
def linkA (J : List Int) (e : EdgeI) : AskI := ⟨2, J.getD e.A.toNat 0, J.getD e.B.toNat 0, e.W1, e.W2, e.W3⟩
def linksJ (J : List Int) (E : List EdgeI) : List AskI := E.map (linkA J)
def pairE (Q : PL) (x y : Int) : PL := match getP Q (ek x y) with | none => [] | some v => [(ek x y, v)]
def rowP (Q : PL) (x : Int) : List Int → PL
  | [] => []
  | y :: r => pairE Q x y ++ rowP Q x r
def allP (Q : PL) : List Int → PL
  | [] => []
  | x :: r => rowP Q x r ++ allP Q r
theorem pair_link (Q : PL) (J : List Int) (x y : Int) (hx : 0 ≤ x ∧ x < 12) (hy : 0 ≤ y ∧ y < 12) (a b : Nat) (ha : J.getD a 0 = x) (hb : J.getD b 0 = y) :
    linksJ J (match getP Q (ek x y) with | none => [] | some v => [edgeV a b v]) = (pairE Q x y).map askE := by
  unfold pairE
  obtain ⟨xn, rfl⟩ := Int.eq_ofNat_of_zero_le hx.1
  obtain ⟨yn, rfl⟩ := Int.eq_ofNat_of_zero_le hy.1
  cases getP Q (ek (xn : Int) (yn : Int)) with
  | none => rfl
  | some v =>
    obtain ⟨h1, h2⟩ := k2_num 101 xn yn (by omega) (by omega)
    have e1 : numP ((ek (xn : Int) (yn : Int)).extract 1 3) = some xn := by
      show numP ((k2 101 xn yn).extract 1 3) = _
      rw [h1, num_tw xn (by omega)]
    have e2 : numP ((ek (xn : Int) (yn : Int)).extract 3 (ek (xn : Int) (yn : Int)).size) = some yn := by
      show numP ((k2 101 xn yn).extract 3 (k2 101 xn yn).size) = _
      rw [h2, num_tw yn (by omega)]
    simp only [linksJ, List.map_cons, List.map_nil, linkA, edgeV, askE, Int.toNat_natCast, ha, hb, e1, e2]
    rfl
theorem getD_mid (P L : List Int) (x : Int) : (P ++ x :: L).getD P.length 0 = x := by simp
theorem row_links (Q : PL) (x : Int) (hx : 0 ≤ x ∧ x < 12) (a : Nat) : ∀ (L P : List Int), (∀ y ∈ L, 0 ≤ y ∧ y < 12) → (P ++ L).getD a 0 = x → linksJ (P ++ L) (rowE Q x a P.length L) = (rowP Q x L).map askE
  | [], P, _, _ => rfl
  | y :: r, P, h, ha => by
    have hy := h y (by simp)
    have e : P ++ y :: r = (P ++ [y]) ++ r := by simp
    have ih := row_links Q x hx a r (P ++ [y]) (fun z hz => h z (by simp [hz])) (by rw [← e]; exact ha)
    rw [← e, List.length_append, List.length_singleton] at ih
    rw [rowE, rowP, List.map_append, ← ih]
    rw [← pair_link Q (P ++ y :: r) x y hx hy a P.length ha (getD_mid P r y)]
    unfold linksJ
    exact List.map_append
theorem all_links (Q : PL) : ∀ (L P : List Int), (∀ y ∈ L, 0 ≤ y ∧ y < 12) → linksJ (P ++ L) (allE Q P.length L) = (allP Q L).map askE
  | [], P, _ => rfl
  | x :: r, P, h => by
    have e : P ++ x :: r = (P ++ [x]) ++ r := by simp
    have ih := all_links Q r (P ++ [x]) (fun z hz => h z (by simp [hz]))
    have h2 := row_links Q x (h x (by simp)) P.length r (P ++ [x]) (fun z hz => h z (by simp [hz])) (by rw [← e]; exact getD_mid P r x)
    rw [← e, List.length_append, List.length_singleton] at ih h2
    rw [allE, allP, List.map_append, ← ih, ← h2]
    unfold linksJ
    rw [← List.map_append]
theorem asc_eq : ∀ (L M : PL), Asc L → Asc M → (∀ e, e ∈ L ↔ e ∈ M) → L = M
  | [], [], _, _, _ => rfl
  | [], y :: M, _, _, h => absurd ((h y).2 (by simp)) (by simp)
  | x :: L, [], _, _, h => absurd ((h x).1 (by simp)) (by simp)
  | x :: L, y :: M, hL, hM, h => by
    have h1 := List.pairwise_cons.1 hL
    have h2 := List.pairwise_cons.1 hM
    have hno : ∀ a b : ByteArray × ByteArray, Op.bytesLess a.1.toList b.1.toList = true → Op.bytesLess b.1.toList a.1.toList = true → False := fun a b p q => by
      have := less_trans _ _ _ p q
      rw [less_irrefl] at this
      cases this
    have hxy : x = y := by
      rcases List.mem_cons.1 ((h x).1 (by simp)) with e | e
      · exact e
      · rcases List.mem_cons.1 ((h y).2 (by simp)) with e' | e'
        · exact e'.symm
        · exact (hno _ _ (h2.1 x e) (h1.1 y e')).elim
    subst hxy
    congr 1
    refine asc_eq L M h1.2 h2.2 (fun e => ?_)
    constructor
    · intro he
      rcases List.mem_cons.1 ((h e).1 (by simp [he])) with e' | e'
      · subst e'; exact (hno _ _ (h1.1 _ he) (h1.1 _ he)).elim
      · exact e'
    · intro he
      rcases List.mem_cons.1 ((h e).2 (by simp [he])) with e' | e'
      · subst e'; exact (hno _ _ (h2.1 _ he) (h2.1 _ he)).elim
      · exact e'
theorem ek_less {x y x' y' : Int} (hx : 0 ≤ x) (hx' : x' ≤ 99) (hy : 0 ≤ y ∧ y ≤ 99) (hy' : 0 ≤ y' ∧ y' ≤ 99) (h : x < x' ∨ (x = x' ∧ y < y')) : Op.bytesLess (ek x y).toList (ek x' y').toList = true := by
  show Op.bytesLess (k2 101 x.toNat y.toNat).toList (k2 101 x'.toNat y'.toNat).toList = true
  rcases h with h | ⟨rfl, h⟩
  · rw [k2_list _ _ _ (by omega) (by omega), k2_list _ _ _ (by omega) (by omega), less_cons]
    have ht := twl_less (a := x.toNat) (b := x'.toNat) (by omega) (by omega)
    unfold twl at ht ⊢
    simp only [List.cons_append, List.nil_append]
    simp only [Op.bytesLess, Bool.or_eq_true, decide_eq_true_eq, Bool.and_eq_true, beq_iff_eq] at ht ⊢
    rcases ht with h1 | ⟨h1, h2 | ⟨_, h3⟩⟩
    · exact Or.inl h1
    · exact Or.inr ⟨h1, Or.inl h2⟩
    · simp at h3
  · exact k2_less (by omega) (by omega) (by omega)
theorem rowP_mem (Q : PL) (x : Int) : ∀ (L : List Int) (p : ByteArray × ByteArray), p ∈ rowP Q x L ↔ ∃ y ∈ L, getP Q (ek x y) = some p.2 ∧ p.1 = ek x y
  | [], p => by simp [rowP]
  | y :: r, p => by
    rw [rowP, List.mem_append, rowP_mem Q x r p]
    have h0 : p ∈ pairE Q x y ↔ getP Q (ek x y) = some p.2 ∧ p.1 = ek x y := by
      unfold pairE
      cases hg : getP Q (ek x y) with
      | none => simp
      | some v =>
        simp only [List.mem_singleton, Option.some.injEq]
        constructor
        · rintro rfl; exact ⟨rfl, rfl⟩
        · rintro ⟨h1, h2⟩; exact Prod.ext h2 h1.symm
    rw [h0]
    constructor
    · rintro (h | ⟨z, hz, h⟩)
      · exact ⟨y, by simp, h⟩
      · exact ⟨z, by simp [hz], h⟩
    · rintro ⟨z, hz, h⟩
      rcases List.mem_cons.1 hz with rfl | hz
      · exact Or.inl h
      · exact Or.inr ⟨z, hz, h⟩
theorem allP_mem (Q : PL) : ∀ (L : List Int), L.Pairwise (· < ·) → ∀ (p : ByteArray × ByteArray), p ∈ allP Q L ↔ ∃ x ∈ L, ∃ y ∈ L, x < y ∧ getP Q (ek x y) = some p.2 ∧ p.1 = ek x y
  | [], _, p => by simp [allP]
  | x :: r, hp, p => by
    rw [List.pairwise_cons] at hp
    rw [allP, List.mem_append, rowP_mem, allP_mem Q r hp.2 p]
    constructor
    · rintro (⟨y, hy, h⟩ | ⟨x', hx', y, hy, h⟩)
      · exact ⟨x, by simp, y, by simp [hy], hp.1 y hy, h⟩
      · exact ⟨x', by simp [hx'], y, by simp [hy], h⟩
    · rintro ⟨x', hx', y, hy, hlt, h⟩
      rcases List.mem_cons.1 hx' with rfl | hx2
      · rcases List.mem_cons.1 hy with rfl | hy
        · omega
        · exact Or.inl ⟨y, hy, h⟩
      · rcases List.mem_cons.1 hy with e | hy
        · have := hp.1 x' hx2; omega
        · exact Or.inr ⟨x', hx2, y, hy, hlt, h⟩
theorem rowP_asc (Q : PL) (x : Int) (hx : 0 ≤ x ∧ x < 12) : ∀ (L : List Int), L.Pairwise (· < ·) → (∀ y ∈ L, 0 ≤ y ∧ y < 12) → Asc (rowP Q x L)
  | [], _, _ => List.Pairwise.nil
  | y :: r, hp, h => by
    rw [List.pairwise_cons] at hp
    have hy := h y (by simp)
    rw [rowP]
    refine List.pairwise_append.2 ⟨?_, rowP_asc Q x hx r hp.2 (fun z hz => h z (by simp [hz])), ?_⟩
    · unfold pairE; cases getP Q (ek x y) <;> simp
    · intro p hpm q hq
      obtain ⟨z, hz, _, e2⟩ := (rowP_mem Q x r q).1 hq
      have hz2 := h z (by simp [hz])
      have e1 : p.1 = ek x y := by
        unfold pairE at hpm
        cases hg : getP Q (ek x y) with
        | none => rw [hg] at hpm; cases hpm
        | some v => rw [hg] at hpm; simp only [List.mem_singleton] at hpm; rw [hpm]
      rw [e1, e2]
      exact ek_less hx.1 (by omega) ⟨hy.1, by omega⟩ ⟨hz2.1, by omega⟩ (Or.inr ⟨rfl, hp.1 z hz⟩)
theorem allP_asc (Q : PL) : ∀ (L : List Int), L.Pairwise (· < ·) → (∀ y ∈ L, 0 ≤ y ∧ y < 12) → Asc (allP Q L)
  | [], _, _ => List.Pairwise.nil
  | x :: r, hp, h => by
    have hp2 := List.pairwise_cons.1 hp
    have hx := h x (by simp)
    have hr : ∀ y ∈ r, 0 ≤ y ∧ y < 12 := fun z hz => h z (by simp [hz])
    rw [allP]
    refine List.pairwise_append.2 ⟨rowP_asc Q x hx r hp2.2 hr, allP_asc Q r hp2.2 hr, ?_⟩
    intro p hpm q hq
    obtain ⟨y, hy, _, e1⟩ := (rowP_mem Q x r p).1 hpm
    obtain ⟨x', hx', y', hy', _, _, e2⟩ := (allP_mem Q r hp2.2 q).1 hq
    have a1 := hr y hy
    have a2 := hr x' hx'
    have a3 := hr y' hy'
    rw [e1, e2]
    exact ek_less hx.1 (by omega) ⟨a1.1, by omega⟩ ⟨a3.1, by omega⟩ (Or.inl (hp2.1 x' hx'))
theorem links_all {Q : PL} (hst : stateOk Q = true) : Q.filter isE = allP Q (idsP [] Q) := by
  obtain ⟨R, _, I, ha, _, hn⟩ := reg_inv hst
  obtain ⟨h1, h2⟩ := asc_num ha I.f []
  have hb : ∀ y ∈ idsP [] Q, 0 ≤ y ∧ y < 12 := fun y hy => by obtain ⟨a, h12, rfl, _⟩ := h2 y hy; omega
  refine asc_eq _ _ (List.Pairwise.filter _ ha) (allP_asc Q _ h1 hb) (fun p => ?_)
  rw [List.mem_filter, allP_mem Q _ h1 p]
  have hK : keysOk Q (rnds Q) Q = true := by
    unfold stateOk at hst
    simp only [Bool.and_eq_true] at hst
    exact hst.2.2.1
  constructor
  · rintro ⟨hp, he⟩
    have hE : byteAt p.1 0 = 101 := of_decide_eq_true he
    have hg := getP_mem ha hp
    have hk := keys_all Q _ Q hK p hp
    rcases I.f p hp with ⟨a, h3, h4, _⟩ | ⟨a, b, h3, h4, h5, h6⟩ | ⟨a, h3, h4, h5⟩ | ⟨a, b, h3, h4, h5, h6⟩
    · rw [h4, k1_byte _ a (by omega)] at hE; exact absurd hE (by decide)
    · rw [h5, keyOk_e Q _ a b p.2 (by omega) (by omega), eOk_is _ _ a b p.2 h3 h6] at hk
      simp only [Bool.and_eq_true] at hk
      have hin : ∀ c : Nat, c ≤ 99 → (getP Q (k1 118 c)).isSome = true → (c : Int) ∈ idsP [] Q := fun c hc hs => by
        obtain ⟨v, hv⟩ := Option.isSome_iff_exists.1 hs
        obtain ⟨q, hq, e1, _⟩ := get_pair Q _ v hv
        exact ids_mem Q q c hq hc e1 (Or.inl rfl)
      refine ⟨(a : Int), hin a (by omega) hk.1, (b : Int), hin b (by omega) hk.2.1, by omega, ?_⟩
      have ek0 : ek (a : Int) (b : Int) = p.1 := by rw [h5]; rfl
      rw [ek0]
      exact ⟨hg, rfl⟩
    · rw [h5, k1_byte _ a h3] at hE; exact absurd hE (by decide)
    · rw [h6, k2_byte _ a b h3 h4] at hE; exact absurd hE (by decide)
  · rintro ⟨x, hx, y, hy, _, hg, hk⟩
    obtain ⟨q, hq, e1, e2⟩ := get_pair Q _ _ hg
    have a1 := hb x hx
    have a2 := hb y hy
    have e : q = p := Prod.ext (by rw [e1, hk]) e2
    subst e
    refine ⟨hq, decide_eq_true ?_⟩
    rw [hk]
    exact k2_byte 101 x.toNat y.toNat (by omega) (by omega)
theorem links_are {Q : PL} {R : Rgs} (hst : stateOk Q = true) (I : Inv Q R) : linksJ (idsP [] Q) (allL R 0 (idsP [] Q)) = linksS Q := by
  obtain ⟨_, _, _, ha, _, _⟩ := reg_inv hst
  obtain ⟨h1, h2⟩ := asc_num ha I.f []
  have hb : ∀ y ∈ idsP [] Q, 0 ≤ y ∧ y < 12 := fun y hy => by obtain ⟨a, h12, rfl, _⟩ := h2 y hy; omega
  rw [← all_is I _ 0 h1 hb]
  have := all_links Q (idsP [] Q) [] hb
  simp only [List.nil_append, List.length_nil] at this
  rw [this, ← links_all hst]
  rfl
def asksQ (Q : PL) : List AskI := if stateOk Q = true ∧ rnds Q = 0 then eachA 1 (idsP [] Q) ++ linksS Q ++ eachA 3 (idsP [108] Q) else []
def asksB (Q : PL) : Bool := stateOk Q && decide (rnds Q = 0)
end Cy
end Go.Proofs.YtihnaddfpmjpaaaGreatDoor
namespace Go.Proofs.YtihnaddfpmjpaaaGreatDoor
namespace Cy
open Go.RowKit
open Gr (EdgeI AskI asksV InAt InOwn intsV own_below own_lower below_new Kept)
def AkOwn (w : World) (B : Nat) (v : Value) (K : List AskI) : Prop := w.ownsRow B 77 6 v K.length (asksV K)
theorem news6 (W : World) (a b c d e f : Int) (t : TypeId) : ∀ j u, [Value.int .i64 a, Value.int .i64 b, Value.int .i64 c, Value.int .i64 d, Value.int .i64 e, Value.int .i64 f][j]? = some u → (W.alloc (Obj.cells #[.int .i64 a, .int .i64 b, .int .i64 c, .int .i64 d, .int .i64 e, .int .i64 f] t)).cell? ((⟨W.heap.size, 0, none⟩ : Addr).add j) = some u :=
  World.news_of_block (heap_alloc_new W (Obj.cells #[.int .i64 a, .int .i64 b, .int .i64 c, .int .i64 d, .int .i64 e, .int .i64 f] t))
theorem six_one (a b c d e f : Int) : ∀ u ∈ [Value.int .i64 a, Value.int .i64 b, Value.int .i64 c, Value.int .i64 d, Value.int .i64 e, Value.int .i64 f], u.oneCell' = true := by
  intro u hu
  simp at hu
  rcases hu with rfl | rfl | rfl | rfl | rfl | rfl <;> rfl
theorem each_snoc (op : Int) (L : List Int) (k : Nat) (h : k < L.length) : eachA op (L.take (k + 1)) = eachA op (L.take k) ++ [⟨op, L[k], 0, 0, 0, 0⟩] := by
  unfold eachA
  rw [List.take_succ_eq_append_getElem h, List.map_append]
  rfl
theorem each_length (op : Int) (L : List Int) (k : Nat) (h : k ≤ L.length) : (eachA op (L.take k)).length = k := by
  unfold eachA
  rw [List.length_map, List.length_take]
  omega
theorem AkOwn.shape {w : World} {B : Nat} {v : Value} {K : List AskI} (h : AkOwn w B v K) : ∃ a c, v = .slice a K.length c := by
  obtain ⟨a, c, rfl, _⟩ := Gr.asksAt.of_own h
  exact ⟨a, c, rfl⟩
set_option maxRecDepth 100000 in
set_option maxHeartbeats 2000000 in
theorem each_any (op : Int) (a : Option Addr) (cap B : Nat) (L : List Int) (hL : L.length ≤ 1000) (w : World) (hB : B ≤ w.heap.size) (hs : IntsAt w a L.length B L) :
    Calls Tryz.prog 64 #[.int .i64 op, .slice a L.length cap] w fun e w' => (∃ d, e = .returned d ∧ AkOwn w' w.heap.size d (eachA op L)) ∧ Below w.heap.size w w' := by
  obtain ⟨i0, hi, hz0, hz1, hz2⟩ := info_parts Gr.infoAsk
  have HC := hide hs.2
  have HS := hide (fun k h => each_snoc op L k h)
  have HN := hide (fun k h => each_length op L k h)
  clear hs
  go_enter Tryz.func64, Tryz.ntmps64
  go_wp2_with fail
  go_loopw [5, 10] (fun v i wr => ∃ (k : Nat), i = .int .i64 (k : Int) ∧ k ≤ L.length ∧ Hid (AkOwn wr w.heap.size v (eachA op (L.take k))) ∧ Below w.heap.size w wr) (fun _ i _ => L.length - (intOf i).toNat)
  case atStart => exact ⟨0, rfl, Nat.zero_le _, ⟨rfl, .inl ⟨rfl, rfl⟩⟩, Below.refl _ _⟩
  case round =>
    obtain ⟨k, rfl, hk, HO, hb⟩ := hrel
    obtain ⟨A, C, rfl⟩ := AkOwn.shape (unhide HO)
    by_cases hlt : k < L.length
    · obtain ⟨b, off, rfl, hbB, dk⟩ := unhide HC k hlt
      rw [← hb.cell (p := ⟨b, off + k, none⟩) (by simp; omega)] at dk
      have hki : (k : Int) < ((L.length : Nat) : Int) := by omega
      have HSK := hide (unhide HS k hlt)
      generalize L[k] = x at dk HSK
      have hown := unhide HO
      unfold AkOwn at hown
      have hfl := unhide HN k hk
      have hfl2 := unhide HN (k + 1) (by omega)
      rw [hfl] at hown ⊢
      go_wp2_with (at_builtin; refine wpList_append_own _ rfl _ _ 45 rfl w.heap.size 77 i0 (.agg #[.int .i64 0, .int .i64 0, .int .i64 0, .int .i64 0, .int .i64 0, .int .i64 0]) 6 48 Tryz.underlying45 hi hz0 hz1 hz2 rfl (by decide) _ _ _ rfl (hown.alloc _) ⟨wr.heap.size, 0, none⟩ 1 1 [.int .i64 op, .int .i64 x, .int .i64 0, .int .i64 0, .int .i64 0, .int .i64 0] rfl rfl (news6 _ _ _ _ _ _ _ _) (six_one _ _ _ _ _ _) ?_ ?_ ?_ ?_)
      · unfold maxLen; omega
      · omega
      · have := hb.size; simp; omega
      intro v' w7 hown' hgrow _
      have hb7 := below_append hb (Nat.le_refl _) hown hgrow
      have hsn : asksV (eachA op (L.take k)) ++ [.int .i64 op, .int .i64 x, .int .i64 0, .int .i64 0, .int .i64 0, .int .i64 0] = asksV (eachA op (L.take (k + 1))) := by rw [unhide HSK]; exact (Gr.asksV_snoc _ ⟨op, x, 0, 0, 0, 0⟩).symm
      rw [hsn] at hown'
      have HO7 : Hid (AkOwn w7 w.heap.size v' (eachA op (L.take (k + 1)))) := by show AkOwn _ _ _ _; unfold AkOwn; rw [hfl2]; exact hown'
      clear hown' hgrow hown hsn HO HSK dk
      go_wp2_with fail
      exact ⟨⟨k + 1, by go_num, by omega, HO7, hb7⟩, by simp [intOf]; omega⟩
    · obtain rfl : k = L.length := by omega
      have HF := hide hb
      have HO2 : Hid (AkOwn wr w.heap.size (.slice A (eachA op (L.take L.length)).length C) (eachA op L)) := by
        have h := unhide HO
        rw [List.take_length] at h ⊢
        exact h
      clear HO
      go_wp2_with fail
      go_ret
      exact ⟨⟨_, rfl, unhide HO2⟩, hb⟩
end Cy
end Go.Proofs.YtihnaddfpmjpaaaGreatDoor
namespace Go.Proofs.YtihnaddfpmjpaaaGreatDoor
namespace Cy
open Go.RowKit
open Rg
open Gr (EdgeI AskI asksV InAt InOwn intsV own_below own_lower below_new Kept GrOwn Blk edgesAt)
theorem links_snoc (J : List Int) (E : List EdgeI) (k : Nat) (h : k < E.length) : linksJ J (E.take (k + 1)) = linksJ J (E.take k) ++ [linkA J E[k]] := by
  unfold linksJ
  rw [List.take_succ_eq_append_getElem h, List.map_append]
  rfl
theorem links_length (J : List Int) (E : List EdgeI) (k : Nat) (h : k ≤ E.length) : (linksJ J (E.take k)).length = k := by
  unfold linksJ
  rw [List.length_map, List.length_take]
  omega
theorem rowL_in {R : Rgs} {x : Int} {a : Nat} : ∀ (P : List Int) (b : Nat), ∀ e ∈ rowL R x a b P, e.A = (a : Int) ∧ ∃ j : Nat, e.B = (j : Int) ∧ b ≤ j ∧ j < b + P.length
  | [], b, e, he => by simp [rowL] at he
  | y :: r, b, e, he => by
    rw [rowL, List.mem_append] at he
    rcases he with he | he
    · unfold linkE at he
      split at he
      · cases he
      · simp only [List.mem_singleton] at he
        subst he
        exact ⟨rfl, b, rfl, Nat.le_refl _, by simp⟩
    · obtain ⟨h1, j, h2, h3, h4⟩ := rowL_in r (b + 1) e he
      exact ⟨h1, j, h2, by omega, by simp only [List.length_cons]; omega⟩
theorem allL_in {R : Rgs} : ∀ (P : List Int) (a : Nat), ∀ e ∈ allL R a P, ∃ i j : Nat, e.A = (i : Int) ∧ e.B = (j : Int) ∧ i < a + P.length ∧ j < a + P.length
  | [], a, e, he => by simp [allL] at he
  | x :: r, a, e, he => by
    rw [allL, List.mem_append] at he
    rcases he with he | he
    · obtain ⟨h1, j, h2, h3, h4⟩ := rowL_in r (a + 1) e he
      exact ⟨a, j, h1, h2, by simp, by simp only [List.length_cons]; omega⟩
    · obtain ⟨i, j, h1, h2, h3, h4⟩ := allL_in r (a + 1) e he
      exact ⟨i, j, h1, h2, by simp only [List.length_cons]; omega, by simp only [List.length_cons]; omega⟩
theorem field_edges (W : World) (s : Int) (a : Option Addr) (n c : Nat) : (Instr.field 35 (.agg #[.int .i64 s, .slice a n c]) 1).run Tryz.prog W = .ok (.slice a n c) W := by kernel_rfl
set_option maxRecDepth 100000 in
set_option maxHeartbeats 4000000 in
theorem linkAsks_any (B g : Nat) (R : Rgs) (ap : Option Addr) (cp : Nat) (P : List Int) (hP : P.length ≤ 12) (hp : ∀ x ∈ P, 0 ≤ x ∧ x < 12) (w : World) (hR : RegAt w B g R) (hI : IntsAt w ap P.length w.heap.size P) :
    Calls Tryz.prog 65 #[.pointer (some ⟨g, 0, none⟩), .slice ap P.length cp] w fun e w' => (∃ d, e = .returned d ∧ AkOwn w' w.heap.size d (linksJ P (allL R 0 P))) ∧ Below w.heap.size w w' := by
  obtain ⟨i0, hi, hz0, hz1, hz2⟩ := info_parts Gr.infoAsk
  have GO := hide (graphOf_any B g R ap cp P hP hp w hR hI)
  have HC := hide hI.2
  have HEL : Hid ((allL R 0 P).length ≤ 144) := Nat.le_trans (allL_short R P 0) (Nat.mul_le_mul hP hP)
  have HEI := hide (allL_in (R := R) P 0)
  obtain ⟨E, hE⟩ : ∃ E, E = allL R 0 P := ⟨_, rfl⟩
  rw [← hE] at GO HEL HEI ⊢
  have HS := hide (fun k h => links_snoc P E k h)
  have HN := hide (fun k h => links_length P E k h)
  clear hE hR hI hp
  go_enter Tryz.func65, Tryz.ntmps65
  go_wp2_with fail
  refine (unhide GO).mono ?_
  rintro e w1 ⟨⟨d, rfl, v1, rfl, hr1⟩, hb1⟩
  obtain ⟨Q0, C0, rfl, hat⟩ := edgesAt.of_own hr1
  have HAT := hide hat
  have hz1' := hb1.size
  have hfe := fun W => field_edges W (P.length : Int) Q0 E.length C0
  clear GO hr1 hat
  go_wp2_with fail
  go_loopw [5, 13] (fun v i wr => ∃ (k : Nat), i = .int .i64 (k : Int) ∧ k ≤ E.length ∧ Hid (AkOwn wr w1.heap.size v (linksJ P (E.take k))) ∧ Below w1.heap.size w1 wr) (fun _ i _ => E.length - (intOf i).toNat)
  case atStart => exact ⟨0, rfl, Nat.zero_le _, ⟨rfl, .inl ⟨rfl, rfl⟩⟩, Below.refl _ _⟩
  case round =>
    obtain ⟨k, rfl, hk, HO, hb⟩ := hrel
    obtain ⟨A, C, rfl⟩ := AkOwn.shape (unhide HO)
    have bw : Below w.heap.size w wr := hb1.trans (hb.mono hb1.size)
    by_cases hlt : k < E.length
    · obtain ⟨b, off, rfl, hbB, e0, e1, e2, e3, e4⟩ := (unhide HAT).2 k hlt
      rw [← hb.cell (p := ⟨b, off + k * 5, none⟩) (by simp; omega)] at e0
      rw [← hb.cell (p := ⟨b, off + k * 5 + 1, none⟩) (by simp; omega)] at e1
      rw [← hb.cell (p := ⟨b, off + k * 5 + 2, none⟩) (by simp; omega)] at e2
      rw [← hb.cell (p := ⟨b, off + k * 5 + 3, none⟩) (by simp; omega)] at e3
      rw [← hb.cell (p := ⟨b, off + k * 5 + 4, none⟩) (by simp; omega)] at e4
      have hki : (k : Int) < ((E.length : Nat) : Int) := by omega
      have HSK := hide (unhide HS k hlt)
      obtain ⟨i, j, hi1, hj1, hi2, hj2⟩ := unhide HEI _ (List.getElem_mem hlt)
      generalize E[k] = x at e0 e1 e2 e3 e4 HSK hi1 hj1
      obtain ⟨xa, xb, x1, x2, x3⟩ := x
      simp only at hi1 hj1 e0 e1 e2 e3 e4
      subst hi1
      subst hj1
      rw [Nat.zero_add] at hi2 hj2
      obtain ⟨pb, po, rfl, hpB, di⟩ := unhide HC i hi2
      obtain ⟨pb', po', e', _, dj⟩ := unhide HC j hj2
      simp only [Option.some.injEq, Addr.mk.injEq, and_true] at e'
      obtain ⟨rfl, rfl⟩ := e'
      rw [← bw.cell (p := ⟨pb, po + i, none⟩) (by simp; omega)] at di
      rw [← bw.cell (p := ⟨pb, po + j, none⟩) (by simp; omega)] at dj
      have hlk : linkA P ⟨(i : Int), (j : Int), x1, x2, x3⟩ = ⟨2, P[i], P[j], x1, x2, x3⟩ := by
        unfold linkA
        simp [hi2, hj2]
      rw [hlk] at HSK
      generalize P[i] = pi at di HSK
      generalize P[j] = pj at dj HSK
      have hii : (i : Int) < ((P.length : Nat) : Int) := by omega
      have hjj : (j : Int) < ((P.length : Nat) : Int) := by omega
      have hi0 : (0 : Int) ≤ (i : Int) := by omega
      have hj0 : (0 : Int) ≤ (j : Int) := by omega
      have hzw := hb.size
      have hE144 := unhide HEL
      have hown := unhide HO
      unfold AkOwn at hown
      have hfl := unhide HN k hk
      have hfl2 := unhide HN (k + 1) (by omega)
      rw [hfl] at hown ⊢
      obtain ⟨V, hV⟩ : ∃ V, V = wr.alloc (Obj.cells #[.int .i64 (i : Int), .int .i64 (j : Int), .int .i64 x1, .int .i64 x2, .int .i64 x3] 106) := ⟨_, rfl⟩
      have bV : Below wr.heap.size wr V := by rw [hV]; exact below_new _ _
      have mV : Blk V wr.heap.size #[.int .i64 (i : Int), .int .i64 (j : Int), .int .i64 x1, .int .i64 x2, .int .i64 x3] 106 := by rw [hV]; exact Blk.new0
      have hownV := own_below hown bV
      have q0 : V.cell? ⟨wr.heap.size, 0, none⟩ = some (.int .i64 (i : Int)) := mV.cell 0 _ rfl
      have q1 : V.cell? ⟨wr.heap.size, 1, none⟩ = some (.int .i64 (j : Int)) := mV.cell 1 _ rfl
      have q2 : V.cell? ⟨wr.heap.size, 2, none⟩ = some (.int .i64 x1) := mV.cell 2 _ rfl
      have q3 : V.cell? ⟨wr.heap.size, 3, none⟩ = some (.int .i64 x2) := mV.cell 3 _ rfl
      have q4 : V.cell? ⟨wr.heap.size, 4, none⟩ = some (.int .i64 x3) := mV.cell 4 _ rfl
      have diV := (bV.cell (p := ⟨pb, po + i, none⟩) (by have := bw.size; simp; omega)).trans di
      have djV := (bV.cell (p := ⟨pb, po + j, none⟩) (by have := bw.size; simp; omega)).trans dj
      have hjm : k + 1 ≤ maxLen := by unfold maxLen; omega
      have hbw0 : w1.heap.size ≤ V.heap.size := Nat.le_trans hb.size bV.size
      clear HO
      go_wp2_with fail
      rw [← hV]
      clear hV e0 e1 e2 e3 e4 di dj
      have HOD := hide hownV.drew
      have HBV := hide bV
      have hzV : wr.heap.size < V.heap.size := mV.lt
      have hnV : ¬ wr.heap.size = V.heap.size := by omega
      have hpV : ¬ pb = V.heap.size := by have := bw.size; omega
      have hz0v : w1.heap.size ≤ V.heap.size + 1 := by omega
      have HLT := hide (fun g hg => hown.lt g hg)
      have hneV : (Value.slice A k C).ownBlock ≠ some wr.heap.size := fun e => by have := hown.lt _ e; omega
      have mA : Blk (V.drew.alloc (Obj.cells #[.int .i64 2, .int .i64 pi, .int .i64 pj, .int .i64 x1, .int .i64 x2, .int .i64 x3] 77)) wr.heap.size #[.int .i64 (i : Int), .int .i64 (j : Int), .int .i64 x1, .int .i64 x2, .int .i64 x3] 106 := mV.drew.below (below_new V.drew _)
      have bA : Below w1.heap.size V (V.drew.alloc (Obj.cells #[.int .i64 2, .int .i64 pi, .int .i64 pj, .int .i64 x1, .int .i64 x2, .int .i64 x3] 77)) := ((Below.refl V.heap.size V).drew.trans (below_new V.drew _)).mono hbw0
      have HMA := hide mA
      have HBA := hide bA
      have hpw : pb < w1.heap.size := by omega
      clear mV bV hown hownV mA bA
      go_region_held3 (fun u => u.cell? ⟨wr.heap.size, 0, none⟩ = some (.int .i64 (i : Int)) ∧ u.cell? ⟨wr.heap.size, 1, none⟩ = some (.int .i64 (j : Int)) ∧ u.cell? ⟨wr.heap.size, 2, none⟩ = some (.int .i64 x1) ∧ u.cell? ⟨wr.heap.size, 3, none⟩ = some (.int .i64 x2) ∧ u.cell? ⟨wr.heap.size, 4, none⟩ = some (.int .i64 x3) ∧ u.cell? ⟨pb, po + i, none⟩ = some (.int .i64 pi) ∧ u.cell? ⟨pb, po + j, none⟩ = some (.int .i64 pj))
        (first | go_keep | exact ⟨k14.cell 0 _ rfl, k14.cell 1 _ rfl, k14.cell 2 _ rfl, k14.cell 3 _ rfl, k14.cell 4 _ rfl, (b14.cell (p := ⟨pb, po + i, none⟩) hpw).trans diV, (b14.cell (p := ⟨pb, po + j, none⟩) hpw).trans djV⟩)
        ((refine wp_append_lies _ _ _ _ (by rfl) w1.heap.size 77 i0 _ 6 48 Tryz.underlying45 hi hz0 hz1 hz2 rfl (by omega) (.slice A k C) k (asksV (linksJ P (E.take k))) (by show _ = _; kernel_rfl) ((unhide HOD).alloc _) ⟨V.heap.size, 0, none⟩ 1 1 [.int .i64 2, .int .i64 pi, .int .i64 pj, .int .i64 x1, .int .i64 x2, .int .i64 x3] (by show _ = _; kernel_rfl) (by rfl) (news6 _ _ _ _ _ _ _ _) (six_one _ _ _ _ _ _) (by omega) hjm (by omega) (by simp; omega) (V.heap.size + 1) (by simp) ?_; intro ge cap w14 hown14 hgrow14 hat14 hlt14; have hk14 := Gr.Kept.of_grown hgrow14; have k14 := (unhide HMA).kept hk14 hneV; have b14 : Below w1.heap.size V w14 := (unhide HBA).trans (hk14.below (by simp; omega) (fun i hi => (unhide HLT i hi).1))))
      have hsn : asksV (linksJ P (E.take k)) ++ [.int .i64 2, .int .i64 pi, .int .i64 pj, .int .i64 x1, .int .i64 x2, .int .i64 x3] = asksV (linksJ P (E.take (k + 1))) := by rw [unhide HSK]; exact (Gr.asksV_snoc _ ⟨2, pi, pj, x1, x2, x3⟩).symm
      rw [hsn] at hown14
      have HO14 : Hid (AkOwn w14 w1.heap.size (.slice (some ⟨ge, 0, none⟩) (k + 1) cap) (linksJ P (E.take (k + 1)))) := by show AkOwn _ _ _ _; unfold AkOwn; rw [hfl2]; exact hown14
      have hb14 : Below w1.heap.size w1 w14 := hb.trans (((unhide HBV).mono hb.size).trans b14)
      clear hown14 hgrow14 hat14 hlt14 hk14 k14 b14 hsn HSK HMA HBA HLT HOD HBV q0 q1 q2 q3 q4 diV djV
      go_wp2_with fail
      exact ⟨⟨k + 1, by go_num, by omega, HO14, hb14⟩, by simp [intOf]; omega⟩
    · obtain rfl : k = E.length := by omega
      have HO2 : Hid (AkOwn wr w.heap.size (.slice A (linksJ P (E.take E.length)).length C) (linksJ P E)) := by
        have h := unhide HO
        rw [List.take_length] at h ⊢
        exact own_lower hb1.size h
      clear HO
      go_wp2_with fail
      go_ret
      exact ⟨⟨_, rfl, unhide HO2⟩, bw⟩
end Cy
end Go.Proofs.YtihnaddfpmjpaaaGreatDoor
