/-
 Ri10, Ri11, Ri12, Ri13.
-/
import Derived.Test.YtihnaddfpmjpaaaGreatDoorJ42
import Derived.Test.YtihnaddfpmjpaaaGreatDoorJ43
import Derived.Test.YtihnaddfpmjpaaaGreatDoorJ38
import Derived.Test.YtihnaddfpmjpaaaGreatDoorJ6
import Derived.Test.YtihnaddfpmjpaaaGreatDoorJ30
import Derived.Test.YtihnaddfpmjpaaaGreatDoorJ34
import Derived.Test.YtihnaddfpmjpaaaGreatDoorJ33
import Derived.Test.YtihnaddfpmjpaaaGreatDoorJ16
import Derived.Deep.RegionLaw
import Derived.Deep.AppendLies
namespace Go.Proofs.YtihnaddfpmjpaaaGreatDoor
namespace Rg
open Go.RowKit
open Gr (Blk Kept)
theorem zero_reg (W : World) : (zeroValue 91).run Tryz.prog W = .ok (.agg (regC R0 (.slice none 0 0))) W := by kernel_rfl
theorem R0_at (w : World) : RegAt (w.alloc (Obj.cells (regC R0 (.slice none 0 0)) 91)) w.heap.size w.heap.size R0 :=
  ⟨Nat.le_refl _, .slice none 0 0, [], Gr.Blk.new0, ⟨rfl, ⟨rfl, .inl ⟨rfl, rfl⟩⟩, fun _ h => absurd h (Nat.not_lt_zero _), fun _ h => absurd h (Nat.not_lt_zero _), fun _ _ h => absurd h (Nat.not_lt_zero _)⟩⟩
def Bnd (j : Nat) (R : Rgs) : Prop := R.rds.length ≤ j ∧ ∀ y ∈ R.rds, y.2.length ≤ j ∧ (joinB y.2).size ≤ 40 * j ∧ y.1.length ≤ 40
theorem bnd_take {j : Nat} {R R' : Rgs} {k v : ByteArray} (hb : Bnd j R) (hv : v.size ≤ 40) (h : takeP R k v = some R') : Bnd (j + 1) R' := by
  have hmono : Bnd (j + 1) R := ⟨by have := hb.1; omega, fun y hy => by have := hb.2 y hy; omega⟩
  rcases take_form h with ⟨a, _, _, h2⟩ | ⟨a, b, _, _, _, h2⟩ | ⟨a, _, _, h2⟩ | ⟨a, b, _, _, _, h2⟩
  · unfold takeV at h2
    split at h2
    · split at h2
      · cases h2
      · simp only [Option.some.injEq] at h2; subst h2; exact hmono
    · cases h2
  · unfold takeE at h2
    split at h2
    · simp only [Option.some.injEq] at h2; subst h2; exact hmono
    · cases h2
  · unfold takeQ at h2
    split at h2
    · simp only [Option.some.injEq] at h2
      subst h2
      refine ⟨by simp; exact hb.1, fun y hy => ?_⟩
      rcases List.mem_append.1 hy with hy | hy
      · exact hmono.2 y hy
      · simp only [List.mem_singleton] at hy
        subst hy
        refine ⟨by simp, by show 0 ≤ _; omega, by show (bytesI v).length ≤ 40; rw [bytesI_length]; exact hv⟩
    · cases h2
  · unfold takeR at h2
    split at h2
    · cases h2
    · rename_i x hx
      split at h2
      · simp only [Option.some.injEq] at h2
        subst h2
        have hxm : x ∈ R.rds := List.mem_of_getElem? hx
        have hxb := hb.2 x hxm
        refine ⟨by simp only [List.length_set]; have := hb.1; omega, fun y hy => ?_⟩
        rcases List.mem_or_eq_of_mem_set hy with hy | hy
        · exact hmono.2 y hy
        · subst hy
          refine ⟨by simp; omega, ?_, hxb.2.2⟩
          show (joinB (x.2 ++ [v])).size ≤ _
          have : joinB (x.2 ++ [v]) = joinB x.2 ++ v := by unfold joinB; simp
          rw [this, ByteArray.size_append]
          omega
      · cases h2
theorem fold_step (R : Rgs) (Q : PL) (j : Nat) (h : j < Q.length) : regFold R (Q.drop j) = (match takeP R Q[j].1 Q[j].2 with | none => none | some R' => regFold R' (Q.drop (j + 1))) := by
  rw [List.drop_eq_getElem_cons h, regFold]
  rfl
set_option maxRecDepth 100000 in
set_option maxHeartbeats 4000000 in
theorem register_any (a : Option Addr) (len cap B : Nat) (Q : PL) (hlen : len ≤ 1048576) (w : World) (hB : B ≤ w.heap.size) (ht : Tab w.heap.size w) (hs : Tr.PairsAt w a len B Q) :
    Calls Tryz.prog 39 #[.slice a len cap] w fun e w' => (∃ R, e = .returned (.tuple #[.pointer (some ⟨w.heap.size, 0, none⟩), .bool (regOk Q)]) ∧ RegAt w' w.heap.size w.heap.size R ∧ (regOk Q = true → regFold R0 Q = some R)) ∧ Below w.heap.size w w' := by
  have hzv := zero_reg
  have R0A := hide (R0_at w)
  obtain ⟨Z, hZ⟩ : ∃ Z, Z = regC R0 (.slice none 0 0) := ⟨_, rfl⟩
  rw [← hZ] at hzv R0A
  clear hZ
  have MO := hide (fun w1 (hb : Below w.heap.size w w1) => Tr.implMap_any a len cap B Q hlen w1 (by have := hb.size; omega) (hs.below hb hB))
  have hX : regOk Q = (decide (Tr.MapR Q) && (match regFold R0 Q with | none => false | some R => checks R)) := rfl
  generalize regOk Q = X at hX
  by_cases hM : Tr.MapR Q
  · rw [decide_eq_true hM] at MO hX
    rw [Bool.true_and] at hX
    have hL := hs.1
    have h120 := hM.1
    have HMR := hide hM
    have HC := hide hs.2
    have HT := hide ht
    have HST := hide (fun R j h => fold_step R Q j h)
    have HF0 : Hid (regFold R0 Q = regFold R0 (Q.drop 0)) := rfl
    have HQ := hide hX
    have HB0 : Hid (Bnd 0 R0) := ⟨Nat.le_refl _, by simp [R0]⟩
    clear hX hs ht hM
    subst hL
    obtain ⟨F, hF⟩ : ∃ F, F = regFold R0 Q := ⟨_, rfl⟩
    rw [← hF] at HQ HF0 ⊢
    clear hF
    go_enter Tryz.func39, Tryz.ntmps39
    go_wp2_with fail
    refine (unhide MO _ (Gr.below_new _ _)).mono ?_
    rintro e w1 ⟨rfl, hb1⟩
    have HR1 := hide ((unhide R0A).below hb1)
    have bw1 := (Gr.below_new w (Obj.cells Z 91)).trans (hb1.mono (Gr.below_new w (Obj.cells Z 91)).size)
    clear hb1 hzv R0A MO
    go_wp2_with fail
    go_loopw [15] (fun i wr => ∃ (j : Nat) (R : Rgs), i = .int .i64 (j : Int) ∧ j ≤ Q.length ∧ Hid (RegAt wr w.heap.size w.heap.size R) ∧ Hid (F = regFold R (Q.drop j)) ∧ Hid (Bnd j R) ∧ Below w.heap.size w wr) (fun i _ => Q.length - (intOf i).toNat)
    case atStart => exact ⟨0, R0, rfl, Nat.zero_le _, unhide HR1, unhide HF0, unhide HB0, bw1⟩
    case round =>
      obtain ⟨j, R, rfl, hj, HR, HF, HBD, hb⟩ := hrel
      have hbd := unhide HBD
      by_cases hlt : j < Q.length
      · obtain ⟨b, off, rfl, hbB, d0, d1⟩ := unhide HC j hlt
        have hpr := (unhide HMR).2 j hlt
        unfold Tr.pairOk at hpr
        simp only [Bool.and_eq_true, decide_eq_true_eq] at hpr
        have HF2 := hide ((unhide HF).trans (unhide HST R j hlt))
        have TK := hide (fun w1 (hb1 : Below wr.heap.size wr w1) => take_any w.heap.size w.heap.size Q[j].1 Q[j].2 R (by omega) (by omega) (by omega) (by have := hbd.1; omega) (fun y hy => by have := (hbd.2 y hy).1; omega) w1 (Nat.le_trans hb.size hb1.size) ((unhide HT).below (hb.trans (hb1.mono hb.size))) ((unhide HR).below hb1))
        have HBT := hide (fun (R' : Rgs) (ht : takeP R Q[j].1 Q[j].2 = some R') => bnd_take hbd (by omega) ht)
        generalize Q[j] = q at d0 d1 HF2 TK HBT
        obtain ⟨x, y⟩ := q
        simp only at d0 d1 HF2 TK HBT
        rw [← hb.cell (p := ⟨b, off + j * 2, none⟩) (by simp; omega)] at d0
        rw [← hb.cell (p := ⟨b, off + j * 2 + 1, none⟩) (by simp; omega)] at d1
        have hj1 : (j : Int) < ((Q.length : Nat) : Int) := by omega
        generalize takeP R x y = T at HF2 TK HBT
        clear hpr HF hbd
        go_wp2_with fail
        refine (unhide TK _ (Gr.below_new _ _)).mono ?_
        rintro e w2 ⟨rfl, hR2, hb2⟩
        have b2 := hb.trans (((Gr.below_new wr (Obj.cells #[.string x, .string y] 55)).mono hb.size).trans hb2)
        cases T with
        | none =>
          have hFn : F = none := unhide HF2
          subst hFn
          have hXf : X = false := unhide HQ
          subst hXf
          have HR2 : Hid (RegAt w2 w.heap.size w.heap.size R) := hR2
          clear hR2 hb2
          go_wp2
          go_ret2
          exact ⟨⟨R, rfl, unhide HR2, fun h => by cases h⟩, b2⟩
        | some R' =>
          have HR2 : Hid (RegAt w2 w.heap.size w.heap.size R') := hR2
          have HF3 : Hid (F = regFold R' (Q.drop (j + 1))) := unhide HF2
          have HB3 := hide (unhide HBT R' rfl)
          clear hR2 hb2 HF2 HBT TK
          go_wp2_with fail
          exact ⟨⟨j + 1, R', by go_num, by omega, unhide HR2, unhide HF3, unhide HB3, b2⟩, by simp [intOf]; omega⟩
      · have hFs : F = some R := by rw [unhide HF, List.drop_eq_nil_of_le (by omega)]; rfl
        subst hFs
        have hXc : X = checks R := unhide HQ
        have hj1 : ¬ (j : Int) < ((Q.length : Nat) : Int) := by omega
        have LK := hide (links_any w.heap.size w.heap.size R wr (unhide HR))
        have RD := hide (fun w2 (hb2 : Below wr.heap.size wr w2) => rounds'_any w.heap.size w.heap.size R (by have := hbd.1; omega) (fun y hy => by have := hbd.2 y hy; omega) w2 ((unhide HR).below hb2))
        have ME := hide (fun w2 (hb2 : Below wr.heap.size wr w2) => members_any w.heap.size w.heap.size R w2 ((unhide HR).below hb2))
        have hck : checks R = (linksOk R && (roundsR R && membersOk R)) := rfl
        rw [hck] at hXc
        have HXC := hide hXc
        clear hck hXc hbd
        generalize linksOk R = b1 at LK HXC
        generalize roundsR R = b2 at RD HXC
        generalize membersOk R = b3 at ME HXC
        go_wp2_with fail
        refine (unhide LK).mono ?_
        rintro e w2 ⟨rfl, hb2⟩
        have e2 := hb.trans (hb2.mono hb.size)
        have R2 := hide ((unhide HR).below hb2)
        cases b1 with
        | false =>
          have hXf : X = false := unhide HXC
          subst hXf
          go_wp2
          go_ret2
          exact ⟨⟨R, rfl, unhide R2, fun _ => rfl⟩, e2⟩
        | true =>
          rw [Bool.true_and] at HXC
          go_wp2_with fail
          refine (unhide RD w2 hb2).mono ?_
          rintro e w3 ⟨rfl, hb3⟩
          have hb23 := hb2.trans (hb3.mono hb2.size)
          have e3 := hb.trans (hb23.mono hb.size)
          have R3 := hide ((unhide HR).below hb23)
          cases b2 with
          | false =>
            have hXf : X = false := unhide HXC
            subst hXf
            go_wp2
            go_ret2
            exact ⟨⟨R, rfl, unhide R3, fun _ => rfl⟩, e3⟩
          | true =>
            rw [Bool.true_and] at HXC
            go_wp2_with fail
            refine (unhide ME w3 hb23).mono ?_
            rintro e w4 ⟨rfl, hb4⟩
            have hb24 := hb23.trans (hb4.mono hb23.size)
            have e4 := hb.trans (hb24.mono hb.size)
            have R4 := hide ((unhide HR).below hb24)
            have hXf : X = b3 := unhide HXC
            subst hXf
            go_wp2
            go_ret2
            exact ⟨⟨R, rfl, unhide R4, fun _ => rfl⟩, e4⟩
  · rw [decide_eq_false hM, Bool.false_and] at hX
    rw [decide_eq_false hM] at MO
    subst hX
    go_enter Tryz.func39, Tryz.ntmps39
    go_wp2_with fail
    refine (unhide MO _ (Gr.below_new _ _)).mono ?_
    rintro e w1 ⟨rfl, hb1⟩
    have HR1 := hide ((unhide R0A).below hb1)
    have bw1 := (Gr.below_new w (Obj.cells Z 91)).trans (hb1.mono (Gr.below_new w (Obj.cells Z 91)).size)
    go_wp2
    go_ret2
    exact ⟨⟨R0, rfl, unhide HR1, fun h => by cases h⟩, bw1⟩
end Rg
end Go.Proofs.YtihnaddfpmjpaaaGreatDoor
namespace Go.Proofs.YtihnaddfpmjpaaaGreatDoor
namespace Rg
open Go.RowKit
open Gr (Blk Kept)
theorem who_snoc (f : Nat → Bool) (n : Nat) (h : f n = true) : whoTo f (n + 1) = whoTo f n ++ [(n : Int)] := by rw [who_succ, if_pos h]
theorem who_skip (f : Nat → Bool) (n : Nat) (h : f n = false) : whoTo f (n + 1) = whoTo f n := by rw [who_succ, if_neg (by rw [h]; simp)]
theorem who_short (f : Nat → Bool) : ∀ n, (whoTo f n).length ≤ n
  | 0 => by simp [whoTo]
  | n + 1 => by
    have := who_short f n
    rw [who_succ]
    split
    · simp; omega
    · omega
set_option maxRecDepth 100000 in
set_option maxHeartbeats 2000000 in
theorem thatHere_any (B g : Nat) (R : Rgs) (w : World) (hR : RegAt w B g R) :
    Calls Tryz.prog 40 #[.pointer (some ⟨g, 0, none⟩), .func (.func 79) #[.pointer (some ⟨g, 0, none⟩)] #[]] w fun e w' => (∃ d, e = .returned d ∧ Gr.InOwn w' w.heap.size d (whoTo (isHr R) 12)) ∧ Below w.heap.size w w' := by
  obtain ⟨i0, hi0, hz0, hz1, hz2⟩ := info_parts Gr.info3
  have HE := hide (fun (i : Int) w1 (hb : Below w.heap.size w w1) => here_any i B g R w1 (hR.below hb))
  have HS := hide (fun n h => who_snoc (isHr R) n h)
  have HK := hide (fun n h => who_skip (isHr R) n h)
  have HL := hide (who_short (isHr R))
  clear hR
  go_enter Tryz.func40, Tryz.ntmps40
  go_wp2_with fail
  go_loopw [5, 7] (fun v i wr => ∃ (j : Nat), i = .int .i64 (j : Int) ∧ j ≤ 12 ∧ Hid (wr.ownsRow w.heap.size 3 1 v (whoTo (isHr R) j).length (Gr.intsV (whoTo (isHr R) j))) ∧ Below w.heap.size w wr) (fun _ i _ => 12 - (intOf i).toNat)
  case atStart => exact ⟨0, rfl, Nat.zero_le _, ⟨rfl, .inl ⟨rfl, rfl⟩⟩, Below.refl _ _⟩
  case round =>
    obtain ⟨j, rfl, hj, HO, hb⟩ := hrel
    by_cases hlt : j < 12
    · have hj1 : (j : Int) < 12 := by omega
      have H1 := hide (unhide HE (j : Int) wr hb)
      have hS := unhide HS j
      have hK := unhide HK j
      have hL := unhide HL j
      change Hid (Calls _ _ _ _ fun e w' => e = .returned (.bool (isHr R j)) ∧ w' = wr) at H1
      have hown := unhide HO
      have hbs := hb.size
      generalize isHr R j = hr at H1 hS hK
      go_wp2_with fail
      refine (unhide H1).mono ?_
      rintro e w1 ⟨rfl, rfl⟩
      cases hr with
      | false =>
        have HO2 : Hid (w1.ownsRow w.heap.size 3 1 u5 (whoTo (isHr R) (j + 1)).length (Gr.intsV (whoTo (isHr R) (j + 1)))) := by show World.ownsRow _ _ _ _ _ _ _; rw [hK rfl]; exact hown
        clear hown hS hK
        go_wp2_with fail
        exact ⟨⟨j + 1, by go_num, by omega, unhide HO2, hb⟩, by simp [intOf]; omega⟩
      | true =>
        have HE2 : Hid (∀ (v' : Value) (w1 : World), w1.ownsRow w.heap.size 3 1 v' ((whoTo (isHr R) j).length + 1) (Gr.intsV (whoTo (isHr R) j) ++ [.int .i64 (j : Int)]) → w1.ownsRow w.heap.size 3 1 v' (whoTo (isHr R) (j + 1)).length (Gr.intsV (whoTo (isHr R) (j + 1)))) := fun v' w1 h => by rw [hS rfl]; exact own_int h
        generalize whoTo (isHr R) j = WL at hown hL HE2
        clear hS hK HO
        go_wp2_with (at_builtin; refine wpList_append_own _ rfl _ _ 24 rfl w.heap.size 3 i0 (.int .i64 0) 1 8 Tryz.underlying24 hi0 hz0 hz1 hz2 rfl (by decide) _ _ _ rfl (hown.alloc _) ⟨w1.heap.size, 0, none⟩ 1 1 [.int .i64 (j : Int)] rfl rfl (cell_one_new _ _ _) (by intro u hu; simp at hu; subst hu; rfl) ?c3 ?c4 ?c5 ?_)
        case c3 => unfold maxLen; omega
        case c4 => omega
        case c5 => simp; omega
        intro v' w3 hown' hgrow _
        have hb3 := below_append hb (Nat.le_refl _) hown hgrow
        have HO2 := hide (unhide HE2 v' w3 hown')
        clear hown hown' hgrow HE2
        go_wp2_with fail
        exact ⟨⟨j + 1, by go_num, by omega, unhide HO2, hb3⟩, by simp [intOf]; omega⟩
    · obtain rfl : j = 12 := by omega
      go_wp2
      go_ret
      exact ⟨⟨_, rfl, unhide HO⟩, hb⟩
set_option maxRecDepth 100000 in
set_option maxHeartbeats 2000000 in
theorem thatJoined_any (B g : Nat) (R : Rgs) (w : World) (hR : RegAt w B g R) :
    Calls Tryz.prog 40 #[.pointer (some ⟨g, 0, none⟩), .func (.func 41) #[.pointer (some ⟨g, 0, none⟩)] #[]] w fun e w' => (∃ d, e = .returned d ∧ Gr.InOwn w' w.heap.size d (whoTo (isIn R) 12)) ∧ Below w.heap.size w w' := by
  obtain ⟨i0, hi0, hz0, hz1, hz2⟩ := info_parts Gr.info3
  have HE := hide (fun (i : Int) w1 (hb : Below w.heap.size w w1) => joined_any i B g R w1 (hR.below hb))
  have HS := hide (fun n h => who_snoc (isIn R) n h)
  have HK := hide (fun n h => who_skip (isIn R) n h)
  have HL := hide (who_short (isIn R))
  clear hR
  go_enter Tryz.func40, Tryz.ntmps40
  go_wp2_with fail
  go_loopw [5, 7] (fun v i wr => ∃ (j : Nat), i = .int .i64 (j : Int) ∧ j ≤ 12 ∧ Hid (wr.ownsRow w.heap.size 3 1 v (whoTo (isIn R) j).length (Gr.intsV (whoTo (isIn R) j))) ∧ Below w.heap.size w wr) (fun _ i _ => 12 - (intOf i).toNat)
  case atStart => exact ⟨0, rfl, Nat.zero_le _, ⟨rfl, .inl ⟨rfl, rfl⟩⟩, Below.refl _ _⟩
  case round =>
    obtain ⟨j, rfl, hj, HO, hb⟩ := hrel
    by_cases hlt : j < 12
    · have hj1 : (j : Int) < 12 := by omega
      have H1 := hide (unhide HE (j : Int) wr hb)
      have hS := unhide HS j
      have hK := unhide HK j
      have hL := unhide HL j
      change Hid (Calls _ _ _ _ fun e w' => e = .returned (.bool (isIn R j)) ∧ w' = wr) at H1
      have hown := unhide HO
      have hbs := hb.size
      generalize isIn R j = hr at H1 hS hK
      go_wp2_with fail
      refine (unhide H1).mono ?_
      rintro e w1 ⟨rfl, rfl⟩
      cases hr with
      | false =>
        have HO2 : Hid (w1.ownsRow w.heap.size 3 1 u5 (whoTo (isIn R) (j + 1)).length (Gr.intsV (whoTo (isIn R) (j + 1)))) := by show World.ownsRow _ _ _ _ _ _ _; rw [hK rfl]; exact hown
        clear hown hS hK
        go_wp2_with fail
        exact ⟨⟨j + 1, by go_num, by omega, unhide HO2, hb⟩, by simp [intOf]; omega⟩
      | true =>
        have HE2 : Hid (∀ (v' : Value) (w1 : World), w1.ownsRow w.heap.size 3 1 v' ((whoTo (isIn R) j).length + 1) (Gr.intsV (whoTo (isIn R) j) ++ [.int .i64 (j : Int)]) → w1.ownsRow w.heap.size 3 1 v' (whoTo (isIn R) (j + 1)).length (Gr.intsV (whoTo (isIn R) (j + 1)))) := fun v' w1 h => by rw [hS rfl]; exact own_int h
        generalize whoTo (isIn R) j = WL at hown hL HE2
        clear hS hK HO
        go_wp2_with (at_builtin; refine wpList_append_own _ rfl _ _ 24 rfl w.heap.size 3 i0 (.int .i64 0) 1 8 Tryz.underlying24 hi0 hz0 hz1 hz2 rfl (by decide) _ _ _ rfl (hown.alloc _) ⟨w1.heap.size, 0, none⟩ 1 1 [.int .i64 (j : Int)] rfl rfl (cell_one_new _ _ _) (by intro u hu; simp at hu; subst hu; rfl) ?c3 ?c4 ?c5 ?_)
        case c3 => unfold maxLen; omega
        case c4 => omega
        case c5 => simp; omega
        intro v' w3 hown' hgrow _
        have hb3 := below_append hb (Nat.le_refl _) hown hgrow
        have HO2 := hide (unhide HE2 v' w3 hown')
        clear hown hown' hgrow HE2
        go_wp2_with fail
        exact ⟨⟨j + 1, by go_num, by omega, unhide HO2, hb3⟩, by simp [intOf]; omega⟩
    · obtain rfl : j = 12 := by omega
      go_wp2
      go_ret
      exact ⟨⟨_, rfl, unhide HO⟩, hb⟩
set_option maxRecDepth 100000 in
theorem active_any (B g : Nat) (R : Rgs) (w : World) (hR : RegAt w B g R) :
    Calls Tryz.prog 44 #[.pointer (some ⟨g, 0, none⟩)] w fun e w' => (∃ d, e = .returned d ∧ Gr.InOwn w' w.heap.size d (whoTo (isHr R) 12)) ∧ Below w.heap.size w w' := by
  have TH := hide (thatHere_any B g R w hR)
  have hmf : ∀ (fn : Fn) (first cap : Array Value) (w : World), (Instr.makeFunc fn first cap).run Tryz.prog w = .ok (.func fn first cap) w := fun _ _ _ _ => rfl
  clear hR
  go_enter Tryz.func44, Tryz.ntmps44
  go_wp2_with fail
  refine (unhide TH).mono ?_
  rintro e w2 ⟨⟨d, rfl, hd⟩, hb2⟩
  go_wp2
  go_ret
  exact ⟨⟨_, rfl, hd⟩, hb2⟩
end Rg
namespace Gr
open Go.RowKit
theorem implStateOk_gen (B : Nat) (v : Value) (Q : List (ByteArray × ByteArray)) (h1 : pasize Q ≤ 1048576) (w : World) (hB : B ≤ w.heap.size) (ht : Rg.Tab w.heap.size w) (hv : PaAt w v B Q) :
    Calls Tryz.prog 53 #[v] w fun e w' => e = .returned (.bool (Rg.stateOk Q)) ∧ Below w.heap.size w w' := by
  obtain ⟨a, c, rfl, hQ, _⟩ := hv
  have RG := hide (Rg.register_any a Q.length c B Q (pasize_le h1).1 w hB ht hQ)
  rw [Rg.reg_is] at RG
  go_enter Tryz.func53, Tryz.ntmps53
  go_wp2_with fail
  refine (unhide RG).mono ?_
  rintro e w1 ⟨⟨R, rfl, hR, _⟩, hb1⟩
  go_wp2
  go_ret
  exact ⟨rfl, hb1⟩
set_option maxRecDepth 100000 in
set_option maxHeartbeats 2000000 in
theorem implActive_gen (B : Nat) (v : Value) (Q : List (ByteArray × ByteArray)) (h1 : pasize Q ≤ 1048576) (w : World) (hB : B ≤ w.heap.size) (ht : Rg.Tab w.heap.size w) (hv : PaAt w v B Q) :
    Calls Tryz.prog 19 #[v] w fun e w' => (∃ d, e = .returned d ∧ InOwn w' w.heap.size d (idsHere Q)) ∧ Below w.heap.size w w' := by
  obtain ⟨a, c, rfl, hQ, _⟩ := hv
  have RG := hide (Rg.register_any a Q.length c B Q (pasize_le h1).1 w hB ht hQ)
  rw [Rg.reg_is] at RG
  have hX : idsHere Q = if Rg.stateOk Q = true then Rg.idsP [97] Q else [] := rfl
  have HRI := hide (fun h => Rg.reg_inv (Q := Q) h)
  have HID : Hid (∀ R, Rg.regFold Rg.R0 Q = some R → Rg.stateOk Q = true → Rg.idsP [97] Q = Rg.whoTo (Rg.isHr R) 12) := fun R hf hst => by
    obtain ⟨R', hf', I, ha, _⟩ := Rg.reg_inv hst
    rw [hf] at hf'
    cases hf'
    exact Rg.here_is I ha
  generalize idsHere Q = X at hX
  generalize Rg.stateOk Q = st at RG hX HRI HID
  clear hQ ht
  go_enter Tryz.func19, Tryz.ntmps19
  go_wp2_with fail
  refine (unhide RG).mono ?_
  rintro e w1 ⟨⟨R, rfl, hR, hf⟩, hb1⟩
  cases st with
  | false =>
    rw [if_neg (by simp)] at hX
    subst hX
    go_wp2
    go_ret
    exact ⟨⟨_, rfl, rfl, .inl ⟨rfl, rfl⟩⟩, hb1⟩
  | true =>
    have hXe : X = Rg.whoTo (Rg.isHr R) 12 := by rw [hX, if_pos rfl]; exact unhide HID R (hf rfl) rfl
    subst hXe
    have AC := hide (Rg.active_any w.heap.size w.heap.size R w1 hR)
    clear hR hf hX
    go_wp2_with fail
    refine (unhide AC).mono ?_
    rintro e w2 ⟨⟨d, rfl, hd⟩, hb2⟩
    have hd' := Gr.own_lower hb1.size hd
    go_wp2
    go_ret
    exact ⟨⟨_, rfl, hd'⟩, hb1.trans (hb2.mono hb1.size)⟩
set_option maxRecDepth 100000 in
set_option maxHeartbeats 2000000 in
theorem implIds_gen (B : Nat) (v : Value) (Q : List (ByteArray × ByteArray)) (h1 : pasize Q ≤ 1048576) (w : World) (hB : B ≤ w.heap.size) (ht : Rg.Tab w.heap.size w) (hv : PaAt w v B Q) :
    Calls Tryz.prog 12 #[v] w fun e w' => (∃ d, e = .returned d ∧ InOwn w' w.heap.size d (idsAll Q)) ∧ Below w.heap.size w w' := by
  obtain ⟨a, c, rfl, hQ, _⟩ := hv
  have RG := hide (Rg.register_any a Q.length c B Q (pasize_le h1).1 w hB ht hQ)
  rw [Rg.reg_is] at RG
  have hX : idsAll Q = if Rg.stateOk Q = true then Rg.idsP [] Q else [] := rfl
  have HID : Hid (∀ R, Rg.regFold Rg.R0 Q = some R → Rg.stateOk Q = true → Rg.idsP [] Q = Rg.whoTo (Rg.isIn R) 12) := fun R hf hst => by
    obtain ⟨R', hf', I, ha, _⟩ := Rg.reg_inv hst
    rw [hf] at hf'
    cases hf'
    exact Rg.ids_is I ha
  generalize idsAll Q = X at hX
  generalize Rg.stateOk Q = st at RG hX HID
  clear hQ ht
  go_enter Tryz.func12, Tryz.ntmps12
  go_wp2_with fail
  refine (unhide RG).mono ?_
  rintro e w0 ⟨⟨R, rfl, hR, hf⟩, hb0⟩
  cases st with
  | false =>
    rw [if_neg (by simp)] at hX
    subst hX
    go_wp2
    go_ret
    exact ⟨⟨_, rfl, rfl, .inl ⟨rfl, rfl⟩⟩, hb0⟩
  | true =>
    have hXe : X = Rg.whoTo (Rg.isIn R) 12 := by rw [hX, if_pos rfl]; exact unhide HID R (hf rfl) rfl
    subst hXe
    have TH := hide (Rg.thatJoined_any w.heap.size w.heap.size R w0 hR)
    have hmf : ∀ (fn : Fn) (first cap : Array Value) (w : World), (Instr.makeFunc fn first cap).run Tryz.prog w = .ok (.func fn first cap) w := fun _ _ _ _ => rfl
    clear hR hf hX
    go_wp2_with fail
    refine (unhide TH).mono ?_
    rintro e w2 ⟨⟨d, rfl, hd⟩, hb2⟩
    have hd' := Gr.own_lower hb0.size hd
    go_wp2
    go_ret
    exact ⟨⟨_, rfl, hd'⟩, hb0.trans (hb2.mono hb0.size)⟩
end Gr
end Go.Proofs.YtihnaddfpmjpaaaGreatDoor
namespace Go.Proofs.YtihnaddfpmjpaaaGreatDoor
namespace Rg
open Go.RowKit
open Gr (Blk EdgeI GBox GrOwn edgesV Kept)
def linkE (R : Rgs) (x y : Int) (a b : Nat) : List EdgeI := match R.lnk x.toNat y.toNat with | none => [] | some t => [⟨(a : Int), (b : Int), (t.1 : Int), (t.2.1 : Int), (t.2.2 : Int)⟩]
def rowL (R : Rgs) (x : Int) (a : Nat) : Nat → List Int → List EdgeI
  | _, [] => []
  | b, y :: r => linkE R x y a b ++ rowL R x a (b + 1) r
def allL (R : Rgs) : Nat → List Int → List EdgeI
  | _, [] => []
  | a, x :: r => rowL R x a (a + 1) r ++ allL R (a + 1) r
theorem rowL_step (R : Rgs) (x : Int) (a : Nat) (P : List Int) (j : Nat) (h : j < P.length) : rowL R x a j (P.drop j) = linkE R x P[j] a j ++ rowL R x a (j + 1) (P.drop (j + 1)) := by
  rw [List.drop_eq_getElem_cons h, rowL]
theorem allL_step (R : Rgs) (P : List Int) (i : Nat) (h : i < P.length) : allL R i (P.drop i) = rowL R P[i] i (i + 1) (P.drop (i + 1)) ++ allL R (i + 1) (P.drop (i + 1)) := by
  rw [List.drop_eq_getElem_cons h, allL]
theorem linkE_is {Q : PL} {R : Rgs} (I : Inv Q R) (x y : Int) (hx : 0 ≤ x) (hxy : x < y) (hy : y < 12) (a b : Nat) : (match getP Q (ek x y) with | none => [] | some v => [edgeV a b v]) = linkE R x y a b := by
  have h := I.e x.toNat y.toNat (by omega) (by omega)
  change R.lnk x.toNat y.toNat = (getP Q (ek x y)).map bytes3 at h
  unfold linkE
  rw [h]
  cases getP Q (ek x y) <;> rfl
theorem row_is {Q : PL} {R : Rgs} (I : Inv Q R) (x : Int) (hx : 0 ≤ x) (a : Nat) : ∀ (P : List Int) (b : Nat), (∀ y ∈ P, x < y ∧ y < 12) → rowE Q x a b P = rowL R x a b P
  | [], b, _ => rfl
  | y :: r, b, h => by
    have hy := h y (by simp)
    rw [rowE, rowL, row_is I x hx a r (b + 1) (fun z hz => h z (by simp [hz])), ← linkE_is I x y hx hy.1 hy.2 a b]
    rfl
theorem all_is {Q : PL} {R : Rgs} (I : Inv Q R) : ∀ (P : List Int) (a : Nat), P.Pairwise (· < ·) → (∀ y ∈ P, 0 ≤ y ∧ y < 12) → allE Q a P = allL R a P
  | [], a, _, _ => rfl
  | x :: r, a, hp, h => by
    have h2 := List.pairwise_cons.1 hp
    rw [allE, allL, all_is I r (a + 1) h2.2 (fun y hy => h y (by simp [hy])), row_is I x (h x (by simp)).1 a r (a + 1) (fun y hy => ⟨h2.1 y hy, (h y (by simp [hy])).2⟩)]
theorem rowL_short (R : Rgs) (x : Int) (a : Nat) : ∀ (P : List Int) (b : Nat), (rowL R x a b P).length ≤ P.length
  | [], b => by simp [rowL]
  | y :: r, b => by
    have := rowL_short R x a r (b + 1)
    rw [rowL, List.length_append, List.length_cons]
    unfold linkE
    split <;> simp <;> omega
theorem allL_short (R : Rgs) : ∀ (P : List Int) (a : Nat), (allL R a P).length ≤ P.length * P.length
  | [], a => by simp [allL]
  | x :: r, a => by
    have h1 := allL_short R r (a + 1)
    have h2 := rowL_short R x a r (a + 1)
    rw [allL, List.length_append, List.length_cons, Nat.add_mul, Nat.mul_add]
    omega
theorem enterEdgeOf (vs : Array Value) (w : World) : (callFunc 82 vs).run Tryz.prog w = .ok (.enter 82 vs) w := by kernel_rfl
theorem news5 (W : World) (a b c d e : Int) (t : TypeId) : ∀ j u, [Value.int .i64 a, Value.int .i64 b, Value.int .i64 c, Value.int .i64 d, Value.int .i64 e][j]? = some u → (W.alloc (Obj.cells #[.int .i64 a, .int .i64 b, .int .i64 c, .int .i64 d, .int .i64 e] t)).cell? ((⟨W.heap.size, 0, none⟩ : Addr).add j) = some u :=
  World.news_of_block (heap_alloc_new W (Obj.cells #[.int .i64 a, .int .i64 b, .int .i64 c, .int .i64 d, .int .i64 e] t))
theorem five_one (a b c d e : Int) : ∀ u ∈ [Value.int .i64 a, Value.int .i64 b, Value.int .i64 c, Value.int .i64 d, Value.int .i64 e], u.oneCell' = true := by
  intro u hu
  simp at hu
  rcases hu with rfl | rfl | rfl | rfl | rfl <;> rfl
set_option maxRecDepth 100000 in
set_option maxHeartbeats 8000000 in
theorem graphOf_any (B g : Nat) (R : Rgs) (ap : Option Addr) (cp : Nat) (P : List Int) (hP : P.length ≤ 12) (hp : ∀ x ∈ P, 0 ≤ x ∧ x < 12) (w : World) (hR : RegAt w B g R) (hI : IntsAt w ap P.length w.heap.size P) :
    Calls Tryz.prog 46 #[.pointer (some ⟨g, 0, none⟩), .slice ap P.length cp] w fun e w' => (∃ d, e = .returned d ∧ GrOwn w' w.heap.size d (P.length : Int) (allL R 0 P)) ∧ Below w.heap.size w w' := by
  obtain ⟨ie, hie, ez0, ez1, ez2⟩ := info_parts Gr.infoEdge
  have HR := hide hR
  have hg := hR.lt
  have HC := hide hI.2
  have HPB := hide hp
  have HRS := hide (fun x a j h => rowL_step R x a P j h)
  have HAS := hide (fun i h => allL_step R P i h)
  obtain ⟨E, hE⟩ : ∃ E, E = allL R 0 P := ⟨_, rfl⟩
  have HEL : Hid (E.length ≤ 144) := by show _ ≤ _; rw [hE]; exact Nat.le_trans (allL_short R P 0) (Nat.mul_le_mul hP hP)
  have HE0 : Hid (E = [] ++ allL R 0 (P.drop 0)) := hE
  rw [← hE]
  clear hE hR hI hp
  have HG0 : Hid (GE w ((w.alloc (Obj.cells #[.int .i64 0, .slice none 0 0] 35)).alloc (Obj.cells #[.int .i64 ((P.length : Nat) : Int), .slice none 0 0] 35)) ((P.length : Nat) : Int) []) := by
    refine ⟨(Gr.below_new _ _).alloc (by simp) _, ?_, none, 0, ?_, ⟨rfl, .inl ⟨rfl, rfl⟩⟩⟩
    · exact Gr.Blk.new0.alloc
    · exact Gr.Blk.new1
  go_enter Tryz.func46, Tryz.ntmps46
  go_wp2_with fail
  go_loopw [15] (fun i wr => ∃ (k : Nat) (out : List EdgeI), i = .int .i64 (k : Int) ∧ k ≤ P.length ∧ Hid (E = out ++ allL R k (P.drop k)) ∧ Hid (GE w wr ((P.length : Nat) : Int) out)) (fun i _ => P.length - (intOf i).toNat)
  case atStart => exact ⟨0, [], rfl, Nat.zero_le _, unhide HE0, unhide HG0⟩
  case round =>
    obtain ⟨k, out0, rfl, hk, HEK, HGK⟩ := hrel
    by_cases hlt : k < P.length
    · obtain ⟨b, off, rfl, hbB, dk⟩ := unhide HC k hlt
      rw [← (unhide HGK).1.cell (p := ⟨b, off + k, none⟩) hbB] at dk
      have hki : (k : Int) < ((P.length : Nat) : Int) := by omega
      have hpk := unhide HPB _ (List.getElem_mem hlt)
      have HEK2 := hide ((unhide HEK).trans (by rw [unhide HAS k hlt]))
      have HRK := hide (fun j h => unhide HRS P[k] k j h)
      generalize P[k] = x at dk hpk HEK2 HRK
      obtain ⟨p, rfl⟩ := Int.eq_ofNat_of_zero_le hpk.1
      obtain ⟨wq, hwq⟩ : ∃ W, W = wr := ⟨_, rfl⟩
      subst hwq
      have HEI : Hid (E = out0 ++ rowL R (p : Int) k (k + 1) (P.drop (k + 1)) ++ allL R (k + 1) (P.drop (k + 1))) := by show _ = _; rw [List.append_assoc]; exact unhide HEK2
      clear HEK2 HEK
      go_wp2_with fail
      go_loopw [8] (fun i wr => ∃ (j : Nat) (out : List EdgeI), i = .int .i64 (j : Int) ∧ k + 1 ≤ j ∧ j ≤ P.length ∧ Hid (E = out ++ rowL R (p : Int) k j (P.drop j) ++ allL R (k + 1) (P.drop (k + 1))) ∧ Hid (GE w wr ((P.length : Nat) : Int) out)) (fun i _ => P.length - (intOf i).toNat)
      case atStart => exact ⟨k + 1, out0, by go_num, Nat.le_refl _, by omega, unhide HEI, unhide HGK⟩
      case round =>
        obtain ⟨j, out, rfl, hj1, hj, HEJ, HGJ⟩ := hrel
        by_cases hltj : j < P.length
        · obtain ⟨b', off', e', hbB', dj⟩ := unhide HC j hltj
          simp only [Option.some.injEq, Addr.mk.injEq, and_true] at e'
          obtain ⟨rfl, rfl⟩ := e'
          rw [← (unhide HGJ).1.cell (p := ⟨b, off + j, none⟩) hbB'] at dj
          have hji : (j : Int) < ((P.length : Nat) : Int) := by omega
          have hpj := unhide HPB _ (List.getElem_mem hltj)
          have HEJ2 := hide ((unhide HEJ).trans (by rw [unhide HRK j hltj]))
          generalize P[j] = y at dj hpj HEJ2
          obtain ⟨q, rfl⟩ := Int.eq_ofNat_of_zero_le hpj.1
          have hp12 : p < 12 := by omega
          have hq12 : q < 12 := by omega
          have hpi : (p : Int) < 12 := hpk.2
          have hqi : (q : Int) < 12 := hpj.2
          have hRw := (unhide HR).below ((unhide HGJ).1)
          have c0 := hRw.link p q hp12 hq12 0 (by omega)
          have c1 := hRw.link p q hp12 hq12 1 (by omega)
          have c2 := hRw.link p q hp12 hq12 2 (by omega)
          have c3 := hRw.link p q hp12 hq12 3 (by omega)
          rw [Nat.add_zero] at c0
          have hgw : g < wr.heap.size := Nat.lt_of_lt_of_le hg.2 (unhide HGJ).1.size
          have hbw : b < wr.heap.size := Nat.lt_of_lt_of_le hbB' (unhide HGJ).1.size
          have aj := ((Gr.below_new wr (Obj.cells #[.bool false, .int .i64 0, .int .i64 0, .int .i64 0] 86)).cell (p := ⟨b, off + j, none⟩) hbw).trans dj
          have hle : linkE R (p : Int) (q : Int) k j = match R.lnk p q with | none => [] | some t => [⟨(k : Int), (j : Int), (t.1 : Int), (t.2.1 : Int), (t.2.2 : Int)⟩] := rfl
          rw [hle] at HEJ2
          clear hle hRw HEJ
          cases ho : R.lnk p q with
          | none =>
            rw [ho] at c0 c1 c2 c3 HEJ2
            simp only [linkCell, if_true, if_neg (show ¬ (1 : Nat) = 0 by omega), if_neg (show ¬ (2 : Nat) = 0 by omega), if_neg (show ¬ (3 : Nat) = 0 by omega)] at c0 c1 c2 c3
            have HEJ3 : Hid (E = out ++ rowL R (p : Int) k (j + 1) (P.drop (j + 1)) ++ allL R (k + 1) (P.drop (k + 1))) := by show _ = _; rw [unhide HEJ2]; simp
            clear ho HEJ2
            have a0 := ((Gr.below_new wr (Obj.cells #[.bool false, .int .i64 0, .int .i64 0, .int .i64 0] 86)).cell (p := ⟨g, 24 + p * 48 + q * 4, none⟩) hgw).trans c0
            have a1 := ((Gr.below_new wr (Obj.cells #[.bool false, .int .i64 0, .int .i64 0, .int .i64 0] 86)).cell (p := ⟨g, 24 + p * 48 + q * 4 + 1, none⟩) hgw).trans c1
            have a2 := ((Gr.below_new wr (Obj.cells #[.bool false, .int .i64 0, .int .i64 0, .int .i64 0] 86)).cell (p := ⟨g, 24 + p * 48 + q * 4 + 2, none⟩) hgw).trans c2
            have a3 := ((Gr.below_new wr (Obj.cells #[.bool false, .int .i64 0, .int .i64 0, .int .i64 0] 86)).cell (p := ⟨g, 24 + p * 48 + q * 4 + 3, none⟩) hgw).trans c3
            go_wp2_with fail
            go_region
            go_wp2_with fail
            exact ⟨⟨j + 1, out, by go_num, by omega, by omega, unhide HEJ3, (unhide HGJ).below ((Gr.below_new wr _).drew)⟩, by simp [intOf]; omega⟩
          | some t =>
            obtain ⟨t1, t2, t3⟩ := t
            rw [ho] at c0 c1 c2 c3 HEJ2
            simp only [linkCell, if_true, if_neg (show ¬ (1 : Nat) = 0 by omega), if_neg (show ¬ (2 : Nat) = 0 by omega), if_neg (show ¬ (3 : Nat) = 0 by omega), if_neg (show ¬ (2 : Nat) = 1 by omega), if_neg (show ¬ (3 : Nat) = 1 by omega), if_neg (show ¬ (3 : Nat) = 2 by omega)] at c0 c1 c2 c3
            have HEJ3 : Hid (E = (out ++ [⟨(k : Int), (j : Int), (t1 : Int), (t2 : Int), (t3 : Int)⟩]) ++ rowL R (p : Int) k (j + 1) (P.drop (j + 1)) ++ allL R (k + 1) (P.drop (k + 1))) := by show _ = _; rw [unhide HEJ2]; simp
            have hol : out.length ≤ 144 := by
              have h1 := unhide HEL
              rw [unhide HEJ2, List.length_append, List.length_append] at h1
              omega
            clear ho HEJ2
            have a0 := ((Gr.below_new wr (Obj.cells #[.bool false, .int .i64 0, .int .i64 0, .int .i64 0] 86)).cell (p := ⟨g, 24 + p * 48 + q * 4, none⟩) hgw).trans c0
            have a1 := ((Gr.below_new wr (Obj.cells #[.bool false, .int .i64 0, .int .i64 0, .int .i64 0] 86)).cell (p := ⟨g, 24 + p * 48 + q * 4 + 1, none⟩) hgw).trans c1
            have a2 := ((Gr.below_new wr (Obj.cells #[.bool false, .int .i64 0, .int .i64 0, .int .i64 0] 86)).cell (p := ⟨g, 24 + p * 48 + q * 4 + 2, none⟩) hgw).trans c2
            have a3 := ((Gr.below_new wr (Obj.cells #[.bool false, .int .i64 0, .int .i64 0, .int .i64 0] 86)).cell (p := ⟨g, 24 + p * 48 + q * 4 + 3, none⟩) hgw).trans c3
            go_wp2_with fail
            go_region
            obtain ⟨W, hW⟩ : ∃ W, W = (wr.alloc (Obj.cells #[.bool true, .int .i64 (t1 : Int), .int .i64 (t2 : Int), .int .i64 (t3 : Int)] 86)).drew := ⟨_, rfl⟩
            rw [← hW]
            have mW : Blk W wr.heap.size #[.bool true, .int .i64 (t1 : Int), .int .i64 (t2 : Int), .int .i64 (t3 : Int)] 86 := by rw [hW]; exact Gr.Blk.new0.drew
            have gW : GE w W ((P.length : Nat) : Int) out := by rw [hW]; exact (unhide HGJ).below ((Gr.below_new wr _).drew)
            have hzw : wr.heap.size < W.heap.size := mW.lt
            have k0 : W.cell? ⟨wr.heap.size, 0, none⟩ = some (.bool true) := mW.cell 0 _ rfl
            have k1 : W.cell? ⟨wr.heap.size, 1, none⟩ = some (.int .i64 (t1 : Int)) := mW.cell 1 _ rfl
            have k2 : W.cell? ⟨wr.heap.size, 2, none⟩ = some (.int .i64 (t2 : Int)) := mW.cell 2 _ rfl
            have k3 : W.cell? ⟨wr.heap.size, 3, none⟩ = some (.int .i64 (t3 : Int)) := mW.cell 3 _ rfl
            obtain ⟨gb, g0, A, C, g1, g2⟩ := gW
            have HG0 := hide g0
            have HU := hide g1
            have HOE := hide g2
            have HBW := hide gb
            have y1 := g1.cells.2
            have hlt1 := g1.lt
            have HOD := hide g2.drew
            have hne : (Value.slice A out.length C).ownBlock ≠ some (w.heap.size + 1) := fun e => by have := (g2.lt _ e).1; omega
            have hjm : out.length + 1 ≤ maxLen := by unfold maxLen; omega
            have HEO := hide (fun w1 => Gr.edgeOf_any (k : Int) (j : Int) (t1 : Int) (t2 : Int) (t3 : Int) w1)
            unfold EdgeI.v Gr.w3 at HEO
            simp only at HEO
            generalize hol2 : out.length = l at *
            have HOL := hide hol2
            clear hol2 hW mW gb g0 g1 g2 a0 a1 a2 a3 c0 c1 c2 c3 aj dj dk HGJ
            go_wp2_with fail
            go_region_law
              (first
                | (refine step_call (by rfl) 82 _ _ (by rfl) #[.int .i64 (k : Int), .int .i64 (j : Int), .agg #[.int .i64 (t1 : Int), .int .i64 (t2 : Int), .int .i64 (t3 : Int)]] (by first | rfl | (simp [Act.eval]; done) | (simp [Act.put]; done)) enterEdgeOf _ (unhide HEO _) ?_; rintro e w13 ⟨rfl, hb13⟩; refine ⟨_, rfl, ?_⟩; have hown13 := Gr.own_below (unhide HOD) hb13; have HU13 := hide ((unhide HU).below ((Below.refl _ _).drew.trans hb13)); have s0 := (unhide HU13).cells.2; have hlt2 := (unhide HU13).lt; have s1 := ((Gr.below_new w13 (Obj.cells #[.int .i64 (k : Int), .int .i64 (j : Int), .int .i64 (t1 : Int), .int .i64 (t2 : Int), .int .i64 (t3 : Int)] 106)).cell (p := ⟨w.heap.size + 1, 1, none⟩) hlt2).trans s0; have hb01 : Below W.heap.size W w13 := (Below.refl _ _).drew.trans hb13)
                | (refine step_append_lies _ (by rfl) _ _ _ (by rfl) (w.heap.size + 2) 106 ie _ 5 40 Tryz.underlying33 hie ez0 ez1 ez2 rfl (by omega) (.slice A l C) l (edgesV out) (by show _ = _; kernel_rfl) (by first | exact hown13.alloc _ | exact (hown13.alloc _).drew) ⟨w13.heap.size, 0, none⟩ 1 1 [.int .i64 (k : Int), .int .i64 (j : Int), .int .i64 (t1 : Int), .int .i64 (t2 : Int), .int .i64 (t3 : Int)] (by show _ = _; kernel_rfl) (by rfl) (news5 _ _ _ _ _ _ _) (five_one _ _ _ _ _) (by omega) hjm (by omega) (by have := hb01.size; simp; omega) (w13.heap.size + 1) (by simp) ?_; intro ge cap w14 hown14 hgrow14 hat14 hlt14; have HU14 := hide (((unhide HU13).below (Gr.below_new w13 (Obj.cells #[.int .i64 (k : Int), .int .i64 (j : Int), .int .i64 (t1 : Int), .int .i64 (t2 : Int), .int .i64 (t3 : Int)] 106))).kept (Gr.Kept.of_grown hgrow14) (fun e => hne e)); have q0 := (unhide HU14).cells.2; have qf := (unhide HU14).froz 1))
            all_goals
              have hsn : edgesV out ++ [.int .i64 (k : Int), .int .i64 (j : Int), .int .i64 (t1 : Int), .int .i64 (t2 : Int), .int .i64 (t3 : Int)] = edgesV (out ++ [⟨(k : Int), (j : Int), (t1 : Int), (t2 : Int), (t3 : Int)⟩]) := (Gr.edgesV_snoc out ⟨(k : Int), (j : Int), (t1 : Int), (t2 : Int), (t3 : Int)⟩).symm
              rw [hsn] at hown14
              have hk14 := Gr.Kept.of_grown hgrow14
              have hk15 : Kept (fun i => i = w.heap.size + 1) w14 (w14.setCell ⟨w.heap.size + 1, 1, none⟩ (.slice (some ⟨ge, 0, none⟩) (l + 1) cap)) := Gr.Kept.set (S := fun i => i = w.heap.size + 1) _ _ _ _ rfl
              have bA : Below W.heap.size W (w13.alloc (Obj.cells #[.int .i64 (k : Int), .int .i64 (j : Int), .int .i64 (t1 : Int), .int .i64 (t2 : Int), .int .i64 (t3 : Int)] 106)) := hb01.alloc hb01.size _
              have hown14' := hk15.own hown14 (fun g' hg' e => by have := (hown14.lt g' hg').1; omega)
              have hbF : Below w.heap.size w (w14.setCell ⟨w.heap.size + 1, 1, none⟩ (.slice (some ⟨ge, 0, none⟩) (l + 1) cap)) := (((unhide HBW).trans (bA.mono (unhide HBW).size)).trans (hk14.below (by have := bA.size; have := (unhide HBW).size; omega) (fun i hi => by have := ((hown13.alloc (Obj.cells #[.int .i64 (k : Int), .int .i64 (j : Int), .int .i64 (t1 : Int), .int .i64 (t2 : Int), .int .i64 (t3 : Int)] 106)).lt i hi).1; omega))).trans (hk15.below (by have := bA.size; have := (unhide HBW).size; have := hk14.2.2.2.1; omega) (fun i hi => by omega))
              have g0F : GBox (w14.setCell ⟨w.heap.size + 1, 1, none⟩ (.slice (some ⟨ge, 0, none⟩) (l + 1) cap)) w.heap.size 0 (.slice none 0 0) := (((unhide HG0).below bA).kept hk14 (fun e => by have := ((hown13.alloc (Obj.cells #[.int .i64 (k : Int), .int .i64 (j : Int), .int .i64 (t1 : Int), .int .i64 (t2 : Int), .int .i64 (t3 : Int)] 106)).lt _ e).1; omega)).kept hk15 (by omega)
              have HGF : Hid (GE w (w14.setCell ⟨w.heap.size + 1, 1, none⟩ (.slice (some ⟨ge, 0, none⟩) (l + 1) cap)) ((P.length : Nat) : Int) (out ++ [⟨(k : Int), (j : Int), (t1 : Int), (t2 : Int), (t3 : Int)⟩])) := by
                have hl1 : (out ++ [(⟨(k : Int), (j : Int), (t1 : Int), (t2 : Int), (t3 : Int)⟩ : EdgeI)]).length = l + 1 := by rw [List.length_append, unhide HOL]; rfl
                refine ⟨hbF, g0F, some ⟨ge, 0, none⟩, cap, ?_, ?_⟩
                · rw [hl1]; exact (unhide HU14).one _
                · rw [hl1]; exact hown14'
              clear hown14 hgrow14 hat14 hb01 hown13 s0 s1 q0 qf hlt14 hb13 HU14 HU13 HOD HOE HU hne hjm hk15 hk14 hsn hown14' hbF g0F bA HG0
              go_wp2_with fail
              exact ⟨⟨j + 1, _, by go_num, by omega, by omega, unhide HEJ3, unhide HGF⟩, by simp [intOf]; omega⟩
        · obtain hjl : j = P.length := by omega
          have HEF : Hid (E = out ++ allL R (k + 1) (P.drop (k + 1))) := by
            show _ = _
            have := unhide HEJ
            rw [List.drop_eq_nil_of_le (show P.length ≤ j by omega)] at this
            simpa [rowL] using this
          have hji : ¬ (j : Int) < ((P.length : Nat) : Int) := by omega
          clear HEJ
          go_wp2_with fail
          exact ⟨⟨k + 1, out, by go_num, by omega, unhide HEF, unhide HGJ⟩, by simp [intOf]; omega⟩
    · have hEF : E = out0 := by
        have := unhide HEK
        rw [List.drop_eq_nil_of_le (show P.length ≤ k by omega)] at this
        simpa [allL] using this
      subst hEF
      have hki : ¬ (k : Int) < ((P.length : Nat) : Int) := by omega
      obtain ⟨gb, g0, A, C, g1, g2⟩ := unhide HGK
      obtain ⟨r0, r1⟩ := g1.cells
      obtain ⟨q0, q1⟩ := g0.cells
      have qf := g0.froz
      have hl := g0.lt
      have hk : Kept (fun i => i = w.heap.size) wr ((wr.setCell ⟨w.heap.size, 0, none⟩ (.int .i64 ((P.length : Nat) : Int))).setCell ⟨w.heap.size, 1, none⟩ (.slice A E.length C)) := Gr.Kept.trans (S := fun i => i = w.heap.size) (Gr.Kept.set (S := fun i => i = w.heap.size) _ _ _ _ rfl) (Gr.Kept.set (S := fun i => i = w.heap.size) _ _ _ _ rfl)
      have HF1 := hide (g0.two ((P.length : Nat) : Int) (.slice A E.length C))
      have HF2 := hide (gb.trans (hk.below gb.size (fun i hi => by omega)))
      have HF3 := hide (Gr.own_lower (show w.heap.size ≤ w.heap.size + 2 by omega) (hk.own g2 (fun g' hg' e => by have := (g2.lt g' hg').1; omega)))
      clear gb g0 g1 g2 hk HGK
      go_wp2
      (try simp only [Exit.inBlock, Exit.then])
      refine bodyPost_ret (Gr.results_rd1 Tryz.results46 _ _ _ _ _ rfl (Gr.load_graph (unhide HF1))) rfl ?_
      exact ⟨⟨_, rfl, _, rfl, unhide HF3⟩, unhide HF2⟩
end Rg
end Go.Proofs.YtihnaddfpmjpaaaGreatDoor
namespace Go.Proofs.YtihnaddfpmjpaaaGreatDoor
namespace Gr
open Go.RowKit
theorem results_pool2 {fn : Func} {s p u : Tmp} (h : fn.results = #[.tmp s, .cell p 35, .tmp u]) (tmps : Array Value) (w : World) (g : Nat) (n : Int) (b : Value) (hp : tmps.getD p undef = .pointer (some ⟨g, 0, none⟩)) (hg : GBox w g n b) :
    (results fn tmps).run Tryz.prog w = .ok (.tuple #[tmps.getD s undef, .agg #[.int .i64 n, b], tmps.getD u undef]) w := Rg.results_pool h tmps w g n b hp hg
set_option maxRecDepth 100000 in
set_option maxHeartbeats 4000000 in
theorem implPool_gen (B : Nat) (v : Value) (Q : List (ByteArray × ByteArray)) (h1 : pasize Q ≤ 1048576) (w : World) (hB : B ≤ w.heap.size) (ht : Rg.Tab w.heap.size w) (hv : PaAt w v B Q) :
    Calls Tryz.prog 21 #[v] w fun e w' => (∃ d dg, e = .returned (.tuple #[d, dg, .bool (Rg.poolOkR Q)]) ∧ InOwn w' w.heap.size d (Rg.poolIds Q) ∧ GrOwn w' w.heap.size dg ((Rg.poolIds Q).length : Int) (Rg.poolE Q)) ∧ Below w.heap.size w w' := by
  obtain ⟨a, c, rfl, hQ, _⟩ := hv
  have RG := hide (fun w1 (hb : Below w.heap.size w w1) => Rg.register_any a Q.length c B Q (pasize_le h1).1 w1 (by have := hb.size; omega) ((ht.below hb).mono hb.size) (hQ.below hb hB))
  rw [Rg.reg_is] at RG
  have hOK : Rg.poolOkR Q = (Rg.stateOk Q && decide ((Rg.idsP [97] Q).length ≤ 9)) := rfl
  have hPI : Rg.poolIds Q = if Rg.poolOkR Q = true then Rg.idsP [97] Q else [] := rfl
  have hPE : Rg.poolE Q = if Rg.poolOkR Q = true then Rg.allE Q 0 (Rg.idsP [97] Q) else [] := rfl
  have HID : Hid (∀ R, Rg.regFold Rg.R0 Q = some R → Rg.stateOk Q = true → Rg.idsP [97] Q = Rg.whoTo (Rg.isHr R) 12 ∧ Rg.allE Q 0 (Rg.whoTo (Rg.isHr R) 12) = Rg.allL R 0 (Rg.whoTo (Rg.isHr R) 12)) := fun R hf hst => by
    obtain ⟨R', hf', I, ha, _⟩ := Rg.reg_inv hst
    rw [hf] at hf'
    cases hf'
    exact ⟨Rg.here_is I ha, Rg.all_is I _ 0 (Rg.who_asc _ _) (Rg.who_range _)⟩
  generalize Rg.poolIds Q = PI at hPI
  generalize Rg.poolE Q = PE at hPE
  generalize Rg.poolOkR Q = OK at hOK hPI hPE
  generalize Rg.stateOk Q = st at RG hOK HID
  obtain ⟨V, hV⟩ : ∃ W, W = w.alloc (Obj.cells #[.int .i64 0, .slice none 0 0] 35) := ⟨_, rfl⟩
  have bV : Below w.heap.size w V := by rw [hV]; exact below_new _ _
  have HV : Hid (GBox V w.heap.size 0 (.slice none 0 0)) := by show GBox _ _ _ _; rw [hV]; exact GBox.new _ _ _
  clear hQ ht
  go_enter Tryz.func21, Tryz.ntmps21
  go_wp2_with fail
  rw [← hV]
  clear hV
  refine (unhide RG V bV).mono ?_
  rintro e w1 ⟨⟨R, rfl, hR, hf⟩, hb1⟩
  have y1 := (unhide HV).below hb1
  have b1 := bV.trans (hb1.mono bV.size)
  have AC := hide (Rg.active_any V.heap.size V.heap.size R w1 hR)
  have HRF := hide hR
  have hWS := Rg.who_short (Rg.isHr R) 12
  have HID2 := hide (unhide HID R)
  have HRNG := hide (Rg.who_range (Rg.isHr R))
  have HGO := hide (fun w2 ap cp (hb : Below w1.heap.size w1 w2) (hI : IntsAt w2 ap (Rg.whoTo (Rg.isHr R) 12).length w2.heap.size (Rg.whoTo (Rg.isHr R) 12)) => Rg.graphOf_any V.heap.size V.heap.size R ap cp (Rg.whoTo (Rg.isHr R) 12) (Rg.who_short _ _) (Rg.who_range _) w2 (hR.below hb) hI)
  have HFF := hide hf
  clear hR hf HID
  generalize Rg.whoTo (Rg.isHr R) 12 = P at AC hWS HID2 HRNG HGO
  go_wp2_with fail
  refine (unhide AC).mono ?_
  rintro e w2 ⟨⟨d, rfl, hd⟩, hb2⟩
  have y2 := y1.below hb2
  have b2 := b1.trans (hb2.mono b1.size)
  obtain ⟨ap, cp, rfl, hI⟩ := hd.at
  have HD := hide hd
  have hzV : w.heap.size < w1.heap.size := y1.lt
  clear y1
  by_cases hok : (st && decide (P.length ≤ 9)) = true
  · rw [Bool.and_eq_true, decide_eq_true_eq] at hok
    obtain ⟨hst, h9⟩ := hok
    subst hst
    obtain ⟨i1, i2⟩ := unhide HID2 (unhide HFF rfl) rfl
    rw [i1] at hOK hPI hPE
    rw [decide_eq_true h9, Bool.true_and] at hOK
    subst hOK
    rw [if_pos rfl] at hPI hPE
    rw [i2] at hPE
    subst hPI
    have h9i : ¬ (9 : Int) < ((PI.length : Nat) : Int) := by omega
    have GO := hide (unhide HGO w2 ap cp hb2 hI)
    obtain ⟨E, hE⟩ : ∃ E, E = Rg.allL R 0 PI := ⟨_, rfl⟩
    rw [← hE] at hPE GO
    subst hPE
    clear i1 i2 HID2 HFF HGO hI hE
    go_wp2_with fail
    refine (unhide GO).mono ?_
    rintro e w3 ⟨⟨dg, rfl, hG⟩, hb3⟩
    obtain ⟨vg, rfl, hgo⟩ := hG
    obtain ⟨ag, cg, rfl⟩ := Rg.row_shape0 hgo
    have b3 := b2.trans (hb3.mono b2.size)
    have y3 := y2.below hb3
    have o3 := (unhide HD).below hb3
    obtain ⟨q0, q1⟩ := y3.cells
    have qf := y3.froz
    have k3 : Kept (fun k => k = w.heap.size) w3 ((w3.setCell ⟨w.heap.size, 0, none⟩ (.int .i64 (PI.length : Int))).setCell ⟨w.heap.size, 1, none⟩ (.slice ag PE.length cg)) := Kept.trans (S := fun k => k = w.heap.size) (Kept.set (S := fun k => k = w.heap.size) _ _ _ _ rfl) (Kept.set (S := fun k => k = w.heap.size) _ _ _ _ rfl)
    have hz2 := b2.size
    have hzw2 := hb2.size
    have HF1 := hide (InOwn.lower (o3.kept k3 (fun g hg e => by have := ((unhide HD).blk g hg).1; omega)) (show w.heap.size ≤ w1.heap.size by omega))
    have HF2 := hide (own_lower hz2 (k3.own hgo (fun g hg e => by have := (hgo.lt g hg).1; omega)))
    have HF3 := hide (y3.two (PI.length : Int) (.slice ag PE.length cg))
    have HF4 := hide (b3.trans (k3.below b3.size (fun i hi => by omega)))
    clear o3 k3 y3 y2 b3 hgo hb3 HD hd hzw2
    go_wp2
    (try simp only [Exit.inBlock, Exit.then])
    refine bodyPost_ret (results_pool2 Tryz.results21 _ _ w.heap.size _ _ rfl (unhide HF3)) rfl ?_
    exact ⟨⟨_, _, rfl, unhide HF1, ⟨_, rfl, unhide HF2⟩⟩, unhide HF4⟩
  · have hOKf : OK = false ∧ ((st = false) ∨ (st = true ∧ ¬ P.length ≤ 9)) := by
      cases st with
      | false => exact ⟨by rw [hOK, Bool.false_and], .inl rfl⟩
      | true =>
        have i1 := (unhide HID2 (unhide HFF rfl) rfl).1
        have h9 : ¬ P.length ≤ 9 := fun h => hok (by rw [decide_eq_true h]; rfl)
        exact ⟨by rw [hOK, i1, decide_eq_false h9, Bool.and_false], .inr ⟨rfl, h9⟩⟩
    obtain ⟨rfl, hor⟩ := hOKf
    rw [if_neg (by simp)] at hPI hPE
    subst hPI hPE
    obtain ⟨q0, q1⟩ := y2.cells
    have qf := y2.froz
    have HF3 := hide (y2.two 0 (.slice none 0 0))
    have k3 : Kept (fun k => k = w.heap.size) w2 ((w2.setCell ⟨w.heap.size, 0, none⟩ (.int .i64 0)).setCell ⟨w.heap.size, 1, none⟩ (.slice none 0 0)) := Kept.trans (S := fun k => k = w.heap.size) (Kept.set (S := fun k => k = w.heap.size) _ _ _ _ rfl) (Kept.set (S := fun k => k = w.heap.size) _ _ _ _ rfl)
    have HF4 := hide (b2.trans (k3.below b2.size (fun i hi => by omega)))
    clear k3 y2 HGO HID2 hd HD hI hOK hok
    rcases hor with rfl | ⟨rfl, h9⟩
    · go_wp2
      (try simp only [Exit.inBlock, Exit.then])
      refine bodyPost_ret (results_pool2 Tryz.results21 _ _ w.heap.size _ _ rfl (unhide HF3)) rfl ?_
      exact ⟨⟨_, _, rfl, ⟨rfl, .inl ⟨rfl, rfl⟩⟩, ⟨_, rfl, ⟨rfl, .inl ⟨rfl, rfl⟩⟩⟩⟩, unhide HF4⟩
    · have h9i : (9 : Int) < ((P.length : Nat) : Int) := by omega
      go_wp2
      (try simp only [Exit.inBlock, Exit.then])
      refine bodyPost_ret (results_pool2 Tryz.results21 _ _ w.heap.size _ _ rfl (unhide HF3)) rfl ?_
      exact ⟨⟨_, _, rfl, ⟨rfl, .inl ⟨rfl, rfl⟩⟩, ⟨_, rfl, ⟨rfl, .inl ⟨rfl, rfl⟩⟩⟩⟩, unhide HF4⟩
theorem poolIds_len (Q : List (ByteArray × ByteArray)) : (Rg.poolIds Q).length ≤ 9 := by
  unfold Rg.poolIds
  split
  · rename_i h
    unfold Rg.poolOkR at h
    simp only [Bool.and_eq_true, decide_eq_true_eq] at h
    exact h.2
  · simp
theorem poolE_len (Q : List (ByteArray × ByteArray)) : (Rg.poolE Q).length ≤ 81 := by
  unfold Rg.poolE
  split
  · rename_i h
    unfold Rg.poolOkR at h
    simp only [Bool.and_eq_true, decide_eq_true_eq] at h
    exact Nat.le_trans (Rg.allE_short Q _ 0) (Nat.mul_le_mul h.2 h.2)
  · simp
theorem specPool_gen (B : Nat) (v : Value) (Q : List (ByteArray × ByteArray)) (h1 : pasize Q ≤ 1048576) (w : World) (hB : B ≤ w.heap.size) (hv : PaAt w v B Q) :
    Calls Tryz.prog 20 #[v] w fun e w' => (∃ d dg, e = .returned (.tuple #[d, dg, .bool (Rg.poolOkR Q)]) ∧ InOwn w' w.heap.size d (Rg.poolIds Q) ∧ GrOwn w' w.heap.size dg ((Rg.poolIds Q).length : Int) (Rg.poolE Q)) ∧ Below w.heap.size w w' := by
  obtain ⟨a, c, rfl, hQ, _⟩ := hv
  exact Rg.specPool_any a Q.length c B Q (pasize_le h1).1 w hB hQ
theorem in_gr_apart {w : World} {B B' : Nat} {v u : Value} {K : List Int} {s : Int} {Q : List EdgeI} (h : InOwn w B v K) (h' : GrOwn w B' u s Q) : ∀ g, InBlk v g → ¬ GrBlk u g := by
  obtain ⟨vg, rfl, hg⟩ := h'
  rintro g h1 ⟨x, v1, e, h2⟩
  simp only [Value.agg.injEq, Array.mk.injEq, List.cons.injEq, and_true] at e
  obtain ⟨_, rfl⟩ := e
  exact own_apart h hg (by decide) g h1 h2
def poolS (Q : List (ByteArray × ByteArray)) : Int := ((Rg.poolIds Q).length : Int)
theorem specPool_gen' (B : Nat) (v : Value) (Q : List (ByteArray × ByteArray)) (h1 : pasize Q ≤ 1048576) (w : World) (hB : B ≤ w.heap.size) (hv : PaAt w v B Q) :
    Calls Tryz.prog 20 #[v] w fun e w' => (∃ d dg, e = .returned (.tuple #[d, dg, .bool (Rg.poolOkR Q)]) ∧ InOwn w' w.heap.size d (Rg.poolIds Q) ∧ GrOwn w' w.heap.size dg (poolS Q) (Rg.poolE Q)) ∧ Below w.heap.size w w' := specPool_gen B v Q h1 w hB hv
theorem implPool_gen' (B : Nat) (v : Value) (Q : List (ByteArray × ByteArray)) (h1 : pasize Q ≤ 1048576) (w : World) (hB : B ≤ w.heap.size) (ht : Rg.Tab w.heap.size w) (hv : PaAt w v B Q) :
    Calls Tryz.prog 21 #[v] w fun e w' => (∃ d dg, e = .returned (.tuple #[d, dg, .bool (Rg.poolOkR Q)]) ∧ InOwn w' w.heap.size d (Rg.poolIds Q) ∧ GrOwn w' w.heap.size dg (poolS Q) (Rg.poolE Q)) ∧ Below w.heap.size w w' := implPool_gen B v Q h1 w hB ht hv
end Gr
end Go.Proofs.YtihnaddfpmjpaaaGreatDoor
