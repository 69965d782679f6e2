/-
  Texts of this claim, one behind the other: Ri10, Ri11.
-/
import Derived.Test.YtocaodgloiigaaaGreatDoorJ42
import Derived.Test.YtocaodgloiigaaaGreatDoorJ43
import Derived.Test.YtocaodgloiigaaaGreatDoorJ38
import Derived.Test.YtocaodgloiigaaaGreatDoorJ6
import Derived.Test.YtocaodgloiigaaaGreatDoorJ30
import Derived.Test.YtocaodgloiigaaaGreatDoorJ34
import Derived.Test.YtocaodgloiigaaaGreatDoorJ32

/-
  The contract of impl.registerOf.
-/
namespace Go.Proofs.YtocaodgloiigaaaGreatDoor
namespace Rg
open Go.RowKit
open Gr (Blk Kept)

theorem zero_reg (W : World) : (zeroValue 91).run Tryz.prog W = .ok (.agg (regC R0 (.slice none 0 0))) W := by kernel_rfl

theorem R0_at (w : World) : RegAt (w.alloc (Obj.cells (regC R0 (.slice none 0 0)) 91)) w.heap.size w.heap.size R0 :=
  ⟨Nat.le_refl _, .slice none 0 0, [], Gr.Blk.new0, ⟨rfl, ⟨rfl, .inl ⟨rfl, rfl⟩⟩, fun _ h => absurd h (Nat.not_lt_zero _), fun _ h => absurd h (Nat.not_lt_zero _), fun _ _ h => absurd h (Nat.not_lt_zero _)⟩⟩

/-- How great a register's rounds are, j pairs taken. -/
def Bnd (j : Nat) (R : Rgs) : Prop := R.rds.length ≤ j ∧ ∀ y ∈ R.rds, y.2.length ≤ j ∧ (joinB y.2).size ≤ 40 * j ∧ y.1.length ≤ 40

theorem bnd_take {j : Nat} {R R' : Rgs} {k v : ByteArray} (hb : Bnd j R) (hv : v.size ≤ 40) (h : takeP R k v = some R') : Bnd (j + 1) R' := by
  have hmono : Bnd (j + 1) R := ⟨by have := hb.1; omega, fun y hy => by have := hb.2 y hy; omega⟩
  rcases take_form h with ⟨a, _, _, h2⟩ | ⟨a, b, _, _, _, h2⟩ | ⟨a, _, _, h2⟩ | ⟨a, b, _, _, _, h2⟩
  · unfold takeV at h2
    split at h2
    · split at h2
      · cases h2
      · simp only [Option.some.injEq] at h2; subst h2; exact hmono
    · cases h2
  · unfold takeE at h2
    split at h2
    · simp only [Option.some.injEq] at h2; subst h2; exact hmono
    · cases h2
  · unfold takeQ at h2
    split at h2
    · simp only [Option.some.injEq] at h2
      subst h2
      refine ⟨by simp; exact hb.1, fun y hy => ?_⟩
      rcases List.mem_append.1 hy with hy | hy
      · exact hmono.2 y hy
      · simp only [List.mem_singleton] at hy
        subst hy
        refine ⟨by simp, by show 0 ≤ _; omega, by show (bytesI v).length ≤ 40; rw [bytesI_length]; exact hv⟩
    · cases h2
  · unfold takeR at h2
    split at h2
    · cases h2
    · rename_i x hx
      split at h2
      · simp only [Option.some.injEq] at h2
        subst h2
        have hxm : x ∈ R.rds := List.mem_of_getElem? hx
        have hxb := hb.2 x hxm
        refine ⟨by simp only [List.length_set]; have := hb.1; omega, fun y hy => ?_⟩
        rcases List.mem_or_eq_of_mem_set hy with hy | hy
        · exact hmono.2 y hy
        · subst hy
          refine ⟨by simp; omega, ?_, hxb.2.2⟩
          show (joinB (x.2 ++ [v])).size ≤ _
          have : joinB (x.2 ++ [v]) = joinB x.2 ++ v := by unfold joinB; simp
          rw [this, ByteArray.size_append]
          omega
      · cases h2

theorem fold_step (R : Rgs) (Q : PL) (j : Nat) (h : j < Q.length) : regFold R (Q.drop j) = (match takeP R Q[j].1 Q[j].2 with | none => none | some R' => regFold R' (Q.drop (j + 1))) := by
  rw [List.drop_eq_getElem_cons h, regFold]
  rfl

set_option maxRecDepth 100000 in
set_option maxHeartbeats 4000000 in
theorem register_any (a : Option Addr) (len cap B : Nat) (Q : PL) (hlen : len ≤ 1048576) (w : World) (hB : B ≤ w.heap.size) (ht : Tab w.heap.size w) (hs : Tr.PairsAt w a len B Q) :
    Calls Tryz.prog 39 #[.slice a len cap] w fun e w' => (∃ R, e = .returned (.tuple #[.pointer (some ⟨w.heap.size, 0, none⟩), .bool (regOk Q)]) ∧ RegAt w' w.heap.size w.heap.size R ∧ (regOk Q = true → regFold R0 Q = some R)) ∧ Below w.heap.size w w' := by
  have hzv := zero_reg
  have R0A := hide (R0_at w)
  obtain ⟨Z, hZ⟩ : ∃ Z, Z = regC R0 (.slice none 0 0) := ⟨_, rfl⟩
  rw [← hZ] at hzv R0A
  clear hZ
  have MO := hide (fun w1 (hb : Below w.heap.size w w1) => Tr.implMap_any a len cap B Q hlen w1 (by have := hb.size; omega) (hs.below hb hB))
  have hX : regOk Q = (decide (Tr.MapR Q) && (match regFold R0 Q with | none => false | some R => checks R)) := rfl
  generalize regOk Q = X at hX
  by_cases hM : Tr.MapR Q
  · rw [decide_eq_true hM] at MO hX
    rw [Bool.true_and] at hX
    have hL := hs.1
    have h120 := hM.1
    have HMR := hide hM
    have HC := hide hs.2
    have HT := hide ht
    have HST := hide (fun R j h => fold_step R Q j h)
    have HF0 : Hid (regFold R0 Q = regFold R0 (Q.drop 0)) := rfl
    have HQ := hide hX
    have HB0 : Hid (Bnd 0 R0) := ⟨Nat.le_refl _, by simp [R0]⟩
    clear hX hs ht hM
    subst hL
    obtain ⟨F, hF⟩ : ∃ F, F = regFold R0 Q := ⟨_, rfl⟩
    rw [← hF] at HQ HF0 ⊢
    clear hF
    go_enter Tryz.func39, Tryz.ntmps39
    go_wp2_with fail
    refine (unhide MO _ (Gr.below_new _ _)).mono ?_
    rintro e w1 ⟨rfl, hb1⟩
    have HR1 := hide ((unhide R0A).below hb1)
    have bw1 := (Gr.below_new w (Obj.cells Z 91)).trans (hb1.mono (Gr.below_new w (Obj.cells Z 91)).size)
    clear hb1 hzv R0A MO
    go_wp2_with fail
    go_loopw [15] (fun i wr => ∃ (j : Nat) (R : Rgs), i = .int .i64 (j : Int) ∧ j ≤ Q.length ∧ Hid (RegAt wr w.heap.size w.heap.size R) ∧ Hid (F = regFold R (Q.drop j)) ∧ Hid (Bnd j R) ∧ Below w.heap.size w wr) (fun i _ => Q.length - (intOf i).toNat)
    case atStart => exact ⟨0, R0, rfl, Nat.zero_le _, unhide HR1, unhide HF0, unhide HB0, bw1⟩
    case round =>
      obtain ⟨j, R, rfl, hj, HR, HF, HBD, hb⟩ := hrel
      have hbd := unhide HBD
      by_cases hlt : j < Q.length
      · obtain ⟨b, off, rfl, hbB, d0, d1⟩ := unhide HC j hlt
        have hpr := (unhide HMR).2 j hlt
        unfold Tr.pairOk at hpr
        simp only [Bool.and_eq_true, decide_eq_true_eq] at hpr
        have HF2 := hide ((unhide HF).trans (unhide HST R j hlt))
        have TK := hide (fun w1 (hb1 : Below wr.heap.size wr w1) => take_any w.heap.size w.heap.size Q[j].1 Q[j].2 R (by omega) (by omega) (by omega) (by have := hbd.1; omega) (fun y hy => by have := (hbd.2 y hy).1; omega) w1 (Nat.le_trans hb.size hb1.size) ((unhide HT).below (hb.trans (hb1.mono hb.size))) ((unhide HR).below hb1))
        have HBT := hide (fun (R' : Rgs) (ht : takeP R Q[j].1 Q[j].2 = some R') => bnd_take hbd (by omega) ht)
        generalize Q[j] = q at d0 d1 HF2 TK HBT
        obtain ⟨x, y⟩ := q
        simp only at d0 d1 HF2 TK HBT
        rw [← hb.cell (p := ⟨b, off + j * 2, none⟩) (by simp; omega)] at d0
        rw [← hb.cell (p := ⟨b, off + j * 2 + 1, none⟩) (by simp; omega)] at d1
        have hj1 : (j : Int) < ((Q.length : Nat) : Int) := by omega
        generalize takeP R x y = T at HF2 TK HBT
        clear hpr HF hbd
        go_wp2_with fail
        refine (unhide TK _ (Gr.below_new _ _)).mono ?_
        rintro e w2 ⟨rfl, hR2, hb2⟩
        have b2 := hb.trans (((Gr.below_new wr (Obj.cells #[.string x, .string y] 57)).mono hb.size).trans hb2)
        cases T with
        | none =>
          have hFn : F = none := unhide HF2
          subst hFn
          have hXf : X = false := unhide HQ
          subst hXf
          have HR2 : Hid (RegAt w2 w.heap.size w.heap.size R) := hR2
          clear hR2 hb2
          go_wp2
          go_ret2
          exact ⟨⟨R, rfl, unhide HR2, fun h => by cases h⟩, b2⟩
        | some R' =>
          have HR2 : Hid (RegAt w2 w.heap.size w.heap.size R') := hR2
          have HF3 : Hid (F = regFold R' (Q.drop (j + 1))) := unhide HF2
          have HB3 := hide (unhide HBT R' rfl)
          clear hR2 hb2 HF2 HBT TK
          go_wp2_with fail
          exact ⟨⟨j + 1, R', by go_num, by omega, unhide HR2, unhide HF3, unhide HB3, b2⟩, by simp [intOf]; omega⟩
      · have hFs : F = some R := by rw [unhide HF, List.drop_eq_nil_of_le (by omega)]; rfl
        subst hFs
        have hXc : X = checks R := unhide HQ
        have hj1 : ¬ (j : Int) < ((Q.length : Nat) : Int) := by omega
        have LK := hide (links_any w.heap.size w.heap.size R wr (unhide HR))
        have RD := hide (fun w2 (hb2 : Below wr.heap.size wr w2) => rounds'_any w.heap.size w.heap.size R (by have := hbd.1; omega) (fun y hy => by have := hbd.2 y hy; omega) w2 ((unhide HR).below hb2))
        have ME := hide (fun w2 (hb2 : Below wr.heap.size wr w2) => members_any w.heap.size w.heap.size R w2 ((unhide HR).below hb2))
        have hck : checks R = (linksOk R && (roundsR R && membersOk R)) := rfl
        rw [hck] at hXc
        have HXC := hide hXc
        clear hck hXc hbd
        generalize linksOk R = b1 at LK HXC
        generalize roundsR R = b2 at RD HXC
        generalize membersOk R = b3 at ME HXC
        go_wp2_with fail
        refine (unhide LK).mono ?_
        rintro e w2 ⟨rfl, hb2⟩
        have e2 := hb.trans (hb2.mono hb.size)
        have R2 := hide ((unhide HR).below hb2)
        cases b1 with
        | false =>
          have hXf : X = false := unhide HXC
          subst hXf
          go_wp2
          go_ret2
          exact ⟨⟨R, rfl, unhide R2, fun _ => rfl⟩, e2⟩
        | true =>
          rw [Bool.true_and] at HXC
          go_wp2_with fail
          refine (unhide RD w2 hb2).mono ?_
          rintro e w3 ⟨rfl, hb3⟩
          have hb23 := hb2.trans (hb3.mono hb2.size)
          have e3 := hb.trans (hb23.mono hb.size)
          have R3 := hide ((unhide HR).below hb23)
          cases b2 with
          | false =>
            have hXf : X = false := unhide HXC
            subst hXf
            go_wp2
            go_ret2
            exact ⟨⟨R, rfl, unhide R3, fun _ => rfl⟩, e3⟩
          | true =>
            rw [Bool.true_and] at HXC
            go_wp2_with fail
            refine (unhide ME w3 hb23).mono ?_
            rintro e w4 ⟨rfl, hb4⟩
            have hb24 := hb23.trans (hb4.mono hb23.size)
            have e4 := hb.trans (hb24.mono hb.size)
            have R4 := hide ((unhide HR).below hb24)
            have hXf : X = b3 := unhide HXC
            subst hXf
            go_wp2
            go_ret2
            exact ⟨⟨R, rfl, unhide R4, fun _ => rfl⟩, e4⟩
  · rw [decide_eq_false hM, Bool.false_and] at hX
    rw [decide_eq_false hM] at MO
    subst hX
    go_enter Tryz.func39, Tryz.ntmps39
    go_wp2_with fail
    refine (unhide MO _ (Gr.below_new _ _)).mono ?_
    rintro e w1 ⟨rfl, hb1⟩
    have HR1 := hide ((unhide R0A).below hb1)
    have bw1 := (Gr.below_new w (Obj.cells Z 91)).trans (hb1.mono (Gr.below_new w (Obj.cells Z 91)).size)
    go_wp2
    go_ret2
    exact ⟨⟨R0, rfl, unhide HR1, fun h => by cases h⟩, bw1⟩

end Rg
end Go.Proofs.YtocaodgloiigaaaGreatDoor

/-
  The contracts of impl.StateOk, impl.Ids, impl.Active, in the laws' form.
-/
namespace Go.Proofs.YtocaodgloiigaaaGreatDoor
namespace Rg
open Go.RowKit
open Gr (Blk Kept)

theorem who_snoc (f : Nat → Bool) (n : Nat) (h : f n = true) : whoTo f (n + 1) = whoTo f n ++ [(n : Int)] := by rw [who_succ, if_pos h]
theorem who_skip (f : Nat → Bool) (n : Nat) (h : f n = false) : whoTo f (n + 1) = whoTo f n := by rw [who_succ, if_neg (by rw [h]; simp)]
theorem who_short (f : Nat → Bool) : ∀ n, (whoTo f n).length ≤ n
  | 0 => by simp [whoTo]
  | n + 1 => by
    have := who_short f n
    rw [who_succ]
    split
    · simp; omega
    · omega

set_option maxRecDepth 100000 in
set_option maxHeartbeats 2000000 in
theorem active_any (B g : Nat) (R : Rgs) (w : World) (hR : RegAt w B g R) :
    Calls Tryz.prog 44 #[.pointer (some ⟨g, 0, none⟩)] w fun e w' => (∃ d, e = .returned d ∧ Gr.InOwn w' w.heap.size d (whoTo (isHr R) 12)) ∧ Below w.heap.size w w' := by
  obtain ⟨i0, hi0, hz0, hz1, hz2⟩ := info_parts Gr.info3
  have HE := hide (fun (i : Int) w1 (hb : Below w.heap.size w w1) => here_any i B g R w1 (hR.below hb))
  have HS := hide (fun n h => who_snoc (isHr R) n h)
  have HK := hide (fun n h => who_skip (isHr R) n h)
  have HL := hide (who_short (isHr R))
  clear hR
  go_enter Tryz.func44, Tryz.ntmps44
  go_wp2_with fail
  go_loopw [3, 5] (fun v i wr => ∃ (j : Nat), i = .int .i64 (j : Int) ∧ j ≤ 12 ∧ Hid (wr.ownsRow w.heap.size 3 1 v (whoTo (isHr R) j).length (Gr.intsV (whoTo (isHr R) j))) ∧ Below w.heap.size w wr) (fun _ i _ => 12 - (intOf i).toNat)
  case atStart => exact ⟨0, rfl, Nat.zero_le _, ⟨rfl, .inl ⟨rfl, rfl⟩⟩, Below.refl _ _⟩
  case round =>
    obtain ⟨j, rfl, hj, HO, hb⟩ := hrel
    by_cases hlt : j < 12
    · have hj1 : (j : Int) < 12 := by omega
      have H1 := hide (unhide HE (j : Int) wr hb)
      have hS := unhide HS j
      have hK := unhide HK j
      have hL := unhide HL j
      change Hid (Calls _ _ _ _ fun e w' => e = .returned (.bool (isHr R j)) ∧ w' = wr) at H1
      have hown := unhide HO
      have hbs := hb.size
      generalize isHr R j = hr at H1 hS hK
      go_wp2_with fail
      refine (unhide H1).mono ?_
      rintro e w1 ⟨rfl, rfl⟩
      cases hr with
      | false =>
        have HO2 : Hid (w1.ownsRow w.heap.size 3 1 u3 (whoTo (isHr R) (j + 1)).length (Gr.intsV (whoTo (isHr R) (j + 1)))) := by show World.ownsRow _ _ _ _ _ _ _; rw [hK rfl]; exact hown
        clear hown hS hK
        go_wp2_with fail
        exact ⟨⟨j + 1, by go_num, by omega, unhide HO2, hb⟩, by simp [intOf]; omega⟩
      | true =>
        have HE2 : Hid (∀ (v' : Value) (w1 : World), w1.ownsRow w.heap.size 3 1 v' ((whoTo (isHr R) j).length + 1) (Gr.intsV (whoTo (isHr R) j) ++ [.int .i64 (j : Int)]) → w1.ownsRow w.heap.size 3 1 v' (whoTo (isHr R) (j + 1)).length (Gr.intsV (whoTo (isHr R) (j + 1)))) := fun v' w1 h => by rw [hS rfl]; exact own_int h
        generalize whoTo (isHr R) j = WL at hown hL HE2
        clear hS hK HO
        go_wp2_with (at_builtin; refine wpList_append_own _ rfl _ _ 29 rfl w.heap.size 3 i0 (.int .i64 0) 1 8 Tryz.underlying29 hi0 hz0 hz1 hz2 rfl (by decide) _ _ _ rfl (hown.alloc _) ⟨w1.heap.size, 0, none⟩ 1 1 [.int .i64 (j : Int)] rfl rfl (cell_one_new _ _ _) (by intro u hu; simp at hu; subst hu; rfl) ?c3 ?c4 ?c5 ?_)
        case c3 => unfold maxLen; omega
        case c4 => omega
        case c5 => simp; omega
        intro v' w3 hown' hgrow _
        have hb3 := below_append hb (Nat.le_refl _) hown hgrow
        have HO2 := hide (unhide HE2 v' w3 hown')
        clear hown hown' hgrow HE2
        go_wp2_with fail
        exact ⟨⟨j + 1, by go_num, by omega, unhide HO2, hb3⟩, by simp [intOf]; omega⟩
    · obtain rfl : j = 12 := by omega
      go_wp2
      go_ret
      exact ⟨⟨_, rfl, unhide HO⟩, hb⟩

end Rg
namespace Gr
open Go.RowKit

theorem implStateOk_gen (B : Nat) (v : Value) (Q : List (ByteArray × ByteArray)) (h1 : pasize Q ≤ 1048576) (w : World) (hB : B ≤ w.heap.size) (ht : Rg.Tab w.heap.size w) (hv : PaAt w v B Q) :
    Calls Tryz.prog 11 #[v] w fun e w' => e = .returned (.bool (Rg.stateOk Q)) ∧ Below w.heap.size w w' := by
  obtain ⟨a, c, rfl, hQ, _⟩ := hv
  have RG := hide (Rg.register_any a Q.length c B Q (pasize_le h1).1 w hB ht hQ)
  rw [Rg.reg_is] at RG
  go_enter Tryz.func11, Tryz.ntmps11
  go_wp2_with fail
  refine (unhide RG).mono ?_
  rintro e w1 ⟨⟨R, rfl, hR, _⟩, hb1⟩
  go_wp2
  go_ret
  exact ⟨rfl, hb1⟩

set_option maxRecDepth 100000 in
set_option maxHeartbeats 2000000 in
theorem implActive_gen (B : Nat) (v : Value) (Q : List (ByteArray × ByteArray)) (h1 : pasize Q ≤ 1048576) (w : World) (hB : B ≤ w.heap.size) (ht : Rg.Tab w.heap.size w) (hv : PaAt w v B Q) :
    Calls Tryz.prog 20 #[v] w fun e w' => (∃ d, e = .returned d ∧ InOwn w' w.heap.size d (idsHere Q)) ∧ Below w.heap.size w w' := by
  obtain ⟨a, c, rfl, hQ, _⟩ := hv
  have RG := hide (Rg.register_any a Q.length c B Q (pasize_le h1).1 w hB ht hQ)
  rw [Rg.reg_is] at RG
  have hX : idsHere Q = if Rg.stateOk Q = true then Rg.idsP [97] Q else [] := rfl
  have HRI := hide (fun h => Rg.reg_inv (Q := Q) h)
  have HID : Hid (∀ R, Rg.regFold Rg.R0 Q = some R → Rg.stateOk Q = true → Rg.idsP [97] Q = Rg.whoTo (Rg.isHr R) 12) := fun R hf hst => by
    obtain ⟨R', hf', I, ha, _⟩ := Rg.reg_inv hst
    rw [hf] at hf'
    cases hf'
    exact Rg.here_is I ha
  generalize idsHere Q = X at hX
  generalize Rg.stateOk Q = st at RG hX HRI HID
  clear hQ ht
  go_enter Tryz.func20, Tryz.ntmps20
  go_wp2_with fail
  refine (unhide RG).mono ?_
  rintro e w1 ⟨⟨R, rfl, hR, hf⟩, hb1⟩
  cases st with
  | false =>
    rw [if_neg (by simp)] at hX
    subst hX
    go_wp2
    go_ret
    exact ⟨⟨_, rfl, rfl, .inl ⟨rfl, rfl⟩⟩, hb1⟩
  | true =>
    have hXe : X = Rg.whoTo (Rg.isHr R) 12 := by rw [hX, if_pos rfl]; exact unhide HID R (hf rfl) rfl
    subst hXe
    have AC := hide (Rg.active_any w.heap.size w.heap.size R w1 hR)
    clear hR hf hX
    go_wp2_with fail
    refine (unhide AC).mono ?_
    rintro e w2 ⟨⟨d, rfl, hd⟩, hb2⟩
    have hd' := Gr.own_lower hb1.size hd
    go_wp2
    go_ret
    exact ⟨⟨_, rfl, hd'⟩, hb1.trans (hb2.mono hb1.size)⟩

set_option maxRecDepth 100000 in
set_option maxHeartbeats 2000000 in
theorem implIds_gen (B : Nat) (v : Value) (Q : List (ByteArray × ByteArray)) (h1 : pasize Q ≤ 1048576) (w : World) (hB : B ≤ w.heap.size) (ht : Rg.Tab w.heap.size w) (hv : PaAt w v B Q) :
    Calls Tryz.prog 14 #[v] w fun e w' => (∃ d, e = .returned d ∧ InOwn w' w.heap.size d (idsAll Q)) ∧ Below w.heap.size w w' := by
  obtain ⟨i0, hi0, hz0, hz1, hz2⟩ := info_parts Gr.info3
  obtain ⟨a, c, rfl, hQ, _⟩ := hv
  have RG := hide (Rg.register_any a Q.length c B Q (pasize_le h1).1 w hB ht hQ)
  rw [Rg.reg_is] at RG
  have hX : idsAll Q = if Rg.stateOk Q = true then Rg.idsP [] Q else [] := rfl
  have HID : Hid (∀ R, Rg.regFold Rg.R0 Q = some R → Rg.stateOk Q = true → Rg.idsP [] Q = Rg.whoTo (Rg.isIn R) 12) := fun R hf hst => by
    obtain ⟨R', hf', I, ha, _⟩ := Rg.reg_inv hst
    rw [hf] at hf'
    cases hf'
    exact Rg.ids_is I ha
  generalize idsAll Q = X at hX
  generalize Rg.stateOk Q = st at RG hX HID
  clear hQ ht
  go_enter Tryz.func14, Tryz.ntmps14
  go_wp2_with fail
  refine (unhide RG).mono ?_
  rintro e w0 ⟨⟨R, rfl, hR, hf⟩, hb0⟩
  cases st with
  | false =>
    rw [if_neg (by simp)] at hX
    subst hX
    go_wp2
    go_ret
    exact ⟨⟨_, rfl, rfl, .inl ⟨rfl, rfl⟩⟩, hb0⟩
  | true =>
    have hXe : X = Rg.whoTo (Rg.isIn R) 12 := by rw [hX, if_pos rfl]; exact unhide HID R (hf rfl) rfl
    subst hXe
    have HE := hide (fun (i : Int) w1 (hb : Below w0.heap.size w0 w1) => Rg.joined_any i w.heap.size w.heap.size R w1 (hR.below hb))
    have HS := hide (fun n h => Rg.who_snoc (Rg.isIn R) n h)
    have HK := hide (fun n h => Rg.who_skip (Rg.isIn R) n h)
    have HL := hide (Rg.who_short (Rg.isIn R))
    have HB0 := hide hb0
    have hz0' := hb0.size
    clear hR hf hX HID hb0
    go_wp2_with fail
    go_loopw [5, 14] (fun v i wr => ∃ (j : Nat), i = .int .i64 (j : Int) ∧ j ≤ 12 ∧ Hid (wr.ownsRow w0.heap.size 3 1 v (Rg.whoTo (Rg.isIn R) j).length (Gr.intsV (Rg.whoTo (Rg.isIn R) j))) ∧ Below w0.heap.size w0 wr) (fun _ i _ => 12 - (intOf i).toNat)
    case atStart => exact ⟨0, rfl, Nat.zero_le _, ⟨rfl, .inl ⟨rfl, rfl⟩⟩, Below.refl _ _⟩
    case round =>
      obtain ⟨j, rfl, hj, HO, hb⟩ := hrel
      by_cases hlt : j < 12
      · have hj1 : (j : Int) < 12 := by omega
        have H1 := hide (unhide HE (j : Int) wr hb)
        have hS := unhide HS j
        have hK := unhide HK j
        have hL := unhide HL j
        change Hid (Calls _ _ _ _ fun e w' => e = .returned (.bool (Rg.isIn R j)) ∧ w' = wr) at H1
        have hown := unhide HO
        have hbs := hb.size
        generalize Rg.isIn R j = hr at H1 hS hK
        go_wp2_with fail
        refine (unhide H1).mono ?_
        rintro e w1 ⟨rfl, rfl⟩
        cases hr with
        | false =>
          have HO2 : Hid (w1.ownsRow w0.heap.size 3 1 u5 (Rg.whoTo (Rg.isIn R) (j + 1)).length (Gr.intsV (Rg.whoTo (Rg.isIn R) (j + 1)))) := by show World.ownsRow _ _ _ _ _ _ _; rw [hK rfl]; exact hown
          clear hown hS hK
          go_wp2_with fail
          exact ⟨⟨j + 1, by go_num, by omega, unhide HO2, hb⟩, by simp [intOf]; omega⟩
        | true =>
          have HE2 : Hid (∀ (v' : Value) (w1 : World), w1.ownsRow w0.heap.size 3 1 v' ((Rg.whoTo (Rg.isIn R) j).length + 1) (Gr.intsV (Rg.whoTo (Rg.isIn R) j) ++ [.int .i64 (j : Int)]) → w1.ownsRow w0.heap.size 3 1 v' (Rg.whoTo (Rg.isIn R) (j + 1)).length (Gr.intsV (Rg.whoTo (Rg.isIn R) (j + 1)))) := fun v' w1 h => by rw [hS rfl]; exact Rg.own_int h
          generalize Rg.whoTo (Rg.isIn R) j = WL at hown hL HE2
          clear hS hK HO
          go_wp2_with (at_builtin; refine wpList_append_own _ rfl _ _ 29 rfl w0.heap.size 3 i0 (.int .i64 0) 1 8 Tryz.underlying29 hi0 hz0 hz1 hz2 rfl (by decide) _ _ _ rfl (hown.alloc _) ⟨w1.heap.size, 0, none⟩ 1 1 [.int .i64 (j : Int)] rfl rfl (cell_one_new _ _ _) (by intro u hu; simp at hu; subst hu; rfl) ?c3 ?c4 ?c5 ?_)
          case c3 => unfold maxLen; omega
          case c4 => omega
          case c5 => simp; omega
          intro v' w3 hown' hgrow _
          have hb3 := below_append hb (Nat.le_refl _) hown hgrow
          have HO2 := hide (unhide HE2 v' w3 hown')
          clear hown hown' hgrow HE2
          go_wp2_with fail
          exact ⟨⟨j + 1, by go_num, by omega, unhide HO2, hb3⟩, by simp [intOf]; omega⟩
      · obtain rfl : j = 12 := by omega
        have hd' := Gr.own_lower hz0' (unhide HO)
        go_wp2
        go_ret
        exact ⟨⟨_, rfl, hd'⟩, (unhide HB0).trans (hb.mono hz0')⟩

end Gr
end Go.Proofs.YtocaodgloiigaaaGreatDoor
