/-
  Texts of this claim, one behind the other: Ri10, Ri11, Rq0, Rq1, Ri14, Rq2, Rq3.
-/
import Derived.Test.YtlakimdgebgdkaaGreatDoorJ49
import Derived.Test.YtlakimdgebgdkaaGreatDoorJ50
import Derived.Test.YtlakimdgebgdkaaGreatDoorJ44
import Derived.Test.YtlakimdgebgdkaaGreatDoorJ6
import Derived.Test.YtlakimdgebgdkaaGreatDoorJ30
import Derived.Test.YtlakimdgebgdkaaGreatDoorJ45
import Derived.Test.YtlakimdgebgdkaaGreatDoorJ34
import Derived.Test.YtlakimdgebgdkaaGreatDoorJ42
import Derived.Deep.Cut
import Derived.Test.YtlakimdgebgdkaaGreatDoorJ39
import Derived.Test.YtlakimdgebgdkaaGreatDoorJ2

/-
  The contract of impl.registerOf.
-/
namespace Go.Proofs.YtlakimdgebgdkaaGreatDoor
namespace Rg
open Go.RowKit
open Gr (Blk Kept)

theorem zero_reg (W : World) : (zeroValue 73).run Tryz.prog W = .ok (.agg (regC R0 (.slice none 0 0))) W := by kernel_rfl

theorem R0_at (w : World) : RegAt (w.alloc (Obj.cells (regC R0 (.slice none 0 0)) 73)) w.heap.size w.heap.size R0 :=
  ⟨Nat.le_refl _, .slice none 0 0, [], Gr.Blk.new0, ⟨rfl, ⟨rfl, .inl ⟨rfl, rfl⟩⟩, fun _ h => absurd h (Nat.not_lt_zero _), fun _ h => absurd h (Nat.not_lt_zero _), fun _ _ h => absurd h (Nat.not_lt_zero _)⟩⟩

/-- How great a register's rounds are, j pairs taken. -/
def Bnd (j : Nat) (R : Rgs) : Prop := R.rds.length ≤ j ∧ ∀ y ∈ R.rds, y.2.length ≤ j ∧ (joinB y.2).size ≤ 40 * j ∧ y.1.length ≤ 40

theorem bnd_take {j : Nat} {R R' : Rgs} {k v : ByteArray} (hb : Bnd j R) (hv : v.size ≤ 40) (h : takeP R k v = some R') : Bnd (j + 1) R' := by
  have hmono : Bnd (j + 1) R := ⟨by have := hb.1; omega, fun y hy => by have := hb.2 y hy; omega⟩
  rcases take_form h with ⟨a, _, _, h2⟩ | ⟨a, b, _, _, _, h2⟩ | ⟨a, _, _, h2⟩ | ⟨a, b, _, _, _, h2⟩
  · unfold takeV at h2
    split at h2
    · split at h2
      · cases h2
      · simp only [Option.some.injEq] at h2; subst h2; exact hmono
    · cases h2
  · unfold takeE at h2
    split at h2
    · simp only [Option.some.injEq] at h2; subst h2; exact hmono
    · cases h2
  · unfold takeQ at h2
    split at h2
    · simp only [Option.some.injEq] at h2
      subst h2
      refine ⟨by simp; exact hb.1, fun y hy => ?_⟩
      rcases List.mem_append.1 hy with hy | hy
      · exact hmono.2 y hy
      · simp only [List.mem_singleton] at hy
        subst hy
        refine ⟨by simp, by show 0 ≤ _; omega, by show (bytesI v).length ≤ 40; rw [bytesI_length]; exact hv⟩
    · cases h2
  · unfold takeR at h2
    split at h2
    · cases h2
    · rename_i x hx
      split at h2
      · simp only [Option.some.injEq] at h2
        subst h2
        have hxm : x ∈ R.rds := List.mem_of_getElem? hx
        have hxb := hb.2 x hxm
        refine ⟨by simp only [List.length_set]; have := hb.1; omega, fun y hy => ?_⟩
        rcases List.mem_or_eq_of_mem_set hy with hy | hy
        · exact hmono.2 y hy
        · subst hy
          refine ⟨by simp; omega, ?_, hxb.2.2⟩
          show (joinB (x.2 ++ [v])).size ≤ _
          have : joinB (x.2 ++ [v]) = joinB x.2 ++ v := by unfold joinB; simp
          rw [this, ByteArray.size_append]
          omega
      · cases h2

theorem fold_step (R : Rgs) (Q : PL) (j : Nat) (h : j < Q.length) : regFold R (Q.drop j) = (match takeP R Q[j].1 Q[j].2 with | none => none | some R' => regFold R' (Q.drop (j + 1))) := by
  rw [List.drop_eq_getElem_cons h, regFold]
  rfl

set_option maxRecDepth 100000 in
set_option maxHeartbeats 4000000 in
theorem register_any (a : Option Addr) (len cap B : Nat) (Q : PL) (hlen : len ≤ 1048576) (w : World) (hB : B ≤ w.heap.size) (ht : Tab w.heap.size w) (hs : Tr.PairsAt w a len B Q) :
    Calls Tryz.prog 23 #[.slice a len cap] w fun e w' => (∃ R, e = .returned (.tuple #[.pointer (some ⟨w.heap.size, 0, none⟩), .bool (regOk Q)]) ∧ RegAt w' w.heap.size w.heap.size R ∧ (regOk Q = true → regFold R0 Q = some R)) ∧ Below w.heap.size w w' := by
  have hzv := zero_reg
  have R0A := hide (R0_at w)
  obtain ⟨Z, hZ⟩ : ∃ Z, Z = regC R0 (.slice none 0 0) := ⟨_, rfl⟩
  rw [← hZ] at hzv R0A
  clear hZ
  have MO := hide (fun w1 (hb : Below w.heap.size w w1) => Tr.implMap_any a len cap B Q hlen w1 (by have := hb.size; omega) (hs.below hb hB))
  have hX : regOk Q = (decide (Tr.MapR Q) && (match regFold R0 Q with | none => false | some R => checks R)) := rfl
  generalize regOk Q = X at hX
  by_cases hM : Tr.MapR Q
  · rw [decide_eq_true hM] at MO hX
    rw [Bool.true_and] at hX
    have hL := hs.1
    have h120 := hM.1
    have HMR := hide hM
    have HC := hide hs.2
    have HT := hide ht
    have HST := hide (fun R j h => fold_step R Q j h)
    have HF0 : Hid (regFold R0 Q = regFold R0 (Q.drop 0)) := rfl
    have HQ := hide hX
    have HB0 : Hid (Bnd 0 R0) := ⟨Nat.le_refl _, by simp [R0]⟩
    clear hX hs ht hM
    subst hL
    obtain ⟨F, hF⟩ : ∃ F, F = regFold R0 Q := ⟨_, rfl⟩
    rw [← hF] at HQ HF0 ⊢
    clear hF
    go_enter Tryz.func23, Tryz.ntmps23
    go_wp2_with fail
    refine (unhide MO _ (Gr.below_new _ _)).mono ?_
    rintro e w1 ⟨rfl, hb1⟩
    have HR1 := hide ((unhide R0A).below hb1)
    have bw1 := (Gr.below_new w (Obj.cells Z 73)).trans (hb1.mono (Gr.below_new w (Obj.cells Z 73)).size)
    clear hb1 hzv R0A MO
    go_wp2_with fail
    go_loopw [15] (fun i wr => ∃ (j : Nat) (R : Rgs), i = .int .i64 (j : Int) ∧ j ≤ Q.length ∧ Hid (RegAt wr w.heap.size w.heap.size R) ∧ Hid (F = regFold R (Q.drop j)) ∧ Hid (Bnd j R) ∧ Below w.heap.size w wr) (fun i _ => Q.length - (intOf i).toNat)
    case atStart => exact ⟨0, R0, rfl, Nat.zero_le _, unhide HR1, unhide HF0, unhide HB0, bw1⟩
    case round =>
      obtain ⟨j, R, rfl, hj, HR, HF, HBD, hb⟩ := hrel
      have hbd := unhide HBD
      by_cases hlt : j < Q.length
      · obtain ⟨b, off, rfl, hbB, d0, d1⟩ := unhide HC j hlt
        have hpr := (unhide HMR).2 j hlt
        unfold Tr.pairOk at hpr
        simp only [Bool.and_eq_true, decide_eq_true_eq] at hpr
        have HF2 := hide ((unhide HF).trans (unhide HST R j hlt))
        have TK := hide (fun w1 (hb1 : Below wr.heap.size wr w1) => take_any w.heap.size w.heap.size Q[j].1 Q[j].2 R (by omega) (by omega) (by omega) (by have := hbd.1; omega) (fun y hy => by have := (hbd.2 y hy).1; omega) w1 (Nat.le_trans hb.size hb1.size) ((unhide HT).below (hb.trans (hb1.mono hb.size))) ((unhide HR).below hb1))
        have HBT := hide (fun (R' : Rgs) (ht : takeP R Q[j].1 Q[j].2 = some R') => bnd_take hbd (by omega) ht)
        generalize Q[j] = q at d0 d1 HF2 TK HBT
        obtain ⟨x, y⟩ := q
        simp only at d0 d1 HF2 TK HBT
        rw [← hb.cell (p := ⟨b, off + j * 2, none⟩) (by simp; omega)] at d0
        rw [← hb.cell (p := ⟨b, off + j * 2 + 1, none⟩) (by simp; omega)] at d1
        have hj1 : (j : Int) < ((Q.length : Nat) : Int) := by omega
        generalize takeP R x y = T at HF2 TK HBT
        clear hpr HF hbd
        go_wp2_with fail
        refine (unhide TK _ (Gr.below_new _ _)).mono ?_
        rintro e w2 ⟨rfl, hR2, hb2⟩
        have b2 := hb.trans (((Gr.below_new wr (Obj.cells #[.string x, .string y] 57)).mono hb.size).trans hb2)
        cases T with
        | none =>
          have hFn : F = none := unhide HF2
          subst hFn
          have hXf : X = false := unhide HQ
          subst hXf
          have HR2 : Hid (RegAt w2 w.heap.size w.heap.size R) := hR2
          clear hR2 hb2
          go_wp2
          go_ret2
          exact ⟨⟨R, rfl, unhide HR2, fun h => by cases h⟩, b2⟩
        | some R' =>
          have HR2 : Hid (RegAt w2 w.heap.size w.heap.size R') := hR2
          have HF3 : Hid (F = regFold R' (Q.drop (j + 1))) := unhide HF2
          have HB3 := hide (unhide HBT R' rfl)
          clear hR2 hb2 HF2 HBT TK
          go_wp2_with fail
          exact ⟨⟨j + 1, R', by go_num, by omega, unhide HR2, unhide HF3, unhide HB3, b2⟩, by simp [intOf]; omega⟩
      · have hFs : F = some R := by rw [unhide HF, List.drop_eq_nil_of_le (by omega)]; rfl
        subst hFs
        have hXc : X = checks R := unhide HQ
        have hj1 : ¬ (j : Int) < ((Q.length : Nat) : Int) := by omega
        have LK := hide (links_any w.heap.size w.heap.size R wr (unhide HR))
        have RD := hide (fun w2 (hb2 : Below wr.heap.size wr w2) => rounds'_any w.heap.size w.heap.size R (by have := hbd.1; omega) (fun y hy => by have := hbd.2 y hy; omega) w2 ((unhide HR).below hb2))
        have ME := hide (fun w2 (hb2 : Below wr.heap.size wr w2) => members_any w.heap.size w.heap.size R w2 ((unhide HR).below hb2))
        have hck : checks R = (linksOk R && (roundsR R && membersOk R)) := rfl
        rw [hck] at hXc
        have HXC := hide hXc
        clear hck hXc hbd
        generalize linksOk R = b1 at LK HXC
        generalize roundsR R = b2 at RD HXC
        generalize membersOk R = b3 at ME HXC
        go_wp2_with fail
        refine (unhide LK).mono ?_
        rintro e w2 ⟨rfl, hb2⟩
        have e2 := hb.trans (hb2.mono hb.size)
        have R2 := hide ((unhide HR).below hb2)
        cases b1 with
        | false =>
          have hXf : X = false := unhide HXC
          subst hXf
          go_wp2
          go_ret2
          exact ⟨⟨R, rfl, unhide R2, fun _ => rfl⟩, e2⟩
        | true =>
          rw [Bool.true_and] at HXC
          go_wp2_with fail
          refine (unhide RD w2 hb2).mono ?_
          rintro e w3 ⟨rfl, hb3⟩
          have hb23 := hb2.trans (hb3.mono hb2.size)
          have e3 := hb.trans (hb23.mono hb.size)
          have R3 := hide ((unhide HR).below hb23)
          cases b2 with
          | false =>
            have hXf : X = false := unhide HXC
            subst hXf
            go_wp2
            go_ret2
            exact ⟨⟨R, rfl, unhide R3, fun _ => rfl⟩, e3⟩
          | true =>
            rw [Bool.true_and] at HXC
            go_wp2_with fail
            refine (unhide ME w3 hb23).mono ?_
            rintro e w4 ⟨rfl, hb4⟩
            have hb24 := hb23.trans (hb4.mono hb23.size)
            have e4 := hb.trans (hb24.mono hb.size)
            have R4 := hide ((unhide HR).below hb24)
            have hXf : X = b3 := unhide HXC
            subst hXf
            go_wp2
            go_ret2
            exact ⟨⟨R, rfl, unhide R4, fun _ => rfl⟩, e4⟩
  · rw [decide_eq_false hM, Bool.false_and] at hX
    rw [decide_eq_false hM] at MO
    subst hX
    go_enter Tryz.func23, Tryz.ntmps23
    go_wp2_with fail
    refine (unhide MO _ (Gr.below_new _ _)).mono ?_
    rintro e w1 ⟨rfl, hb1⟩
    have HR1 := hide ((unhide R0A).below hb1)
    have bw1 := (Gr.below_new w (Obj.cells Z 73)).trans (hb1.mono (Gr.below_new w (Obj.cells Z 73)).size)
    go_wp2
    go_ret2
    exact ⟨⟨R0, rfl, unhide HR1, fun h => by cases h⟩, bw1⟩

end Rg
end Go.Proofs.YtlakimdgebgdkaaGreatDoor

/-
  The contracts of impl.StateOk, impl.Ids, impl.Active, in the laws' form.
-/
namespace Go.Proofs.YtlakimdgebgdkaaGreatDoor
namespace Rg
open Go.RowKit
open Gr (Blk Kept)

theorem who_snoc (f : Nat → Bool) (n : Nat) (h : f n = true) : whoTo f (n + 1) = whoTo f n ++ [(n : Int)] := by rw [who_succ, if_pos h]
theorem who_skip (f : Nat → Bool) (n : Nat) (h : f n = false) : whoTo f (n + 1) = whoTo f n := by rw [who_succ, if_neg (by rw [h]; simp)]
theorem who_short (f : Nat → Bool) : ∀ n, (whoTo f n).length ≤ n
  | 0 => by simp [whoTo]
  | n + 1 => by
    have := who_short f n
    rw [who_succ]
    split
    · simp; omega
    · omega

end Rg
namespace Gr
open Go.RowKit

end Gr
end Go.Proofs.YtlakimdgebgdkaaGreatDoor

/-
  What Reply tells, out of a register: a member's word, all of them one behind the other, a round's ids and bytes. Without a program.
-/
namespace Go.Proofs.YtlakimdgebgdkaaGreatDoor
namespace Rg
open Go.RowKit

/-- A member's Value. -/
def memT (s : Nat × Nat) : ByteArray := if s.1 = 1 then ⟨#[97]⟩ else if s.1 = 2 then ⟨#[108]⟩ else ⟨#[112]⟩ ++ decB (s.2 : Int)

theorem ba_of_list {v : ByteArray} {l : List UInt8} (h : v.toList = l) : v = ⟨l.toArray⟩ := by
  apply ByteArray.ext
  rw [ByteArray.toList_eq] at h
  rw [← Array.toList_inj, h]

theorem stand_text {v : ByteArray} {s : Nat × Nat} (h : standV v = some s) : v = memT s ∧ s.2 ≤ 1000000000 := by
  unfold standV at h
  split at h
  · rename_i h1
    cases h
    exact ⟨ba_of_list (eq_of_beq h1), by simp⟩
  · split at h
    · rename_i h1
      cases h
      exact ⟨ba_of_list (eq_of_beq h1), by simp⟩
    · split at h
      · rename_i h3
        obtain ⟨r, hr, rfl⟩ := Option.map_eq_some_iff.1 h
        unfold rdD at hr
        split at hr
        · split at hr
          · cases hr
          · split at hr
            · rename_i hn
              cases hr
              refine ⟨?_, hn.1⟩
              have hsz : 0 < v.size := by
                rcases Nat.eq_zero_or_pos v.size with h0 | h0
                · unfold byteAt at h3
                  simp [h0] at h3
                · exact h0
              unfold memT
              rw [if_neg (by simp), if_neg (by simp)]
              apply ByteArray.ext
              rw [← Array.toList_inj]
              have h2 := hn.2
              have e1 : (v.extract 1 v.size).toList = v.data.toList.drop 1 := by
                rw [ByteArray.toList_eq]
                have hl : v.data.toList.length = v.size := Array.length_toList
                simp [List.extract_eq_take_drop]
                rw [List.take_of_length_le (by rw [List.length_tail]; omega)]
              rw [e1] at h2
              have hb : byteAt v 0 = (v[0]'hsz).toNat := byteAt_eq hsz
              obtain ⟨⟨l⟩⟩ := v
              cases l with
              | nil => simp [ByteArray.size] at hsz
              | cons a l =>
                have ha : a = 112 := by
                  have : a.toNat = 112 := by rw [hb] at h3; exact h3
                  exact UInt8.toNat_inj.1 this
                have h2' : Lib.itoa (r : Int) = l := h2
                subst ha
                show (112 : UInt8) :: l = ((⟨#[112]⟩ : ByteArray) ++ decB (r : Int)).data.toList
                rw [← h2']
                simp [decB]
            · cases hr
        · cases hr
      · cases h

/-- What is told of the first n ids. -/
def memF (R : Rgs) : Nat → ByteArray
  | 0 => ⟨#[]⟩
  | n + 1 => if isIn R n = true then memF R n ++ ((spB ++ decB (n : Int)) ++ memT (R.mem n)) else memF R n

theorem showF_app (Q : PL) : ∀ (L : List Int) (s : ByteArray) (x : Int), showF Q s (L ++ [x]) = ((showF Q s L ++ spB) ++ decB x) ++ oT (getP Q (⟨#[118]⟩ ++ tw x.toNat))
  | [], s, x => rfl
  | y :: L, s, x => by
    rw [List.cons_append, showF, showF, showF_app Q L]

theorem isIn_mem (R : Rgs) (a : Nat) (h : a < 12) : isIn R a = true ↔ (R.mem a).1 ≠ 0 := by
  unfold isIn joined
  rw [Int.toNat_natCast]
  simp
  omega

theorem show_is {Q : PL} {R : Rgs} (I : Inv Q R) (s : ByteArray) : ∀ n, n ≤ 12 → showF Q s (whoTo (isIn R) n) = s ++ memF R n
  | 0, _ => by
    simp [whoTo, showF, memF]
    apply ByteArray.ext
    rw [← Array.toList_inj]
    simp
  | n + 1, hn => by
    have ih := show_is I s n (by omega)
    rw [who_succ, memF]
    cases hi : isIn R n with
    | false => rw [if_neg (by simp), if_neg (by simp)]; exact ih
    | true =>
      rw [if_pos rfl, if_pos rfl, showF_app, ih, Int.toNat_natCast]
      have hv := I.v n (by omega)
      have hm := (isIn_mem R n (by omega)).1 hi
      have hk : (⟨#[118]⟩ ++ tw n : ByteArray) = k1 118 n := rfl
      rw [hk]
      cases hg : getP Q (k1 118 n) with
      | none => rw [hg] at hv; exact absurd (by rw [hv]) hm
      | some v =>
        rw [hg] at hv
        have := (stand_text hv).1
        show ((s ++ memF R n ++ spB) ++ decB (n : Int)) ++ v = _
        rw [this]
        simp [ByteArray.append_assoc]

theorem mem_bound {Q : PL} {R : Rgs} (I : Inv Q R) (a : Nat) (h : a < 12) : (R.mem a).2 ≤ 1000000000 := by
  have hv := I.v a h
  cases hg : getP Q (k1 118 a) with
  | none => rw [hg] at hv; rw [hv]; simp
  | some v => rw [hg] at hv; exact (stand_text hv).2

theorem memT_size (s : Nat × Nat) (h : s.2 ≤ 1000000000) : (memT s).size ≤ 21 := by
  unfold memT
  split
  · show (1 : Nat) ≤ 21; omega
  · split
    · show (1 : Nat) ≤ 21; omega
    · rw [ByteArray.size_append]
      have := decB_size s.2 (by omega)
      have : (ByteArray.mk #[112]).size = 1 := rfl
      omega

/-- A round's certificate is written as its parts, put together. -/
theorem roC_text {Q : PL} {r : Int} (h : roOk Q r = true) : Gr.certT (roC Q r).s (roC Q r).Q (roC Q r).M (roC Q r).Y (roC Q r).G = textP Q r.toNat := by
  have hC : roC Q r = Gr.rcV (textP Q r.toNat) := by unfold roC; rw [if_pos h]
  unfold roOk at h
  simp only [Bool.and_eq_true, decide_eq_true_eq] at h
  have hst := h.1
  unfold stateOk at hst
  simp only [Bool.and_eq_true, decide_eq_true_eq] at hst
  have hro := (rounds_iff Q _ 0).1 hst.2.2.2.1 r.toNat (by omega)
  rw [Nat.zero_add] at hro
  unfold roundOk at hro
  simp only [Bool.and_eq_true] at hro
  obtain ⟨h1, h2⟩ := Gr.rc_is hro.2.2.2.1
  rw [hC]
  unfold Gr.certT
  rw [if_pos h1, h2]

theorem commasF_tail : ∀ (L : List Int) (k : Nat) (s : ByteArray), 0 < k → (commasF k s L).data.toList = s.data.toList ++ Lib.joinTail [44] (L.map fun x => (decB x).data.toList)
  | [], k, s, _ => by simp [commasF, Lib.joinTail]
  | x :: L, k, s, hk => by
    rw [commasF, if_pos hk, commasF_tail L (k + 1) _ (by omega)]
    simp [Lib.joinTail]

/-- Decimals, joined by a comma. -/
theorem commas_join (L : List Int) : (⟨(Lib.join (L.map fun x => (decB x).data.toList) (ByteArray.mk #[44]).data.toList).toArray⟩ : ByteArray) = commas L := by
  apply ByteArray.ext
  rw [← Array.toList_inj]
  cases L with
  | nil => rfl
  | cons x L =>
    have h := commasF_tail L 1 (⟨#[]⟩ ++ decB x) (by omega)
    have e : commas (x :: L) = commasF 1 (⟨#[]⟩ ++ decB x) L := rfl
    rw [e, h, List.map_cons, Lib.join_cons]
    simp

end Rg
end Go.Proofs.YtlakimdgebgdkaaGreatDoor

/-
  The program's contracts below Reply: failAnswer, a member's value, a round's told.
-/
namespace Go.Proofs.YtlakimdgebgdkaaGreatDoor
namespace Rg
open Go.RowKit
open Gr (Blk Kept)

set_option maxRecDepth 100000 in
theorem failAnswer_any (code : Int) (h0 : -9223372036854775808 ≤ code) (h1 : code ≤ 9223372036854775807) (w : World) (ht : Tab w.heap.size w) :
    Calls Tryz.prog 22 #[.int .i64 code] w fun e w' => e = .returned (.string (failB ++ decB code)) ∧ Below w.heap.size w w' := by
  have DE := hide (Dc.implDec_any code h0 h1 w ht.here)
  have HDB : Hid ((⟨(Lib.itoa code).toArray⟩ : ByteArray) = decB code) := rfl
  have hds := decB_short code h0 h1
  generalize decB code = d at HDB hds ⊢
  have HF : Hid (failB = ⟨#[102, 97, 105, 108, 32]⟩) := rfl
  have hf5 : (ByteArray.mk #[102, 97, 105, 108, 32]).size = 5 := rfl
  rw [unhide HF]
  have hcat : ¬ 9223372036854775807 < (ByteArray.mk #[102, 97, 105, 108, 32]).size + d.size := by omega
  clear ht
  go_enter Tryz.func22, Tryz.ntmps22
  go_wp2_with fail
  refine (unhide DE).mono ?_
  rintro e w2 ⟨rfl, hb2⟩
  rw [unhide HDB]
  go_wp2_with fail
  go_ret
  exact ⟨rfl, hb2⟩

set_option maxRecDepth 100000 in
theorem value_any (s : Nat × Nat) (h : s.2 ≤ 1000000000) (B : Nat) (w : World) (hB : B ≤ w.heap.size) (ht : Tab B w) :
    Calls Tryz.prog 50 #[.agg #[.int .i64 (s.1 : Int), .int .i64 (s.2 : Int)]] w fun e w' => e = .returned (.string (memT s)) ∧ Below w.heap.size w w' := by
  obtain ⟨m, r⟩ := s
  simp only at h ⊢
  have hT : memT (m, r) = if m = 1 then ⟨#[97]⟩ else if m = 2 then ⟨#[108]⟩ else ⟨#[112]⟩ ++ decB (r : Int) := rfl
  rw [hT]
  clear hT
  by_cases h1 : m = 1
  · subst h1
    rw [if_pos rfl]
    go_enter Tryz.func50, Tryz.ntmps50
    go_wp2_with fail
    go_ret
    exact ⟨rfl, Gr.below_new _ _⟩
  · rw [if_neg h1]
    by_cases h2 : m = 2
    · subst h2
      rw [if_pos rfl]
      go_enter Tryz.func50, Tryz.ntmps50
      go_wp2_with fail
      go_ret
      exact ⟨rfl, Gr.below_new _ _⟩
    · rw [if_neg h2]
      have e1 : ((m : Int) == 1) = false := by rw [beq_eq_false_iff_ne]; omega
      have e2 : ((m : Int) == 2) = false := by rw [beq_eq_false_iff_ne]; omega
      have DE := hide (fun w1 (hb : Below w.heap.size w w1) => Dc.implDec_any (r : Int) (by omega) (by omega) w1 (ht.below (hb.mono hB)).here)
      have HDB : Hid ((⟨(Lib.itoa (r : Int)).toArray⟩ : ByteArray) = decB (r : Int)) := rfl
      have hds := decB_size r (by omega)
      generalize decB (r : Int) = d at HDB hds ⊢
      have h112 : (ByteArray.mk #[112]).size = 1 := rfl
      have hcat : ¬ 9223372036854775807 < (ByteArray.mk #[112]).size + d.size := by omega
      clear h1 h2 ht
      go_enter Tryz.func50, Tryz.ntmps50
      go_wp2_with fail
      refine (unhide DE _ (Gr.below_new _ _)).mono ?_
      rintro e w2 ⟨rfl, hb2⟩
      rw [unhide HDB]
      have b2 : Below w.heap.size w w2 := (Gr.below_new _ _).trans (hb2.mono (by simp))
      clear hb2
      go_wp2_with fail
      go_ret
      exact ⟨rfl, b2⟩

theorem join_comma (B : Nat) (v : Value) (L : List Int) (hL : L.length ≤ 1000) (hr : ∀ x ∈ L, 0 ≤ x ∧ x ≤ 1000000000) (w : World) (h : w.ownsRow B 9 1 v L.length (Gr.textsV (L.map decB))) :
    Calls Tryz.prog 68 #[v, .string ⟨#[44]⟩] w fun e w' => e = .returned (.string (commas L)) ∧ Below w.heap.size w w' := by
  rcases h.2 with ⟨rfl, h0⟩ | ⟨g, cap, cur, rfl, hb, hg, hcap, _, _, htake⟩
  · have hn : L = [] := List.length_eq_zero_iff.1 h0
    subst hn
    refine (Tryz.strings_Join_none none 0 ⟨#[44]⟩ w).mono ?_
    rintro e w' ⟨rfl, rfl⟩
    exact ⟨rfl, Below.refl _ _⟩
  · have hcm := commas_join L
    have hsz := commasF_size L 0 ⟨#[]⟩ hr
    have hz : (ByteArray.mk #[]).size = 0 := rfl
    have hlen : (Lib.join ((L.map decB).map (·.data.toList)) (ByteArray.mk #[44]).data.toList).length = (commas L).size := by
      rw [← hcm, List.map_map]
      show _ = (List.toArray _).size
      rw [List.size_toArray]
      rfl
    have hcz : (commas L).size ≤ 21000 := by
      unfold commas
      omega
    have hj := Tryz.strings_Join g 0 cap (L.map decB) ⟨#[44]⟩ w (fun j x hx => by
      have hj : j < (L.map decB).length := (List.getElem?_eq_some_iff.1 hx).1
      rw [List.length_map] at hj
      rw [Nat.zero_add, h.cellAt j (by omega)]
      simp only [Gr.textsV, List.getElem?_map] at hx ⊢
      rw [hx]
      rfl) (h.lt g rfl).2 (by rw [List.length_map]; omega) (by rw [List.length_map]; exact hcap) (by rw [hlen]; omega)
    rw [List.length_map] at hj
    refine hj.mono ?_
    rintro e w' ⟨rfl, hbw⟩
    refine ⟨?_, hbw⟩
    rw [← hcm, List.map_map]
    rfl

theorem implHex_all (t : ByteArray) (w : World) : Calls Tryz.prog 67 #[.string t] w fun e w' => (∃ b : Bool, e = .returned (.tuple #[.string (hexT t), .bool b])) ∧ Below w.heap.size w w' := by
  by_cases h : t.size ≤ 8000
  · refine (Hx.implHex_yes t h w).mono ?_
    rintro e w' ⟨rfl, hb⟩
    exact ⟨⟨true, by unfold hexT; rw [if_pos h]⟩, hb⟩
  · refine (Hx.implHex_no t (by omega) w).mono ?_
    rintro e w' ⟨rfl, hb⟩
    refine ⟨⟨false, by unfold hexT; rw [if_neg h]⟩, ?_⟩
    first | exact hb | (subst hb; exact Below.refl _ _)

/-- What a round is told as. -/
def roundT (P : List Int) (L : List ByteArray) : ByteArray := ((spB ++ commas P) ++ spB) ++ hexT (joinB L)

set_option maxRecDepth 100000 in
set_option maxHeartbeats 2000000 in
theorem told_any (B : Nat) (vp vt : Value) (P : List Int) (L : List ByteArray) (hP : P.length ≤ 1000) (hr : ∀ x ∈ P, 0 ≤ x ∧ x ≤ 1000000000) (hs : (joinB L).size ≤ 1048576) (hL : L.length ≤ 1048576) (w : World) (ht : Tab w.heap.size w) (h1 : w.ownsRow B 3 1 vp P.length (Gr.intsV P)) (h2 : w.ownsRow B 9 1 vt L.length (Gr.textsV L)) :
    Calls Tryz.prog 47 #[.agg #[vp, vt]] w fun e w' => e = .returned (.string (roundT P L)) ∧ Below w.heap.size w w' := by
  obtain ⟨i0, hi0, hz0, hz1, hz2⟩ := info_parts Gr.info_string
  obtain ⟨pa, pc, rfl, hPA⟩ := Gr.intsAt_of_own h1
  obtain ⟨ta, tc, rfl⟩ := row_shape0 h2
  have HC := hide hPA.2
  have HRG := hide hr
  have DE := hide (fun (x : Int) (hx : 0 ≤ x ∧ x ≤ 1000000000) w1 (hb : Below w.heap.size w w1) => Dc.implDec_any x (by omega) (by omega) w1 (ht.below hb).here)
  have JO := hide (fun w1 (hb : Below w.heap.size w w1) => join_own B (.slice ta L.length tc) L hs hL w1 (Gr.own_below h2 hb))
  have JC := hide (fun v w1 h => join_comma w.heap.size v P hP hr w1 h)
  have HX := hide (fun w1 => implHex_all (joinB L) w1)
  have hhz := hexT_size (joinB L)
  have hcz := commasF_size P 0 ⟨#[]⟩ hr
  have hcz2 : (commas P).size ≤ 21000 := by
    unfold commas
    have : (ByteArray.mk #[]).size = 0 := rfl
    omega
  obtain ⟨TX, hTX⟩ : ∃ TX, TX = P.map decB := ⟨_, rfl⟩
  have HMS : Hid (∀ k (h : k < P.length), TX.take (k + 1) = TX.take k ++ [decB P[k]]) := fun k h => by
    have h' : k < TX.length := by rw [hTX, List.length_map]; exact h
    rw [List.take_succ_eq_append_getElem h']
    simp only [hTX, List.getElem_map]
  have HTA : Hid (TX.take P.length = P.map decB) := by show _ = _; rw [hTX, List.take_of_length_le (by simp)]
  have HTL : Hid (∀ k, k ≤ P.length → (TX.take k).length = k) := fun k h => by rw [hTX]; simp; omega
  clear hTX
  have hR : roundT P L = ((⟨#[32]⟩ ++ commas P) ++ ⟨#[32]⟩) ++ hexT (joinB L) := rfl
  rw [hR]
  generalize commas P = cm at JC hcz2 ⊢
  generalize hexT (joinB L) = hx at HX hhz ⊢
  generalize joinB L = jb at JO HX
  obtain ⟨n, hn⟩ : ∃ n, n = P.length := ⟨_, rfl⟩
  rw [← hn] at hP
  have HN := hide hn
  clear hr h1 h2 hPA ht hs hL hcz hR hn
  rw [← unhide HN]
  go_enter Tryz.func47, Tryz.ntmps47
  go_wp2_with fail
  obtain ⟨U, hU⟩ : ∃ W, W = w.alloc (Obj.cells #[.slice pa n pc, .slice ta L.length tc] 100) := ⟨_, rfl⟩
  rw [← hU]
  have bU : Below w.heap.size w U := by rw [hU]; exact Gr.below_new _ _
  have HU : Hid (Blk U w.heap.size #[.slice pa n pc, .slice ta L.length tc] 100) := by show Blk _ _ _ _; rw [hU]; exact Gr.Blk.new0
  clear hU
  go_loopw [3, 11] (fun v iv wr => ∃ (k : Nat) (ov : Value), iv = .int .i64 (k : Int) ∧ ov = v ∧ k ≤ n ∧ Hid (wr.ownsRow w.heap.size 9 1 ov k (Gr.textsV (TX.take k))) ∧ Hid (Blk wr w.heap.size #[.slice pa n pc, .slice ta L.length tc] 100) ∧ Below w.heap.size w wr) (fun _ iv _ => n - (intOf iv).toNat)
  case atStart => exact ⟨0, _, rfl, rfl, Nat.zero_le _, World.ownsRow_nil _ _ _ _, HU, bU⟩
  case round =>
    obtain ⟨k, ov, rfl, rfl, hk, HO, HB, hb⟩ := hrel
    have hbs := hb.size
    by_cases hlt : k < n
    · have hkP : k < P.length := by have := unhide HN; omega
      obtain ⟨b, off, rfl, hbB, c1⟩ := unhide HC k hkP
      have c2 : wr.cell? ⟨b, off + k, none⟩ = some (.int .i64 P[k]) := by rw [hb.cell (p := ⟨b, off + k, none⟩) (by simp; omega)]; exact c1
      have hx := unhide HRG _ (List.getElem_mem hkP)
      have HS := hide (unhide HMS k hkP)
      have DEk := hide (unhide DE P[k] hx wr hb)
      have HDB : Hid ((⟨(Lib.itoa P[k]).toArray⟩ : ByteArray) = decB P[k]) := rfl
      generalize decB P[k] = d at HDB HS
      generalize P[k] = x at c1 c2 hx DEk HDB
      have hx0 : (0 : Int) ≤ (k : Int) := by omega
      have hx1 : (k : Int) < (n : Int) := by omega
      have hown := unhide HO
      clear c1
      go_wp2_with fail
      refine (unhide DEk).mono ?_
      rintro e w1 ⟨rfl, hb1⟩
      rw [unhide HDB]
      have hown1 := Gr.own_below hown hb1
      have b1 := hb.trans (hb1.mono hb.size)
      have HB1 := hide ((unhide HB).below hb1)
      have hbs1 := b1.size
      have hzb := (unhide HB1).lt
      clear hb1 hown c2 DEk HDB
      go_wp2_with (at_builtin; refine wpList_append_own _ rfl _ _ 80 rfl w.heap.size 9 i0 (.string ⟨#[]⟩) 1 16 Tryz.underlying80 hi0 hz0 hz1 hz2 rfl (by decide) _ _ _ rfl (hown1.alloc _) ⟨w1.heap.size, 0, none⟩ 1 1 [.string d] rfl rfl (cell_one_new _ _ _) (Gr.one_text _) ?c3 ?c4 ?c5 ?_)
      case c3 => unfold maxLen; omega
      case c4 => omega
      case c5 => simp; omega
      intro v' w3 hown' hgrow _
      have hb3 := below_append b1 (Nat.le_refl _) hown1 hgrow
      have HO3 : Hid (w3.ownsRow w.heap.size 9 1 v' (k + 1) (Gr.textsV (TX.take (k + 1)))) := by
        show World.ownsRow _ _ _ _ _ _ _
        rw [unhide HS]
        have e := unhide HTL k (by omega)
        have h := Gr.own_text (L := TX.take k) (by rw [e]; exact hown')
        simp only [List.length_append, List.length_singleton, e] at h
        exact h
      have HB3 : Hid (Blk w3 w.heap.size #[.slice (some ⟨b, off, none⟩) n pc, .slice ta L.length tc] 100) := by
        show Blk _ _ _ _
        exact ((unhide HB1).alloc).grown hgrow (((unhide HB1).apart hown1 (by decide)))
      clear hown1 hown' hgrow
      go_wp2_with fail
      exact ⟨⟨k + 1, _, by go_num, rfl, by omega, HO3, HB3, hb3⟩, by simp [intOf]; omega⟩
    · obtain rfl : k = n := by omega
      have hx1 : ¬ (k : Int) < (k : Int) := by omega
      have hO := unhide HO
      have e1 := unhide HN
      rw [e1, unhide HTA, ← e1] at hO
      have c1 : wr.cell? ⟨w.heap.size, 1, none⟩ = some (.slice ta L.length tc) := (unhide HB).cell 1 _ rfl
      have HO2 := hide hO
      clear hO HO HB
      go_wp2_with fail
      refine (unhide JO wr hb).mono ?_
      rintro e w1 ⟨rfl, hb1⟩
      have b1 := hb.trans (hb1.mono hb.size)
      have hO1 := Gr.own_below (unhide HO2) hb1
      have HO3 := hide hO1
      clear hb1 hO1 c1 HO2
      go_wp2_with fail
      refine (unhide HX _).mono ?_
      rintro e w2 ⟨⟨bb, rfl⟩, hb2⟩
      have b2 := b1.trans (hb2.mono b1.size)
      have hO2 := Gr.own_below (unhide HO3) hb2
      have hO3 : w2.ownsRow w.heap.size 9 1 ov P.length (Gr.textsV (P.map decB)) := by rw [← e1]; exact hO2
      have JC2 := hide (unhide JC ov w2 hO3)
      clear hb2 hO2 hO3 HO3
      go_wp2_with fail
      refine (unhide JC2).mono ?_
      rintro e w3 ⟨rfl, hb3⟩
      have b3 := b2.trans (hb3.mono b2.size)
      have h32 : (ByteArray.mk #[32]).size = 1 := rfl
      have hcat1 : ¬ 9223372036854775807 < (ByteArray.mk #[32]).size + cm.size := by omega
      have s1 : (ByteArray.mk #[32] ++ cm).size = 1 + cm.size := by rw [ByteArray.size_append, h32]
      have hcat2 : ¬ 9223372036854775807 < (ByteArray.mk #[32] ++ cm).size + (ByteArray.mk #[32]).size := by omega
      have s2 : ((ByteArray.mk #[32] ++ cm) ++ ByteArray.mk #[32]).size = 1 + cm.size + 1 := by rw [ByteArray.size_append, s1, h32]
      have hcat3 : ¬ 9223372036854775807 < ((ByteArray.mk #[32] ++ cm) ++ ByteArray.mk #[32]).size + hx.size := by omega
      clear hb3 s1 s2 e1
      go_wp2_with fail
      go_ret
      exact ⟨rfl, b3⟩
end Rg
end Go.Proofs.YtlakimdgebgdkaaGreatDoor

/-
  The contract of impl.RoundOf, in the laws' form.
-/
namespace Go.Proofs.YtlakimdgebgdkaaGreatDoor
namespace Rg
open Go.RowKit
open Gr (Blk Kept)

/-- What a right state's round is, in the register and in the map. -/
theorem round_facts {Q : PL} {R : Rgs} (hst : stateOk Q = true) (hf : regFold R0 Q = some R) : rnds Q = R.rds.length ∧ R.rds.length ≤ 6 ∧ ∀ r (h : r < R.rds.length), poolP Q r = R.rds[r].1 ∧ cV R.rds[r].2 = Gr.rcV (textP Q r) ∧ (joinB R.rds[r].2).size ≤ 1048576 ∧ R.rds[r].2.length ≤ 1048576 := by
  obtain ⟨R', hf', I, ha, hc, hr⟩ := reg_inv hst
  rw [hf] at hf'
  cases hf'
  have hc' := hc
  unfold checks roundsR at hc'
  simp only [Bool.and_eq_true, decide_eq_true_eq] at hc'
  have h6 := hc'.2.1.2
  refine ⟨hr, h6, fun r h => ?_⟩
  have ht := I.t r (by omega)
  rw [List.getElem?_eq_getElem h] at ht
  change joinB R.rds[r].2 = textP Q r at ht
  have hrd := hc'.2.1.1 _ (List.getElem_mem h)
  unfold rdOk at hrd
  simp only [Bool.and_eq_true, decide_eq_true_eq] at hrd
  refine ⟨(inv_pool I r (by omega) h).2, ?_, ?_, ?_⟩
  · unfold cV
    rw [if_pos hrd.1.1, ht]
  · rw [ht]
    have h1 := text_size Q r
    have h2 := map_tot (state_map hst).1
    omega
  · have := I.rl _ (List.getElem_mem h)
    omega

theorem roOk_no {Q : PL} (r : Int) (h : stateOk Q = false) : roOk Q r = false := by unfold roOk; rw [h, Bool.false_and]

end Rg
namespace Gr
open Go.RowKit

theorem load_cert' {W : World} {g : Nat} {a b c d e : Value} (h : Blk W g #[a, b, c, d, e] 48) : (loadVar 48 ⟨g, 0, none⟩).run Tryz.prog W = .ok (.agg #[a, b, c, d, e]) W := load_cert h

theorem offQ_all : ∀ (G : List GrpI), offQ G G.length = G.length + gbulk G
  | [] => rfl
  | x :: r => by
    have := offQ_all r
    unfold offQ at *
    rw [List.take_length] at *
    simp only [List.map_cons, List.sum_cons, List.length_cons, gbulk]
    omega

theorem mkAll_le (k : Nat) {Q : List EdgeI} {M : List CoupleI} {Y : List Int} {G : List GrpI} (h : csize Q M Y G ≤ 1048576) (hk : k ≤ 1000000) : mkAll k Q M Y G ≤ 100000000 := by
  unfold mkAll mkY mkM
  rw [offQ_all]
  unfold csize psize at h
  omega

theorem crown_low {S : Nat → Prop} {w w' : World} {C : Nat} {v : Value} {s : Int} {Q : List EdgeI} {M : List CoupleI} {Y : List Int} {G : List GrpI} (h : CROwn w C v s Q M Y G) (hk : Kept S w w') (hS : ∀ g, S g → g < C) : CROwn w' C v s Q M Y G := by
  obtain ⟨v1, v2, v3, v4, rfl, h1, h2, u1, u2, ms, hu, h3, h4, h5⟩ := h
  have hne : ∀ {e z n : Nat} {u : Value} {xs : List Value}, w.ownsRow C e z u n xs → w'.ownsRow C e z u n xs := fun ho => hk.own ho (fun g hg hs => by have := (ho.lt g hg).1; have := hS g hs; omega)
  exact ⟨v1, v2, v3, v4, rfl, hne h1, hne h2, u1, u2, ms, hu, hne h3, ⟨h4.1, hne h4.2.1, fun j a b => hne (h4.2.2 j a b)⟩, h5⟩

theorem blk_low {w w' : World} {S g : Nat} {C : Array Value} {t : TypeId} (h : Blk w g C t) (hb : Below S w w') (hg : g < S) : Blk w' g C t := (hb.block g hg).trans h

theorem pair_types : (57 : Nat) ≠ 3 ∧ (57 : Nat) ≠ 89 ∧ (57 : Nat) ≠ 91 ∧ (57 : Nat) ≠ 93 ∧ (57 : Nat) ≠ 48 := by decide

end Gr
end Go.Proofs.YtlakimdgebgdkaaGreatDoor

/-
  The program's contracts of roundTold, membersTold and Reply.
-/
namespace Go.Proofs.YtlakimdgebgdkaaGreatDoor
namespace Rg
open Go.RowKit
open Gr (Blk Kept Grown wp_region_pre)

set_option maxRecDepth 100000 in
set_option maxHeartbeats 1000000 in
theorem roundTold_any (B g : Nat) (R : Rgs) (r : Int) (hpo : ∀ p ∈ R.rds, p.1.length ≤ 1000 ∧ (∀ x ∈ p.1, 0 ≤ x ∧ x ≤ 1000000000) ∧ (joinB p.2).size ≤ 1048576 ∧ p.2.length ≤ 1048576) (w : World) (ht : Tab w.heap.size w) (hR : RegAt w B g R) :
    Calls Tryz.prog 25 #[.pointer (some ⟨g, 0, none⟩), .int .i64 r] w fun e w' => e = .returned (.string (if h : 0 ≤ r ∧ r.toNat < R.rds.length then roundT (R.rds[r.toNat]'h.2).1 (R.rds[r.toNat]'h.2).2 else ⟨#[]⟩)) ∧ Below w.heap.size w w' := by
  obtain ⟨_, rv, vs, hk0, hrd0⟩ := hR
  obtain ⟨ra, rc, hrv⟩ := row_shape0 hrd0.own
  subst hrv
  have c600 : w.cell? ⟨g, 600, none⟩ = some (.slice ra R.rds.length rc) := hk0.cell 600 _ (by rw [regC_at _ _ _ (by omega), cell_rds])
  have IP := hide (fun w2 => Gr.isPlace_is r (R.rds.length : Int) w2)
  by_cases hin : 0 ≤ r ∧ r.toNat < R.rds.length
  · rw [dif_pos hin]
    obtain ⟨n, rfl⟩ := Int.eq_ofNat_of_zero_le hin.1
    have hn : n < R.rds.length := by have := hin.2; omega
    simp only [Int.toNat_natCast]
    have hpl : (decide (0 ≤ (n : Int)) && decide ((n : Int) < (R.rds.length : Int))) = true := by simp; omega
    rw [hpl] at IP
    have hnv : n < vs.length := by rw [hrd0.len]; exact hn
    have hpool := hrd0.pool n hnv hn
    have hpart := hrd0.part n hnv hn
    obtain ⟨pa, pc, hpv⟩ := row_shape0 hpool
    obtain ⟨ta, tc, htv⟩ := row_shape0 hpart
    obtain ⟨gv, hgv⟩ : ∃ gv, ra = some ⟨gv, 0, none⟩ := by
      rcases hrd0.own.2 with ⟨h1, h2⟩ | ⟨gv, cap, cur, h1, _⟩
      · omega
      · simp at h1; exact ⟨gv, h1.1⟩
    subst hgv
    have q0 : w.cell? ⟨gv, n * 2, none⟩ = some (.slice pa R.rds[n].1.length pc) := by rw [hrd0.own.cellAt (n * 2) (by omega), ← hpv]; exact (flat_at vs n hnv).1
    have q1 : w.cell? ⟨gv, n * 2 + 1, none⟩ = some (.slice ta R.rds[n].2.length tc) := by rw [hrd0.own.cellAt (n * 2 + 1) (by omega), ← htv]; exact (flat_at vs n hnv).2
    rw [hpv] at hpool
    rw [htv] at hpart
    obtain ⟨p1, p2, p3, p4⟩ := hpo _ (List.getElem_mem hn)
    have TD := hide (told_any B (.slice pa R.rds[n].1.length pc) (.slice ta R.rds[n].2.length tc) R.rds[n].1 R.rds[n].2 p1 p2 p3 p4 w ht hpool hpart)
    have hnn : ((n : Nat) : Int) < ((R.rds.length : Nat) : Int) := by omega
    have hn0 : (0 : Int) ≤ ((n : Nat) : Int) := by omega
    generalize roundT R.rds[n].1 R.rds[n].2 = RT at TD ⊢
    generalize R.rds[n].1.length = pl at q0 TD
    generalize R.rds[n].2.length = tl at q1 TD
    clear hpo ht hk0 hrd0 hpl hpv htv hpool hpart p1 p2 p3 p4 hin
    go_enter Tryz.func25, Tryz.ntmps25
    go_wp2_with fail
    refine (unhide IP _).mono ?_
    rintro e w2 ⟨rfl, rfl⟩
    go_wp2_with fail
    refine (unhide TD).mono ?_
    rintro e w3 ⟨rfl, hb3⟩
    go_wp2
    go_ret
    exact ⟨rfl, hb3⟩
  · rw [dif_neg hin]
    have hpl : (decide (0 ≤ r) && decide (r < (R.rds.length : Int))) = false := by simp; omega
    rw [hpl] at IP
    clear hpo ht hk0 hrd0 hpl hin
    go_enter Tryz.func25, Tryz.ntmps25
    go_wp2_with fail
    refine (unhide IP _).mono ?_
    rintro e w2 ⟨rfl, rfl⟩
    go_wp2
    go_ret
    exact ⟨rfl, Below.refl _ _⟩

theorem memF_size (R : Rgs) (h : ∀ a, a < 12 → (R.mem a).2 ≤ 1000000000) : ∀ n, n ≤ 12 → (memF R n).size ≤ 50 * n
  | 0, _ => by show (0 : Nat) ≤ _; omega
  | n + 1, hn => by
    have ih := memF_size R h n (by omega)
    rw [memF]
    split
    · rw [ByteArray.size_append, ByteArray.size_append, ByteArray.size_append]
      have h1 := memT_size (R.mem n) (h n (by omega))
      have h2 := decB_size n (by omega)
      have h3 : spB.size = 1 := rfl
      omega
    · omega

set_option maxRecDepth 100000 in
set_option maxHeartbeats 2000000 in
theorem memTold_any (B g : Nat) (R : Rgs) (hm : ∀ a, a < 12 → (R.mem a).2 ≤ 1000000000) (w : World) (ht : Tab w.heap.size w) (hR : RegAt w B g R) :
    Calls Tryz.prog 26 #[.pointer (some ⟨g, 0, none⟩)] w fun e w' => e = .returned (.string (memF R 12)) ∧ Below w.heap.size w w' := by
  have JN := hide (fun (i : Int) w1 (hb : Below w.heap.size w w1) => joined_any i B g R w1 (hR.below hb))
  have HME := hide (fun a ha w1 (hb : Below w.heap.size w w1) => (hR.below hb).mem a ha)
  have DE := hide (fun (n : Nat) (h : n < 12) w1 (hb : Below w.heap.size w w1) => Dc.implDec_any (n : Int) (by omega) (by omega) w1 (ht.below hb).here)
  have VA := hide (fun (a : Nat) (ha : a < 12) w1 (hb : Below w.heap.size w w1) => value_any (R.mem a) (hm a ha) w.heap.size w1 hb.size (ht.below hb))
  have WS := hide (fun bs s w1 h hlen hB1 => Tryz.Builder_WriteString w.heap.size w.heap.size bs s w1 h hlen hB1)
  have ST := hide (fun l w1 h hB1 => Tryz.Builder_String_any w.heap.size w.heap.size l w1 h hB1)
  have HSZ := hide (memF_size R hm)
  have HF : Hid (∀ n, memF R (n + 1) = if isIn R n = true then memF R n ++ ((spB ++ decB (n : Int)) ++ memT (R.mem n)) else memF R n) := fun n => rfl
  have HDS := hide (fun (n : Nat) (h : n < 12) => decB_size n (by omega))
  have HVS := hide (fun (a : Nat) (h : a < 12) => memT_size (R.mem a) (hm a h))
  have hgl := hR.lt.2
  have HB0 : Hid (Lib.IsBuilder 103 5 w.heap.size w.heap.size (Lib.byteCells (memF R 0).data.toList) (w.alloc (Obj.cells #[.pointer none, .slice none 0 0] 103))) :=
    .inl ⟨Nat.le_refl _, .slice none 0 0, heap_alloc_new w _, ⟨rfl, .inl ⟨rfl, rfl⟩⟩, by simp [Value.ownBlock]⟩
  clear hR ht hm
  go_enter Tryz.func26, Tryz.ntmps26
  go_wp2_with fail
  go_loopw [5] (fun iv wr => ∃ (k : Nat), iv = .int .i64 (k : Int) ∧ k ≤ 12 ∧ Hid (Lib.IsBuilder 103 5 w.heap.size w.heap.size (Lib.byteCells (memF R k).data.toList) wr) ∧ Below w.heap.size w wr) (fun iv _ => 12 - (intOf iv).toNat)
  case atStart => exact ⟨0, rfl, Nat.zero_le _, unhide HB0, Gr.below_new _ _⟩
  case round =>
    obtain ⟨k, rfl, hk, HB, hb⟩ := hrel
    have hbs := hb.size
    by_cases hlt : k < 12
    · have hx1 : (k : Int) < 12 := by omega
      have hx0 : (0 : Int) ≤ (k : Int) := by omega
      have J1 := hide (unhide JN (k : Int) wr hb)
      change Hid (Calls _ _ _ _ fun e w' => e = .returned (.bool (isIn R k)) ∧ w' = wr) at J1
      have HFk := hide (unhide HF k)
      cases hi : isIn R k with
      | false =>
        rw [hi] at J1 HFk
        have hFe : memF R (k + 1) = memF R k := by rw [unhide HFk]; rfl
        have HB2 : Hid (Lib.IsBuilder 103 5 w.heap.size w.heap.size (Lib.byteCells (memF R (k + 1)).data.toList) wr) := by rw [hFe]; exact HB
        clear hFe hi HFk
        go_wp2_with fail
        refine (unhide J1).mono ?_
        rintro e w1 ⟨rfl, rfl⟩
        go_wp2_with fail
        exact ⟨⟨k + 1, by go_num, by omega, HB2, hb⟩, by simp [intOf]; omega⟩
      | true =>
        rw [hi] at J1 HFk
        have hFe : memF R (k + 1) = memF R k ++ ((⟨#[32]⟩ ++ decB (k : Int)) ++ memT (R.mem k)) := by rw [unhide HFk]; rfl
        obtain ⟨m0, m1⟩ := unhide HME k hlt wr hb
        have G (d : Grown wr.heap.size wr) : Below w.heap.size w d.w := hb.trans (d.below.mono hbs)
        have k0 : ∀ d : Grown wr.heap.size wr, d.w.cell? ⟨g, k * 2, none⟩ = some (.int .i64 (((R.mem k).1 : Nat) : Int)) := fun d => (d.below.cell (p := ⟨g, k * 2, none⟩) (by simp; omega)).trans m0
        have k1 : ∀ d : Grown wr.heap.size wr, d.w.cell? ⟨g, k * 2 + 1, none⟩ = some (.int .i64 (((R.mem k).2 : Nat) : Int)) := fun d => (d.below.cell (p := ⟨g, k * 2 + 1, none⟩) (by simp; omega)).trans m1
        have DEk := hide (fun (d : Grown wr.heap.size wr) => unhide DE k hlt d.w (G d))
        have VAk := hide (fun (d : Grown wr.heap.size wr) => unhide VA k hlt d.w (G d))
        have HDB : Hid ((⟨(Lib.itoa (k : Int)).toArray⟩ : ByteArray) = decB (k : Int)) := rfl
        rw [unhide HDB] at DEk
        have hds := unhide HDS k hlt
        have hvs := unhide HVS k hlt
        have hms := unhide HSZ k hk
        generalize (((R.mem k).1 : Nat) : Int) = sa at k0 VAk
        generalize (((R.mem k).2 : Nat) : Int) = sb at k1 VAk
        generalize memT (R.mem k) = mt at VAk hvs hFe
        generalize decB (k : Int) = dk at DEk hds hFe
        have h32 : (ByteArray.mk #[32]).size = 1 := rfl
        have s1 : (ByteArray.mk #[32] ++ dk).size = 1 + dk.size := by rw [ByteArray.size_append, h32]
        have s2 : ((ByteArray.mk #[32] ++ dk) ++ mt).size = 1 + dk.size + mt.size := by rw [ByteArray.size_append, s1]
        have hcat1 : ¬ 9223372036854775807 < (ByteArray.mk #[32]).size + dk.size := by omega
        have hcat2 : ¬ 9223372036854775807 < (ByteArray.mk #[32] ++ dk).size + mt.size := by omega
        have WSk : Hid (∀ w5, Below wr.heap.size wr w5 → Calls Tryz.prog 49 #[.pointer (some ⟨w.heap.size, 0, none⟩), .string ((ByteArray.mk #[32] ++ dk) ++ mt)] w5 fun e w' => (∃ v, e = .returned v) ∧ Lib.IsBuilder 103 5 w.heap.size w.heap.size (Lib.byteCells (memF R (k + 1)).data.toList) w' ∧ Below w.heap.size w5 w') := fun w5 h5 => by
          have hB5 : Lib.IsBuilder 103 5 w.heap.size w.heap.size (Lib.byteCells (memF R k).data.toList) w5 := by
            have hmv : ∀ {p : Value}, Lib.BuilderAt 103 5 w.heap.size w.heap.size p (Lib.byteCells (memF R k).data.toList) wr → Lib.BuilderAt 103 5 w.heap.size w.heap.size p (Lib.byteCells (memF R k).data.toList) w5 := fun {p} h => by
              obtain ⟨h1, v, h2, h3, h4⟩ := h
              refine ⟨h1, v, ?_, Gr.own_below h3 h5, h4⟩
              have hlt : w.heap.size < wr.heap.size := by
                rcases Nat.lt_or_ge w.heap.size wr.heap.size with h | h
                · exact h
                · rw [Array.getElem?_eq_none h] at h2; cases h2
              rw [h5.block _ hlt]
              exact h2
            rcases unhide HB with h | h
            · exact .inl (hmv h)
            · exact .inr (hmv h)
          refine (unhide WS _ ((ByteArray.mk #[32] ++ dk) ++ mt) w5 hB5 (by rw [Lib.byteCells_length]; have : (memF R k).data.toList.length = (memF R k).size := Array.length_toList; omega) (Nat.le_trans hbs h5.size)).mono ?_
          rintro e w' ⟨rfl, h6, b6⟩
          refine ⟨⟨_, rfl⟩, .inr ?_, b6⟩
          rw [hFe]
          have e1 : Lib.byteCells (memF R k ++ ((ByteArray.mk #[32] ++ dk) ++ mt)).data.toList = Lib.byteCells (memF R k).data.toList ++ Lib.strCells ((ByteArray.mk #[32] ++ dk) ++ mt) := by
            unfold Lib.byteCells Lib.strCells
            rw [← List.map_append]
            congr 1
          rw [e1]
          exact h6
        generalize (ByteArray.mk #[32] ++ dk) ++ mt = tx at s2
        clear hi HFk hFe hds hvs hms s1 s2 HDB m0 m1 HB
        go_wp2_with fail
        refine (unhide J1).mono ?_
        rintro e w1 ⟨rfl, rfl⟩
        go_wp2_with fail
        refine wp_region_pre w1.heap.size 11 1 #[true, true, true, true, true, true, true, true, true, true, true, false] (by kernel_rfl) (by kernel_rfl) (by kernel_rfl) (by kernel_rfl) (by kernel_rfl) (by kernel_rfl) ?_
        (try simp only [List.take_succ_cons, List.take_zero])
        repeat (go_big_quiet_step (first
          | (go_at_call 24; exact Gr.Calls.grown (Nat.le_refl _) (unhide DEk _))
          | (go_at_call 50; exact Gr.Calls.grown (Nat.le_refl _) (unhide VAk _))))
        refine wpQuiet_nil ?_
        rintro w5 ⟨d5, rfl⟩
        obtain ⟨W5, hb5⟩ := d5
        dsimp only
        refine wpAny_ready (rs := [11]) (fuel := 0) (by kernel_rfl) (by simp) ?_
        refine AllReady.cons (i := 11) rfl (fun K hK => ?_) AllReady.nil
        go_simp
        refine (unhide WSk W5 hb5).mono ?_
        rintro e w6 ⟨⟨v6, rfl⟩, h6, b6⟩
        refine hK _ _ ?_
        clear hK K
        refine ⟨by kernel_rfl, ?_⟩
        have HW6 := hide h6
        have B6 : Below w.heap.size w w6 := hb.trans ((hb5.mono hbs).trans b6)
        clear h6 b6 hb5 W5 k0 k1 DEk VAk WSk
        go_wp2
        go_roundw
        case rel => exact ⟨k + 1, by go_num, by omega, unhide HW6, B6⟩
        case measure => simp [intOf]; omega
    · obtain rfl : k = 12 := by omega
      have STk := hide (unhide ST _ wr (unhide HB) hbs)
      have hE : (⟨(memF R 12).data.toList.toArray⟩ : ByteArray) = memF R 12 := by simp
      rw [hE] at STk
      clear hE
      go_wp2_with fail
      refine (unhide STk).mono ?_
      rintro e w1 ⟨rfl, hb1⟩
      have b1 := hb.trans hb1
      go_wp2
      go_ret
      exact ⟨rfl, b1⟩
end Rg
end Go.Proofs.YtlakimdgebgdkaaGreatDoor

/-
  The contract of impl.Reply; both sides in the law's form.
-/
namespace Go.Proofs.YtlakimdgebgdkaaGreatDoor
namespace Rg
open Go.RowKit
open Gr (Blk)

/-- What a right state's register tells is what the map tells. -/
theorem reply_facts {Q : PL} {R : Rgs} (hst : stateOk Q = true) (hf : regFold R0 Q = some R) : rnds Q = R.rds.length ∧ R.rds.length ≤ 6 ∧ (∀ s, showF Q s (idsP [] Q) = s ++ memF R 12) ∧ (∀ a, a < 12 → (R.mem a).2 ≤ 1000000000) ∧ (∀ p ∈ R.rds, p.1.length ≤ 1000 ∧ (∀ x ∈ p.1, 0 ≤ x ∧ x ≤ 1000000000) ∧ (joinB p.2).size ≤ 1048576 ∧ p.2.length ≤ 1048576) ∧ ∀ r (h : r < R.rds.length), poolP Q r = R.rds[r].1 ∧ joinB R.rds[r].2 = textP Q r := by
  obtain ⟨f1, f2, f3⟩ := round_facts hst hf
  obtain ⟨R', hf', I, ha, hc, hr⟩ := reg_inv hst
  rw [hf] at hf'
  cases hf'
  have hj : ∀ r (h : r < R.rds.length), joinB R.rds[r].2 = textP Q r := fun r h => by
    have ht := I.t r (by omega)
    rw [List.getElem?_eq_getElem h] at ht
    exact ht
  refine ⟨f1, f2, fun s => by rw [ids_is I ha]; exact show_is I s 12 (Nat.le_refl _), fun a h => mem_bound I a h, ?_, fun r h => ⟨(f3 r h).1, hj r h⟩⟩
  intro p hp
  obtain ⟨r, h, rfl⟩ := List.mem_iff_getElem.1 hp
  obtain ⟨g1, g2, g3, g4⟩ := f3 r h
  have hro : roOk Q (r : Int) = true := by
    unfold roOk
    rw [hst]
    simp
    omega
  have hps : (roP Q (r : Int)).length ≤ 9 := by
    have hst2 := hst
    unfold stateOk at hst2
    simp only [Bool.and_eq_true, decide_eq_true_eq] at hst2
    have hrd := (rounds_iff Q _ 0).1 hst2.2.2.2.1 r (by omega)
    rw [Nat.zero_add] at hrd
    unfold roundOk at hrd
    simp only [Bool.and_eq_true, decide_eq_true_eq] at hrd
    unfold roP
    rw [if_pos hro, Int.toNat_natCast]
    exact hrd.1
  have hpe : roP Q (r : Int) = R.rds[r].1 := by unfold roP; rw [if_pos hro, Int.toNat_natCast]; exact g1
  refine ⟨by rw [← hpe]; omega, fun x hx => ?_, g3, g4⟩
  rw [← g1] at hx
  have := pool_bytes Q r x hx
  omega

/-- What is told of a round: out of the register, out of the map. -/
theorem audit_facts {Q : PL} {R : Rgs} (hst : stateOk Q = true) (hf : regFold R0 Q = some R) (r : Int) : okB ++ (if h : 0 ≤ r ∧ r.toNat < R.rds.length then roundT (R.rds[r.toNat]'h.2).1 (R.rds[r.toNat]'h.2).2 else ⟨#[]⟩) = replyT Q 5 r 0 := by
  obtain ⟨f1, f2, _, _, _, f6⟩ := reply_facts hst hf
  unfold replyT
  rw [if_neg (by simp), if_neg (by rw [hst]; simp), if_neg (by omega), if_pos rfl]
  by_cases h : 0 ≤ r ∧ r.toNat < R.rds.length
  · have hro : roOk Q r = true := by
      unfold roOk
      rw [hst]
      simp
      omega
    rw [dif_pos h, if_pos hro, roC_text hro]
    obtain ⟨g1, g2⟩ := f6 r.toNat h.2
    have hpe : roP Q r = (R.rds[r.toNat]'h.2).1 := by unfold roP; rw [if_pos hro]; exact g1
    unfold roundT
    rw [hpe, g2]
    simp [ByteArray.append_assoc]
  · have hro : roOk Q r = false := by
      unfold roOk
      rw [hst]
      simp
      omega
    rw [dif_neg h, if_neg (by rw [hro]; simp)]
    apply ByteArray.ext
    rw [← Array.toList_inj]
    simp

theorem rt_size (R : Rgs) (hp : ∀ p ∈ R.rds, p.1.length ≤ 1000 ∧ (∀ x ∈ p.1, 0 ≤ x ∧ x ≤ 1000000000) ∧ (joinB p.2).size ≤ 1048576 ∧ p.2.length ≤ 1048576) (r : Int) : (if h : 0 ≤ r ∧ r.toNat < R.rds.length then roundT (R.rds[r.toNat]'h.2).1 (R.rds[r.toNat]'h.2).2 else ⟨#[]⟩).size ≤ 100000 := by
  split
  · rename_i h
    obtain ⟨p1, p2, _, _⟩ := hp _ (List.getElem_mem h.2)
    unfold roundT
    rw [ByteArray.size_append, ByteArray.size_append, ByteArray.size_append]
    have h1 := hexT_size (joinB (R.rds[r.toNat]'h.2).2)
    have h2 := commasF_size (R.rds[r.toNat]'h.2).1 0 ⟨#[]⟩ p2
    have h3 : (ByteArray.mk #[]).size = 0 := rfl
    have h4 : spB.size = 1 := rfl
    have h5 : (commas (R.rds[r.toNat]'h.2).1).size ≤ 21000 := by
      unfold commas
      omega
    omega
  · show (0 : Nat) ≤ _
    omega

set_option maxRecDepth 100000 in
set_option maxHeartbeats 2000000 in
theorem implReply_any (a : Option Addr) (len cap B : Nat) (Q : PL) (x : Gr.AskI) (code : Int) (h0 : -9223372036854775808 ≤ code) (h1 : code ≤ 9223372036854775807) (hlen : len ≤ 1048576) (w : World) (hB : B ≤ w.heap.size) (ht : Tab w.heap.size w) (hs : Tr.PairsAt w a len B Q) :
    Calls Tryz.prog 8 #[.slice a len cap, x.v, .int .i64 code] w fun e w' => e = .returned (.string (replyT Q x.Op x.A code)) ∧ Below w.heap.size w w' := by
  by_cases hc : code = 0
  · subst hc
    have RG := hide (fun w1 (hb : Below w.heap.size w w1) => register_any a len cap B Q hlen w1 (by have := hb.size; omega) ((ht.below hb).mono hb.size) (hs.below hb hB))
    rw [reg_is] at RG
    have HRF : Hid (∀ R, stateOk Q = true → regFold R0 Q = some R → rnds Q = R.rds.length ∧ R.rds.length ≤ 6 ∧ (∀ s, showF Q s (idsP [] Q) = s ++ memF R 12) ∧ (∀ a, a < 12 → (R.mem a).2 ≤ 1000000000) ∧ (∀ p ∈ R.rds, p.1.length ≤ 1000 ∧ (∀ x ∈ p.1, 0 ≤ x ∧ x ≤ 1000000000) ∧ (joinB p.2).size ≤ 1048576 ∧ p.2.length ≤ 1048576) ∧ ∀ r (h : r < R.rds.length), poolP Q r = R.rds[r].1 ∧ joinB R.rds[r].2 = textP Q r) := fun R a b => reply_facts a b
    have HAF : Hid (∀ R r, stateOk Q = true → regFold R0 Q = some R → okB ++ (if h : 0 ≤ r ∧ r.toNat < R.rds.length then roundT (R.rds[r.toNat]'h.2).1 (R.rds[r.toNat]'h.2).2 else ⟨#[]⟩) = replyT Q 5 r 0) := fun R r a b => audit_facts a b r
    have HT := hide ht
    obtain ⟨op, x1, x2, x3, x4, x5⟩ := x
    unfold Gr.AskI.v
    simp only
    obtain ⟨T, hT⟩ : ∃ T, T = replyT Q op x1 0 := ⟨_, rfl⟩
    rw [← hT]
    have HTE := hide hT
    obtain ⟨U, hU⟩ : ∃ W, W = w.alloc (Obj.cells #[Value.int .i64 op, Value.int .i64 x1, Value.int .i64 x2, Value.int .i64 x3, Value.int .i64 x4, Value.int .i64 x5] 29) := ⟨_, rfl⟩
    have bU : Below w.heap.size w U := by rw [hU]; exact Gr.below_new _ _
    have mU : Blk U w.heap.size #[Value.int .i64 op, Value.int .i64 x1, Value.int .i64 x2, Value.int .i64 x3, Value.int .i64 x4, Value.int .i64 x5] 29 := by rw [hU]; exact Gr.Blk.new0
    clear hs ht hT
    go_enter Tryz.func8, Tryz.ntmps8
    go_wp2_with fail
    rw [← hU]
    clear hU
    refine (unhide RG U bU).mono ?_
    rintro e w1 ⟨⟨R, rfl, hR, hf⟩, hb1⟩
    have b1 := bU.trans (hb1.mono bU.size)
    have m1 := mU.below hb1
    have c0 : w1.cell? ⟨w.heap.size, 0, none⟩ = some (.int .i64 op) := m1.cell 0 _ rfl
    have c1 : w1.cell? ⟨w.heap.size, 1, none⟩ = some (.int .i64 x1) := m1.cell 1 _ rfl
    have ht1 : Tab w1.heap.size w1 := ((unhide HT).below b1).mono b1.size
    have HR := hide hR
    have HF := hide hf
    have HT1 := hide ht1
    clear hb1 mU bU m1 hR hf ht1 RG
    cases hst : stateOk Q with
    | false =>
      have hTe : T = ⟨#[111, 107]⟩ := by rw [unhide HTE]; unfold replyT; rw [if_neg (by simp), if_pos hst]; rfl
      clear hst
      subst hTe
      go_wp2_with fail
      go_ret
      exact ⟨rfl, b1⟩
    | true =>
      obtain ⟨f1, f2, f3, f4, f5, _⟩ := unhide HRF R hst (unhide HF hst)
      by_cases k4 : op = 4
      · subst k4
        have hTe : T = ⟨#[111, 107, 32]⟩ ++ decB ((R.rds.length : Int) - 1) := by
          rw [unhide HTE]
          unfold replyT
          rw [if_neg (by simp), if_neg (by rw [hst]; simp), if_pos rfl, f1]
          rfl
        obtain ⟨_, rv, vs, hk0, hrd0⟩ := unhide HR
        obtain ⟨ra, rc, hrv⟩ := row_shape0 hrd0.own
        subst hrv
        have c600 : w1.cell? ⟨U.heap.size, 600, none⟩ = some (.slice ra R.rds.length rc) := hk0.cell 600 _ (by rw [regC_at _ _ _ (by omega), cell_rds])
        have DE := hide (Dc.implDec_any ((R.rds.length : Int) - 1) (by omega) (by omega) w1 (unhide HT1).here)
        have HDB : Hid ((⟨(Lib.itoa ((R.rds.length : Int) - 1)).toArray⟩ : ByteArray) = decB ((R.rds.length : Int) - 1)) := rfl
        have hds := decB_short ((R.rds.length : Int) - 1) (by omega) (by omega)
        have hn6 : ((R.rds.length : Nat) : Int) ≤ 6 := by omega
        have hn0 : (0 : Int) ≤ ((R.rds.length : Nat) : Int) := by omega
        generalize decB ((R.rds.length : Int) - 1) = d at HDB hds hTe
        have HTT := hide hTe
        have h3 : (ByteArray.mk #[111, 107, 32]).size = 3 := rfl
        have hcat : ¬ 9223372036854775807 < (ByteArray.mk #[111, 107, 32]).size + d.size := by omega
        clear hTe hst hk0 hrd0 f1 f2 f3 f4 f5 HRF HAF HR HF HT HT1 HTE
        go_wp2_with fail
        refine (unhide DE).mono ?_
        rintro e w2 ⟨rfl, hb2⟩
        rw [unhide HDB]
        have b2 := b1.trans (hb2.mono b1.size)
        clear hb2 DE HDB
        go_wp2_with fail
        go_ret
        rw [unhide HTT]
        exact ⟨rfl, b2⟩
      have e4 : (op == 4) = false := by simp; exact k4
      by_cases k5 : op = 5
      · subst k5
        have RT := hide (roundTold_any U.heap.size U.heap.size R x1 f5 w1 (unhide HT1) (unhide HR))
        have hTe := unhide HAF R x1 hst (unhide HF hst)
        rw [← unhide HTE] at hTe
        have hrz := rt_size R f5 x1
        generalize (if h : 0 ≤ x1 ∧ x1.toNat < R.rds.length then roundT (R.rds[x1.toNat]'h.2).1 (R.rds[x1.toNat]'h.2).2 else ⟨#[]⟩) = rt at RT hTe hrz
        have HTT : Hid (T = ⟨#[111, 107]⟩ ++ rt) := hTe.symm
        have h2 : (ByteArray.mk #[111, 107]).size = 2 := rfl
        have hcat : ¬ 9223372036854775807 < (ByteArray.mk #[111, 107]).size + rt.size := by omega
        clear hTe hst f1 f2 f3 f4 f5 HRF HAF HR HF HT HT1 HTE k4
        go_wp2_with fail
        refine (unhide RT).mono ?_
        rintro e w2 ⟨rfl, hb2⟩
        have b2 := b1.trans (hb2.mono b1.size)
        clear hb2
        go_wp2_with fail
        go_ret
        rw [unhide HTT]
        exact ⟨rfl, b2⟩
      have e5 : (op == 5) = false := by simp; exact k5
      by_cases k6 : op = 6
      · subst k6
        have MT := hide (memTold_any U.heap.size U.heap.size R f4 w1 (unhide HT1) (unhide HR))
        have hms := memF_size R f4 12 (Nat.le_refl _)
        have hTe : T = ⟨#[111, 107]⟩ ++ memF R 12 := by
          rw [unhide HTE]
          unfold replyT
          rw [if_neg (by simp), if_neg (by rw [hst]; simp), if_neg (by omega), if_neg (by omega), if_pos rfl]
          exact f3 _
        generalize memF R 12 = mf at MT hms hTe
        have HTT := hide hTe
        have h2 : (ByteArray.mk #[111, 107]).size = 2 := rfl
        have hcat : ¬ 9223372036854775807 < (ByteArray.mk #[111, 107]).size + mf.size := by omega
        clear hTe hst f1 f2 f3 f4 f5 HRF HAF HR HF HT HT1 HTE k4 k5
        go_wp2_with fail
        refine (unhide MT).mono ?_
        rintro e w2 ⟨rfl, hb2⟩
        have b2 := b1.trans (hb2.mono b1.size)
        clear hb2
        go_wp2_with fail
        go_ret
        rw [unhide HTT]
        exact ⟨rfl, b2⟩
      · have e6 : (op == 6) = false := by simp; exact k6
        have hTe : T = ⟨#[111, 107]⟩ := by rw [unhide HTE]; unfold replyT; rw [if_neg (by simp), if_neg (by rw [hst]; simp), if_neg k4, if_neg k5, if_neg k6]; rfl
        clear hst k4 k5 k6 f1 f2 f3 f4 f5 HRF HAF HR HF HT HT1 HTE
        subst hTe
        go_wp2_with fail
        go_ret
        exact ⟨rfl, b1⟩
  · have FA := hide (fun w1 (hb : Below w.heap.size w w1) => failAnswer_any code h0 h1 w1 ((ht.below hb).mono hb.size))
    have hR : replyT Q x.Op x.A code = failB ++ decB code := by unfold replyT; rw [if_pos hc]
    rw [hR]
    have ec : (code != 0) = true := by simp; exact hc
    obtain ⟨op, x1, x2, x3, x4, x5⟩ := x
    unfold Gr.AskI.v
    simp only
    have HCC := hide hc
    generalize failB ++ decB code = fd at FA ⊢
    clear hc hs ht hR
    go_enter Tryz.func8, Tryz.ntmps8
    go_wp2_with fail
    refine (unhide FA _ (Gr.below_new _ _)).mono ?_
    rintro e w2 ⟨rfl, hb2⟩
    have b2 : Below w.heap.size w w2 := (Gr.below_new _ _).trans (hb2.mono (by simp))
    clear hb2
    go_wp2_with fail
    go_ret
    exact ⟨rfl, b2⟩
end Rg
namespace Gr
open Go.RowKit

theorem specReply_gen (x2 : Int) (hc : -9223372036854775808 ≤ x2 ∧ x2 ≤ 9223372036854775807) (B0 : Nat) (v0 : Value) (Q0 : List (ByteArray × ByteArray)) (v1 : Value) (x1 : AskI) (h1 : pasize Q0 ≤ 1048576) (w : World) (hB : B0 ≤ w.heap.size) (hv : PaAt w v0 B0 Q0) (hv1 : AkAt w v1 B0 x1) :
    Calls Tryz.prog 5 #[v0, v1, .int .i64 x2] w fun e w' => e = .returned (.string (Rg.replyT Q0 x1.Op x1.A x2)) ∧ Below w.heap.size w w' := by
  obtain ⟨a, c, rfl, hQ, _⟩ := hv
  unfold AkAt at hv1
  subst hv1
  exact Rg.specReply_any a Q0.length c B0 Q0 x1 x2 hc.1 hc.2 (pasize_le h1).1 w hB hQ

theorem implReply_gen (x2 : Int) (hc : -9223372036854775808 ≤ x2 ∧ x2 ≤ 9223372036854775807) (B0 : Nat) (v0 : Value) (Q0 : List (ByteArray × ByteArray)) (v1 : Value) (x1 : AskI) (h1 : pasize Q0 ≤ 1048576) (w : World) (hB : B0 ≤ w.heap.size) (ht : Rg.Tab w.heap.size w) (hv : PaAt w v0 B0 Q0) (hv1 : AkAt w v1 B0 x1) :
    Calls Tryz.prog 8 #[v0, v1, .int .i64 x2] w fun e w' => e = .returned (.string (Rg.replyT Q0 x1.Op x1.A x2)) ∧ Below w.heap.size w w' := by
  obtain ⟨a, c, rfl, hQ, _⟩ := hv
  unfold AkAt at hv1
  subst hv1
  exact Rg.implReply_any a Q0.length c B0 Q0 x1 x2 hc.1 hc.2 (pasize_le h1).1 w hB ht hQ
end Gr
end Go.Proofs.YtlakimdgebgdkaaGreatDoor
