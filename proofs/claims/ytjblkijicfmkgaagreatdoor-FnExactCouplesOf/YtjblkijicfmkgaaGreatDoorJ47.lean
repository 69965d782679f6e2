/-
  Texts of this claim, one behind the other: Ri10, Lg5, Ri11, Lg6.
-/
import Derived.Test.YtjblkijicfmkgaaGreatDoorJ45
import Derived.Test.YtjblkijicfmkgaaGreatDoorJ46
import Derived.Test.YtjblkijicfmkgaaGreatDoorJ40
import Derived.Test.YtjblkijicfmkgaaGreatDoorJ22
import Derived.Test.YtjblkijicfmkgaaGreatDoorJ31
import Derived.Test.YtjblkijicfmkgaaGreatDoorJ16
import Derived.Test.YtjblkijicfmkgaaGreatDoorJ41
import Derived.Laws.EntriesVeiled
import Derived.Test.YtjblkijicfmkgaaGreatDoorJ34
import Derived.Test.YtjblkijicfmkgaaGreatDoorJ36

/-
  The contract of impl.registerOf.
-/
namespace Go.Proofs.YtjblkijicfmkgaaGreatDoor
namespace Rg
open Go.RowKit
open Gr (Blk Kept)

theorem zero_reg (W : World) : (zeroValue 80).run Tryz.prog W = .ok (.agg (regC R0 (.slice none 0 0))) W := by kernel_rfl

theorem R0_at (w : World) : RegAt (w.alloc (Obj.cells (regC R0 (.slice none 0 0)) 80)) w.heap.size w.heap.size R0 :=
  ⟨Nat.le_refl _, .slice none 0 0, [], Gr.Blk.new0, ⟨rfl, ⟨rfl, .inl ⟨rfl, rfl⟩⟩, fun _ h => absurd h (Nat.not_lt_zero _), fun _ h => absurd h (Nat.not_lt_zero _), fun _ _ h => absurd h (Nat.not_lt_zero _)⟩⟩

/-- How great a register's rounds are, j pairs taken. -/
def Bnd (j : Nat) (R : Rgs) : Prop := R.rds.length ≤ j ∧ ∀ y ∈ R.rds, y.2.length ≤ j ∧ (joinB y.2).size ≤ 40 * j ∧ y.1.length ≤ 40

theorem bnd_take {j : Nat} {R R' : Rgs} {k v : ByteArray} (hb : Bnd j R) (hv : v.size ≤ 40) (h : takeP R k v = some R') : Bnd (j + 1) R' := by
  have hmono : Bnd (j + 1) R := ⟨by have := hb.1; omega, fun y hy => by have := hb.2 y hy; omega⟩
  rcases take_form h with ⟨a, _, _, h2⟩ | ⟨a, b, _, _, _, h2⟩ | ⟨a, _, _, h2⟩ | ⟨a, b, _, _, _, h2⟩
  · unfold takeV at h2
    split at h2
    · split at h2
      · cases h2
      · simp only [Option.some.injEq] at h2; subst h2; exact hmono
    · cases h2
  · unfold takeE at h2
    split at h2
    · simp only [Option.some.injEq] at h2; subst h2; exact hmono
    · cases h2
  · unfold takeQ at h2
    split at h2
    · simp only [Option.some.injEq] at h2
      subst h2
      refine ⟨by simp; exact hb.1, fun y hy => ?_⟩
      rcases List.mem_append.1 hy with hy | hy
      · exact hmono.2 y hy
      · simp only [List.mem_singleton] at hy
        subst hy
        refine ⟨by simp, by show 0 ≤ _; omega, by show (bytesI v).length ≤ 40; rw [bytesI_length]; exact hv⟩
    · cases h2
  · unfold takeR at h2
    split at h2
    · cases h2
    · rename_i x hx
      split at h2
      · simp only [Option.some.injEq] at h2
        subst h2
        have hxm : x ∈ R.rds := List.mem_of_getElem? hx
        have hxb := hb.2 x hxm
        refine ⟨by simp only [List.length_set]; have := hb.1; omega, fun y hy => ?_⟩
        rcases List.mem_or_eq_of_mem_set hy with hy | hy
        · exact hmono.2 y hy
        · subst hy
          refine ⟨by simp; omega, ?_, hxb.2.2⟩
          show (joinB (x.2 ++ [v])).size ≤ _
          have : joinB (x.2 ++ [v]) = joinB x.2 ++ v := by unfold joinB; simp
          rw [this, ByteArray.size_append]
          omega
      · cases h2

theorem fold_step (R : Rgs) (Q : PL) (j : Nat) (h : j < Q.length) : regFold R (Q.drop j) = (match takeP R Q[j].1 Q[j].2 with | none => none | some R' => regFold R' (Q.drop (j + 1))) := by
  rw [List.drop_eq_getElem_cons h, regFold]
  rfl

set_option maxRecDepth 100000 in
set_option maxHeartbeats 4000000 in
theorem register_any (a : Option Addr) (len cap B : Nat) (Q : PL) (hlen : len ≤ 1048576) (w : World) (hB : B ≤ w.heap.size) (ht : Tab w.heap.size w) (hs : Tr.PairsAt w a len B Q) :
    Calls Tryz.prog 33 #[.slice a len cap] w fun e w' => (∃ R, e = .returned (.tuple #[.pointer (some ⟨w.heap.size, 0, none⟩), .bool (regOk Q)]) ∧ RegAt w' w.heap.size w.heap.size R ∧ (regOk Q = true → regFold R0 Q = some R)) ∧ Below w.heap.size w w' := by
  have hzv := zero_reg
  have R0A := hide (R0_at w)
  obtain ⟨Z, hZ⟩ : ∃ Z, Z = regC R0 (.slice none 0 0) := ⟨_, rfl⟩
  rw [← hZ] at hzv R0A
  clear hZ
  have MO := hide (fun w1 (hb : Below w.heap.size w w1) => Tr.implMap_any a len cap B Q hlen w1 (by have := hb.size; omega) (hs.below hb hB))
  have hX : regOk Q = (decide (Tr.MapR Q) && (match regFold R0 Q with | none => false | some R => checks R)) := rfl
  generalize regOk Q = X at hX
  by_cases hM : Tr.MapR Q
  · rw [decide_eq_true hM] at MO hX
    rw [Bool.true_and] at hX
    have hL := hs.1
    have h120 := hM.1
    have HMR := hide hM
    have HC := hide hs.2
    have HT := hide ht
    have HST := hide (fun R j h => fold_step R Q j h)
    have HF0 : Hid (regFold R0 Q = regFold R0 (Q.drop 0)) := rfl
    have HQ := hide hX
    have HB0 : Hid (Bnd 0 R0) := ⟨Nat.le_refl _, by simp [R0]⟩
    clear hX hs ht hM
    subst hL
    obtain ⟨F, hF⟩ : ∃ F, F = regFold R0 Q := ⟨_, rfl⟩
    rw [← hF] at HQ HF0 ⊢
    clear hF
    go_enter Tryz.func33, Tryz.ntmps33
    go_wp2_with fail
    refine (unhide MO _ (Gr.below_new _ _)).mono ?_
    rintro e w1 ⟨rfl, hb1⟩
    have HR1 := hide ((unhide R0A).below hb1)
    have bw1 := (Gr.below_new w (Obj.cells Z 80)).trans (hb1.mono (Gr.below_new w (Obj.cells Z 80)).size)
    clear hb1 hzv R0A MO
    go_wp2_with fail
    go_loopw [15] (fun i wr => ∃ (j : Nat) (R : Rgs), i = .int .i64 (j : Int) ∧ j ≤ Q.length ∧ Hid (RegAt wr w.heap.size w.heap.size R) ∧ Hid (F = regFold R (Q.drop j)) ∧ Hid (Bnd j R) ∧ Below w.heap.size w wr) (fun i _ => Q.length - (intOf i).toNat)
    case atStart => exact ⟨0, R0, rfl, Nat.zero_le _, unhide HR1, unhide HF0, unhide HB0, bw1⟩
    case round =>
      obtain ⟨j, R, rfl, hj, HR, HF, HBD, hb⟩ := hrel
      have hbd := unhide HBD
      by_cases hlt : j < Q.length
      · obtain ⟨b, off, rfl, hbB, d0, d1⟩ := unhide HC j hlt
        have hpr := (unhide HMR).2 j hlt
        unfold Tr.pairOk at hpr
        simp only [Bool.and_eq_true, decide_eq_true_eq] at hpr
        have HF2 := hide ((unhide HF).trans (unhide HST R j hlt))
        have TK := hide (fun w1 (hb1 : Below wr.heap.size wr w1) => take_any w.heap.size w.heap.size Q[j].1 Q[j].2 R (by omega) (by omega) (by omega) (by have := hbd.1; omega) (fun y hy => by have := (hbd.2 y hy).1; omega) w1 (Nat.le_trans hb.size hb1.size) ((unhide HT).below (hb.trans (hb1.mono hb.size))) ((unhide HR).below hb1))
        have HBT := hide (fun (R' : Rgs) (ht : takeP R Q[j].1 Q[j].2 = some R') => bnd_take hbd (by omega) ht)
        generalize Q[j] = q at d0 d1 HF2 TK HBT
        obtain ⟨x, y⟩ := q
        simp only at d0 d1 HF2 TK HBT
        rw [← hb.cell (p := ⟨b, off + j * 2, none⟩) (by simp; omega)] at d0
        rw [← hb.cell (p := ⟨b, off + j * 2 + 1, none⟩) (by simp; omega)] at d1
        have hj1 : (j : Int) < ((Q.length : Nat) : Int) := by omega
        generalize takeP R x y = T at HF2 TK HBT
        clear hpr HF hbd
        go_wp2_with fail
        refine (unhide TK _ (Gr.below_new _ _)).mono ?_
        rintro e w2 ⟨rfl, hR2, hb2⟩
        have b2 := hb.trans (((Gr.below_new wr (Obj.cells #[.string x, .string y] 63)).mono hb.size).trans hb2)
        cases T with
        | none =>
          have hFn : F = none := unhide HF2
          subst hFn
          have hXf : X = false := unhide HQ
          subst hXf
          have HR2 : Hid (RegAt w2 w.heap.size w.heap.size R) := hR2
          clear hR2 hb2
          go_wp2
          go_ret2
          exact ⟨⟨R, rfl, unhide HR2, fun h => by cases h⟩, b2⟩
        | some R' =>
          have HR2 : Hid (RegAt w2 w.heap.size w.heap.size R') := hR2
          have HF3 : Hid (F = regFold R' (Q.drop (j + 1))) := unhide HF2
          have HB3 := hide (unhide HBT R' rfl)
          clear hR2 hb2 HF2 HBT TK
          go_wp2_with fail
          exact ⟨⟨j + 1, R', by go_num, by omega, unhide HR2, unhide HF3, unhide HB3, b2⟩, by simp [intOf]; omega⟩
      · have hFs : F = some R := by rw [unhide HF, List.drop_eq_nil_of_le (by omega)]; rfl
        subst hFs
        have hXc : X = checks R := unhide HQ
        have hj1 : ¬ (j : Int) < ((Q.length : Nat) : Int) := by omega
        have LK := hide (links_any w.heap.size w.heap.size R wr (unhide HR))
        have RD := hide (fun w2 (hb2 : Below wr.heap.size wr w2) => rounds'_any w.heap.size w.heap.size R (by have := hbd.1; omega) (fun y hy => by have := hbd.2 y hy; omega) w2 ((unhide HR).below hb2))
        have ME := hide (fun w2 (hb2 : Below wr.heap.size wr w2) => members_any w.heap.size w.heap.size R w2 ((unhide HR).below hb2))
        have hck : checks R = (linksOk R && (roundsR R && membersOk R)) := rfl
        rw [hck] at hXc
        have HXC := hide hXc
        clear hck hXc hbd
        generalize linksOk R = b1 at LK HXC
        generalize roundsR R = b2 at RD HXC
        generalize membersOk R = b3 at ME HXC
        go_wp2_with fail
        refine (unhide LK).mono ?_
        rintro e w2 ⟨rfl, hb2⟩
        have e2 := hb.trans (hb2.mono hb.size)
        have R2 := hide ((unhide HR).below hb2)
        cases b1 with
        | false =>
          have hXf : X = false := unhide HXC
          subst hXf
          go_wp2
          go_ret2
          exact ⟨⟨R, rfl, unhide R2, fun _ => rfl⟩, e2⟩
        | true =>
          rw [Bool.true_and] at HXC
          go_wp2_with fail
          refine (unhide RD w2 hb2).mono ?_
          rintro e w3 ⟨rfl, hb3⟩
          have hb23 := hb2.trans (hb3.mono hb2.size)
          have e3 := hb.trans (hb23.mono hb.size)
          have R3 := hide ((unhide HR).below hb23)
          cases b2 with
          | false =>
            have hXf : X = false := unhide HXC
            subst hXf
            go_wp2
            go_ret2
            exact ⟨⟨R, rfl, unhide R3, fun _ => rfl⟩, e3⟩
          | true =>
            rw [Bool.true_and] at HXC
            go_wp2_with fail
            refine (unhide ME w3 hb23).mono ?_
            rintro e w4 ⟨rfl, hb4⟩
            have hb24 := hb23.trans (hb4.mono hb23.size)
            have e4 := hb.trans (hb24.mono hb.size)
            have R4 := hide ((unhide HR).below hb24)
            have hXf : X = b3 := unhide HXC
            subst hXf
            go_wp2
            go_ret2
            exact ⟨⟨R, rfl, unhide R4, fun _ => rfl⟩, e4⟩
  · rw [decide_eq_false hM, Bool.false_and] at hX
    rw [decide_eq_false hM] at MO
    subst hX
    go_enter Tryz.func33, Tryz.ntmps33
    go_wp2_with fail
    refine (unhide MO _ (Gr.below_new _ _)).mono ?_
    rintro e w1 ⟨rfl, hb1⟩
    have HR1 := hide ((unhide R0A).below hb1)
    have bw1 := (Gr.below_new w (Obj.cells Z 80)).trans (hb1.mono (Gr.below_new w (Obj.cells Z 80)).size)
    go_wp2
    go_ret2
    exact ⟨⟨R0, rfl, unhide HR1, fun h => by cases h⟩, bw1⟩

end Rg
end Go.Proofs.YtjblkijicfmkgaaGreatDoor

/-
  The ledger, the program's: in how many rounds an id was: the fold over rounds with its function, and Turn.
-/
namespace Go.Proofs.YtjblkijicfmkgaaGreatDoor
namespace Rg
open Go.RowKit
open Gr (Blk Kept Grown)

set_option maxRecDepth 100000 in
set_option maxHeartbeats 1000000 in
theorem turn1_any (m : Nat) (hm : m ≤ 1000000) (B bi : Nat) (pv tv : Value) (K : List Int) (x : Int) (hKl : K.length ≤ 1048576) (w : World) (hp : Gr.InOwn w B pv K) (htv : ∃ a n c, tv = .slice a n c) (hbi : w.cell? ⟨bi, 0, none⟩ = some (.int .i64 x)) (hbl : bi < w.heap.size) :
    Calls Tryz.prog 52 #[.int .i64 (m : Int), .agg #[pv, tv], .pointer (some ⟨bi, 0, none⟩)] w fun e w' => e = .returned (.int .i64 ((if inK K x = true then m + 1 else m : Nat) : Int)) ∧ Below w.heap.size w w' := by
  obtain ⟨pa, pc, rfl, hK⟩ := hp.at
  obtain ⟨ta, tn, tc, rfl⟩ := htv
  obtain ⟨V1, hV1⟩ : ∃ W, W = w.alloc (Obj.cells #[.slice pa K.length pc, .slice ta tn tc] 98) := ⟨_, rfl⟩
  have b1 : Below w.heap.size w V1 := by rw [hV1]; exact Gr.below_new _ _
  have x1 : Blk V1 w.heap.size #[.slice pa K.length pc, .slice ta tn tc] 98 := by rw [hV1]; exact Gr.Blk.new0
  have p1 : V1.cell? ⟨w.heap.size, 0, none⟩ = some (.slice pa K.length pc) := x1.cell 0 _ rfl
  have p2 : V1.cell? ⟨bi, 0, none⟩ = some (.int .i64 x) := (b1.cell (p := ⟨bi, 0, none⟩) hbl).trans hbi
  have CO := hide (contains_any pa K.length pc w.heap.size K x hKl V1 (hK.below b1 (Nat.le_refl _)))
  have HB := hide b1
  clear hp hK b1 x1 hbi
  generalize inK K x = ik at CO ⊢
  have HRE : Hid ((if ik = true then m + 1 else m : Nat) = if ik = true then m + 1 else m) := rfl
  obtain ⟨r, hr⟩ : ∃ r : Nat, r = if ik = true then m + 1 else m := ⟨_, rfl⟩
  rw [← hr]
  clear HRE
  rw [hV1] at p1 p2
  go_enter Tryz.func52, Tryz.ntmps52
  go_wp2_with fail
  rw [← hV1]
  clear hV1 p1 p2
  refine (unhide CO).mono ?_
  rintro e w1 ⟨rfl, rfl⟩
  have hb := unhide HB
  cases ik
  · rw [if_neg (by simp)] at hr
    subst hr
    go_wp2
    go_ret
    exact ⟨rfl, hb⟩
  · rw [if_pos rfl] at hr
    subst hr
    go_wp2
    go_ret
    exact ⟨rfl, hb⟩

set_option maxRecDepth 100000 in
set_option maxHeartbeats 2000000 in
theorem foldTurn_any (B bi : Nat) (rv : Value) (vs : List (Value × Value)) (L : List (List Int × List ByteArray)) (x : Int) (f : Nat → Nat) (h6 : L.length ≤ 1000) (h0 : f 0 = 0) (hf : ∀ j (h : j < L.length), f (j + 1) = if inK L[j].1 x = true then f j + 1 else f j) (hfj : ∀ j, f j ≤ j) (hKl : ∀ y ∈ L, y.1.length ≤ 1048576) (w : World) (hR : RdsAt w B rv vs L) (hbi : w.cell? ⟨bi, 0, none⟩ = some (.int .i64 x)) (hbl : bi < w.heap.size) :
    Calls Tryz.prog 51 #[rv, .int .i64 0, .func (.func 52) #[] #[.pointer (some ⟨bi, 0, none⟩)]] w fun e w' => e = .returned (.int .i64 ((f L.length : Nat) : Int)) ∧ Below w.heap.size w w' := by
  obtain ⟨ra, rc, rfl⟩ := row_shape0 hR.own
  have HT := hide (fun m hm pv tv K hKl w1 hp htv hbi hbl => turn1_any m hm B bi pv tv K x hKl w1 hp htv hbi hbl)
  have HR := hide hR
  have HF := hide hf
  have HFJ := hide hfj
  have HKL := hide hKl
  have HBI := hide hbi
  have HF0 := hide h0
  obtain ⟨F, hF⟩ : ∃ F : Nat, F = f L.length := ⟨_, rfl⟩
  rw [← hF]
  have HFE := hide hF
  clear hR hf hfj hKl hbi h0 hF
  go_enter Tryz.func51, Tryz.ntmps51
  go_wp2_with fail
  go_loopw [1, 11] (fun nv iv wr => ∃ (j m : Nat), nv = .int .i64 (m : Int) ∧ iv = .int .i64 (j : Int) ∧ j ≤ L.length ∧ Hid (m = f j) ∧ Below w.heap.size w wr) (fun _ iv _ => L.length - (intOf iv).toNat)
  case atStart => exact ⟨0, 0, rfl, rfl, Nat.zero_le _, (unhide HF0).symm, Below.refl _ _⟩
  case round =>
    obtain ⟨j, m, rfl, rfl, hj, HM, hb⟩ := hrel
    by_cases hlt : j < L.length
    · have hR := (unhide HR).below hb
      have hjv : j < vs.length := by rw [hR.len]; exact hlt
      have hpool := hR.pool j hjv hlt
      have hpart := hR.part j hjv hlt
      obtain ⟨pa, pc, hpv⟩ := row_shape0 hpool
      obtain ⟨ta, tc, htv⟩ := row_shape0 hpart
      obtain ⟨gv, hgv⟩ : ∃ gv, ra = some ⟨gv, 0, none⟩ := by
        rcases hR.own.2 with ⟨h1, h2⟩ | ⟨gv, cap, cur, h1, _⟩
        · omega
        · simp at h1; exact ⟨gv, h1.1⟩
      subst hgv
      have hgvl := (hR.own.lt gv rfl).2
      have q0 : wr.cell? ⟨gv, j * 2, none⟩ = some (.slice pa L[j].1.length pc) := by rw [hR.own.cellAt (j * 2) (by omega), ← hpv]; exact (flat_at vs j hjv).1
      have q1 : wr.cell? ⟨gv, j * 2 + 1, none⟩ = some (.slice ta L[j].2.length tc) := by rw [hR.own.cellAt (j * 2 + 1) (by omega), ← htv]; exact (flat_at vs j hjv).2
      rw [hpv] at hpool
      have hm : m ≤ 1000000 := by have := unhide HM; have := unhide HFJ j; omega
      have bV := Gr.below_new wr (Obj.cells #[.slice pa L[j].1.length pc, .slice ta L[j].2.length tc] 98)
      have hTj := hide (unhide HT m hm (.slice pa L[j].1.length pc) (.slice ta L[j].2.length tc) L[j].1 (unhide HKL _ (List.getElem_mem hlt)) _ (Gr.own_below hpool bV) ⟨_, _, _, rfl⟩ ((bV.cell (p := ⟨bi, 0, none⟩) (by have := hb.size; simp; omega)).trans ((hb.cell (p := ⟨bi, 0, none⟩) hbl).trans (unhide HBI))) (by have := hb.size; have := bV.size; omega))
      have hFj := unhide HF j hlt
      have b1 := hb.trans (bV.mono hb.size)
      have hx0 : (0 : Int) ≤ (j : Int) := by omega
      have hx1 : (j : Int) < ((L.length : Nat) : Int) := by omega
      have HB1 := hide b1
      have HF2 : Hid (f (j + 1) = if inK L[j].1 x = true then m + 1 else m) := by show _ = _; rw [hFj, ← unhide HM]
      clear hR hpool hpart hpv htv bV b1 hFj hb
      generalize L[j].1.length = pl at *
      generalize L[j].2.length = tl at *
      generalize (if inK L[j].1 x = true then m + 1 else m) = m2 at *
      go_wp2_with fail
      refine (unhide hTj).mono ?_
      rintro e w1 ⟨rfl, hb1⟩
      have b2 := (unhide HB1).trans (hb1.mono (unhide HB1).size)
      clear hb1 hTj HB1
      have HM2 : Hid (m2 = f (j + 1)) := (unhide HF2).symm
      clear HF2
      go_wp2_with fail
      exact ⟨⟨j + 1, m2, by go_num, by go_num, by omega, unhide HM2, b2⟩, by simp [intOf]; omega⟩
    · obtain rfl : j = L.length := by omega
      have hFm : F = m := (unhide HFE).trans (unhide HM).symm
      subst hFm
      go_wp2
      go_ret
      exact ⟨rfl, hb⟩

end Rg
end Go.Proofs.YtjblkijicfmkgaaGreatDoor

/-
  The contracts of impl.StateOk, impl.Ids, impl.Active, in the laws' form.
-/
namespace Go.Proofs.YtjblkijicfmkgaaGreatDoor
namespace Rg
open Go.RowKit
open Gr (Blk Kept)

theorem who_snoc (f : Nat → Bool) (n : Nat) (h : f n = true) : whoTo f (n + 1) = whoTo f n ++ [(n : Int)] := by rw [who_succ, if_pos h]
theorem who_skip (f : Nat → Bool) (n : Nat) (h : f n = false) : whoTo f (n + 1) = whoTo f n := by rw [who_succ, if_neg (by rw [h]; simp)]
theorem who_short (f : Nat → Bool) : ∀ n, (whoTo f n).length ≤ n
  | 0 => by simp [whoTo]
  | n + 1 => by
    have := who_short f n
    rw [who_succ]
    split
    · simp; omega
    · omega

end Rg
namespace Gr
open Go.RowKit

end Gr
end Go.Proofs.YtjblkijicfmkgaaGreatDoor

/-
  The ledger, the program's: Turn, in the laws' form.
-/
namespace Go.Proofs.YtjblkijicfmkgaaGreatDoor
namespace Rg
open Go.RowKit

theorem turn_reg {Q : PL} {R : Rgs} (hst : stateOk Q = true) (hf : regFold R0 Q = some R) (x : Int) : inK (idsP [] Q) x = joined R x ∧ rnds Q = R.rds.length ∧ R.rds.length ≤ 6 ∧ (∀ y ∈ R.rds, y.1.length ≤ 9) ∧ ∀ j (h : j < R.rds.length), turnN Q x (j + 1) = if inK R.rds[j].1 x = true then turnN Q x j + 1 else turnN Q x j := by
  obtain ⟨I, ha, hr, h6, h1, _⟩ := round_rog hst hf
  refine ⟨joined_ids I ha x, hr, h6, fun y hy => ?_, fun j h => ?_⟩
  · obtain ⟨j, hj, rfl⟩ := List.getElem_of_mem hy
    exact (h1 j hj).2.2.2.few
  · rw [turnN, (h1 j h).1]

end Rg
namespace Gr
open Go.RowKit

set_option maxRecDepth 100000 in
set_option maxHeartbeats 2000000 in
theorem implTurn_gen (B : Nat) (v : Value) (Q : List (ByteArray × ByteArray)) (x : Int) (h1 : pasize Q ≤ 1048576) (w : World) (hB : B ≤ w.heap.size) (ht : Rg.Tab w.heap.size w) (hv : PaAt w v B Q) :
    Calls Tryz.prog 23 #[v, .int .i64 x] w fun e w' => e = .returned (.int .i64 (Rg.turnV Q x)) ∧ Below w.heap.size w w' := by
  obtain ⟨a, c, rfl, hQ, _⟩ := hv
  have RG := hide (fun w1 (hb : Below w.heap.size w w1) => Rg.register_any a Q.length c B Q (pasize_le h1).1 w1 (by have := hb.size; omega) ((ht.below hb).mono hb.size) (hQ.below hb hB))
  rw [Rg.reg_is] at RG
  have hV : Rg.turnV Q x = if Rg.stateOk Q = true ∧ inK (Rg.idsP [] Q) x = true then ((Rg.turnN Q x (Rg.rnds Q) : Nat) : Int) else -1 := rfl
  have HTR := hide (fun R h1 h2 => Rg.turn_reg (Q := Q) (R := R) h1 h2 x)
  have HTN := hide (fun n => Rg.turnN_le Q x n)
  generalize Rg.turnV Q x = T at hV ⊢
  generalize Rg.stateOk Q = st at RG hV HTR
  obtain ⟨V, hVV⟩ : ∃ W, W = w.alloc (Obj.cells #[.int .i64 x] 3) := ⟨_, rfl⟩
  have bV : Below w.heap.size w V := by rw [hVV]; exact below_new _ _
  have HX : Hid (Blk V w.heap.size #[.int .i64 x] 3) := by show Blk _ _ _ _; rw [hVV]; exact Blk.new0
  clear hQ ht
  go_enter Tryz.func23, Tryz.ntmps23
  go_wp2_with fail
  rw [← hVV]
  clear hVV
  refine (unhide RG V bV).mono ?_
  rintro e w1 ⟨⟨R, rfl, hR, hf⟩, hb1⟩
  have b1 := bV.trans (hb1.mono bV.size)
  have x1 := (unhide HX).below hb1
  have xl := x1.lt
  have c0 : w1.cell? ⟨w.heap.size, 0, none⟩ = some (.int .i64 x) := x1.cell 0 _ rfl
  cases st with
  | false =>
    rw [if_neg (by simp)] at hV
    subst hV
    go_wp2
    go_ret
    exact ⟨rfl, b1⟩
  | true =>
    obtain ⟨g1, g2, g3, g4, g5⟩ := unhide HTR R rfl (hf rfl)
    have JO := hide (Rg.joined_any x V.heap.size V.heap.size R w1 hR)
    obtain ⟨_, rv, vs, hk0, hrd0⟩ := hR
    obtain ⟨ra, rc, hrv⟩ := Rg.row_shape0 hrd0.own
    have c600 : w1.cell? ⟨V.heap.size, 600, none⟩ = some (.slice ra R.rds.length rc) := hk0.cell 600 _ (by rw [Rg.regC_at _ _ _ (by omega), Rg.cell_rds, hrv])
    rw [g1] at hV
    generalize Rg.joined R x = jn at JO hV
    have FT := hide (Rg.foldTurn_any V.heap.size w.heap.size rv vs R.rds x (Rg.turnN Q x) (by omega) rfl g5 (unhide HTN) (fun y hy => by have := g4 y hy; omega) w1 hrd0 c0 xl)
    rw [g2] at hV
    rw [hrv] at FT
    clear g1 g2 g3 g4 g5 hk0 hrd0 hf RG HTR HTN hrv
    generalize R.rds.length = n at c600 FT hV
    cases jn with
    | false =>
      rw [if_neg (by simp)] at hV
      subst hV
      clear FT
      go_wp2_with fail
      refine (unhide JO).mono ?_
      rintro e w2 ⟨rfl, rfl⟩
      go_wp2
      go_ret
      exact ⟨rfl, b1⟩
    | true =>
      rw [if_pos (by simp)] at hV
      have HV := hide hV
      clear hV
      go_wp2_with fail
      refine (unhide JO).mono ?_
      rintro e w2 ⟨rfl, rfl⟩
      go_wp2_with fail
      refine (unhide FT).mono ?_
      rintro e w3 ⟨rfl, hb3⟩
      rw [← unhide HV]
      go_wp2
      go_ret
      exact ⟨rfl, b1.trans (hb3.mono b1.size)⟩

theorem specTurn_gen (B : Nat) (v : Value) (Q : List (ByteArray × ByteArray)) (x : Int) (h1 : pasize Q ≤ 1048576) (w : World) (hB : B ≤ w.heap.size) (hv : PaAt w v B Q) :
    Calls Tryz.prog 22 #[v, .int .i64 x] w fun e w' => e = .returned (.int .i64 (Rg.turnV Q x)) ∧ Below w.heap.size w w' := by
  obtain ⟨a, c, rfl, hQ, _⟩ := hv
  exact Rg.specTurn_any a Q.length c B Q x (pasize_le h1).1 w hB hQ

end Gr
end Go.Proofs.YtjblkijicfmkgaaGreatDoor
