/-
 Ri10.
-/
import Derived.Test.YtjblkijicfmkgaaGreatDoorJ45
import Derived.Test.YtjblkijicfmkgaaGreatDoorJ49
import Derived.Test.YtjblkijicfmkgaaGreatDoorJ38
import Derived.Test.YtjblkijicfmkgaaGreatDoorJ6
import Derived.Test.YtjblkijicfmkgaaGreatDoorJ30
namespace Go.Proofs.YtjblkijicfmkgaaGreatDoor
namespace Rg
open Go.RowKit
open Gr (Blk Kept)
theorem zero_reg (W : World) : (zeroValue 80).run Tryz.prog W = .ok (.agg (regC R0 (.slice none 0 0))) W := by kernel_rfl
theorem R0_at (w : World) : RegAt (w.alloc (Obj.cells (regC R0 (.slice none 0 0)) 80)) w.heap.size w.heap.size R0 :=
  ⟨Nat.le_refl _, .slice none 0 0, [], Gr.Blk.new0, ⟨rfl, ⟨rfl, .inl ⟨rfl, rfl⟩⟩, fun _ h => absurd h (Nat.not_lt_zero _), fun _ h => absurd h (Nat.not_lt_zero _), fun _ _ h => absurd h (Nat.not_lt_zero _)⟩⟩
def Bnd (j : Nat) (R : Rgs) : Prop := R.rds.length ≤ j ∧ ∀ y ∈ R.rds, y.2.length ≤ j ∧ (joinB y.2).size ≤ 40 * j ∧ y.1.length ≤ 40
theorem bnd_take {j : Nat} {R R' : Rgs} {k v : ByteArray} (hb : Bnd j R) (hv : v.size ≤ 40) (h : takeP R k v = some R') : Bnd (j + 1) R' := by
  have hmono : Bnd (j + 1) R := ⟨by have := hb.1; omega, fun y hy => by have := hb.2 y hy; omega⟩
  rcases take_form h with ⟨a, _, _, h2⟩ | ⟨a, b, _, _, _, h2⟩ | ⟨a, _, _, h2⟩ | ⟨a, b, _, _, _, h2⟩
  · unfold takeV at h2
    split at h2
    · split at h2
      · cases h2
      · simp only [Option.some.injEq] at h2; subst h2; exact hmono
    · cases h2
  · unfold takeE at h2
    split at h2
    · simp only [Option.some.injEq] at h2; subst h2; exact hmono
    · cases h2
  · unfold takeQ at h2
    split at h2
    · simp only [Option.some.injEq] at h2
      subst h2
      refine ⟨by simp; exact hb.1, fun y hy => ?_⟩
      rcases List.mem_append.1 hy with hy | hy
      · exact hmono.2 y hy
      · simp only [List.mem_singleton] at hy
        subst hy
        refine ⟨by simp, by show 0 ≤ _; omega, by show (bytesI v).length ≤ 40; rw [bytesI_length]; exact hv⟩
    · cases h2
  · unfold takeR at h2
    split at h2
    · cases h2
    · rename_i x hx
      split at h2
      · simp only [Option.some.injEq] at h2
        subst h2
        have hxm : x ∈ R.rds := List.mem_of_getElem? hx
        have hxb := hb.2 x hxm
        refine ⟨by simp only [List.length_set]; have := hb.1; omega, fun y hy => ?_⟩
        rcases List.mem_or_eq_of_mem_set hy with hy | hy
        · exact hmono.2 y hy
        · subst hy
          refine ⟨by simp; omega, ?_, hxb.2.2⟩
          show (joinB (x.2 ++ [v])).size ≤ _
          have : joinB (x.2 ++ [v]) = joinB x.2 ++ v := by unfold joinB; simp
          rw [this, ByteArray.size_append]
          omega
      · cases h2
theorem fold_step (R : Rgs) (Q : PL) (j : Nat) (h : j < Q.length) : regFold R (Q.drop j) = (match takeP R Q[j].1 Q[j].2 with | none => none | some R' => regFold R' (Q.drop (j + 1))) := by
  rw [List.drop_eq_getElem_cons h, regFold]
  rfl
set_option maxRecDepth 100000 in
set_option maxHeartbeats 4000000 in
theorem register_any (a : Option Addr) (len cap B : Nat) (Q : PL) (hlen : len ≤ 1048576) (w : World) (hB : B ≤ w.heap.size) (ht : Tab w.heap.size w) (hs : Tr.PairsAt w a len B Q) :
    Calls Tryz.prog 33 #[.slice a len cap] w fun e w' => (∃ R, e = .returned (.tuple #[.pointer (some ⟨w.heap.size, 0, none⟩), .bool (regOk Q)]) ∧ RegAt w' w.heap.size w.heap.size R ∧ (regOk Q = true → regFold R0 Q = some R)) ∧ Below w.heap.size w w' := by
  have hzv := zero_reg
  have R0A := hide (R0_at w)
  obtain ⟨Z, hZ⟩ : ∃ Z, Z = regC R0 (.slice none 0 0) := ⟨_, rfl⟩
  rw [← hZ] at hzv R0A
  clear hZ
  have MO := hide (fun w1 (hb : Below w.heap.size w w1) => Tr.implMap_any a len cap B Q hlen w1 (by have := hb.size; omega) (hs.below hb hB))
  have hX : regOk Q = (decide (Tr.MapR Q) && (match regFold R0 Q with | none => false | some R => checks R)) := rfl
  generalize regOk Q = X at hX
  by_cases hM : Tr.MapR Q
  · rw [decide_eq_true hM] at MO hX
    rw [Bool.true_and] at hX
    have hL := hs.1
    have h120 := hM.1
    have HMR := hide hM
    have HC := hide hs.2
    have HT := hide ht
    have HST := hide (fun R j h => fold_step R Q j h)
    have HF0 : Hid (regFold R0 Q = regFold R0 (Q.drop 0)) := rfl
    have HQ := hide hX
    have HB0 : Hid (Bnd 0 R0) := ⟨Nat.le_refl _, by simp [R0]⟩
    clear hX hs ht hM
    subst hL
    obtain ⟨F, hF⟩ : ∃ F, F = regFold R0 Q := ⟨_, rfl⟩
    rw [← hF] at HQ HF0 ⊢
    clear hF
    go_enter Tryz.func33, Tryz.ntmps33
    go_wp2_with fail
    refine (unhide MO _ (Gr.below_new _ _)).mono ?_
    rintro e w1 ⟨rfl, hb1⟩
    have HR1 := hide ((unhide R0A).below hb1)
    have bw1 := (Gr.below_new w (Obj.cells Z 80)).trans (hb1.mono (Gr.below_new w (Obj.cells Z 80)).size)
    clear hb1 hzv R0A MO
    go_wp2_with fail
    go_loopw [15] (fun i wr => ∃ (j : Nat) (R : Rgs), i = .int .i64 (j : Int) ∧ j ≤ Q.length ∧ Hid (RegAt wr w.heap.size w.heap.size R) ∧ Hid (F = regFold R (Q.drop j)) ∧ Hid (Bnd j R) ∧ Below w.heap.size w wr) (fun i _ => Q.length - (intOf i).toNat)
    case atStart => exact ⟨0, R0, rfl, Nat.zero_le _, unhide HR1, unhide HF0, unhide HB0, bw1⟩
    case round =>
      obtain ⟨j, R, rfl, hj, HR, HF, HBD, hb⟩ := hrel
      have hbd := unhide HBD
      by_cases hlt : j < Q.length
      · obtain ⟨b, off, rfl, hbB, d0, d1⟩ := unhide HC j hlt
        have hpr := (unhide HMR).2 j hlt
        unfold Tr.pairOk at hpr
        simp only [Bool.and_eq_true, decide_eq_true_eq] at hpr
        have HF2 := hide ((unhide HF).trans (unhide HST R j hlt))
        have TK := hide (fun w1 (hb1 : Below wr.heap.size wr w1) => take_any w.heap.size w.heap.size Q[j].1 Q[j].2 R (by omega) (by omega) (by omega) (by have := hbd.1; omega) (fun y hy => by have := (hbd.2 y hy).1; omega) w1 (Nat.le_trans hb.size hb1.size) ((unhide HT).below (hb.trans (hb1.mono hb.size))) ((unhide HR).below hb1))
        have HBT := hide (fun (R' : Rgs) (ht : takeP R Q[j].1 Q[j].2 = some R') => bnd_take hbd (by omega) ht)
        generalize Q[j] = q at d0 d1 HF2 TK HBT
        obtain ⟨x, y⟩ := q
        simp only at d0 d1 HF2 TK HBT
        rw [← hb.cell (p := ⟨b, off + j * 2, none⟩) (by simp; omega)] at d0
        rw [← hb.cell (p := ⟨b, off + j * 2 + 1, none⟩) (by simp; omega)] at d1
        have hj1 : (j : Int) < ((Q.length : Nat) : Int) := by omega
        generalize takeP R x y = T at HF2 TK HBT
        clear hpr HF hbd
        go_wp2_with fail
        refine (unhide TK _ (Gr.below_new _ _)).mono ?_
        rintro e w2 ⟨rfl, hR2, hb2⟩
        have b2 := hb.trans (((Gr.below_new wr (Obj.cells #[.string x, .string y] 63)).mono hb.size).trans hb2)
        cases T with
        | none =>
          have hFn : F = none := unhide HF2
          subst hFn
          have hXf : X = false := unhide HQ
          subst hXf
          have HR2 : Hid (RegAt w2 w.heap.size w.heap.size R) := hR2
          clear hR2 hb2
          go_wp2
          go_ret2
          exact ⟨⟨R, rfl, unhide HR2, fun h => by cases h⟩, b2⟩
        | some R' =>
          have HR2 : Hid (RegAt w2 w.heap.size w.heap.size R') := hR2
          have HF3 : Hid (F = regFold R' (Q.drop (j + 1))) := unhide HF2
          have HB3 := hide (unhide HBT R' rfl)
          clear hR2 hb2 HF2 HBT TK
          go_wp2_with fail
          exact ⟨⟨j + 1, R', by go_num, by omega, unhide HR2, unhide HF3, unhide HB3, b2⟩, by simp [intOf]; omega⟩
      · have hFs : F = some R := by rw [unhide HF, List.drop_eq_nil_of_le (by omega)]; rfl
        subst hFs
        have hXc : X = checks R := unhide HQ
        have hj1 : ¬ (j : Int) < ((Q.length : Nat) : Int) := by omega
        have LK := hide (links_any w.heap.size w.heap.size R wr (unhide HR))
        have RD := hide (fun w2 (hb2 : Below wr.heap.size wr w2) => rounds'_any w.heap.size w.heap.size R (by have := hbd.1; omega) (fun y hy => by have := hbd.2 y hy; omega) w2 ((unhide HR).below hb2))
        have ME := hide (fun w2 (hb2 : Below wr.heap.size wr w2) => members_any w.heap.size w.heap.size R w2 ((unhide HR).below hb2))
        have hck : checks R = (linksOk R && (roundsR R && membersOk R)) := rfl
        rw [hck] at hXc
        have HXC := hide hXc
        clear hck hXc hbd
        generalize linksOk R = b1 at LK HXC
        generalize roundsR R = b2 at RD HXC
        generalize membersOk R = b3 at ME HXC
        go_wp2_with fail
        refine (unhide LK).mono ?_
        rintro e w2 ⟨rfl, hb2⟩
        have e2 := hb.trans (hb2.mono hb.size)
        have R2 := hide ((unhide HR).below hb2)
        cases b1 with
        | false =>
          have hXf : X = false := unhide HXC
          subst hXf
          go_wp2
          go_ret2
          exact ⟨⟨R, rfl, unhide R2, fun _ => rfl⟩, e2⟩
        | true =>
          rw [Bool.true_and] at HXC
          go_wp2_with fail
          refine (unhide RD w2 hb2).mono ?_
          rintro e w3 ⟨rfl, hb3⟩
          have hb23 := hb2.trans (hb3.mono hb2.size)
          have e3 := hb.trans (hb23.mono hb.size)
          have R3 := hide ((unhide HR).below hb23)
          cases b2 with
          | false =>
            have hXf : X = false := unhide HXC
            subst hXf
            go_wp2
            go_ret2
            exact ⟨⟨R, rfl, unhide R3, fun _ => rfl⟩, e3⟩
          | true =>
            rw [Bool.true_and] at HXC
            go_wp2_with fail
            refine (unhide ME w3 hb23).mono ?_
            rintro e w4 ⟨rfl, hb4⟩
            have hb24 := hb23.trans (hb4.mono hb23.size)
            have e4 := hb.trans (hb24.mono hb.size)
            have R4 := hide ((unhide HR).below hb24)
            have hXf : X = b3 := unhide HXC
            subst hXf
            go_wp2
            go_ret2
            exact ⟨⟨R, rfl, unhide R4, fun _ => rfl⟩, e4⟩
  · rw [decide_eq_false hM, Bool.false_and] at hX
    rw [decide_eq_false hM] at MO
    subst hX
    go_enter Tryz.func33, Tryz.ntmps33
    go_wp2_with fail
    refine (unhide MO _ (Gr.below_new _ _)).mono ?_
    rintro e w1 ⟨rfl, hb1⟩
    have HR1 := hide ((unhide R0A).below hb1)
    have bw1 := (Gr.below_new w (Obj.cells Z 80)).trans (hb1.mono (Gr.below_new w (Obj.cells Z 80)).size)
    go_wp2
    go_ret2
    exact ⟨⟨R0, rfl, unhide HR1, fun h => by cases h⟩, bw1⟩
end Rg
end Go.Proofs.YtjblkijicfmkgaaGreatDoor
