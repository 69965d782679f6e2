/-
 CfW.
-/
import Derived.Test.YthbhdfeafbineaaGreatJ40
import Derived.Test.YthbhdfeafbineaaGreatJ12
import Derived.Test.YthbhdfeafbineaaGreatJ17
import Derived.Test.YthbhdfeafbineaaGreatJ44
import Derived.Test.YthbhdfeafbineaaGreatJ47
import Derived.Test.YthbhdfeafbineaaGreatJ50
import Derived.Test.YthbhdfeafbineaaGreatJ10
import Derived.Deep.DeepCutAuto
import Derived.Deep.CutBlock
namespace Go.Proofs.YthbhdfeafbineaaGreat
namespace Gr
open Go.RowKit
theorem certs_big (a : Option Addr) (len cap : Nat) (hl : ¬ len ≤ 1048576) (w : World) :
    Calls Tryz.prog 3 #[.slice a len cap] w fun e w' => e = .returned (.bool true) ∧ Below w.heap.size w w' := by
  have H := hide (big_is a len cap w)
  have e : decide ((1048576 : Int) < (len : Int)) = true := by simp; omega
  rw [e] at H
  clear e
  go_enter Tryz.func3, Tryz.ntmps3
  go_wp2_with fail
  refine (unhide H).mono ?_
  rintro e w1 ⟨rfl, rfl⟩
  go_wp2
  go_ret
  exact ⟨rfl, Below.refl _ _⟩
theorem code_atC {a : Option Addr} {len : Nat} {w w' : World} (h : Code a len w.heap.size w) (hb : Below w.heap.size w w') : Code a len w'.heap.size w' := code_up (code_below h hb (Nat.le_refl _)) hb.size
theorem cert_of_true {s : Int} {Q : List EdgeI} {M : List CoupleI} {Y : List Int} {G : List GrpI} (h : certR s Q M Y G = true) : certT s Q M Y G = certB s Q M Y G := by unfold certT; rw [if_pos h]
set_option maxRecDepth 100000 in
set_option maxHeartbeats 8000000 in
theorem certs_walk (a : Option Addr) (len cap : Nat) (hl : len ≤ 1048576) (w : World) (hd : Code a len w.heap.size w) :
    Calls Tryz.prog 3 #[.slice a len cap] w fun e w' => e = .returned (.bool true) ∧ Below w.heap.size w w' := by
  have H := hide (big_is a len cap w)
  have e : decide ((1048576 : Int) < (len : Int)) = false := by simp; omega
  rw [e] at H
  have D1 := hide (drawCertText_any a len cap hl w hd)
  have D2 := hide (fun w1 (hb : Below w.heap.size w w1) => drawReadCert_any a len cap hl w1 (code_atC hd hb))
  have D3 := hide (fun w1 (hb : Below w.heap.size w w1) => drawCertParts_any a len cap hl w1 (code_atC hd hb))
  clear e hd
  go_enter Tryz.func3, Tryz.ntmps3
  go_wp2_with fail
  refine (unhide H).mono ?_
  rintro e w1 ⟨rfl, hw1⟩
  subst w1
  clear H
  go_wp2_with fail
  refine (unhide D1).mono ?_
  rintro e w2 ⟨⟨d, s, Q, M, Y, G, rfl, hA, hcs⟩, hb2⟩
  obtain ⟨l1, l2, l3⟩ := csize_le hcs
  obtain ⟨ae, ce, am, cm, ay, cy, ag, cg, hde⟩ := hA.shape
  subst hde
  obtain ⟨V3, hV3⟩ : ∃ W, W = w2.alloc (Obj.cells #[.int .i64 s, .slice ae Q.length ce, .slice am M.length cm, .slice ay Y.length cy, .slice ag G.length cg] 33) := ⟨_, rfl⟩
  have bV3 : Below w2.heap.size w2 V3 := by rw [hV3]; exact below_new _ _
  have m3 : Blk V3 w2.heap.size #[.int .i64 s, .slice ae Q.length ce, .slice am M.length cm, .slice ay Y.length cy, .slice ag G.length cg] 33 := by rw [hV3]; exact Blk.new0
  have A3 := (hA.below bV3 (Nat.le_refl _)).mono bV3.size
  have b3 := hb2.trans (bV3.mono hb2.size)
  have CT := hide (implCertText_gen V3.heap.size _ s Q M Y G hcs V3 (Nat.le_refl _) A3)
  have hsz := certT_size s Q M Y G
  have RC := hide (fun W => implReadCert_gen 0 (certT s Q M Y G) (by omega) W (Nat.zero_le _))
  have HT : Hid (certR s Q M Y G = true → rcOk (certT s Q M Y G) = true ∧ rcV (certT s Q M Y G) = ⟨s, Q, M, Y, G, ⟨(certB s Q M Y G).size, false⟩⟩) := fun h => by rw [cert_of_true h]; exact rc_of h
  generalize certT s Q M Y G = t at CT RC HT
  generalize hok : certR s Q M Y G = ok at CT HT
  generalize hro : rcOk t = ro at RC HT
  have HOK := hide hok
  clear hok hro
  clear D1 hb2 hA bV3 hsz
  go_wp2_with fail
  rw [← hV3]
  clear hV3
  refine (unhide CT).mono ?_
  rintro e w4 ⟨rfl, hb4⟩
  have m4 := m3.below hb4
  have A4 := (A3.below hb4 (Nat.le_refl _)).mono hb4.size
  have b4 := b3.trans (hb4.mono b3.size)
  clear m3 A3 b3 hb4 CT
  go_wp2_with fail
  refine (unhide RC w4).mono ?_
  rintro e w5 ⟨⟨d5, rfl, h5⟩, hb5⟩
  have R5 := h5.at (rc_small t).1
  have m5 := m4.below hb5
  have A5 := (A4.below hb5 (Nat.le_refl _)).mono hb5.size
  have b5 := b4.trans (hb5.mono b4.size)
  have HR5 : Hid (CeAt w5 d5 w5.heap.size (rcV t).s (rcV t).Q (rcV t).M (rcV t).Y (rcV t).G) := R5
  obtain ⟨ae5, ce5, am5, cm5, ay5, cy5, ag5, cg5, hd5⟩ := R5.shape
  generalize (rcV t) = X at HR5 HT R5 hd5
  obtain ⟨s5, Q5, M5, Y5, G5, cs5⟩ := X
  simp only at HR5 hd5
  subst hd5
  obtain ⟨V6, hV6⟩ : ∃ W, W = w5.alloc (Obj.cells #[.int .i64 s5, .slice ae5 Q5.length ce5, .slice am5 M5.length cm5, .slice ay5 Y5.length cy5, .slice ag5 G5.length cg5] 33) := ⟨_, rfl⟩
  have bV6 : Below w5.heap.size w5 V6 := by rw [hV6]; exact below_new _ _
  have n6 : Blk V6 w5.heap.size #[.int .i64 s5, .slice ae5 Q5.length ce5, .slice am5 M5.length cm5, .slice ay5 Y5.length cy5, .slice ag5 G5.length cg5] 33 := by rw [hV6]; exact Blk.new0
  have m6 := m5.below bV6
  have A6 := (A5.below bV6 (Nat.le_refl _)).mono bV6.size
  have R6 := ((unhide HR5).below bV6 (Nat.le_refl _)).mono bV6.size
  have b6 := b5.trans (bV6.mono b5.size)
  clear m4 m5 A4 A5 b4 b5 hb5 h5 R5 HR5 bV6 RC
  go_upto_region 6 with fail
  rw [← hV6]
  clear hV6
  go_cut [72] (fun c wx => c = .bool false ∧ Below w.heap.size w wx)
  case first =>
    obtain ⟨_, _, _, _, _, _, _, _, eA, gA, cA, pA, _⟩ := A6
    simp only [Value.agg.injEq, Array.mk.injEq, List.cons.injEq, Value.slice.injEq, true_and, and_true] at eA
    obtain ⟨⟨rfl, rfl⟩, ⟨rfl, rfl⟩, ⟨rfl, rfl⟩, rfl, rfl⟩ := eA
    obtain ⟨_, _, _, _, _, _, _, _, eR, gR, cR, pR, _⟩ := R6
    simp only [Value.agg.injEq, Array.mk.injEq, List.cons.injEq, Value.slice.injEq, true_and, and_true] at eR
    obtain ⟨⟨rfl, rfl⟩, ⟨rfl, rfl⟩, ⟨rfl, rfl⟩, rfl, rfl⟩ := eR
    have SC := hide (specCert_gen V6.heap.size _ s Q _ M _ Y G l1 l2 l3 V6 (Nat.le_refl _) gA cA pA)
    have x0 : V6.cell? ⟨w2.heap.size, 0, none⟩ = some (.int .i64 s) := m6.cell 0 _ rfl
    have x1 := m6.cell 1 _ rfl
    have x2 := m6.cell 2 _ rfl
    have x3 := m6.cell 3 _ rfl
    have x4 := m6.cell 4 _ rfl
    rw [unhide HOK] at SC
    clear HOK
    cases ok with
    | false =>
      clear HT gA cA pA gR cR pR n6 m6
      go_wp2_with fail
      refine (unhide SC).mono ?_
      rintro e w7 ⟨rfl, hb7⟩
      have b7 := b6.trans (hb7.mono b6.size)
      clear x0 x1 x2 x3 x4
      go_wp2_with fail
      go_meet
      case rel => exact ⟨rfl, b7⟩
    | true =>
      obtain ⟨hr, hX⟩ := unhide HT rfl
      simp only [RC.mk.injEq] at hX
      obtain ⟨rfl, rfl, rfl, rfl, rfl, _⟩ := hX
      subst ro
      obtain ⟨p1, p2, p3⟩ := psize_le l3
      have SG := hide (fun W (hb : Below V6.heap.size V6 W) => sameGraph_any _ _ V6.heap.size V6.heap.size s5 Q5 l1 W hb.size hb.size (gA.below hb (Nat.le_refl _)) (gR.below hb (Nat.le_refl _)))
      have SK := hide (fun W (hb : Below V6.heap.size V6 W) => sameCouples_any _ _ V6.heap.size V6.heap.size M5 l2 W hb.size hb.size (cA.below hb (Nat.le_refl _)) (cR.below hb (Nat.le_refl _)))
      have SP := hide (fun W (hb : Below V6.heap.size V6 W) => sameProof_any _ _ V6.heap.size V6.heap.size Y5 G5 p1 p2 p3 W hb.size hb.size (pA.below hb (Nat.le_refl _)) (pR.below hb (Nat.le_refl _)))
      clear HT gA cA pA gR cR pR p1 p2 p3 l1 l2 l3 hcs
      go_wp2_with fail
      refine (unhide SC).mono ?_
      rintro e w7 ⟨rfl, hb7⟩
      have m7 := m6.below hb7
      have n7 := n6.below hb7
      clear x0 x1 x2 x3 x4
      have x0 : w7.cell? ⟨w2.heap.size, 0, none⟩ = some (.int .i64 s5) := m7.cell 0 _ rfl
      have x1 := m7.cell 1 _ rfl
      have y0 : w7.cell? ⟨w5.heap.size, 0, none⟩ = some (.int .i64 s5) := n7.cell 0 _ rfl
      have y1 := n7.cell 1 _ rfl
      go_wp2_with fail
      refine (unhide SG w7 hb7).mono ?_
      rintro e w8 ⟨rfl, hb8⟩
      have k8 := hb7.trans (hb8.mono hb7.size)
      have m8 := m7.below hb8
      have n8 := n7.below hb8
      clear x0 x1 y0 y1 m7 n7
      have x2 := m8.cell 2 _ rfl
      have y2 := n8.cell 2 _ rfl
      go_wp2_with fail
      refine (unhide SK w8 k8).mono ?_
      rintro e w9 ⟨rfl, hb9⟩
      have k9 := k8.trans (hb9.mono k8.size)
      have m9 := m8.below hb9
      have n9 := n8.below hb9
      clear x2 y2 m8 n8
      have x3 := m9.cell 3 _ rfl
      have x4 := m9.cell 4 _ rfl
      have y3 := n9.cell 3 _ rfl
      have y4 := n9.cell 4 _ rfl
      go_wp2_with fail
      refine (unhide SP w9 k9).mono ?_
      rintro e w10 ⟨rfl, hb10⟩
      have k10 := b6.trans ((k9.trans (hb10.mono k9.size)).mono b6.size)
      clear x3 x4 y3 y4
      go_wp2_with fail
      go_meet
      case rel => exact ⟨rfl, k10⟩
  case rest =>
    obtain ⟨rfl, hbc⟩ := hcut
    clear m6 n6 A6 R6 b6 HT l1 l2 l3 hcs
    clear HOK
    go_wp2_with fail
    refine (unhide D2 wc hbc).mono ?_
    rintro e w7 ⟨⟨t7, rfl, ht7⟩, hb7⟩
    have b7 := hbc.trans (hb7.mono hbc.size)
    have RC := hide (fun W => implReadCert_gen 0 t7 (by omega) W (Nat.zero_le _))
    have SR := hide (fun W => specReadCert_any t7 (by omega) W)
    have hrs := (rc_small t7).1
    have HT : Hid (rcOk t7 = true → certT (rcV t7).s (rcV t7).Q (rcV t7).M (rcV t7).Y (rcV t7).G = t7) := rc_text t7
    generalize hro : rcOk t7 = r7 at RC SR HT
    generalize rcV t7 = X at RC SR HT hrs
    obtain ⟨s7, Q7, M7, Y7, G7, cs7⟩ := X
    simp only at RC SR HT hrs
    clear hb7 hbc D2
    go_wp2_with fail
    refine (unhide RC w7).mono ?_
    rintro e w8 ⟨⟨d8, rfl, h8⟩, hb8⟩
    have A8 := h8.at hrs
    obtain ⟨ae8, ce8, am8, cm8, ay8, cy8, ag8, cg8, hd8⟩ := A8.shape
    subst hd8
    obtain ⟨V9, hV9⟩ : ∃ W, W = w8.alloc (Obj.cells #[.int .i64 s7, .slice ae8 Q7.length ce8, .slice am8 M7.length cm8, .slice ay8 Y7.length cy8, .slice ag8 G7.length cg8] 33) := ⟨_, rfl⟩
    have bV9 : Below w8.heap.size w8 V9 := by rw [hV9]; exact below_new _ _
    have m9 : Blk V9 w8.heap.size #[.int .i64 s7, .slice ae8 Q7.length ce8, .slice am8 M7.length cm8, .slice ay8 Y7.length cy8, .slice ag8 G7.length cg8] 33 := by rw [hV9]; exact Blk.new0
    have A9 := (A8.below bV9 (Nat.le_refl _)).mono bV9.size
    have b9 := (b7.trans (hb8.mono b7.size)).trans (bV9.mono (Nat.le_trans b7.size hb8.size))
    clear h8 A8 hb8 bV9 b7 RC
    go_wp2_with fail
    rw [← hV9]
    clear hV9
    refine (unhide SR V9).mono ?_
    rintro e w10 ⟨⟨d10, rfl, h10⟩, hb10⟩
    obtain ⟨ae9, ce9, am9, cm9, ay9, cy9, ag9, cg9, hd9⟩ := h10.shape
    subst hd9
    obtain ⟨V11, hV11⟩ : ∃ W, W = w10.alloc (Obj.cells #[.int .i64 s7, .slice ae9 Q7.length ce9, .slice am9 M7.length cm9, .slice ay9 Y7.length cy9, .slice ag9 G7.length cg9] 33) := ⟨_, rfl⟩
    have bV11 : Below w10.heap.size w10 V11 := by rw [hV11]; exact below_new _ _
    have b911 : Below V9.heap.size V9 V11 := hb10.trans (bV11.mono hb10.size)
    have m11 := m9.below b911
    have A11 := (A9.below b911 (Nat.le_refl _)).mono b911.size
    have b11 := b9.trans (b911.mono b9.size)
    have CT := hide (implCertText_gen V11.heap.size _ s7 Q7 M7 Y7 G7 hrs V11 (Nat.le_refl _) A11)
    have x0 : V11.cell? ⟨w8.heap.size, 0, none⟩ = some (.int .i64 s7) := m11.cell 0 _ rfl
    have x1 := m11.cell 1 _ rfl
    have x2 := m11.cell 2 _ rfl
    have x3 := m11.cell 3 _ rfl
    have x4 := m11.cell 4 _ rfl
    rw [hV11] at x0 x1 x2 x3 x4
    generalize certT s7 Q7 M7 Y7 G7 = t8 at CT HT
    generalize certR s7 Q7 M7 Y7 G7 = r8 at CT
    clear h10 m9 A9 b9 hb10 bV11 b911 m11 A11 SR hrs
    go_wp2_with fail
    rw [← hV11]
    clear hV11 x0 x1 x2 x3 x4
    refine (unhide CT).mono ?_
    rintro e w12 ⟨rfl, hb12⟩
    have b12 := b11.trans (hb12.mono b11.size)
    clear hb12 b11 CT
    go_upto_region 12 with fail
    go_cut [100] (fun c wx => c = .bool false ∧ wx = w12)
    case first =>
      cases r7 with
      | false =>
        go_wp2_with fail
        go_meet
        case rel => exact ⟨rfl, rfl⟩
      | true =>
        obtain rfl := unhide HT rfl
        go_wp2_with fail
        go_meet
        case rel => exact ⟨rfl, rfl⟩
    case rest =>
      obtain ⟨rfl, hwc⟩ := hcut
      subst wc
      go_wp2_with fail
      refine (unhide D3 w12 b12).mono ?_
      rintro e w13 ⟨⟨u, rfl, hu⟩, hb13⟩
      have b13 := b12.trans (hb13.mono b12.size)
      have PP := hide (implParts_gen 0 u (by omega) w13 (Nat.zero_le _))
      obtain ⟨hg, hpk⟩ := parts_glue u.size u (Nat.le_refl _)
      have hLn := parts_length u
      have HU := hide hu
      generalize partsT u = L at PP hg hpk hLn
      have HAT := hide (PartsOk.at L hpk)
      have HGS : Hid (∀ j, (glue (L.take j)).size ≤ 6000) := fun j => Nat.le_trans (glue_size L j) (by rw [hg]; exact hu)
      clear hpk hb13 b12 D3 HT
      go_wp2_with fail
      refine (unhide PP).mono ?_
      rintro e w14 ⟨⟨d14, rfl, h14⟩, hb14⟩
      have b14 := b13.trans (hb14.mono b13.size)
      obtain ⟨al, cl, hdl, _, hce⟩ := h14.at
      subst hdl
      have HCE := hide hce
      obtain ⟨n, hn⟩ : ∃ n, n = L.length := ⟨_, rfl⟩
      rw [← hn] at hLn ⊢
      have HN := hide hn
      have hnl : n ≤ 6000 := by omega
      clear h14 hb14 hce hn b13 PP hLn hu
      go_wp2_with fail
      go_loopw [17, 18] (fun al ai wr => ∃ i : Nat, ai = .int .i64 i ∧ i ≤ n ∧ al = .string (glue (L.take i)) ∧ wr = w14) (fun _ ai _ => n - (intOf ai).toNat)
      case atStart => exact ⟨0, rfl, Nat.zero_le _, rfl, rfl⟩
      case round =>
        obtain ⟨i, rfl, hi, rfl, rfl⟩ := hrel
        by_cases hlt : i < n
        · have hiL : i < L.length := by rw [← unhide HN]; exact hlt
          obtain ⟨b, off, rfl, _, hcell⟩ := unhide HCE i hiL
          obtain ⟨q0, q40, qn⟩ := unhide HAT i hiL
          have hgs := unhide HGS i
          have HST : Hid (glue (L.take (i + 1)) = glue (L.take i) ++ L[i]) := by
            show _ = _
            rw [List.take_succ_eq_append_getElem hiL, glue_snoc]
          have hx1 : (i : Int) < (n : Int) := by omega
          have hx0 : (0 : Int) ≤ (i : Int) := by omega
          generalize L[i] = x at hcell q0 q40 qn HST
          generalize glue (L.take i) = A at hgs HST ⊢
          have z0 : ((x.size : Int) == 0) = false := by rw [beq_eq_false_iff_ne]; omega
          have z40 : ¬ (40 : Int) < (x.size : Int) := by omega
          have hcat : ¬ 9223372036854775807 < A.size + x.size := by omega
          by_cases hl2 : i + 1 < n
          · have e40 : ((x.size : Int) != 40) = false := by rw [bne_eq_false_iff_eq]; have := qn (by rw [← unhide HN]; exact hl2); omega
            have hl3 : (i : Int) + 1 < (n : Int) := by omega
            clear q0 q40 qn
            go_wp2
            go_roundw
            case rel => exact ⟨i + 1, by go_num, by omega, by rw [unhide HST], trivial⟩
            case measure => simp [intOf]; omega
          · have hl3 : ¬ (i : Int) + 1 < (n : Int) := by omega
            clear q0 q40 qn
            go_wp2
            go_roundw
            case rel => exact ⟨i + 1, by go_num, by omega, by rw [unhide HST], trivial⟩
            case measure => simp [intOf]; omega
        · have hLt : glue (L.take i) = u := by rw [List.take_of_length_le (by rw [← unhide HN]; omega)]; exact hg
          rw [hLt]
          go_wp2
          go_ret
          exact ⟨rfl, b14⟩
end Gr
end Go.Proofs.YthbhdfeafbineaaGreat
