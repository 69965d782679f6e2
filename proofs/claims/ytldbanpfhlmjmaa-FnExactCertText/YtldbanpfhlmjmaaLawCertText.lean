/-
  impl.CertText answers as the specification; it writes into no argument, and its answer owns its memory. Walk and frame written by program (tools/exactlaw.py).
-/
import Derived.Test.YtldbanpfhlmjmaaRows
import Derived.Test.YtldbanpfhlmjmaaJ41
import Derived.Test.YtldbanpfhlmjmaaJ21
import Derived.Test.YtldbanpfhlmjmaaChecked
import Derived.Deep.RegionHeld3
import Derived.ShutString
import Derived.Below
namespace Go.Proofs.Ytldbanpfhlmjmaa.fnExactCertText
open Go.Proofs.Ytldbanpfhlmjmaa Go.Proofs.Ytldbanpfhlmjmaa.Gr
open Go.ChangeShapes Go.WideShapes Go.ChangeAt Go.RowKit

theorem own : ownKnob Try.prog.godebug = none := by kernel_rfl

theorem laidOut : laidOutB Try.prog = true := by kernel_rfl

set_option maxRecDepth 100000 in
set_option maxHeartbeats 4000000 in
theorem walk (v0 : Value) (s0 : Int) (Q0 : List EdgeI) (M0 : List CoupleI) (Y0 : List Int) (G0 : List GrpI) (w : World) (hv0 : CeAt w v0 w.heap.size s0 Q0 M0 Y0 G0) (hn0 : csize Q0 M0 Y0 G0 ≤ 9223372036854775807) :
    Calls Try.prog 3 #[v0] w fun e w' => e = .returned (.bool true) ∧ Below w.heap.size w w' := by
  have HV0 := hide hv0
  have HN0 := hide hn0
  have sh0 := hv0.shape
  obtain ⟨a0, c0, a0', c0', a0'', c0'', a0''', c0''', rfl⟩ := sh0
  clear hv0 hn0
  obtain ⟨W1, hW2⟩ : ∃ W, W = w.alloc (Obj.cells #[Value.int .i64 s0, Value.slice a0 Q0.length c0, Value.slice a0' M0.length c0', Value.slice a0'' Y0.length c0'', Value.slice a0''' G0.length c0'''] 31) := ⟨_, rfl⟩
  have hb3 : Below w.heap.size w W1 := by rw [hW2]; exact below_new _ _
  have HX4 : Hid (CBox W1 w.heap.size #[Value.int .i64 s0, Value.slice a0 Q0.length c0, Value.slice a0' M0.length c0', Value.slice a0'' Y0.length c0'', Value.slice a0''' G0.length c0'''] 31) := by show CBox _ _ _ _; rw [hW2]; exact CBox.new _ _ _
  have hc5 : Below w.heap.size w W1 := hb3
  have hz6 : w.heap.size < W1.heap.size := by rw [hW2]; simp
  clear hb3
  have p7 : W1.cell? ⟨w.heap.size, 0, none⟩ = some (Value.int .i64 s0) := (unhide HX4).cell 0
  have p8 : W1.cell? ⟨w.heap.size, 1, none⟩ = some (Value.slice a0 Q0.length c0) := (unhide HX4).cell 1
  have p9 : W1.cell? ⟨w.heap.size, 2, none⟩ = some (Value.slice a0' M0.length c0') := (unhide HX4).cell 2
  have p10 : W1.cell? ⟨w.heap.size, 3, none⟩ = some (Value.slice a0'' Y0.length c0'') := (unhide HX4).cell 3
  have p11 : W1.cell? ⟨w.heap.size, 4, none⟩ = some (Value.slice a0''' G0.length c0''') := (unhide HX4).cell 4
  (try rw [hW2] at p7 p8 p9 p10 p11)
  go_enter Try.func3, Try.ntmps3
  go_wp2_with fail
  rw [← hW2]
  clear hW2 p7 p8 p9 p10 p11
  refine (szCert_gen _ w.heap.size s0 Q0 M0 Y0 G0 1048576 (by omega) (by omega) (unhide HN0) W1 ((unhide HV0).below hc5 (Nat.le_refl _))).mono ?_
  rintro e uw13 ⟨⟨z12, rfl, hxz12, hyz12⟩, hb14⟩
  have HX4 := hide ((unhide HX4).below hb14)
  have hc15 : Below w.heap.size w uw13 := hc5.trans (hb14.mono hc5.size)
  have hz16 : W1.heap.size ≤ uw13.heap.size := hb14.size
  clear hb14
  by_cases hnegz12 : z12 < 0
  · go_wp2
    go_ret
    exact ⟨rfl, hc15⟩
  · have htz12 := hyz12 (by omega)
    have hb0 : csize Q0 M0 Y0 G0 ≤ 1048576 := by omega
    have TO0 := hide (fun w1 (hb : Below w.heap.size w w1) => toCert_gen _ w.heap.size s0 Q0 M0 Y0 G0 hb0 w1 hb.size ((unhide HV0).below hb (Nat.le_refl _)))
    have EQ0 := hide (fun w1 d d1 (hd : CeAt w1 d w1.heap.size s0 Q0 M0 Y0 G0) (hd1 : CeAt w1 d1 w1.heap.size s0 Q0 M0 Y0 G0) => eqCert_gen d d1 w1.heap.size w1.heap.size s0 Q0 M0 Y0 G0 hb0 w1 (Nat.le_refl _) (Nat.le_refl _) hd hd1)
    have SP := hide (fun w1 d0 (hd0 : CeAt w1 d0 w1.heap.size s0 Q0 M0 Y0 G0) => specCertText_gen w1.heap.size d0 s0 Q0 M0 Y0 G0 hb0 w1 (Nat.le_refl _) hd0)
    have IM := hide (fun w1 d0 (hd0 : CeAt w1 d0 w1.heap.size s0 Q0 M0 Y0 G0) => implCertText_gen w1.heap.size d0 s0 Q0 M0 Y0 G0 hb0 w1 (Nat.le_refl _) hd0)
    generalize certT s0 Q0 M0 Y0 G0 = ret0 at SP IM
    generalize certR s0 Q0 M0 Y0 G0 = ret1 at SP IM
    have hne1 : (ret1 != ret1) = false := by simp
    clear hb0
    have p17 : uw13.cell? ⟨w.heap.size, 0, none⟩ = some (Value.int .i64 s0) := (unhide HX4).cell 0
    have p18 : uw13.cell? ⟨w.heap.size, 1, none⟩ = some (Value.slice a0 Q0.length c0) := (unhide HX4).cell 1
    have p19 : uw13.cell? ⟨w.heap.size, 2, none⟩ = some (Value.slice a0' M0.length c0') := (unhide HX4).cell 2
    have p20 : uw13.cell? ⟨w.heap.size, 3, none⟩ = some (Value.slice a0'' Y0.length c0'') := (unhide HX4).cell 3
    have p21 : uw13.cell? ⟨w.heap.size, 4, none⟩ = some (Value.slice a0''' G0.length c0''') := (unhide HX4).cell 4
    go_wp2_with fail
    clear p17 p18 p19 p20 p21
    refine (unhide TO0 uw13 hc15).mono ?_
    rintro e uw24 ⟨⟨d22, rfl, ho23⟩, hb25⟩
    have HX4 := hide ((unhide HX4).below hb25)
    have hc26 : Below w.heap.size w uw24 := hc15.trans (hb25.mono hc15.size)
    have hz27 : uw13.heap.size ≤ uw24.heap.size := hb25.size
    clear hb25
    have HO29 := hide ho23
    have hs33 := ho23.at.shape
    obtain ⟨a31, c32, a31', c32', a31'', c32'', a31''', c32''', rfl⟩ := hs33
    clear ho23
    go_wp2_with fail
    refine (unhide SP uw24 _ (unhide HO29).at).mono ?_
    rintro e uw34 ⟨rfl, hb35⟩
    have HX4 := hide ((unhide HX4).below hb35)
    have HO29 := hide ((unhide HO29).below hb35)
    have hc36 : Below w.heap.size w uw34 := hc26.trans (hb35.mono hc26.size)
    have hz37 : uw24.heap.size ≤ uw34.heap.size := hb35.size
    clear hb35
    have p38 : uw34.cell? ⟨w.heap.size, 0, none⟩ = some (Value.int .i64 s0) := (unhide HX4).cell 0
    have p39 : uw34.cell? ⟨w.heap.size, 1, none⟩ = some (Value.slice a0 Q0.length c0) := (unhide HX4).cell 1
    have p40 : uw34.cell? ⟨w.heap.size, 2, none⟩ = some (Value.slice a0' M0.length c0') := (unhide HX4).cell 2
    have p41 : uw34.cell? ⟨w.heap.size, 3, none⟩ = some (Value.slice a0'' Y0.length c0'') := (unhide HX4).cell 3
    have p42 : uw34.cell? ⟨w.heap.size, 4, none⟩ = some (Value.slice a0''' G0.length c0''') := (unhide HX4).cell 4
    go_wp2_with fail
    clear p38 p39 p40 p41 p42
    refine (unhide TO0 uw34 hc36).mono ?_
    rintro e uw45 ⟨⟨d43, rfl, ho44⟩, hb46⟩
    have HX4 := hide ((unhide HX4).below hb46)
    have hc47 : Below w.heap.size w uw45 := hc36.trans (hb46.mono hc36.size)
    have hz48 : uw34.heap.size ≤ uw45.heap.size := hb46.size
    clear hb46
    have HO49 := hide ho44
    have hs53 := ho44.at.shape
    obtain ⟨a51, c52, a51', c52', a51'', c52'', a51''', c52''', rfl⟩ := hs53
    clear ho44
    obtain ⟨W54, hW55⟩ : ∃ W, W = uw45.alloc (Obj.cells #[Value.int .i64 s0, Value.slice a51 Q0.length c52, Value.slice a51' M0.length c52', Value.slice a51'' Y0.length c52'', Value.slice a51''' G0.length c52'''] 43) := ⟨_, rfl⟩
    have hb56 : Below uw45.heap.size uw45 W54 := by rw [hW55]; exact below_new _ _
    have HX4 := hide ((unhide HX4).below hb56)
    have HO49 := hide ((unhide HO49).below hb56)
    have HX57 : Hid (CBox W54 uw45.heap.size #[Value.int .i64 s0, Value.slice a51 Q0.length c52, Value.slice a51' M0.length c52', Value.slice a51'' Y0.length c52'', Value.slice a51''' G0.length c52'''] 43) := by show CBox _ _ _ _; rw [hW55]; exact CBox.new _ _ _
    have hc58 : Below w.heap.size w W54 := hc47.trans (hb56.mono hc47.size)
    have hz59 : uw45.heap.size < W54.heap.size := by rw [hW55]; simp
    clear hb56
    go_wp2_with fail
    rw [← hW55]
    clear hW55
    refine (unhide IM W54 _ (unhide HO49).at).mono ?_
    rintro e uw60 ⟨rfl, hb61⟩
    have HX4 := hide ((unhide HX4).below hb61)
    have HO49 := hide ((unhide HO49).below hb61)
    have HX57 := hide ((unhide HX57).below hb61)
    have hc62 : Below w.heap.size w uw60 := hc58.trans (hb61.mono hc58.size)
    have hz63 : W54.heap.size ≤ uw60.heap.size := hb61.size
    clear hb61
    have r0 : uw60.cell? ⟨uw45.heap.size, 0, none⟩ = some (Value.int .i64 s0) := (unhide HX57).cell 0
    have r1 : uw60.cell? ⟨uw45.heap.size, 1, none⟩ = some (Value.slice a51 Q0.length c52) := (unhide HX57).cell 1
    have r2 : uw60.cell? ⟨uw45.heap.size, 2, none⟩ = some (Value.slice a51' M0.length c52') := (unhide HX57).cell 2
    have r3 : uw60.cell? ⟨uw45.heap.size, 3, none⟩ = some (Value.slice a51'' Y0.length c52'') := (unhide HX57).cell 3
    have r4 : uw60.cell? ⟨uw45.heap.size, 4, none⟩ = some (Value.slice a51''' G0.length c52''') := (unhide HX57).cell 4
    have p0 : uw60.cell? ⟨w.heap.size, 0, none⟩ = some (Value.int .i64 s0) := (unhide HX4).cell 0
    have p1 : uw60.cell? ⟨w.heap.size, 1, none⟩ = some (Value.slice a0 Q0.length c0) := (unhide HX4).cell 1
    have p2 : uw60.cell? ⟨w.heap.size, 2, none⟩ = some (Value.slice a0' M0.length c0') := (unhide HX4).cell 2
    have p3 : uw60.cell? ⟨w.heap.size, 3, none⟩ = some (Value.slice a0'' Y0.length c0'') := (unhide HX4).cell 3
    have p4 : uw60.cell? ⟨w.heap.size, 4, none⟩ = some (Value.slice a0''' G0.length c0''') := (unhide HX4).cell 4
    have hk0 : uw45.heap.size < uw60.heap.size := (unhide HX57).lt
    have hk1 : w.heap.size < uw60.heap.size := (unhide HX4).lt
    have LIVE := hide (fun w8 (hb : Below uw60.heap.size uw60 w8) => And.intro ((unhide HX4).below hb) (And.intro ((unhide HO49).below hb) ((unhide HX57).below hb)))
    have HOD := hide ((unhide HO49).at.below ((Below.refl uw60.heap.size uw60).drew) (Nat.le_refl _))
    go_wp2_with fail
    go_region_held3 (fun u => u.cell? ⟨uw45.heap.size, 0, none⟩ = some (Value.int .i64 s0) ∧ u.cell? ⟨uw45.heap.size, 1, none⟩ = some (Value.slice a51 Q0.length c52) ∧ u.cell? ⟨uw45.heap.size, 2, none⟩ = some (Value.slice a51' M0.length c52') ∧ u.cell? ⟨uw45.heap.size, 3, none⟩ = some (Value.slice a51'' Y0.length c52'') ∧ u.cell? ⟨uw45.heap.size, 4, none⟩ = some (Value.slice a51''' G0.length c52''') ∧ u.cell? ⟨w.heap.size, 0, none⟩ = some (Value.int .i64 s0) ∧ u.cell? ⟨w.heap.size, 1, none⟩ = some (Value.slice a0 Q0.length c0) ∧ u.cell? ⟨w.heap.size, 2, none⟩ = some (Value.slice a0' M0.length c0') ∧ u.cell? ⟨w.heap.size, 3, none⟩ = some (Value.slice a0'' Y0.length c0'') ∧ u.cell? ⟨w.heap.size, 4, none⟩ = some (Value.slice a0''' G0.length c0'''))
      (first | go_keep | exact ⟨(hb9.cell (p := ⟨uw45.heap.size, 0, none⟩) l0).trans qr0, (hb9.cell (p := ⟨uw45.heap.size, 1, none⟩) l0).trans qr1, (hb9.cell (p := ⟨uw45.heap.size, 2, none⟩) l0).trans qr2, (hb9.cell (p := ⟨uw45.heap.size, 3, none⟩) l0).trans qr3, (hb9.cell (p := ⟨uw45.heap.size, 4, none⟩) l0).trans qr4, (hb9.cell (p := ⟨w.heap.size, 0, none⟩) l1).trans qp0, (hb9.cell (p := ⟨w.heap.size, 1, none⟩) l1).trans qp1, (hb9.cell (p := ⟨w.heap.size, 2, none⟩) l1).trans qp2, (hb9.cell (p := ⟨w.heap.size, 3, none⟩) l1).trans qp3, (hb9.cell (p := ⟨w.heap.size, 4, none⟩) l1).trans qp4⟩ | exact ⟨qr0, qr1, qr2, qr3, qr4, qp0, qp1, qp2, qp3, qp4⟩)
      (first
        | (go_at_call 7; refine (unhide TO0 _ hc62.drew).mono ?_; rintro e w8 ⟨⟨d8, rfl, ho8⟩, hb8⟩; have HE8 := hide ho8.at; have hs8 := ho8.at.shape; obtain ⟨a8, c8, a8', c8', a8'', c8'', a8''', c8''', rfl⟩ := hs8; have HO8 := hide (((unhide HOD).below hb8 (Nat.le_refl _)).mono (show uw60.heap.size ≤ w8.heap.size from hb8.size)); have qr0 := (hb8.cell (p := ⟨uw45.heap.size, 0, none⟩) hk0).trans r0; have qr1 := (hb8.cell (p := ⟨uw45.heap.size, 1, none⟩) hk0).trans r1; have qr2 := (hb8.cell (p := ⟨uw45.heap.size, 2, none⟩) hk0).trans r2; have qr3 := (hb8.cell (p := ⟨uw45.heap.size, 3, none⟩) hk0).trans r3; have qr4 := (hb8.cell (p := ⟨uw45.heap.size, 4, none⟩) hk0).trans r4; have qp0 := (hb8.cell (p := ⟨w.heap.size, 0, none⟩) hk1).trans p0; have qp1 := (hb8.cell (p := ⟨w.heap.size, 1, none⟩) hk1).trans p1; have qp2 := (hb8.cell (p := ⟨w.heap.size, 2, none⟩) hk1).trans p2; have qp3 := (hb8.cell (p := ⟨w.heap.size, 3, none⟩) hk1).trans p3; have qp4 := (hb8.cell (p := ⟨w.heap.size, 4, none⟩) hk1).trans p4; have l0 : uw45.heap.size < w8.heap.size := Nat.lt_of_lt_of_le hk0 hb8.size; have l1 : w.heap.size < w8.heap.size := Nat.lt_of_lt_of_le hk1 hb8.size; have hc8 : Below w.heap.size w w8 := hc62.drew.trans (hb8.mono hc62.size); have hb78 : Below uw60.heap.size uw60 w8 := (Below.refl uw60.heap.size uw60).drew.trans hb8; clear hb8)
        | (go_at_call 9; refine (unhide EQ0 w8 _ _ (unhide HO8) (unhide HE8)).mono ?_; rintro e w9 ⟨rfl, hb9⟩))
    have hb65 : Below uw60.heap.size uw60 w9 := hb78.trans (hb9.mono hb78.size)
    obtain ⟨zHX4, zHO49, zHX57⟩ := unhide LIVE w9 hb65
    have HX4 := hide zHX4
    have HO49 := hide zHO49
    have HX57 := hide zHX57
    have hc66 : Below w.heap.size w w9 := hc62.trans (hb65.mono hc62.size)
    have hz67 : uw60.heap.size ≤ w9.heap.size := hb65.size
    obtain ⟨uw64, hwn⟩ : ∃ W, W = w9 := ⟨_, rfl⟩
    subst hwn
    clear hb78 hb65 hb9 hc8 LIVE HO8 HE8 HOD hk0 hk1 l0 l1 r0 r1 r2 r3 r4 p0 p1 p2 p3 p4 qr0 qr1 qr2 qr3 qr4 qp0 qp1 qp2 qp3 qp4 zHX4 zHO49 zHX57
    go_wp2
    go_ret
    exact ⟨rfl, hc66⟩

set_option maxRecDepth 100000 in
theorem lifted (os : Os) (started : os.Started) (H : Type) (enc : TypeId × Value → H) :
    ReturnsInHanded {} Try.checked os 3 .any (Rows.fnExactCertTextSpec.pre6 enc Try.prog Try.f3 Rows.fnExactCertTextRow.domain false) (Rows.fnExactCertTextSpec.post enc Try.prog Try.f3 false true false false) := by
  refine returnsInHanded_of_change (C := Try.checked) own started (by kernel_rfl) Try.func3
    (ChangeSpec.witness6 (enc := enc) (C := Try.checked) false ⟨#[], #[.agg #[.int .i64 0, .slice none 0 0, .slice none 0 0, .slice none 0 0, .slice none 0 0]], []⟩ 8 (by kernel_rfl) (by kernel_rfl) (by kernel_rfl) (by kernel_rfl)) ?_
  intro W base args ds gs before hval0 hW _ _
  have hval : ∀ (j : Nat) t v, Try.f3.params[j]? = some t → args[j]? = some v → Value.okWide Try.prog W .any base t v := hval0
  have hW' := hW
  obtain ⟨p, q, hA0, hV, rfl, hfz, hnd⟩ := hW
  have hA : DataW.TrodAll enc Try.prog W 0 (fun _ => true) true Try.f3.params.toList args.toList ds p := hA0
  rw [Try.params3] at hA hval
  obtain ⟨v0, vs0, d0, ds0, p0, q0, hargs, rfl, rfl, h0, r0⟩ := trodAll_cons hA
  obtain ⟨rfl, rfl, rfl⟩ := trodAll_nil r0
  obtain rfl : args = #[v0] := by cases args; simp_all
  obtain ⟨rfl, rfl⟩ := trodVars_none hV
  have k0 := h0
  have lt0 : ∀ x ∈ p0, x.block < W.heap.size := by obtain ⟨m, hm⟩ := k0; exact DataW.trod_lt m _ _ _ hm
  obtain ⟨s0, Q0, M0, Y0, G0, hv0, hn0⟩ := cert_in (hval 0 31 v0 rfl rfl) h0
  clear hA0 hval0
  refine (walk v0 s0 Q0 M0 Y0 G0 W hv0 hn0).mono fun e W' ⟨he, bel⟩ => ?_
  subst he
  exact ⟨_, rfl, _, _, _, [], _, [], hW', trodAll_mk1 (shut_bool Try.underlying4 _), (trodAll_cons_mk (Below.trod laidOut (by kernel_rfl) (of_decide_eq_true (by kernel_rfl)) k0 bel lt0) trodAll_mk0), rfl, bel.frame _, fun h => by cases h⟩

theorem over : Rows.fnExactCertTextRow.holds Try.pinned (OpenSpec.ofChange Rows.fnExactCertTextSpec) :=
  OpenClaim.holds_of_wide 3 Try.f3 rfl rfl rfl rfl rfl rfl rfl ⟨rfl, rfl, rfl, rfl, rfl⟩ rfl rfl rfl rfl rfl (by kernel_rfl) Try.func3 (by kernel_rfl)
    (of_decide_eq_true (by kernel_rfl)) (by unfold Func.isWrapper; first | (rw [if_pos (by decide +kernel)]; kernel_rfl) | (rw [if_neg (by decide +kernel)]; exact ⟨rfl, rfl⟩))
    (fun os started H enc _ => lifted os started H enc)

end Go.Proofs.Ytldbanpfhlmjmaa.fnExactCertText
namespace Go.Proofs.Ytldbanpfhlmjmaa
theorem fnExactCertText_holds : Rows.FnExactCertTextSaid := fnExactCertText.over
#print axioms fnExactCertText_holds
end Go.Proofs.Ytldbanpfhlmjmaa
