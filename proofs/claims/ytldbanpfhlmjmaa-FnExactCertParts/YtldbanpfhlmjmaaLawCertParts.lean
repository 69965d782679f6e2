/-
  impl.CertParts answers as the specification; it writes into no argument, and its answer owns its memory. Walk and frame written by program (tools/exactlaw.py).
-/
import Derived.Test.YtldbanpfhlmjmaaRows
import Derived.Test.YtldbanpfhlmjmaaGrImplP
import Derived.Test.YtldbanpfhlmjmaaChecked
import Derived.Deep.RegionHeld3
import Derived.ShutString
import Derived.Below
namespace Go.Proofs.Ytldbanpfhlmjmaa.fnExactCertParts
open Go.Proofs.Ytldbanpfhlmjmaa Go.Proofs.Ytldbanpfhlmjmaa.Gr
open Go.ChangeShapes Go.WideShapes Go.ChangeAt Go.RowKit
open Go.ChangeMaps (open_string shut_string)

theorem own : ownKnob Try.prog.godebug = none := by kernel_rfl

set_option maxRecDepth 100000 in
set_option maxHeartbeats 4000000 in
theorem walk (x0 : ByteArray) (w : World)  :
    Calls Try.prog 4 #[.string x0] w fun e w' => e = .returned (.bool true) ∧ Below w.heap.size w w' := by
  by_cases hbig0 : (1048576 : Int) < (x0.size : Int)
  · go_enter Try.func4, Try.ntmps4
    go_wp2
    go_ret
    exact ⟨rfl, Below.refl _ _⟩
  · have hsm0 : x0.size ≤ 1048576 := by omega
    have SP := hide (fun w1  => specParts_gen w1.heap.size x0 hsm0 w1 (Nat.le_refl _) )
    have IM := hide (fun w1  => implParts_gen w1.heap.size x0 hsm0 w1 (Nat.le_refl _) )
    have hl0 : (partsT x0).length ≤ 1048576 := by first | omega | (exact Nat.le_trans (parts_length x0) (by omega))
    generalize partsT x0 = Lr0 at SP IM hl0
    have ER0 := hide (fun w1 d d1 (hd : StAt w1 d w1.heap.size Lr0) (hd1 : StAt w1 d1 w1.heap.size Lr0) => eqStrS_gen d d1 w1.heap.size w1.heap.size Lr0 hl0 w1 (Nat.le_refl _) (Nat.le_refl _) hd hd1)
    have MR0 := hide (fun w1 B d (hd : StOwn w1 B d Lr0) => markStrS_gen d B 1 Lr0 (by omega) w1 hd)
    have HR0 := hide (fun w1 d (hd : StAt w1 d w1.heap.size (marksT 1 Lr0.length)) => heldStrS_gen d w1.heap.size 1 Lr0.length (by omega) w1 (Nat.le_refl _) hd)
    obtain ⟨km0, hkm0⟩ : ∃ k : Nat, k = 1 + Lr0.length := ⟨_, rfl⟩
    rw [← hkm0] at MR0 HR0
    have hkr0 : ¬ ((km0 : Nat) : Int) < 0 := by omega
    have hkq0 : (((km0 : Nat) : Int) != ((km0 : Nat) : Int)) = false := by simp
    clear hkm0 hl0
    go_enter Try.func4, Try.ntmps4
    go_wp2_with fail
    refine (unhide SP w ).mono ?_
    rintro e uw3 ⟨⟨d1, rfl, ho2⟩, hb4⟩
    have hc5 : Below w.heap.size w uw3 := hb4
    have hz6 : w.heap.size ≤ uw3.heap.size := hb4.size
    clear hb4
    have HO7 := hide ho2
    have HB8 := hide ho2.blk
    have hs11 := ho2.at.shape
    obtain ⟨a9, c10, rfl⟩ := hs11
    clear ho2
    go_wp2_with fail
    refine (unhide IM uw3 ).mono ?_
    rintro e uw14 ⟨⟨d12, rfl, ho13⟩, hb15⟩
    have HO7 := hide ((unhide HO7).below hb15)
    have hc16 : Below w.heap.size w uw14 := hc5.trans (hb15.mono hc5.size)
    have hz17 : uw3.heap.size ≤ uw14.heap.size := hb15.size
    clear hb15
    have HO18 := hide ho13
    have HB19 := hide ho13.blk
    have hs22 := ho13.at.shape
    obtain ⟨a20, c21, rfl⟩ := hs22
    clear ho13
    go_wp2_with fail
    refine (unhide ER0 uw14 _ _ (unhide HO18).at (unhide HO7).at).mono ?_
    rintro e uw23 ⟨rfl, hb24⟩
    have HO7 := hide ((unhide HO7).below hb24)
    have HO18 := hide ((unhide HO18).below hb24)
    have hc25 : Below w.heap.size w uw23 := hc16.trans (hb24.mono hc16.size)
    have hz26 : uw14.heap.size ≤ uw23.heap.size := hb24.size
    clear hb24
    go_wp2_with fail
    refine (unhide MR0 uw23 _ _ (unhide HO18)).mono ?_
    rintro e uw27 ⟨rfl, ho29, hk28⟩
    have HO7 := hide ((unhide HO7).kept hk28 (fun g h0 h1 => by have h2 := unhide HB8 g h0; have h3 := unhide HB19 g h1; omega))
    have HO18 := hide ho29
    have hc30 : Below w.heap.size w uw27 := hc25.trans (hk28.below hc25.size (fun g hg => by have h3 := unhide HB19 g hg; omega))
    have hz31 : uw23.heap.size ≤ uw27.heap.size := hk28.2.2.2.1
    clear ho29 hk28
    go_wp2_with fail
    refine (unhide HR0 uw27 _ (unhide HO18).at).mono ?_
    rintro e uw32 ⟨rfl, hb33⟩
    have HO7 := hide ((unhide HO7).below hb33)
    have HO18 := hide ((unhide HO18).below hb33)
    have hc34 : Below w.heap.size w uw32 := hc30.trans (hb33.mono hc30.size)
    have hz35 : uw27.heap.size ≤ uw32.heap.size := hb33.size
    clear hb33
    go_wp2_with fail
    refine (unhide IM uw32 ).mono ?_
    rintro e uw38 ⟨⟨d36, rfl, ho37⟩, hb39⟩
    have HO7 := hide ((unhide HO7).below hb39)
    have HO18 := hide ((unhide HO18).below hb39)
    have hc40 : Below w.heap.size w uw38 := hc34.trans (hb39.mono hc34.size)
    have hz41 : uw32.heap.size ≤ uw38.heap.size := hb39.size
    clear hb39
    have HO42 := hide ho37
    have HB43 := hide ho37.blk
    have hs46 := ho37.at.shape
    obtain ⟨a44, c45, rfl⟩ := hs46
    clear ho37
    go_wp2_with fail
    refine (unhide ER0 uw38 _ _ (unhide HO42).at (unhide HO7).at).mono ?_
    rintro e uw47 ⟨rfl, hb48⟩
    have HO7 := hide ((unhide HO7).below hb48)
    have HO18 := hide ((unhide HO18).below hb48)
    have HO42 := hide ((unhide HO42).below hb48)
    have hc49 : Below w.heap.size w uw47 := hc40.trans (hb48.mono hc40.size)
    have hz50 : uw38.heap.size ≤ uw47.heap.size := hb48.size
    clear hb48
    go_wp2_with fail
    refine (unhide HR0 uw47 _ (unhide HO18).at).mono ?_
    rintro e uw51 ⟨rfl, hb52⟩
    have HO7 := hide ((unhide HO7).below hb52)
    have HO18 := hide ((unhide HO18).below hb52)
    have HO42 := hide ((unhide HO42).below hb52)
    have hc53 : Below w.heap.size w uw51 := hc49.trans (hb52.mono hc49.size)
    have hz54 : uw47.heap.size ≤ uw51.heap.size := hb52.size
    clear hb52
    go_wp2
    go_ret
    exact ⟨rfl, hc53⟩

set_option maxRecDepth 100000 in
theorem lifted (os : Os) (started : os.Started) (H : Type) (enc : TypeId × Value → H) :
    ReturnsInHanded {} Try.checked os 4 .any (Rows.fnExactCertPartsSpec.pre6 enc Try.prog Try.f4 Rows.fnExactCertPartsRow.domain false) (Rows.fnExactCertPartsSpec.post enc Try.prog Try.f4 false true false false) := by
  refine returnsInHanded_of_change (C := Try.checked) own started (by kernel_rfl) Try.func4
    (ChangeSpec.witness6 (enc := enc) (C := Try.checked) false ⟨#[], #[.string .empty], []⟩ 8 (by kernel_rfl) (by kernel_rfl) (by kernel_rfl) (by kernel_rfl)) ?_
  intro W base args ds gs before hval0 hW _ _
  have hval : ∀ (j : Nat) t v, Try.f4.params[j]? = some t → args[j]? = some v → Value.okWide Try.prog W .any base t v := hval0
  have hW' := hW
  obtain ⟨p, q, hA0, hV, rfl, hfz, hnd⟩ := hW
  have hA : DataW.TrodAll enc Try.prog W 0 (fun _ => true) true Try.f4.params.toList args.toList ds p := hA0
  rw [Try.params4] at hA hval
  obtain ⟨v0, vs0, d0, ds0, p0, q0, hargs, rfl, rfl, h0, r0⟩ := trodAll_cons hA
  obtain ⟨rfl, rfl, rfl⟩ := trodAll_nil r0
  obtain rfl : args = #[v0] := by cases args; simp_all
  obtain ⟨rfl, rfl⟩ := trodVars_none hV
  obtain ⟨x0, rfl, rfl, rfl, m0⟩ := open_string Try.underlying9 (hval 0 9 v0 rfl rfl) h0
  clear hA0 hval0
  simp only [List.append_nil] at hW'
  refine (walk x0 W ).mono fun e W' ⟨he, bel⟩ => ?_
  subst he
  exact ⟨_, rfl, _, _, _, [], [], [], hW', trodAll_mk1 (shut_bool Try.underlying4 _), (trodAll_cons_mk (shut_string Try.underlying9 m0) trodAll_mk0), rfl, bel.frame _, fun h => by cases h⟩

theorem over : Rows.fnExactCertPartsRow.holds Try.pinned (OpenSpec.ofChange Rows.fnExactCertPartsSpec) :=
  OpenClaim.holds_of_wide 4 Try.f4 rfl rfl rfl rfl rfl rfl rfl ⟨rfl, rfl, rfl, rfl, rfl⟩ rfl rfl rfl rfl rfl (by kernel_rfl) Try.func4 (by kernel_rfl)
    (of_decide_eq_true (by kernel_rfl)) (by unfold Func.isWrapper; first | (rw [if_pos (by decide +kernel)]; kernel_rfl) | (rw [if_neg (by decide +kernel)]; exact ⟨rfl, rfl⟩))
    (fun os started H enc _ => lifted os started H enc)

end Go.Proofs.Ytldbanpfhlmjmaa.fnExactCertParts
namespace Go.Proofs.Ytldbanpfhlmjmaa
theorem fnExactCertParts_holds : Rows.FnExactCertPartsSaid := fnExactCertParts.over
#print axioms fnExactCertParts_holds
end Go.Proofs.Ytldbanpfhlmjmaa
