/-
  impl.ReadCert answers as the specification; it writes into no argument, and its answer owns its memory, behind another call too.
-/
import Derived.Test.YtalmbdfcpnkkpaaRows
import Derived.Test.YtalmbdfcpnkkpaaJ49
import Derived.Test.YtalmbdfcpnkkpaaJ53
import Derived.Test.YtalmbdfcpnkkpaaJ54
import Derived.Test.YtalmbdfcpnkkpaaJ26
import Derived.Test.YtalmbdfcpnkkpaaChecked
import Derived.Deep.RegionHeld3
import Derived.ShutString
import Derived.Below
namespace Go.Proofs.Ytalmbdfcpnkkpaa.fnExactReadCert
open Go.Proofs.Ytalmbdfcpnkkpaa Go.Proofs.Ytalmbdfcpnkkpaa.Gr
open Go.ChangeShapes Go.WideShapes Go.ChangeAt Go.RowKit
open Go.ChangeMaps (open_string shut_string)

theorem own : ownKnob Try.prog.godebug = none := by kernel_rfl

set_option maxRecDepth 100000 in
set_option maxHeartbeats 4000000 in
theorem walk (x0 : ByteArray) (w : World)  :
    Calls Try.prog 3 #[.string x0] w fun e w' => e = .returned (.bool true) ∧ Below w.heap.size w w' := by
  by_cases hbig0 : (1048576 : Int) < (x0.size : Int)
  · go_enter Try.func3, Try.ntmps3
    go_wp2
    go_ret
    exact ⟨rfl, Below.refl _ _⟩
  · have hsm0 : x0.size ≤ 1048576 := by omega
    have SP := hide (fun w1 => specReadCert_any x0 hsm0 w1)
    have IM := hide (fun w1 => implReadCert_gen w1.heap.size x0 hsm0 w1 (Nat.le_refl _))
    obtain ⟨hcs, hmk⟩ := rc_small x0
    have hne : (rcOk x0 != rcOk x0) = false := by simp
    generalize rcV x0 = R at SP IM hcs hmk
    generalize rcOk x0 = ok at SP IM hne
    obtain ⟨s, Q, M, Y, G, cs0⟩ := R
    simp only at SP IM hcs hmk
    have HAT := hide (fun w1 B d (h : CROwn w1 B d s Q M Y G) => h.at hcs)
    have EQ := hide (fun w1 d d' L (hL : L ≤ w1.heap.size) (hd : CeAt w1 d w1.heap.size s Q M Y G) (hd' : CeAt w1 d' L s Q M Y G) => eqCert_gen d d' w1.heap.size L s Q M Y G hcs w1 (Nat.le_refl _) hL hd hd')
    have MK := hide (fun w1 B d (hd : CROwn w1 B d s Q M Y G) => markCert_any d B 1 s Q M Y G hmk w1 hd)
    have HE := hide (fun w1 B d (hd : CROwn w1 B d s (marksEdge 1 Q.length) (marksCouple (mkM 1 Q) M.length) (marksN (mkY 1 Q M) Y.length) (mixQ (mkY 1 Q M + Y.length) G G.length)) => heldCert_any d B 1 s Q M Y G hmk w1 hd)
    generalize mkAll 1 Q M Y G = km at MK HE
    have hkr : ¬ ((km : Nat) : Int) < 0 := by omega
    have hkq : (((km : Nat) : Int) != ((km : Nat) : Int)) = false := by simp
    obtain ⟨Qm, hQm⟩ : ∃ x, x = marksEdge 1 Q.length := ⟨_, rfl⟩
    obtain ⟨Mm, hMm⟩ : ∃ x, x = marksCouple (mkM 1 Q) M.length := ⟨_, rfl⟩
    obtain ⟨Ym, hYm⟩ : ∃ x, x = marksN (mkY 1 Q M) Y.length := ⟨_, rfl⟩
    obtain ⟨Gm, hGm⟩ : ∃ x, x = mixQ (mkY 1 Q M + Y.length) G G.length := ⟨_, rfl⟩
    rw [← hQm, ← hMm, ← hYm, ← hGm] at MK HE
    clear hQm hMm hYm hGm hcs hmk
    go_enter Try.func3, Try.ntmps3
    go_wp2_with fail
    refine (unhide SP w).mono ?_
    rintro e u1 ⟨⟨d1, rfl, hd1⟩, hb1⟩
    have hc1 : Below w.heap.size w u1 := hb1
    have HD1 := hide hd1
    obtain ⟨a1, c1, a2, c2, a3, c3, a4, c4, rfl⟩ := hd1.shape
    clear hb1 hd1
    obtain ⟨U1, hU1⟩ : ∃ W, W = u1.alloc (Obj.cells #[Value.int .i64 s, Value.slice a1 Q.length c1, Value.slice a2 M.length c2, Value.slice a3 Y.length c3, Value.slice a4 G.length c4] 31) := ⟨_, rfl⟩
    have n1 : Below u1.heap.size u1 U1 := by rw [hU1]; exact below_new _ _
    have HX1 : Hid (Blk U1 u1.heap.size #[Value.int .i64 s, Value.slice a1 Q.length c1, Value.slice a2 M.length c2, Value.slice a3 Y.length c3, Value.slice a4 G.length c4] 31) := by show Blk _ _ _ _; rw [hU1]; exact Blk.new0
    have hc2 := hc1.trans (n1.mono hc1.size)
    have HD2 := hide ((unhide HD1).below n1 (Nat.le_refl _))
    have hz2 : u1.heap.size ≤ U1.heap.size := n1.size
    go_wp2_with fail
    rw [← hU1]
    clear hU1 n1
    have zx1 := (unhide HX1).lt
    generalize u1.heap.size = L at HX1 HD2 hz2 zx1
    refine (unhide IM U1).mono ?_
    rintro e u3 ⟨⟨d3, rfl, ho3⟩, hb3⟩
    have hc3 := hc2.trans (hb3.mono hc2.size)
    have HX3 := hide ((unhide HX1).below hb3)
    have HD3 := hide ((unhide HD2).below hb3 (by omega))
    have HO3 := hide ho3
    obtain ⟨b1, e1, b2, e2, b3, e3, b4, e4, rfl⟩ := (unhide HAT _ _ _ ho3).shape
    have hz3 := hb3.size
    clear ho3 hb3
    obtain ⟨U3, hU3⟩ : ∃ W, W = u3.alloc (Obj.cells #[Value.int .i64 s, Value.slice b1 Q.length e1, Value.slice b2 M.length e2, Value.slice b3 Y.length e3, Value.slice b4 G.length e4] 31) := ⟨_, rfl⟩
    have n3 : Below u3.heap.size u3 U3 := by rw [hU3]; exact below_new _ _
    have HY3 : Hid (Blk U3 u3.heap.size #[Value.int .i64 s, Value.slice b1 Q.length e1, Value.slice b2 M.length e2, Value.slice b3 Y.length e3, Value.slice b4 G.length e4] 31) := by show Blk _ _ _ _; rw [hU3]; exact Blk.new0
    have hc4 := hc3.trans (n3.mono hc3.size)
    have HX4 := hide ((unhide HX3).below n3)
    have HD4 := hide ((unhide HD3).below n3 (by omega))
    have HO4 := hide ((unhide HO3).below n3)
    have hz4 := n3.size
    have g0 : U3.cell? ⟨u3.heap.size, 0, none⟩ = some (Value.int .i64 s) := (unhide HY3).cell 0 _ rfl
    have g1 : U3.cell? ⟨u3.heap.size, 1, none⟩ = some (Value.slice b1 Q.length e1) := (unhide HY3).cell 1 _ rfl
    have g2 : U3.cell? ⟨u3.heap.size, 2, none⟩ = some (Value.slice b2 M.length e2) := (unhide HY3).cell 2 _ rfl
    have g3 : U3.cell? ⟨u3.heap.size, 3, none⟩ = some (Value.slice b3 Y.length e3) := (unhide HY3).cell 3 _ rfl
    have g4 : U3.cell? ⟨u3.heap.size, 4, none⟩ = some (Value.slice b4 G.length e4) := (unhide HY3).cell 4 _ rfl
    have p0 : U3.cell? ⟨L, 0, none⟩ = some (Value.int .i64 s) := (unhide HX4).cell 0 _ rfl
    have p1 : U3.cell? ⟨L, 1, none⟩ = some (Value.slice a1 Q.length c1) := (unhide HX4).cell 1 _ rfl
    have p2 : U3.cell? ⟨L, 2, none⟩ = some (Value.slice a2 M.length c2) := (unhide HX4).cell 2 _ rfl
    have p3 : U3.cell? ⟨L, 3, none⟩ = some (Value.slice a3 Y.length c3) := (unhide HX4).cell 3 _ rfl
    have p4 : U3.cell? ⟨L, 4, none⟩ = some (Value.slice a4 G.length c4) := (unhide HX4).cell 4 _ rfl
    rw [hU3] at g0 g1 g2 g3 g4 p0 p1 p2 p3 p4
    go_wp2_with fail
    rw [← hU3]
    clear hU3 n3 g0 g1 g2 g3 g4 p0 p1 p2 p3 p4
    have zy3 := (unhide HY3).lt
    generalize u3.heap.size = Lg at HY3 hz4 zy3 hz3
    refine (unhide EQ U3 _ _ L (by omega) (unhide HAT _ _ _ (unhide HO4)) (unhide HD4)).mono ?_
    rintro e u5 ⟨rfl, hb5⟩
    have hc5 := hc4.trans (hb5.mono hc4.size)
    have HX5 := hide ((unhide HX4).below hb5)
    have HY5 := hide ((unhide HY3).below hb5)
    have HD5 := hide ((unhide HD4).below hb5 (by omega))
    have HO5 := hide ((unhide HO4).below hb5)
    have hz5 := hb5.size
    have g0 : u5.cell? ⟨Lg, 0, none⟩ = some (Value.int .i64 s) := (unhide HY5).cell 0 _ rfl
    have g1 : u5.cell? ⟨Lg, 1, none⟩ = some (Value.slice b1 Q.length e1) := (unhide HY5).cell 1 _ rfl
    have g2 : u5.cell? ⟨Lg, 2, none⟩ = some (Value.slice b2 M.length e2) := (unhide HY5).cell 2 _ rfl
    have g3 : u5.cell? ⟨Lg, 3, none⟩ = some (Value.slice b3 Y.length e3) := (unhide HY5).cell 3 _ rfl
    have g4 : u5.cell? ⟨Lg, 4, none⟩ = some (Value.slice b4 G.length e4) := (unhide HY5).cell 4 _ rfl
    clear hb5
    go_wp2_with fail
    clear g0 g1 g2 g3 g4
    refine (unhide MK u5 _ _ (unhide HO5)).mono ?_
    rintro e u6 ⟨rfl, ho6, hk6⟩
    have hb6 : Below U1.heap.size u5 u6 := hk6.below (by omega) (fun g hg => hg.1)
    have hc6 := hc5.trans (hb6.mono hc2.size)
    have HX6 := hide ((unhide HX5).cert hk6)
    have HY6 := hide ((unhide HY5).cert hk6)
    have HD6 := hide ((unhide HD5).below hb6 hz2)
    have HO6 := hide ho6
    have hz6 := hb6.size
    have g0 : u6.cell? ⟨Lg, 0, none⟩ = some (Value.int .i64 s) := (unhide HY6).cell 0 _ rfl
    have g1 : u6.cell? ⟨Lg, 1, none⟩ = some (Value.slice b1 Q.length e1) := (unhide HY6).cell 1 _ rfl
    have g2 : u6.cell? ⟨Lg, 2, none⟩ = some (Value.slice b2 M.length e2) := (unhide HY6).cell 2 _ rfl
    have g3 : u6.cell? ⟨Lg, 3, none⟩ = some (Value.slice b3 Y.length e3) := (unhide HY6).cell 3 _ rfl
    have g4 : u6.cell? ⟨Lg, 4, none⟩ = some (Value.slice b4 G.length e4) := (unhide HY6).cell 4 _ rfl
    clear ho6 hk6 hb6
    go_wp2_with fail
    clear g0 g1 g2 g3 g4
    refine (unhide HE u6 _ _ (unhide HO6)).mono ?_
    rintro e u7 ⟨rfl, hb7⟩
    have hc7 := hc6.trans (hb7.mono hc6.size)
    have HX7 := hide ((unhide HX6).below hb7)
    have HY7 := hide ((unhide HY6).below hb7)
    have HD7 := hide ((unhide HD6).below hb7 (by omega))
    have HO7 := hide ((unhide HO6).below hb7)
    have hz7 := hb7.size
    clear hb7
    go_wp2_with fail
    refine (unhide IM u7).mono ?_
    rintro e u8 ⟨⟨d8, rfl, ho8⟩, hb8⟩
    have hc8 := hc7.trans (hb8.mono hc7.size)
    have HX8 := hide ((unhide HX7).below hb8)
    have HY8 := hide ((unhide HY7).below hb8)
    have HD8 := hide ((unhide HD7).below hb8 (by omega))
    have HO8 := hide ((unhide HO7).below hb8)
    have HN8 := hide ho8
    obtain ⟨f1, k1, f2, k2, f3, k3, f4, k4, rfl⟩ := (unhide HAT _ _ _ ho8).shape
    have hz8 := hb8.size
    clear ho8 hb8
    obtain ⟨U8, hU8⟩ : ∃ W, W = u8.alloc (Obj.cells #[Value.int .i64 s, Value.slice f1 Q.length k1, Value.slice f2 M.length k2, Value.slice f3 Y.length k3, Value.slice f4 G.length k4] 31) := ⟨_, rfl⟩
    have n8 : Below u8.heap.size u8 U8 := by rw [hU8]; exact below_new _ _
    have HZ8 : Hid (Blk U8 u8.heap.size #[Value.int .i64 s, Value.slice f1 Q.length k1, Value.slice f2 M.length k2, Value.slice f3 Y.length k3, Value.slice f4 G.length k4] 31) := by show Blk _ _ _ _; rw [hU8]; exact Blk.new0
    have hc9 := hc8.trans (n8.mono hc8.size)
    have HX9 := hide ((unhide HX8).below n8)
    have HY9 := hide ((unhide HY8).below n8)
    have HD9 := hide ((unhide HD8).below n8 (by omega))
    have HO9 := hide ((unhide HO8).below n8)
    have HN9 := hide ((unhide HN8).below n8)
    have hz9 := n8.size
    have g0 : U8.cell? ⟨u8.heap.size, 0, none⟩ = some (Value.int .i64 s) := (unhide HZ8).cell 0 _ rfl
    have g1 : U8.cell? ⟨u8.heap.size, 1, none⟩ = some (Value.slice f1 Q.length k1) := (unhide HZ8).cell 1 _ rfl
    have g2 : U8.cell? ⟨u8.heap.size, 2, none⟩ = some (Value.slice f2 M.length k2) := (unhide HZ8).cell 2 _ rfl
    have g3 : U8.cell? ⟨u8.heap.size, 3, none⟩ = some (Value.slice f3 Y.length k3) := (unhide HZ8).cell 3 _ rfl
    have g4 : U8.cell? ⟨u8.heap.size, 4, none⟩ = some (Value.slice f4 G.length k4) := (unhide HZ8).cell 4 _ rfl
    have p0 : U8.cell? ⟨L, 0, none⟩ = some (Value.int .i64 s) := (unhide HX9).cell 0 _ rfl
    have p1 : U8.cell? ⟨L, 1, none⟩ = some (Value.slice a1 Q.length c1) := (unhide HX9).cell 1 _ rfl
    have p2 : U8.cell? ⟨L, 2, none⟩ = some (Value.slice a2 M.length c2) := (unhide HX9).cell 2 _ rfl
    have p3 : U8.cell? ⟨L, 3, none⟩ = some (Value.slice a3 Y.length c3) := (unhide HX9).cell 3 _ rfl
    have p4 : U8.cell? ⟨L, 4, none⟩ = some (Value.slice a4 G.length c4) := (unhide HX9).cell 4 _ rfl
    rw [hU8] at g0 g1 g2 g3 g4 p0 p1 p2 p3 p4
    go_wp2_with fail
    rw [← hU8]
    clear hU8 n8 g0 g1 g2 g3 g4 p0 p1 p2 p3 p4
    refine (unhide EQ U8 _ _ L (by omega) (unhide HAT _ _ _ (unhide HN9)) (unhide HD9)).mono ?_
    rintro e u10 ⟨rfl, hb10⟩
    have hc10 := hc9.trans (hb10.mono hc9.size)
    have HY10 := hide ((unhide HY9).below hb10)
    have HO10 := hide ((unhide HO9).below hb10)
    have g0 : u10.cell? ⟨Lg, 0, none⟩ = some (Value.int .i64 s) := (unhide HY10).cell 0 _ rfl
    have g1 : u10.cell? ⟨Lg, 1, none⟩ = some (Value.slice b1 Q.length e1) := (unhide HY10).cell 1 _ rfl
    have g2 : u10.cell? ⟨Lg, 2, none⟩ = some (Value.slice b2 M.length e2) := (unhide HY10).cell 2 _ rfl
    have g3 : u10.cell? ⟨Lg, 3, none⟩ = some (Value.slice b3 Y.length e3) := (unhide HY10).cell 3 _ rfl
    have g4 : u10.cell? ⟨Lg, 4, none⟩ = some (Value.slice b4 G.length e4) := (unhide HY10).cell 4 _ rfl
    clear hb10
    go_wp2_with fail
    clear g0 g1 g2 g3 g4
    refine (unhide HE u10 _ _ (unhide HO10)).mono ?_
    rintro e u11 ⟨rfl, hb11⟩
    have hc11 := hc10.trans (hb11.mono hc10.size)
    clear hb11
    go_wp2
    go_ret
    exact ⟨rfl, hc11⟩

set_option maxRecDepth 100000 in
theorem lifted (os : Os) (started : os.Started) (H : Type) (enc : TypeId × Value → H) :
    ReturnsInHanded {} Try.checked os 3 .any (Rows.fnExactReadCertSpec.pre6 enc Try.prog Try.f3 Rows.fnExactReadCertRow.domain false) (Rows.fnExactReadCertSpec.post enc Try.prog Try.f3 false true false false) := by
  refine returnsInHanded_of_change (C := Try.checked) own started (by kernel_rfl) Try.func3
    (ChangeSpec.witness6 (enc := enc) (C := Try.checked) false ⟨#[], #[.string .empty], []⟩ 8 (by kernel_rfl) (by kernel_rfl) (by kernel_rfl) (by kernel_rfl)) ?_
  intro W base args ds gs before hval0 hW _ _
  have hval : ∀ (j : Nat) t v, Try.f3.params[j]? = some t → args[j]? = some v → Value.okWide Try.prog W .any base t v := hval0
  have hW' := hW
  obtain ⟨p, q, hA0, hV, rfl, hfz, hnd⟩ := hW
  have hA : DataW.TrodAll enc Try.prog W 0 (fun _ => true) true Try.f3.params.toList args.toList ds p := hA0
  rw [Try.params3] at hA hval
  obtain ⟨v0, vs0, d0, ds0, p0, q0, hargs, rfl, rfl, h0, r0⟩ := trodAll_cons hA
  obtain ⟨rfl, rfl, rfl⟩ := trodAll_nil r0
  obtain rfl : args = #[v0] := by cases args; simp_all
  obtain ⟨rfl, rfl⟩ := trodVars_none hV
  obtain ⟨x0, rfl, rfl, rfl, m0⟩ := open_string Try.underlying9 (hval 0 9 v0 rfl rfl) h0
  clear hA0 hval0
  simp only [List.append_nil] at hW'
  refine (walk x0 W ).mono fun e W' ⟨he, bel⟩ => ?_
  subst he
  exact ⟨_, rfl, _, _, _, [], [], [], hW', trodAll_mk1 (shut_bool Try.underlying4 _), (trodAll_cons_mk (shut_string Try.underlying9 m0) trodAll_mk0), rfl, bel.frame _, fun h => by cases h⟩

theorem over : Rows.fnExactReadCertRow.holds Try.pinned (OpenSpec.ofChange Rows.fnExactReadCertSpec) :=
  OpenClaim.holds_of_wide 3 Try.f3 rfl rfl rfl rfl rfl rfl rfl ⟨rfl, rfl, rfl, rfl, rfl⟩ rfl rfl rfl rfl rfl (by kernel_rfl) Try.func3 (by kernel_rfl)
    (of_decide_eq_true (by kernel_rfl)) (by unfold Func.isWrapper; first | (rw [if_pos (by decide +kernel)]; kernel_rfl) | (rw [if_neg (by decide +kernel)]; exact ⟨rfl, rfl⟩))
    (fun os started H enc _ => lifted os started H enc)

end Go.Proofs.Ytalmbdfcpnkkpaa.fnExactReadCert
namespace Go.Proofs.Ytalmbdfcpnkkpaa
theorem fnExactReadCert_holds : Rows.FnExactReadCertSaid := fnExactReadCert.over
#print axioms fnExactReadCert_holds
end Go.Proofs.Ytalmbdfcpnkkpaa
