/-
  The walk of laws.FnInduced.
-/
import Derived.Test.YtmajajhbhdgngaaGrPlaces
import Derived.Test.YtmajajhbhdgngaaGrIndMath
import Derived.Test.YtmajajhbhdgngaaGrKinds
import Derived.Test.YtmajajhbhdgngaaGrGen
import Derived.Test.YtmajajhbhdgngaaGrImpl
import Derived.BigQuiet
import Derived.Deep.RegionHeld3
namespace Go.Proofs.Ytmajajhbhdgngaa
namespace Gr
open Go.RowKit

theorem induced_big (a : Option Addr) (len cap : Nat) (hl : ¬ len ≤ 1048576) (w : World) :
    Calls Try.prog 7 #[.slice a len cap] w fun e w' => e = .returned (.bool true) ∧ Below w.heap.size w w' := by
  have H := hide (big_is a len cap w)
  have e : decide ((1048576 : Int) < (len : Int)) = true := by simp; omega
  rw [e] at H
  clear e
  go_enter Try.func7, Try.ntmps7
  go_wp2_with fail
  refine (unhide H).mono ?_
  rintro e w1 ⟨rfl, rfl⟩
  go_wp2
  go_ret
  exact ⟨rfl, Below.refl _ _⟩

/-- The vertices that are taken so far. -/
def KQ (v : Nat) (K : List Int) : Prop := K.Pairwise (· < ·) ∧ (∀ x ∈ K, 0 ≤ x ∧ x < (v : Int)) ∧ K.length ≤ v

theorem KQ.step {v : Nat} {K : List Int} (h : KQ v K) : KQ (v + 1) (K ++ [(v : Int)]) := by
  obtain ⟨h1, h2, h3⟩ := h
  refine ⟨?_, fun x hx => ?_, by simp; omega⟩
  · rw [List.pairwise_append]
    refine ⟨h1, List.pairwise_singleton _ _, fun x hx y hy => ?_⟩
    obtain rfl := List.mem_singleton.1 hy
    exact (h2 x hx).2
  · rcases List.mem_append.1 hx with hx | hx
    · have := h2 x hx; omega
    · obtain rfl := List.mem_singleton.1 hx
      omega

theorem KQ.skip {v : Nat} {K : List Int} (h : KQ v K) : KQ (v + 1) K := ⟨h.1, fun x hx => by have := h.2.1 x hx; omega, by have := h.2.2; omega⟩

def LD (w4 : World) (v : Nat) (out : Value) (wr : World) : Prop := Below w4.heap.size w4 wr ∧ ∃ K, KQ v K ∧ wr.ownsRow w4.heap.size 3 1 out K.length (intsV K)

set_option maxRecDepth 100000 in
set_option maxHeartbeats 4000000 in
theorem induced_walk (a : Option Addr) (len cap : Nat) (hl : len ≤ 1048576) (w : World) (hd : Code a len w.heap.size w) :
    Calls Try.prog 7 #[.slice a len cap] w fun e w' => e = .returned (.bool true) ∧ Below w.heap.size w w' := by
  have H := hide (big_is a len cap w)
  have e : decide ((1048576 : Int) < (len : Int)) = false := by simp; omega
  rw [e] at H
  have HD := hide hd
  have DR := hide (drawGraph_any a len cap hl w hd)
  obtain ⟨i0, hi, hz0, hz1, hz2⟩ := info_parts info3
  clear e hd
  go_enter Try.func7, Try.ntmps7
  go_wp2_with fail
  refine (unhide H).mono ?_
  rintro e w1 ⟨rfl, hw1⟩
  subst hw1
  go_wp2_with fail
  refine (unhide DR).mono ?_
  rintro e w2 ⟨⟨d, rfl, s, Q, ho2, hok, hQ9⟩, hb2⟩
  obtain ⟨v1, rfl, hr2⟩ := ho2
  obtain ⟨P, C, rfl, _⟩ := edgesAt.of_own hr2
  obtain ⟨hs0, hs9, hedge, hsort⟩ := graph_sound hok
  have HOK := hide hok
  clear hedge hsort DR hok H
  obtain ⟨V3, hV3⟩ : ∃ W, W = w2.alloc (Obj.cells #[Value.int .i64 s, Value.slice P Q.length C] 29) := ⟨_, rfl⟩
  have b3 : Below w2.heap.size w2 V3 := by rw [hV3]; exact below_new _ _
  have u3 : GBox V3 w2.heap.size s (.slice P Q.length C) := by rw [hV3]; exact GBox.new _ _ _
  have o3 : GrOwn V3 w1.heap.size (.agg #[.int .i64 s, .slice P Q.length C]) s Q := ⟨_, rfl, own_below hr2 b3⟩
  have c3 : Below w1.heap.size w1 V3 := hb2.trans (b3.mono hb2.size)
  have hd3 : Code a len V3.heap.size V3 := fun j hj => by
    obtain ⟨b, off, z, e, hb, hc, hz⟩ := unhide HD j hj
    exact ⟨b, off, z, e, by have := c3.size; omega, by rw [c3.cell (p := ⟨b, off + j, none⟩) (by simpa using hb)]; exact hc, hz⟩
  go_wp2_with fail
  rw [← hV3]
  have PL := hide (places_is a len cap hl V3 hd3)
  have z3 := u3.lt
  clear hV3 b3 hr2 hb2 hd3 HD
  refine (unhide PL).mono ?_
  rintro e w4 ⟨⟨v4, rfl, KP, hKP, op4⟩, hb4⟩
  obtain ⟨gp, C4, rfl, _, _⟩ := op4.form (by omega)
  have u4 := u3.below hb4
  have o4 := o3.below hb4
  have c4 : Below w1.heap.size w1 w4 := c3.trans (hb4.mono c3.size)
  have z4 := hb4.size
  clear u3 o3 c3 hb4 PL
  have HU4 := hide u4
  have HO4 := hide o4
  have HP4 := hide op4
  have HKP := hide hKP
  clear u4 o4 op4 hKP
  go_wp2_with fail
  go_loopw [5, 6] (fun out i wr => ∃ v : Nat, i = .int .i64 (v : Int) ∧ (v : Int) ≤ s ∧ LD w4 v out wr) (fun _ i _ => s.toNat - (intOf i).toNat)
  case atStart =>
    refine ⟨0, rfl, by omega, below_new w4 _, [], ⟨List.Pairwise.nil, by simp, Nat.le_refl _⟩, ?_⟩
    exact World.ownsRow_made w4 #[] 0 (by omega) (Nat.zero_le _) rfl
  case round =>
    obtain ⟨v, rfl, hvs, hb5, K, hK, own5⟩ := hrel
    have u6 := (unhide HU4).below hb5
    obtain ⟨p0, p1⟩ := u6.cells
    have c6 : Below w1.heap.size w1 wr := c4.trans (hb5.mono c4.size)
    by_cases hlt : (v : Int) < s
    · have hpr := own_below (unhide HP4) hb5
      have hv12 : v < 12 := by omega
      have hkp := unhide HKP
      have hce := hpr.cellAt v (by rw [Nat.mul_one]; exact hv12)
      have hvk : v < KP.length := by omega
      have hce2 : (intsV KP)[v]? = some (.int .i64 (KP[v]'hvk)) := by simp [intsV]
      rw [hce2] at hce
      generalize KP[v]'hvk = kp at hce
      have hrem : ((v : Int)).tmod 12 = (v : Int) := by rw [Int.tmod_eq_emod_of_nonneg (by omega)]; omega
      have hx0 : (0 : Int) ≤ (v : Int) := by omega
      have hx1 : (v : Int) < 12 := by omega
      have HOW := hide own5
      have HK := hide hK
      have HB5 := hide hb5
      have hsz5 := hb5.size
      clear hce2 own5 hK hb5 u6 hpr hkp hvk
      cases ht : (kp.tmod 2 == 0)
      · go_wp2
        go_roundw
        case rel => exact ⟨v + 1, by go_num, by omega, unhide HB5, K, (unhide HK).skip, unhide HOW⟩
        case measure => simp [intOf]; omega
      · have hown5 := unhide HOW
        go_wp2_with (at_builtin; refine wpList_append_own _ rfl _ _ 41 rfl w4.heap.size 3 i0 (.int .i64 0) 1 8 Try.underlying41 hi hz0 hz1 hz2 rfl (by decide) _ _ _ rfl (hown5.alloc _) ⟨wr.heap.size, 0, none⟩ 1 1 [.int .i64 (v : Int)] rfl rfl (cell_one_new _ _ _) (one_int _) ?_ ?_ ?_ ?_)
        · have := (unhide HK).2.2; unfold maxLen; omega
        · have := (unhide HK).2.2; omega
        · simp; omega
        intro v' w7 hown' hgrow _
        have HLD : Hid (LD w4 (v + 1) v' w7) := ⟨below_append (unhide HB5) (Nat.le_refl _) hown5 hgrow, K ++ [(v : Int)], (unhide HK).step, by rw [List.length_append, intsV_snoc]; exact hown'⟩
        clear hown' hgrow hown5
        go_wp2
        go_roundw
        case rel => exact ⟨v + 1, by go_num, by omega, unhide HLD⟩
        case measure => simp [intOf]; omega
    · obtain ⟨hK1, hK2, hK3⟩ := hK
      have hls : (K.length : Int) ≤ s := by omega
      have hasc : ascFrom s none K = true := asc_of s K none hK1 (fun x hx => by have := hK2 x hx; omega) (by simp)
      have e1 : indOk s Q K = true := by unfold indOk; rw [unhide HOK, hasc]; rfl
      have e2 : indS s Q K = (K.length : Int) := by unfold indS; rw [if_pos e1]
      have e3 : indQ s Q K = indL K Q := by unfold indQ; rw [if_pos e1]
      have hgo := ind_ok (unhide HOK) hK1 hls
      have hH := indL_length K Q
      obtain ⟨A5, C5, hu5⟩ := own_shape own5
      subst hu5
      have o6 := (unhide HO4).below hb5
      have i6 : InOwn wr w4.heap.size (.slice A5 K.length C5) K := own5
      have IM := hide (implInd_gen wr.heap.size _ s Q _ K (by omega) (by omega) wr (Nat.le_refl _) o6.at i6.at)
      rw [e1, e2, e3] at IM
      have PF := hide (fun (a b : Nat) (x y : Int) (hab : a < b) (hx : K[a]? = some x) (hy : K[b]? = some y) => pair_fact (unhide HOK) hK1 hls hab hx hy)
      obtain ⟨_, _, hedge, hsort⟩ := graph_sound hgo
      have HCH := hide (fun (a b : Int) (h : ∃ e ∈ indL K Q, e.A = a ∧ e.B = b) => cnt_hit hsort h)
      have HCM := hide (fun (a b : Int) (h : ∀ e ∈ indL K Q, ¬ (e.A = a ∧ e.B = b)) => cnt_miss (H := indL K Q) h)
      have HCR := hide (fun (a : Int) => cnt_row (a := a) hedge)
      have HCS := hide (cnt_start hedge)
      have HCE := hide (cnt_end hedge)
      have HCL := hide (fun (a b : Int) => show cnt (indL K Q) a b ≤ (indL K Q).length from List.countP_le_length)
      have HGO := hide hgo
      generalize indL K Q = L at IM PF HCH HCM HCR HCS HCE HCL HGO hH
      have hLb : L.length ≤ 90 := by omega
      have HO6 := hide o6
      have HI6 := hide i6
      have HU6 := hide u6
      have z6 := u6.lt
      have zb := hb5.size
      clear hasc e1 e2 e3 hgo own5 o6 i6 u6 hK2 hedge hsort hH hb5
      go_wp2_with fail
      refine (unhide IM).mono ?_
      rintro e w7 ⟨⟨d7, rfl, ho7⟩, hb7⟩
      obtain ⟨v7, rfl, hr7⟩ := ho7
      obtain ⟨P7, C7, rfl, _⟩ := edgesAt.of_own hr7
      have u7 := (unhide HU6).below hb7
      have o7 := (unhide HO6).below hb7
      have i7 := (unhide HI6).below hb7
      have c7 : Below w1.heap.size w1 w7 := c6.trans (hb7.mono c6.size)
      have z7 := hb7.size
      obtain ⟨V8, hV8⟩ : ∃ W, W = w7.alloc (Obj.cells #[Value.int .i64 (K.length : Int), Value.slice P7 L.length C7] 29) := ⟨_, rfl⟩
      have b8 : Below w7.heap.size w7 V8 := by rw [hV8]; exact below_new _ _
      have y8 : GBox V8 w7.heap.size (K.length : Int) (.slice P7 L.length C7) := by rw [hV8]; exact GBox.new _ _ _
      have h8 : GrOwn V8 wr.heap.size (.agg #[.int .i64 (K.length : Int), .slice P7 L.length C7]) (K.length : Int) L := ⟨_, rfl, own_below hr7 b8⟩
      have u8 := u7.below b8
      have o8 := o7.below b8
      have i8 := i7.below b8
      have c8 : Below w1.heap.size w1 V8 := c7.trans (b8.mono c7.size)
      have hne : (((K.length : Nat) : Int) != ((K.length : Nat) : Int)) = false := by simp
      clear u7 o7 i7 c7 hr7 hb7 IM
      go_wp2_with fail
      rw [← hV8]
      have GO := hide (implGraph_gen V8.heap.size _ (K.length : Int) L (by omega) V8 (Nat.le_refl _) h8.at)
      rw [unhide HGO] at GO
      have z8 := y8.lt
      clear hV8 b8
      refine (unhide GO).mono ?_
      rintro e w9 ⟨rfl, hb9⟩
      have HY9 := hide (y8.below hb9)
      have HH9 := hide (h8.below hb9)
      have HU9 := hide (u8.below hb9)
      have HO9 := hide (o8.below hb9)
      have HI9 := hide (i8.below hb9)
      have c9 : Below w1.heap.size w1 w9 := c8.trans (hb9.mono c8.size)
      obtain ⟨p2, p3⟩ := (y8.below hb9).cells
      clear u8 o8 i8 c8 h8 y8 hb9 GO
      go_wp2_with fail
      clear p2 p3 p0 p1
      go_loopw [9, 10] (fun n i wr => ∃ A : Nat, i = .int .i64 (A : Int) ∧ A ≤ K.length ∧ n = .int .i64 (cnt L (A : Int) ((A : Int) + 1) : Int) ∧ Below w9.heap.size w9 wr) (fun _ i _ => K.length - (intOf i).toNat)
      case atStart => exact ⟨0, rfl, Nat.zero_le _, by rw [show cnt L ((0 : Nat) : Int) (((0 : Nat) : Int) + 1) = 0 from unhide HCS]; rfl, Below.refl _ _⟩
      case round =>
        obtain ⟨A, rfl, hA, rfl, hbA⟩ := hrel
        by_cases hltA : A < K.length
        · go_wp2_with fail
          go_loopw [9, 11] (fun n i wr => ∃ b : Nat, i = .int .i64 (b : Int) ∧ b ≤ K.length ∧ A + 1 ≤ b ∧ n = .int .i64 (cnt L (A : Int) (b : Int) : Int) ∧ Below w9.heap.size w9 wr) (fun _ i _ => K.length - (intOf i).toNat)
          case atStart => exact ⟨A + 1, by go_num, hltA, Nat.le_refl _, by rw [Int.natCast_add]; rfl, hbA⟩
          case round =>
            obtain ⟨b, rfl, hb, hAb, rfl, hbb⟩ := hrel
            by_cases hltb : b < K.length
            · have i10 : InOwn wr w4.heap.size (.slice A5 K.length C5) K := (unhide HI9).below hbb
              have u10 := (unhide HU9).below hbb
              have o10 := (unhide HO9).below hbb
              have y10 := (unhide HY9).below hbb
              have h10 := (unhide HH9).below hbb
              have c10 : Below w1.heap.size w1 wr := c9.trans (hbb.mono c9.size)
              obtain ⟨gl, Cl, hfl, _, hgl⟩ := World.ownsRow.form i10 (by omega)
              simp at hfl
              obtain ⟨hA5, rfl⟩ := hfl
              subst hA5
              have hcA := World.ownsRow.cellAt i10 A (by omega)
              have hcB := World.ownsRow.cellAt i10 b (by omega)
              have hA1 : A < K.length := by omega
              rw [show (intsV K)[A]? = some (.int .i64 (K[A]'hA1)) by simp [intsV]] at hcA
              rw [show (intsV K)[b]? = some (.int .i64 (K[b]'hltb)) by simp [intsV]] at hcB
              have pf := unhide PF A b (K[A]'hA1) (K[b]'hltb) (by omega) (List.getElem?_eq_getElem hA1) (List.getElem?_eq_getElem hltb)
              have E1 := hide (fun w' (hb' : Below wr.heap.size wr w') => implEdgeAt_gen wr.heap.size _ s Q (K[A]'hA1) (K[b]'hltb) (by omega) w' hb'.size (o10.at.below hb' (Nat.le_refl _)))
              have E2 := hide (fun w' (hb' : Below wr.heap.size wr w') => implEdgeAt_gen wr.heap.size _ (K.length : Int) L (b : Int) (A : Int) (by omega) w' hb'.size (h10.at.below hb' (Nat.le_refl _)))
              generalize K[A]'hA1 = kA at hcA pf E1
              generalize K[b]'hltb = kB at hcB pf E1
              have hx0 : (0 : Int) ≤ (A : Int) := by omega
              have hx1 : (A : Int) < (K.length : Int) := by omega
              have hx2 : (0 : Int) ≤ (b : Int) := by omega
              have hx3 : (b : Int) < (K.length : Int) := by omega
              obtain ⟨g0, g1⟩ := u10.cells
              have hg2 := u10.lt
              have HY10 := hide y10
              have HU10 := hide u10
              have HO10 := hide o10
              have HH10 := hide h10
              have HC10 := hide c10
              have HBB := hide hbb
              have hcnt := unhide HCL (A : Int) (b : Int)
              clear i10 u10 o10 y10 h10 c10 hbb
              rcases pf with ⟨i, j, p, e, hpi, hej, ex, ey, hsc, eA, eB⟩ | ⟨ex, ey, hno⟩
              · rw [ex] at E1
                rw [ey] at E2
                clear ex ey
                go_wp2_with fail
                go_region_held3 (fun u => u.cell? ⟨w2.heap.size, 0, none⟩ = some (.int .i64 s) ∧ u.cell? ⟨w2.heap.size, 1, none⟩ = some (.slice P Q.length C) ∧ u.cell? ⟨gl, A, none⟩ = some (.int .i64 kA) ∧ u.cell? ⟨gl, b, none⟩ = some (.int .i64 kB))
                  (first | go_keep | exact ⟨(hb11.cell (p := ⟨w2.heap.size, 0, none⟩) hg2).trans g0, (hb11.cell (p := ⟨w2.heap.size, 1, none⟩) hg2).trans g1, (hb11.cell (p := ⟨gl, A, none⟩) hgl).trans hcA, (hb11.cell (p := ⟨gl, b, none⟩) hgl).trans hcB⟩)
                  ((go_at_call 17; refine (unhide E1 wr.drew ((Below.refl _ _).drew)).mono ?_; rintro e w11 ⟨rfl, hb11⟩))
                have hbx : Below wr.heap.size wr w11 := (Below.refl wr.heap.size wr).drew.trans hb11
                obtain ⟨p2, p3⟩ := ((unhide HY10).below hbx).cells
                clear hb11 g0 g1 hcA hcB
                go_wp2_with fail
                refine (unhide E2 w11 hbx).mono ?_
                rintro e12 w12 ⟨rfl, hb12⟩
                have hby : Below wr.heap.size wr w12 := hbx.trans (hb12.mono hbx.size)
                have HBN := hide ((unhide HBB).trans (hby.mono (unhide HBB).size))
                clear p2 p3 hb12 hbx E1 E2
                have hil : i < Q.length := (List.getElem?_eq_some_iff.1 hpi).1
                have hjl : j < L.length := (List.getElem?_eq_some_iff.1 hej).1
                obtain ⟨v12, ev12, or12⟩ := (unhide HO10).below hby
                simp at ev12
                subst ev12
                obtain ⟨v13, ev13, or13⟩ := (unhide HH10).below hby
                simp at ev13
                subst ev13
                obtain ⟨gq, Cq, hfq, _, hgq⟩ := or12.form (by omega)
                simp at hfq
                obtain ⟨hP, rfl⟩ := hfq
                subst hP
                obtain ⟨gh, Ch, hfh, _, hgh⟩ := or13.form (by omega)
                simp at hfh
                obtain ⟨hP7, rfl⟩ := hfh
                subst hP7
                have at1 := edgesV_at Q i hil
                have at2 := edgesV_at L j hjl
                have epi : Q[i] = p := by rw [List.getElem?_eq_getElem hil] at hpi; exact Option.some.inj hpi
                have eej : L[j] = e := by rw [List.getElem?_eq_getElem hjl] at hej; exact Option.some.inj hej
                rw [epi] at at1
                rw [eej] at at2
                obtain ⟨s0, s1, s2, s3, s4⟩ := at1
                obtain ⟨t0, t1, t2, t3, t4⟩ := at2
                have a0 := or12.cellAt (i * 5) (by omega)
                have a1 := or12.cellAt (i * 5 + 1) (by omega)
                have a2 := or12.cellAt (i * 5 + 2) (by omega)
                have a3 := or12.cellAt (i * 5 + 3) (by omega)
                have a4 := or12.cellAt (i * 5 + 4) (by omega)
                rw [s0] at a0
                rw [s1] at a1
                rw [s2] at a2
                rw [s3] at a3
                rw [s4] at a4
                have d0 := or13.cellAt (j * 5) (by omega)
                have d1 := or13.cellAt (j * 5 + 1) (by omega)
                have d2 := or13.cellAt (j * 5 + 2) (by omega)
                have d3 := or13.cellAt (j * 5 + 3) (by omega)
                have d4 := or13.cellAt (j * 5 + 4) (by omega)
                rw [t0] at d0
                rw [t1] at d1
                rw [t2] at d2
                rw [t3] at d3
                rw [t4] at d4
                obtain ⟨_, m1⟩ := ((unhide HU10).below hby).cells
                obtain ⟨_, m3⟩ := ((unhide HY10).below hby).cells
                have hm1 : w2.heap.size < w12.heap.size := ((unhide HU10).below hby).lt
                have hm3 : w7.heap.size < w12.heap.size := ((unhide HY10).below hby).lt
                have IS := hide (fun v (hv : v = p.v ∨ v = e.v) w' => show Calls Try.prog 15 #[v] w' fun en w'' => en = .returned (.int .i64 (scal p)) ∧ Below w'.heap.size w' w'' by
                  rcases hv with rfl | rfl
                  · exact implScalar_gen w'.heap.size _ p w' (Nat.le_refl _) rfl
                  · rw [hsc]; exact implScalar_gen w'.heap.size _ e w' (Nat.le_refl _) rfl)
                have SS := hide (fun w' => specScalar_gen w'.heap.size _ p w' (Nat.le_refl _) rfl)
                have hcc := unhide HCH (A : Int) (b : Int) ⟨e, List.mem_of_getElem? hej, eA, eB⟩
                have HCC := hide hcc
                generalize scal p = r at IS SS
                have hrr : (r != r) = false := by simp
                have hi0' : (0 : Int) ≤ (i : Int) := by omega
                have hi1' : (i : Int) < (Q.length : Int) := by omega
                have hj0' : (0 : Int) ≤ (j : Int) := by omega
                have hj1' : (j : Int) < (L.length : Int) := by omega
                have hcn : ((cnt L (A : Int) (b : Int) : Nat) : Int) ≤ 90 := by omega
                have hcn0 : (0 : Int) ≤ ((cnt L (A : Int) (b : Int) : Nat) : Int) := by omega
                have hni : ¬ (i : Int) < 0 := by omega
                have hnj : ¬ (j : Int) < 0 := by omega
                clear hpi hej hsc eA eB epi eej s0 s1 s2 s3 s4 t0 t1 t2 t3 t4 or12 or13 hcc
                obtain ⟨y0, y1, y2, y3, y4⟩ := p
                obtain ⟨z0, z1, z2, z3, z4⟩ := e
                simp only [EdgeI.v] at a0 a1 a2 a3 a4 d0 d1 d2 d3 d4 IS SS
                go_wp2_with fail
                have hby := hby.drew
                go_region_held3 (fun u => u.cell? ⟨w2.heap.size, 1, none⟩ = some (Value.slice (some ⟨gq, 0, none⟩) Q.length C) ∧ u.cell? ⟨w7.heap.size, 1, none⟩ = some (Value.slice (some ⟨gh, 0, none⟩) L.length C7) ∧ u.cell? ⟨gq, i * 5, none⟩ = some (.int .i64 y0) ∧ u.cell? ⟨gq, i * 5 + 1, none⟩ = some (.int .i64 y1) ∧ u.cell? ⟨gq, i * 5 + 2, none⟩ = some (.int .i64 y2) ∧ u.cell? ⟨gq, i * 5 + 3, none⟩ = some (.int .i64 y3) ∧ u.cell? ⟨gq, i * 5 + 4, none⟩ = some (.int .i64 y4) ∧ u.cell? ⟨gh, j * 5, none⟩ = some (.int .i64 z0) ∧ u.cell? ⟨gh, j * 5 + 1, none⟩ = some (.int .i64 z1) ∧ u.cell? ⟨gh, j * 5 + 2, none⟩ = some (.int .i64 z2) ∧ u.cell? ⟨gh, j * 5 + 3, none⟩ = some (.int .i64 z3) ∧ u.cell? ⟨gh, j * 5 + 4, none⟩ = some (.int .i64 z4))
                  (first | go_keep | exact ⟨m1, m3, a0, a1, a2, a3, a4, d0, d1, d2, d3, d4⟩)
                  (first
                    | (go_at_call 15; refine (unhide IS _ (by first | exact .inl rfl | exact .inr rfl) _).mono ?_; rintro en wk ⟨rfl, hbk⟩; have m1 := (hbk.cell (p := ⟨w2.heap.size, 1, none⟩) hm1).trans m1; have m3 := (hbk.cell (p := ⟨w7.heap.size, 1, none⟩) hm3).trans m3; have a0 := (hbk.cell (p := ⟨gq, i * 5, none⟩) hgq).trans a0; have a1 := (hbk.cell (p := ⟨gq, i * 5 + 1, none⟩) hgq).trans a1; have a2 := (hbk.cell (p := ⟨gq, i * 5 + 2, none⟩) hgq).trans a2; have a3 := (hbk.cell (p := ⟨gq, i * 5 + 3, none⟩) hgq).trans a3; have a4 := (hbk.cell (p := ⟨gq, i * 5 + 4, none⟩) hgq).trans a4; have d0 := (hbk.cell (p := ⟨gh, j * 5, none⟩) hgh).trans d0; have d1 := (hbk.cell (p := ⟨gh, j * 5 + 1, none⟩) hgh).trans d1; have d2 := (hbk.cell (p := ⟨gh, j * 5 + 2, none⟩) hgh).trans d2; have d3 := (hbk.cell (p := ⟨gh, j * 5 + 3, none⟩) hgh).trans d3; have d4 := (hbk.cell (p := ⟨gh, j * 5 + 4, none⟩) hgh).trans d4; have hm1 := Nat.lt_of_lt_of_le hm1 hbk.size; have hm3 := Nat.lt_of_lt_of_le hm3 hbk.size; have hgq := Nat.lt_of_lt_of_le hgq hbk.size; have hgh := Nat.lt_of_lt_of_le hgh hbk.size; have hby := hby.trans (hbk.mono hby.size); clear hbk)
                    | (go_at_call 13; refine (unhide SS _).mono ?_; rintro en wk ⟨rfl, hbk⟩; have m1 := (hbk.cell (p := ⟨w2.heap.size, 1, none⟩) hm1).trans m1; have m3 := (hbk.cell (p := ⟨w7.heap.size, 1, none⟩) hm3).trans m3; have a0 := (hbk.cell (p := ⟨gq, i * 5, none⟩) hgq).trans a0; have a1 := (hbk.cell (p := ⟨gq, i * 5 + 1, none⟩) hgq).trans a1; have a2 := (hbk.cell (p := ⟨gq, i * 5 + 2, none⟩) hgq).trans a2; have a3 := (hbk.cell (p := ⟨gq, i * 5 + 3, none⟩) hgq).trans a3; have a4 := (hbk.cell (p := ⟨gq, i * 5 + 4, none⟩) hgq).trans a4; have d0 := (hbk.cell (p := ⟨gh, j * 5, none⟩) hgh).trans d0; have d1 := (hbk.cell (p := ⟨gh, j * 5 + 1, none⟩) hgh).trans d1; have d2 := (hbk.cell (p := ⟨gh, j * 5 + 2, none⟩) hgh).trans d2; have d3 := (hbk.cell (p := ⟨gh, j * 5 + 3, none⟩) hgh).trans d3; have d4 := (hbk.cell (p := ⟨gh, j * 5 + 4, none⟩) hgh).trans d4; have hm1 := Nat.lt_of_lt_of_le hm1 hbk.size; have hm3 := Nat.lt_of_lt_of_le hm3 hbk.size; have hgq := Nat.lt_of_lt_of_le hgq hbk.size; have hgh := Nat.lt_of_lt_of_le hgh hbk.size; have hby := hby.trans (hbk.mono hby.size); clear hbk))
                have HBZ := hide ((unhide HBB).trans (hby.mono (unhide HBB).size))
                clear m1 m3 a0 a1 a2 a3 a4 d0 d1 d2 d3 d4 hby
                go_wp2
                go_roundw
                case rel => exact ⟨b + 1, by go_num, by omega, by omega, by rw [Int.natCast_add b 1, show cnt L (A : Int) ((b : Int) + ((1 : Nat) : Int)) = cnt L (A : Int) (b : Int) + 1 from unhide HCC]; rfl, unhide HBZ⟩
                case measure => simp [intOf]; omega
              · rw [ex] at E1
                rw [ey] at E2
                clear ex ey
                go_wp2_with fail
                go_region_held3 (fun u => u.cell? ⟨w2.heap.size, 0, none⟩ = some (.int .i64 s) ∧ u.cell? ⟨w2.heap.size, 1, none⟩ = some (.slice P Q.length C) ∧ u.cell? ⟨gl, A, none⟩ = some (.int .i64 kA) ∧ u.cell? ⟨gl, b, none⟩ = some (.int .i64 kB))
                  (first | go_keep | exact ⟨(hb11.cell (p := ⟨w2.heap.size, 0, none⟩) hg2).trans g0, (hb11.cell (p := ⟨w2.heap.size, 1, none⟩) hg2).trans g1, (hb11.cell (p := ⟨gl, A, none⟩) hgl).trans hcA, (hb11.cell (p := ⟨gl, b, none⟩) hgl).trans hcB⟩)
                  ((go_at_call 17; refine (unhide E1 wr.drew ((Below.refl _ _).drew)).mono ?_; rintro e w11 ⟨rfl, hb11⟩))
                have hbx : Below wr.heap.size wr w11 := (Below.refl wr.heap.size wr).drew.trans hb11
                obtain ⟨p2, p3⟩ := ((unhide HY10).below hbx).cells
                clear hb11 g0 g1 hcA hcB
                go_wp2_with fail
                refine (unhide E2 w11 hbx).mono ?_
                rintro e12 w12 ⟨rfl, hb12⟩
                have hby : Below wr.heap.size wr w12 := hbx.trans (hb12.mono hbx.size)
                have HBN := hide ((unhide HBB).trans (hby.mono (unhide HBB).size))
                clear p2 p3 hb12 hbx E1 E2
                have hcm := unhide HCM (A : Int) (b : Int) hno
                have HCC := hide hcm
                clear hcm hno
                go_wp2
                go_roundw
                case rel => exact ⟨b + 1, by go_num, by omega, by omega, by rw [Int.natCast_add]; rw [show cnt L (A : Int) ((b : Int) + ((1 : Nat) : Int)) = cnt L (A : Int) (b : Int) from unhide HCC], unhide HBN⟩
                case measure => simp [intOf]; omega
            · obtain rfl : b = K.length := by omega
              have hcr := unhide HCR (A : Int)
              rw [hcr]
              go_wp2
              go_roundw
              case rel => exact ⟨A + 1, by go_num, by omega, by rw [Int.natCast_add]; rfl, hbb⟩
              case measure => simp [intOf]; omega
        · obtain rfl : A = K.length := by omega
          have hce := unhide HCE
          rw [hce]
          have y10 := (unhide HY9).below hbA
          obtain ⟨q0, q1⟩ := y10.cells
          have heq : (((L.length : Nat) : Int) == ((L.length : Nat) : Int)) = true := by simp
          clear y10
          go_wp2
          go_ret
          exact ⟨rfl, c9.trans (hbA.mono c9.size)⟩
end Gr
end Go.Proofs.Ytmajajhbhdgngaa
