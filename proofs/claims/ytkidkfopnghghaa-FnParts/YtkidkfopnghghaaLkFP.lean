/-
  The walk of laws.FnParts.
-/
import Derived.Test.YtkidkfopnghghaaLkV
import Derived.Test.YtkidkfopnghghaaLkZ
import Derived.Test.YtkidkfopnghghaaLkI
import Derived.Test.YtkidkfopnghghaaLkLaw
import Derived.Test.YtkidkfopnghghaaLkJ
import Derived.Test.YtkidkfopnghghaaGrPlaces
import Derived.BigQuiet
import Derived.Deep.RegionHeld3
namespace Go.Proofs.Ytkidkfopnghghaa
namespace Lk
open Go.RowKit
open Gr (Kept EdgeI GrAt GrOwn GBox below_new InOwn InAt own_below own_lower intsV intsAt_of_own info3 graphOk edgesAt big_is drawGraph_any places_is made_ints)

theorem parts_big (a : Option Addr) (len cap : Nat) (hl : ¬ len ≤ 1048576) (w : World) :
    Calls Try.prog 4 #[.slice a len cap] w fun e w' => e = .returned (.bool true) ∧ Below w.heap.size w w' := by
  have H := hide (big_is a len cap w)
  have e : decide ((1048576 : Int) < (len : Int)) = true := by simp; omega
  rw [e] at H
  clear e
  go_enter Try.func4, Try.ntmps4
  go_wp2_with fail
  refine (unhide H).mono ?_
  rintro e w1 ⟨rfl, rfl⟩
  go_wp2
  go_ret
  exact ⟨rfl, Below.refl _ _⟩

set_option maxRecDepth 100000 in
set_option maxHeartbeats 8000000 in
theorem parts_walk (a : Option Addr) (len cap : Nat) (hl : len ≤ 1048576) (w : World) (hd : Code a len w.heap.size w) :
    Calls Try.prog 4 #[.slice a len cap] w fun e w' => e = .returned (.bool true) ∧ Below w.heap.size w w' := by
  have H := hide (big_is a len cap w)
  have e : decide ((1048576 : Int) < (len : Int)) = false := by simp; omega
  rw [e] at H
  have HD := hide hd
  have DR := hide (drawGraph_any a len cap hl w hd)
  obtain ⟨i0, hi, hz0, hz1, hz2⟩ := info_parts info3
  clear e hd
  go_enter Try.func4, Try.ntmps4
  go_wp2_with fail
  refine (unhide H).mono ?_
  rintro e w1 ⟨rfl, hw1⟩
  subst hw1
  go_wp2_with fail
  refine (unhide DR).mono ?_
  rintro e w2 ⟨⟨d, rfl, s, Q, ho2, hok, hQ9⟩, hb2⟩
  obtain ⟨v1, rfl, hr2⟩ := ho2
  obtain ⟨P0, C, rfl, _⟩ := edgesAt.of_own hr2
  obtain ⟨hs0, hs9⟩ := ok_size hok
  obtain ⟨n, rfl⟩ := Int.eq_ofNat_of_zero_le hs0
  have hn9 : n ≤ 9 := by omega
  have HOK := hide hok
  clear DR hok H
  obtain ⟨V3, hV3⟩ : ∃ W, W = w2.alloc (Obj.cells #[Value.int .i64 (n : Int), Value.slice P0 Q.length C] 26) := ⟨_, rfl⟩
  have b3 : Below w2.heap.size w2 V3 := by rw [hV3]; exact below_new _ _
  have u3 : GBox V3 w2.heap.size (n : Int) (.slice P0 Q.length C) := by rw [hV3]; exact GBox.new _ _ _
  have o3 : GrOwn V3 w1.heap.size (.agg #[.int .i64 (n : Int), .slice P0 Q.length C]) (n : Int) Q := ⟨_, rfl, own_below hr2 b3⟩
  have c3 : Below w1.heap.size w1 V3 := hb2.trans (b3.mono hb2.size)
  have hd3 : Code a len V3.heap.size V3 := fun j hj => by
    obtain ⟨b, off, z, e, hb, hc, hz⟩ := unhide HD j hj
    exact ⟨b, off, z, e, by have := c3.size; omega, by rw [c3.cell (p := ⟨b, off + j, none⟩) (by simpa using hb)]; exact hc, hz⟩
  go_wp2_with fail
  rw [← hV3]
  have PL := hide (places_is a len cap hl V3 hd3)
  have z3 := u3.lt
  clear hV3 b3 hr2 hb2 hd3 HD
  refine (unhide PL).mono ?_
  rintro e w4 ⟨⟨v4, rfl, KP, hKP, op4⟩, hb4⟩
  obtain ⟨gp, C4, rfl, _, _⟩ := op4.form (by omega)
  have u4 := u3.below hb4
  have o4 := o3.below hb4
  have c4 : Below w1.heap.size w1 w4 := c3.trans (hb4.mono c3.size)
  have z4 := hb4.size
  clear u3 o3 c3 hb4 PL
  have HU4 := hide u4
  have HO4 := hide o4
  have HP4 := hide op4
  have HKP := hide hKP
  obtain ⟨q, hq⟩ : ∃ q : Nat → Bool, q = fun u => ((KP.getD u 0).tmod 4 == 0) := ⟨_, rfl⟩
  have HQV := hide hq
  have HS1 := hide (fun k h => setTo_in (f := q) (k := k) h)
  have HS0 := hide (fun k h => setTo_out (f := q) (k := k) h)
  have HSL := hide (setTo_length q)
  have z4w : w2.heap.size < w4.heap.size := u4.lt
  clear u4 o4 op4 hKP hq
  go_wp2_with fail
  go_loopw [5, 6] (fun out i wr => ∃ v : Nat, i = .int .i64 (v : Int) ∧ v ≤ n ∧ Hid (InOwn wr w4.heap.size out (setTo q v)) ∧ Below w4.heap.size w4 wr) (fun _ i _ => n - (intOf i).toNat)
  case atStart => exact ⟨0, rfl, Nat.zero_le _, World.ownsRow_made w4 #[] 0 (Nat.le_refl _) (Nat.zero_le _) rfl, below_new w4 _⟩
  case round =>
    obtain ⟨v, rfl, hv, HO, hb5⟩ := hrel
    obtain ⟨p0, p1⟩ := ((unhide HU4).below hb5).cells
    obtain ⟨A, cp, rfl, _⟩ := intsAt_of_own (unhide HO)
    have hzb := hb5.size
    by_cases hlt : v < n
    · have hpr := own_below (unhide HP4) hb5
      have hkp := unhide HKP
      have hce := hpr.cellAt v (by omega)
      have hvk : v < KP.length := by omega
      have hce2 : (intsV KP)[v]? = some (.int .i64 (KP[v]'hvk)) := by simp [intsV]
      rw [hce2] at hce
      have hqv : q v = ((KP[v]'hvk).tmod 4 == 0) := by rw [unhide HQV]; simp [hvk]
      generalize KP[v]'hvk = kp at hce hqv
      have hrem : ((v : Int)).tmod 12 = (v : Int) := by rw [Int.tmod_eq_emod_of_nonneg (by omega)]; omega
      have hx0 : (0 : Int) ≤ (v : Int) := by omega
      have hx1 : (v : Int) < 12 := by omega
      have hx2 : (v : Int) < (n : Int) := by omega
      have HQE := hide hqv
      clear hce2 hpr hkp hvk hqv
      cases ht : (kp.tmod 4 == 0)
      · have HF := hide (unhide HS0 v (by rw [unhide HQE]; exact ht))
        go_wp2_with fail
        exact ⟨⟨v + 1, by go_num, by omega, (by show InOwn _ _ _ _; rw [unhide HF]; exact unhide HO), hb5⟩, by simp [intOf]; omega⟩
      · have HF := hide (unhide HS1 v (by rw [unhide HQE]; exact ht))
        have hown := unhide HO
        unfold InOwn at hown
        have hfl := unhide HSL v
        go_wp2_with (at_builtin; refine wpList_append_own _ rfl _ _ 28 rfl w4.heap.size 3 i0 (.int .i64 0) 1 8 Try.underlying28 hi hz0 hz1 hz2 rfl (by decide) _ _ _ rfl (hown.alloc _) ⟨wr.heap.size, 0, none⟩ 1 1 [.int .i64 (v : Int)] rfl rfl (cell_one_new _ _ _) (one_intL _) ?_ ?_ ?_ ?_)
        · unfold maxLen; omega
        · omega
        · simp; omega
        intro v' w7 hown' hgrow _
        have hb7 := below_append hb5 (Nat.le_refl _) hown hgrow
        rw [← intsV_snocL, ← unhide HF] at hown'
        have hfe : (setTo q v).length + 1 = (setTo q (v + 1)).length := by rw [unhide HF]; simp
        rw [hfe] at hown'
        have HO7 : Hid (InOwn w7 w4.heap.size v' (setTo q (v + 1))) := hown'
        clear hown' hgrow hown hfe hfl HO
        go_wp2_with fail
        exact ⟨⟨v + 1, by go_num, by omega, HO7, hb7⟩, by simp [intOf]; omega⟩
    · obtain rfl : n = v := by omega
      have hgr := ((unhide HO4).below hb5).at
      have PC := hide (implPieces_gen wr.heap.size _ (n : Int) Q _ (setTo q n) (by omega) (by have := setTo_length q n; omega) wr (Nat.le_refl _) hgr (unhide HO).at)
      have HPT := hide (pts_of (unhide HOK) (setTo q n))
      have HPI : Hid (piecesR (n : Int) Q (setTo q n) = (partsR (n : Int) Q (setTo q n)).map fun p => setTo p 9) := by show _ = _; unfold piecesR; rw [if_pos (unhide HOK)]
      have hKl := setTo_length q n
      obtain ⟨wa, hwa⟩ : ∃ W, W = wr := ⟨_, rfl⟩
      subst hwa
      clear hlt hgr
      go_wp2_with fail
      refine (unhide PC).mono ?_
      rintro e w5 ⟨⟨d5, rfl, ho5⟩, hb55⟩
      obtain ⟨vs, ⟨⟨Cr, hGr, hCr⟩, _⟩⟩ := ho5
      have b45 : Below w4.heap.size w4 w5 := hb5.trans (hb55.mono hb5.size)
      have HO5 := hide ((unhide HO).below hb55)
      obtain ⟨Ar, cr, hAr⟩ := row_shape hGr.2.1
      subst hAr
      have HGR := hide hGr
      obtain ⟨Ps, hPs⟩ : ∃ Ps, Ps = partsR (n : Int) Q (setTo q n) := ⟨_, rfl⟩
      obtain ⟨G, hG⟩ : ∃ G, G = piecesR (n : Int) Q (setTo q n) := ⟨_, rfl⟩
      rw [← hG] at HGR HPI ⊢
      rw [← hPs] at HPI HPT
      rw [Int.toNat_natCast] at HPT
      obtain ⟨m5, hm5⟩ : ∃ m5, m5 = G.length := ⟨_, rfl⟩
      have hmp : Ps.length = m5 := by rw [hm5, unhide HPI, List.length_map]
      rw [hmp] at HPT
      have hm9 : m5 ≤ 9 := (unhide HPT).few
      have HMG := hide hm5
      have HMP := hide hmp
      have HGE := hide hG
      rw [← hm5]
      have HROW : Hid (∀ i (h : i < G.length), G[i] = setTo (nth Ps i) 9) := fun i h => by
        have h2 : i < Ps.length := by rw [unhide HMP, unhide HMG]; exact h
        have e : G[i] = (Ps.map fun p => setTo p 9)[i]'(by simpa using h2) := by simp only [unhide HPI]
        rw [e, List.getElem_map, nth_at Ps i h2]
      clear hGr hPs hG hm5 hmp hb55 PC hCr
      obtain ⟨p0, p1⟩ := ((unhide HU4).below b45).cells
      obtain ⟨M, hM⟩ : ∃ M, M = madeCells (Value.int .i64 0).cells (n * i0.size) := ⟨_, rfl⟩
      have hMM := made_ints n M (by rw [hM, hz1])
      have hmk : ∀ W : World, (Instr.makeSlice 28 (.int .i64 (n : Int)) (.int .i64 (n : Int))).run Try.prog W = .ok (.slice (some ⟨W.heap.size, 0, none⟩) n n) (W.alloc (.cells M 3)) := fun W => by
        have h := run_make (P := Try.prog) W 28 3 i0 (.int .i64 0) Try.underlying28 hi hz0 .i64 .i64 (n : Int) (n : Int) (by omega) (by omega) (by rw [hz2]; omega) (by omega)
        rw [Int.toNat_natCast, ← hM] at h
        simpa using h
      have HM6 : Hid (World.ownsRow (w5.alloc (.cells M 3)) w5.heap.size 3 1 (.slice (some ⟨w5.heap.size, 0, none⟩) n n) n (intsV (rowM n (fun _ => 0)))) := by
        have e0 : rowM n (fun _ => (0 : Int)) = List.replicate n 0 := by unfold rowM; exact List.ext_getElem (by simp) (fun i h1 h2 => by simp)
        show World.ownsRow _ _ _ _ _ _ _
        rw [e0]
        exact ⟨by simp [intsV], .inr ⟨w5.heap.size, n, M, rfl, Nat.le_refl _, heap_alloc_new w5 _, Nat.le_refl _, by unfold maxLen; omega, hMM.2, by rw [hMM.1, Nat.mul_one, List.take_of_length_le (by simp [intsV])]⟩⟩
      have z45 : w4.heap.size ≤ w5.heap.size := b45.size
      clear hM hMM
      go_wp2_with fail
      go_loopw [9, 10] (fun ct i wr => ∃ (i' c : Nat) (m : Nat → Int), i = .int .i64 (i' : Int) ∧ i' ≤ m5 ∧ ct = .int .i64 (c : Int) ∧ c ≤ n ∧ Hid (PM n m5 (nth Ps) i' 0 m c) ∧ Hid (World.ownsRow wr w5.heap.size 3 1 (.slice (some ⟨w5.heap.size, 0, none⟩) n n) n (intsV (rowM n m))) ∧ Below w5.heap.size w5 wr) (fun _ i _ => m5 - (intOf i).toNat)
      case atStart => exact ⟨0, 0, _, rfl, Nat.zero_le _, rfl, Nat.zero_le _, pm0 n m5 (nth Ps), HM6, below_new w5 _⟩
      case round =>
        clear HM6 p0 p1 hmk
        obtain ⟨i, c, m, rfl, hi5, rfl, hcn, HPM, HMR, hb6⟩ := hrel
        have hz6 := hb6.size
        by_cases hlt : i < m5
        · have hiG : i < G.length := by have := unhide HMG; omega
          have hki0 : (0 : Int) ≤ (i : Int) := by omega
          have hki1 : (i : Int) < (m5 : Int) := by omega
          obtain ⟨wo, hwo⟩ : ∃ W, W = wr := ⟨_, rfl⟩
          subst hwo
          -- the row of this part
          have hgr := unhide HGR
          have hiv : i < vs.length := by rw [hgr.1]; exact hiG
          have hown5 := hgr.2.1
          rw [← unhide HMG] at hown5
          obtain ⟨gl, cl, hAl, _, hgl⟩ := hown5.form (by omega)
          simp at hAl
          obtain ⟨rfl, rfl⟩ := hAl
          obtain ⟨a1, c1, e1, hI1⟩ := intsAt_of_own (hgr.2.2 i hiv hiG).1
          have hc1 := hown5.cellAt i (by omega)
          rw [List.getElem?_eq_getElem hiv, e1] at hc1
          have hGi := unhide HROW i hiG
          obtain ⟨R, hR⟩ : ∃ R, R = setTo (nth Ps i) 9 := ⟨_, rfl⟩
          rw [hGi, ← hR] at hc1 hI1
          have HRE := hide hR
          have hR9 : R.length ≤ 9 := by rw [hR]; exact setTo_length _ _
          obtain ⟨lr, hlr⟩ : ∃ lr, lr = R.length := ⟨_, rfl⟩
          have HLR := hide hlr
          rw [← hlr] at hc1 hI1 hR9
          have HI1 := hide hI1
          have HC1 := hide hc1
          clear hgr hown5 e1 hGi hR hlr hI1 hc1
          go_wp2_with fail
          go_loopw [9, 11] (fun ct ix wr => ∃ (k c : Nat) (m : Nat → Int), ix = .int .i64 (k : Int) ∧ k ≤ lr ∧ ct = .int .i64 (c : Int) ∧ c ≤ n ∧ Hid (PM n m5 (nth Ps) i k m c) ∧ Hid (World.ownsRow wr w5.heap.size 3 1 (.slice (some ⟨w5.heap.size, 0, none⟩) n n) n (intsV (rowM n m))) ∧ Below w5.heap.size w5 wr) (fun _ i _ => lr - (intOf i).toNat)
          case atStart => exact ⟨0, c, m, rfl, Nat.zero_le _, rfl, hcn, HPM, HMR, hb6⟩
          case round =>
            clear HPM HMR hb6 hcn hz6
            obtain ⟨k, c, m, rfl, hk, rfl, hcn, HPM, HMR, hb6⟩ := hrel
            have hz6 := hb6.size
            have hc1 : wr.cell? ⟨gl, i, none⟩ = some (.slice a1 lr c1) := (hb6.cell (p := ⟨gl, i, none⟩) hgl).trans (unhide HC1)
            by_cases hkl : k < lr
            · have hkR : k < R.length := by have := unhide HLR; omega
              obtain ⟨b, off, rfl, hbB, hel⟩ := (unhide HI1).2 k hkR
              rw [← hb6.cell (p := ⟨b, off + k, none⟩) (by simp; omega)] at hel
              have hx := setTo_range (nth Ps i) 9 R[k] (by rw [← unhide HRE]; exact List.getElem_mem hkR)
              obtain ⟨v, hv⟩ := Int.eq_ofNat_of_zero_le hx.1
              rw [hv] at hel
              have hst := pm_step (unhide HPT) (unhide HPM) hlt v (by rw [← unhide HRE, List.getElem?_eq_getElem hkR, hv])
              obtain ⟨hvn, hfv, hmv, hPM2⟩ := hst
              have HPM2 := hide hPM2
              have hin : inK (setTo q n) (v : Int) = false := by
                have := hfv
                rw [left_is hvn] at this
                simpa using this
              have WI := hide (within_any A (setTo q n).length cp wr.heap.size (setTo q n) (v : Int) (by omega) wr (by
                obtain ⟨a8, c8, e8, hI8⟩ := intsAt_of_own (own_below (unhide HO5) hb6)
                simp at e8
                obtain ⟨rfl, rfl⟩ := e8
                exact hI8))
              rw [hin] at WI
              have hown := unhide HMR
              have hcv := hown.cellAt v (by omega)
              have hce2 : (intsV (rowM n m))[v]? = some (.int .i64 (m v)) := by unfold intsV; rw [List.getElem?_map, rowM_at n m v hvn]; rfl
              rw [hce2, hmv] at hcv
              have hfz := hown.frozenAt v
              have hsd := (hown.stored v (.int .i64 ((i : Int) + 1))).1
              rw [Gr.intsV_set, rowM_set] at hsd
              have HSD := hide hsd
              have HB6' : Hid (Below w5.heap.size w5 (wr.setCell ⟨w5.heap.size, v, none⟩ (.int .i64 ((i : Int) + 1)))) := hb6.setCell (p := ⟨w5.heap.size, v, none⟩) (Nat.le_refl _) _
              have hc9 : c + 1 ≤ n := by
                have h1 := hPM2.cnt
                have h2 := List.countP_le_length (p := fun u => decide (setM m v ((i : Int) + 1) u ≠ 0)) (l := List.range n)
                rw [List.length_range] at h2
                omega
              obtain ⟨p0, p1⟩ := ((unhide HU4).below (b45.trans (hb6.mono z45))).cells
              have hy0 : ¬ (v : Int) < 0 := by omega
              have hy1 : ¬ (n : Int) ≤ (v : Int) := by omega
              have hy2 : (0 : Int) ≤ (v : Int) := by omega
              have hy3 : (v : Int) < (n : Int) := by omega
              have hkk0 : (0 : Int) ≤ (k : Int) := by omega
              have hkk1 : (k : Int) < (lr : Int) := by omega
              clear hown hce2 hsd hv hx hPM2 hfv hmv hin HMR
              go_wp2_with fail
              refine (unhide WI).mono ?_
              rintro e w8 ⟨rfl, hw8⟩
              have hw9 := hw8.symm
              subst hw9
              clear hw8
              go_wp2_with fail
              exact ⟨⟨k + 1, c + 1, _, by go_num, by omega, by go_num, by omega, HPM2, HSD, unhide HB6'⟩, by simp [intOf]; omega⟩
            · obtain rfl : lr = k := by omega
              have HPM3 : Hid (PM n m5 (nth Ps) (i + 1) 0 m c) := by
                have h9 := unhide HPM
                rw [unhide HLR, unhide HRE] at h9
                exact pm_row hn9 h9
              go_wp2_with fail
              exact ⟨⟨i + 1, c, m, by go_num, by omega, rfl, hcn, HPM3, HMR, hb6⟩, by simp [intOf]; omega⟩
        · obtain rfl : m5 = i := by omega
          have HE4 : Hid (edgesAt w4 P0 Q.length w4.heap.size Q) := by
            obtain ⟨a8, n8, c8, e8, hE8⟩ := (unhide HO4).at
            simp at e8
            obtain ⟨rfl, rfl, rfl⟩ := e8
            exact hE8
          have HRG : Hid (∀ e ∈ Q, 0 ≤ e.A ∧ e.A < (n : Int) ∧ 0 ≤ e.B ∧ e.B < (n : Int)) := fun e he => by
            have h9 := (Gr.edgeOk_iff _ e).1 ((Gr.graph_sound (unhide HOK)).2.2.1 e he)
            omega
          have HCT := hide (pm_count (unhide HPT) (unhide HPM))
          have hq90 : Q.length ≤ 90 := hQ9
          obtain ⟨wb, hwb⟩ : ∃ W, W = wr := ⟨_, rfl⟩
          subst hwb
          have b4b : Below w4.heap.size w4 wb := b45.trans (hb6.mono z45)
          have z4b := b4b.size
          obtain ⟨ql, hql⟩ : ∃ ql, ql = Q.length := ⟨_, rfl⟩
          have HQL := hide hql
          have HU4' : Hid (GBox w4 w2.heap.size (n : Int) (.slice P0 ql C)) := by show GBox _ _ _ _; rw [hql]; exact unhide HU4
          rw [← hql] at hq90
          clear hlt hql
          obtain ⟨p0, p1⟩ := ((unhide HU4').below b4b).cells
          go_wp2_with fail
          go_loopw [13] (fun ix wr => ∃ k : Nat, ix = .int .i64 (k : Int) ∧ k ≤ ql ∧ wr = wb) (fun ix _ => ql - (intOf ix).toNat)
          case atStart => exact ⟨0, rfl, Nat.zero_le _, rfl⟩
          case round =>
            obtain ⟨k, rfl, hk, rfl⟩ := hrel
            by_cases hkl : k < ql
            · have hkQ : k < Q.length := by have := unhide HQL; omega
              obtain ⟨b, off, rfl, hbB, e0, e1, _, _, _⟩ := (unhide HE4).2 k hkQ
              rw [← b4b.cell (p := ⟨b, off + k * 5, none⟩) (by simp; omega)] at e0
              rw [← b4b.cell (p := ⟨b, off + k * 5 + 1, none⟩) (by simp; omega)] at e1
              have hr := unhide HRG _ (List.getElem_mem hkQ)
              obtain ⟨x, hx⟩ := Int.eq_ofNat_of_zero_le hr.1
              obtain ⟨y, hy⟩ := Int.eq_ofNat_of_zero_le hr.2.2.1
              have hlink := edge_link (unhide HOK) _ (List.getElem_mem hkQ) x y hx hy
              rw [hx] at e0
              rw [hy] at e1
              have hxn : x < n := by omega
              have hyn : y < n := by omega
              have HEQ : Hid (0 < m x → 0 < m y → m x = m y) := fun h1 h2 => pm_edge (unhide HPT) (unhide HPM) hxn hyn hlink h1 h2
              have hown := unhide HMR
              have hcx := hown.cellAt x (by omega)
              have hcy := hown.cellAt y (by omega)
              have hx2 : (intsV (rowM n m))[x]? = some (.int .i64 (m x)) := by unfold intsV; rw [List.getElem?_map, rowM_at n m x hxn]; rfl
              have hy2 : (intsV (rowM n m))[y]? = some (.int .i64 (m y)) := by unfold intsV; rw [List.getElem?_map, rowM_at n m y hyn]; rfl
              rw [hx2] at hcx
              rw [hy2] at hcy
              have hkk0 : (0 : Int) ≤ (k : Int) := by omega
              have hkk1 : (k : Int) < (ql : Int) := by omega
              have hxx0 : (0 : Int) ≤ (x : Int) := by omega
              have hxx1 : (x : Int) < (n : Int) := by omega
              have hyy0 : (0 : Int) ≤ (y : Int) := by omega
              have hyy1 : (y : Int) < (n : Int) := by omega
              clear hr hx hy hlink hown hx2 hy2
              generalize m x = mx at hcx HEQ
              generalize m y = my at hcy HEQ
              by_cases h1 : 0 < mx
              · by_cases h2 : 0 < my
                · have he := unhide HEQ h1 h2
                  subst he
                  go_wp2_with fail
                  exact ⟨⟨k + 1, by go_num, by omega, by first | rfl | trivial⟩, by simp [intOf]; omega⟩
                · go_wp2_with fail
                  exact ⟨⟨k + 1, by go_num, by omega, by first | rfl | trivial⟩, by simp [intOf]; omega⟩
              · go_wp2_with fail
                exact ⟨⟨k + 1, by go_num, by omega, by first | rfl | trivial⟩, by simp [intOf]; omega⟩
            · obtain rfl : ql = k := by omega
              have NB : Hid (∀ (v : Nat) W, Below w4.heap.size w4 W → Calls Try.prog 16 #[.agg #[.int .i64 (n : Int), .slice P0 ql C], .int .i64 (v : Int)] W fun e w' => (∃ d, e = .returned d ∧ InOwn w' W.heap.size d (nbrs (n : Int) Q (v : Int))) ∧ Below W.heap.size W w') := fun v W hW => by
                have h9 := implNbrs_gen W.heap.size _ (n : Int) Q (v : Int) (by have := unhide HQL; omega) W (Nat.le_refl _) ((unhide HO4).below hW).at
                rw [← unhide HQL] at h9
                exact h9
              have SP : Hid (∀ W, Below w5.heap.size w5 W → Calls Try.prog 17 #[.agg #[.int .i64 (n : Int), .slice P0 ql C], .slice A (setTo q n).length cp] W fun e w' => (∃ d, e = .returned d ∧ SsOwn w' W.heap.size d G) ∧ Below W.heap.size W w') := fun W hW => by
                have h9 := specPieces_gen W.heap.size _ (n : Int) Q _ (setTo q n) (by have := unhide HQL; omega) (by omega) W (Nat.le_refl _) ((unhide HO4).below (b45.trans (hW.mono z45))).at (InOwn.below (unhide HO5) hW).at
                rw [← unhide HQL, ← unhide HGE] at h9
                exact h9
              have HNF := hide (fun (v : Nat) (hv : v < n) => nbrs_few (Q := Q) v hv)
              obtain ⟨kl, hkl2⟩ : ∃ kl, kl = (setTo q n).length := ⟨_, rfl⟩
              rw [← hkl2] at HCT SP hKl ⊢
              have t0 : ((c : Int) == (n : Int) - (kl : Int)) = true := by have := unhide HCT; simp; omega
              have c4b : Below w1.heap.size w1 w4 := c4
              have HT0 := hide t0
              have HB56 := hide hb6
              clear hkl t0 hkl2 HMR hk
              go_wp2_with fail
              clear p0 p1
              go_loopw [16] (fun ix wr => ∃ v : Nat, ix = .int .i64 (v : Int) ∧ v ≤ n ∧ Below w5.heap.size w5 wr) (fun ix _ => n - (intOf ix).toNat)
              case atStart => exact ⟨0, rfl, Nat.zero_le _, unhide HB56⟩
              case round =>
                obtain ⟨v, rfl, hv, hb7⟩ := hrel
                have b47 : Below w4.heap.size w4 wr := b45.trans (hb7.mono z45)
                have u7 := (unhide HU4').below b47
                obtain ⟨p0, p1⟩ := u7.cells
                have hXl := u7.lt
                have hzb := hb7.size
                by_cases hlt : v < n
                · have NBV := hide (unhide NB v)
                  have hnf := unhide HNF v hlt
                  have hbd : Below w4.heap.size w4 wr.drew := b47.drew
                  have hvv0 : (0 : Int) ≤ (v : Int) := by omega
                  have hvv1 : (v : Int) < (n : Int) := by omega
                  generalize nbrs (n : Int) Q (v : Int) = NV at NBV hnf
                  obtain ⟨nl, hnl⟩ : ∃ nl, nl = NV.length := ⟨_, rfl⟩
                  have HNV : Hid (∀ (w' : World) d B, InOwn w' B d NV → ∃ a c, d = .slice a nl c) := fun w' d B h => by
                    obtain ⟨a, c, rfl, _⟩ := intsAt_of_own h
                    exact ⟨a, c, by rw [hnl]⟩
                  rw [← hnl] at hnf
                  have hnf2 : ¬ (n : Int) - 1 < (nl : Int) := by omega
                  have hwn : IntKind.i64.wrap ((n : Int) - 1) = (n : Int) - 1 := IntWalk.i64_in _ ⟨by omega, by omega⟩
                  clear hnl u7
                  go_wp2_with fail
                  go_region_held3 (fun u => u.cell? ⟨w2.heap.size, 0, none⟩ = some (.int .i64 (n : Int)) ∧ u.cell? ⟨w2.heap.size, 1, none⟩ = some (.slice P0 ql C))
                    (first | go_keep | exact ⟨(hb3.cell (p := ⟨w2.heap.size, 0, none⟩) hXl).trans p0, (hb3.cell (p := ⟨w2.heap.size, 1, none⟩) hXl).trans p1⟩)
                    ((go_at_call 16; refine (unhide NBV _ hbd).mono ?_; rintro e w3 ⟨⟨d, rfl, ho⟩, hb3⟩; obtain ⟨a3, c3, rfl⟩ := unhide HNV _ _ _ ho))
                  have hb8 : Below w5.heap.size w5 w3 := hb7.trans (((Below.refl wr.heap.size wr).drew.trans hb3).mono hb7.size)
                  clear hb3 ho
                  go_wp2_with fail
                  all_goals first
                    | exact ⟨⟨v + 1, by go_num, by omega, hb8⟩, by simp [intOf]; omega⟩
                    | (exfalso; omega)
                · obtain rfl : n = v := by omega
                  have SPW := hide (unhide SP wr hb7)
                  have t0 := unhide HT0
                  have hee : ((m5 : Int) == (m5 : Int)) = true := by simp
                  clear u7
                  go_wp2_with fail
                  refine (unhide SPW).mono ?_
                  rintro e w8 ⟨⟨d8, rfl, ho8⟩, hb8⟩
                  obtain ⟨A8, c8, h8⟩ := ho8.shape
                  rw [← unhide HMG] at h8
                  subst h8
                  have hfin : Below w1.heap.size w1 w8 := c4.trans ((b47.trans (hb8.mono b47.size)).mono c4.size)
                  clear ho8 hb8
                  go_wp2_with fail
                  go_ret
                  exact ⟨rfl, hfin⟩

end Lk
end Go.Proofs.Ytkidkfopnghghaa
