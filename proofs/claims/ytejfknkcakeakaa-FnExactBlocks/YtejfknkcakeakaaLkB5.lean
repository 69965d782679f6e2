/-
  The contract of spec.Blocks: it goes up through the numbers of the sets.
-/
import Derived.Test.YtejfknkcakeakaaLkB3
import Derived.Test.YtejfknkcakeakaaLkY
namespace Go.Proofs.Ytejfknkcakeakaa
namespace Lk
open Go.RowKit
open Gr (Blk Kept EdgeI GrAt GBox below_new InOwn InAt own_below own_lower intsV intsAt_of_own info3 graphOk specGraph_any)

theorem left_setTo (f : Nat → Bool) (n : Nat) : leftF n (setTo f n) = fun v => decide (v < n) && !f v := by
  funext v
  unfold leftF
  rw [inK_setTo]
  by_cases h : v < n
  · simp [h]
  · simp [h]

theorem spec_val {n : Nat} {Q : List EdgeI} (hg : graphOk (n : Int) Q = true) (f : Nat → Bool) : ((setTo f n).length : Int) - (oddL (rowsS Q n (setTo f n)) : Int) = valB (lnkF Q) n f := by
  have e := rows_same hg (setTo f n)
  rw [Int.toNat_natCast] at e
  rw [e, odd_same]
  unfold valB partsR
  rw [Int.toNat_natCast, left_setTo]

theorem setTo_bit0 (n : Nat) : setTo (bitF 0) n = [] := by
  unfold setTo
  have : (List.range n).filter (bitF 0) = [] := List.filter_eq_nil_iff.2 (fun v _ => by unfold bitF; simp)
  rw [this]
  rfl

theorem blkX_take {F : Nat → Nat → Bool} {n y : Nat} (h : bet F n (bitF (y + 1)) (bitF (blkX F n y)) = true) : blkX F n (y + 1) = y + 1 := by
  show (if _ then _ else _) = _
  rw [if_pos h]

theorem blkX_keep {F : Nat → Nat → Bool} {n y : Nat} (h : bet F n (bitF (y + 1)) (bitF (blkX F n y)) = false) : blkX F n (y + 1) = blkX F n y := by
  show (if _ then _ else _) = _
  rw [if_neg (by rw [h]; simp)]

theorem bit_div (x k : Nat) : x / 2 ^ k / 2 = x / 2 ^ (k + 1) := by rw [Nat.div_div_eq_div_mul, Nat.pow_succ]

theorem oddR_le (Q : List EdgeI) (n : Nat) (K : List Int) : oddL (rowsS Q n K) ≤ n := Nat.le_trans (oddL_le _) (rowsS_length Q n K)

set_option maxRecDepth 100000 in
set_option maxHeartbeats 8000000 in
theorem specBlocks_gen (B : Nat) (v : Value) (s : Int) (Q : List EdgeI) (h1 : Q.length ≤ 1048576) (w : World) (hB : B ≤ w.heap.size) (hv : GrAt w v B s Q) :
    Calls Try.prog 29 #[v] w fun e w' => (∃ d, e = .returned d ∧ InOwn w' w.heap.size d (blocksR s Q)) ∧ Below w.heap.size w w' := by
  obtain ⟨i0, hi, hz0, hz1, hz2⟩ := info_parts info3
  have OK := hide (fun w1 (hb : Below w.heap.size w w1) => specGraph_any v B s Q h1 w1 (by have := hb.size; omega) (hv.below hb hB))
  have HV := hide hv
  obtain ⟨a, n', c, rfl, _⟩ := hv
  have HR0 : Hid (graphOk s Q = false → blocksR s Q = []) := fun h => by unfold blocksR; rw [h]; rfl
  have HR1 : Hid (graphOk s Q = true → ∃ n : Nat, s = (n : Int) ∧ n ≤ 9 ∧ blocksR s Q = setTo (bitF (blkX (lnkF Q) n (2 ^ n - 1))) n ∧ (∀ f, ((setTo f n).length : Int) - (oddL (rowsS Q n (setTo f n)) : Int) = valB (lnkF Q) n f) ∧
      ∀ K d wq, K.length ≤ 9 → Below w.heap.size w wq → InAt wq d wq.heap.size K → Calls Try.prog 54 #[.agg #[.int .i64 s, .slice a n' c], d] wq fun e w' => e = .returned (.int .i64 (oddL (rowsS Q n K) : Int)) ∧ Below wq.heap.size wq w') := fun hg => by
    obtain ⟨s0, s9⟩ := ok_size hg
    obtain ⟨n, rfl⟩ := Int.eq_ofNat_of_zero_le s0
    refine ⟨n, rfl, by omega, by unfold blocksR; rw [if_pos hg, Int.toNat_natCast], spec_val hg, fun K d wq hK hb hd => ?_⟩
    exact oddS_any _ wq.heap.size n Q d K h1 (by omega) (by omega) wq (Nat.le_refl _) (((unhide HV).below hb hB).mono (by have := hb.size; omega)) hd
  have HOL := hide (fun n K => oddR_le Q n K)
  generalize blocksR s Q = V at HR0 HR1 ⊢
  generalize lnkF Q = F at HR1
  generalize graphOk s Q = gk at OK HR0 HR1
  clear HV h1
  go_enter Try.func29, Try.ntmps29
  go_wp2_with fail
  obtain ⟨V1, hV1⟩ : ∃ W, W = w.alloc (Obj.cells #[Value.int .i64 s, Value.slice a n' c] 30) := ⟨_, rfl⟩
  obtain ⟨V2, hV2⟩ : ∃ W, W = V1.alloc (Obj.cells #[] 3) := ⟨_, rfl⟩
  rw [← hV1, ← hV2]
  have x2 : GBox V2 w.heap.size s (.slice a n' c) := by rw [hV2, hV1]; exact (GBox.new _ _ _).below (below_new _ _)
  have b2 : Below w.heap.size w V2 := by rw [hV2, hV1]; exact (below_new _ _).alloc (by simp) _
  have o2 : InOwn V2 w.heap.size (.slice (some ⟨w.heap.size + 1, 0, none⟩) 0 0) [] := by
    rw [hV2]
    have h := World.ownsRow_made V1 (e := 3) #[] 0 (Nat.le_refl _) (Nat.zero_le _) (show (#[] : Array Value).size = 0 * 1 from rfl)
    have e : V1.heap.size = w.heap.size + 1 := by rw [hV1]; simp
    rw [e] at h
    exact own_lower (by omega) h
  clear hV1 hV2
  obtain ⟨p0, p1⟩ := x2.cells
  refine (unhide OK V2 b2).mono ?_
  rintro e w3 ⟨rfl, hb3⟩
  have x3 := x2.below hb3
  have b3 := b2.trans (hb3.mono b2.size)
  have o3 := own_below o2 hb3
  clear hb3 x2 p0 p1 OK o2 b2
  cases gk
  · have hR := unhide HR0 rfl
    subst hR
    have HO := hide o3
    clear o3
    go_wp2
    go_ret
    exact ⟨⟨_, rfl, unhide HO⟩, b3⟩
  · obtain ⟨n, rfl, hn9, hRV, hval, hodd⟩ := unhide HR1 rfl
    have HRV := hide hRV
    have HVAL := hide hval
    have HODD := hide hodd
    have HO3 := hide o3
    have HX3 := hide x3
    obtain ⟨p0, p1⟩ := x3.cells
    have OD0 := hide (hodd [] (.slice (some ⟨w.heap.size + 1, 0, none⟩) 0 0) w3 (by simp) b3 (by
      obtain ⟨a', c', e', h'⟩ := intsAt_of_own o3
      simp at e'
      obtain ⟨rfl, rfl⟩ := e'
      exact ⟨_, _, rfl, h'⟩))
    have h0 := hval (bitF 0)
    rw [setTo_bit0] at h0
    have HV0 := hide h0
    have ho0 := unhide HOL n []
    generalize oddL (rowsS Q n []) = od0 at OD0 HV0 ho0
    clear hRV hval hodd HR0 HR1 o3 x3 h0
    go_wp2_with fail
    refine (unhide OD0).mono ?_
    rintro e w4 ⟨rfl, hb4⟩
    have b4 := b3.trans (hb4.mono b3.size)
    have HX4 := hide ((unhide HX3).below hb4)
    have HO4 := hide (own_below (unhide HO3) hb4)
    clear hb4 OD0 HX3 HO3 p0 p1 b3
    go_wp2_with fail
    go_loopw [5, 6] (fun tv i wr => ∃ k t : Nat, i = .int .i64 (k : Int) ∧ k ≤ n ∧ tv = .int .i64 (t : Int) ∧ Hid (t = 2 ^ k) ∧ wr = w4) (fun _ i _ => n - (intOf i).toNat)
    case atStart => exact ⟨0, 1, rfl, Nat.zero_le _, rfl, rfl, rfl⟩
    case round =>
      obtain ⟨k, t, rfl, hk, rfl, HT, rfl⟩ := hrel
      obtain ⟨p0, p1⟩ := (unhide HX4).cells
      have ht5 : t ≤ 512 := by
        have := Nat.pow_le_pow_right (show 0 < 2 by omega) (show k ≤ 9 by omega)
        have e := unhide HT
        omega
      by_cases hlt : k < n
      · have hx1 : (k : Int) < (n : Int) := by omega
        have HT' : Hid (2 * t = 2 ^ (k + 1)) := by show _ = _; rw [unhide HT, Nat.pow_succ]; omega
        go_wp2_with fail
        exact ⟨⟨k + 1, 2 * t, by go_num, by omega, by go_num, HT', by first | rfl | trivial⟩, by simp [intOf]; omega⟩
      · obtain rfl : k = n := by omega
        clear hlt
        have ht1 : 1 ≤ t := by have e := unhide HT; have := Nat.one_le_two_pow (n := k); omega
        go_wp2_with fail
        obtain ⟨wo, hwo⟩ : ∃ W, W = wr := ⟨_, rfl⟩
        subst hwo
        go_loopw [3, 4, 7] (fun bv lv xv wr => ∃ y : Nat, xv = .int .i64 ((y + 1 : Nat) : Int) ∧ y + 1 ≤ t ∧ lv = .int .i64 (valB F k (bitF (blkX F k y))) ∧ Hid (InOwn wr w.heap.size bv (setTo (bitF (blkX F k y)) k)) ∧ Hid (GBox wr w.heap.size (k : Int) (.slice a n' c)) ∧ Below w.heap.size w wr) (fun _ _ xv _ => t - (intOf xv).toNat)
        case atStart => exact ⟨0, rfl, by omega, (by have e := unhide HV0; show _ = Value.int .i64 (valB F k (bitF 0)); rw [← e]; (first | rfl | (simp; done) | go_num)), (by show InOwn _ _ _ (setTo (bitF 0) k); rw [setTo_bit0]; exact unhide HO4), unhide HX4, b4⟩
        case round =>
          clear HX4 HO4 b4 HV0
          obtain ⟨y, rfl, hy, rfl, HO, HX, hb⟩ := hrel
          obtain ⟨Ab, cb, rfl, hBI⟩ := intsAt_of_own (unhide HO)
          obtain ⟨p0, p1⟩ := (unhide HX).cells
          have hLb9 := setTo_length (bitF (blkX F k y)) k
          have HBI := hide hBI
          have HBT := hide (fun h => blkX_take (F := F) (n := k) (y := y) h)
          have HBK := hide (fun h => blkX_keep (F := F) (n := k) (y := y) h)
          clear hBI
          by_cases hlt2 : y + 1 < t
          · obtain ⟨x, hx⟩ : ∃ x, x = y + 1 := ⟨_, rfl⟩
            have HXY := hide hx
            have hxt : (x : Int) < (t : Int) := by omega
            have hx0 : (0 : Int) ≤ (x : Int) := by omega
            rw [← hx] at HBT HBK ⊢
            have hxy : y < x := by omega
            have hx512 : x ≤ 512 := by omega
            obtain ⟨Kb, hKb⟩ : ∃ Kb, Kb = setTo (bitF (blkX F k y)) k := ⟨_, rfl⟩
            have HKB : Hid (setTo (bitF (blkX F k y)) k = Kb) := hKb.symm
            rw [← hKb] at HO HBI hLb9 ⊢
            clear hKb
            obtain ⟨lv, hlv⟩ : ∃ lv, lv = valB F k (bitF (blkX F k y)) := ⟨_, rfl⟩
            rw [← hlv]
            have HLV := hide hlv
            clear hx hlv hlt2 hy
            go_wp2_with fail
            obtain ⟨V5, hV5⟩ : ∃ W, W = wr.alloc (Obj.cells #[] 3) := ⟨_, rfl⟩
            rw [← hV5]
            have n5 : Below wr.heap.size wr V5 := by rw [hV5]; exact below_new _ _
            have HS5 : Hid (InOwn V5 wr.heap.size (.slice (some ⟨wr.heap.size, 0, none⟩) 0 0) (setTo (bitF x) 0)) := by
              show InOwn _ _ _ []
              rw [hV5]
              exact World.ownsRow_made wr (e := 3) #[] 0 (Nat.le_refl _) (Nat.zero_le _) (show (#[] : Array Value).size = 0 * 1 from rfl)
            clear hV5
            obtain ⟨wo, hwo⟩ : ∃ W, W = wr := ⟨_, rfl⟩
            subst hwo
            go_loopw [8, 9, 10] (fun sv rv i wi => ∃ j r : Nat, i = .int .i64 (j : Int) ∧ j ≤ k ∧ rv = .int .i64 (r : Int) ∧ Hid (r = x / 2 ^ j) ∧ r ≤ 512 ∧ Hid (InOwn wi wo.heap.size sv (setTo (bitF x) j)) ∧ Below wo.heap.size wo wi) (fun _ _ i _ => k - (intOf i).toNat)
            case atStart => exact ⟨0, x, rfl, Nat.zero_le _, rfl, by show _ = _; simp, hx512, unhide HS5, n5⟩
            case round =>
              clear HS5 n5 p0 p1
              obtain ⟨j, r, rfl, hj, rfl, HRJ, hr5, HS, hbi⟩ := hrel
              obtain ⟨As, cs, rfl, hSI⟩ := intsAt_of_own (unhide HS)
              have HXi := hide ((unhide HX).below hbi)
              obtain ⟨p0, p1⟩ := (unhide HXi).cells
              have hzi := hbi.size
              have hwl := (unhide HX).lt
              by_cases hlt3 : j < k
              · have hjk : (j : Int) < (k : Int) := by omega
                have hd2 : (r : Int).tdiv 2 = ((r / 2 : Nat) : Int) := by rw [Int.tdiv_eq_ediv_of_nonneg (by omega)]; omega
                have hm2 : (r : Int).tmod 2 = ((r % 2 : Nat) : Int) := by rw [Int.tmod_eq_emod_of_nonneg (by omega)]; omega
                have hq5 : r / 2 ≤ 512 := by omega
                have HRN : Hid (r / 2 = x / 2 ^ (j + 1)) := by show _ = _; rw [unhide HRJ, bit_div]
                have hbit : bitF x j = (r % 2 == 1) := by unfold bitF; rw [← unhide HRJ]
                generalize r / 2 = rq at hd2 hq5 HRN
                cases hb1 : (r % 2 == 1)
                · rw [hb1] at hbit
                  have hF := hide (setTo_out hbit)
                  have hr0 : r % 2 = 0 := by simp at hb1; omega
                  rw [hr0] at hm2
                  have ht : ((r : Int) % 2 == 1) = false := by rw [beq_eq_false_iff_ne]; omega
                  have HSn : Hid (InOwn wr wo.heap.size (.slice As (setTo (bitF x) j).length cs) (setTo (bitF x) (j + 1))) := by show InOwn _ _ _ _; rw [unhide hF]; exact unhide HS
                  clear hb1 hbit hr0 hm2 hF HS hSI
                  go_wp2_with fail
                  exact ⟨⟨j + 1, rq, by go_num, by omega, by first | rfl | go_num, HRN, hq5, HSn, hbi⟩, by simp [intOf]; omega⟩
                · rw [hb1] at hbit
                  have hF := hide (setTo_in hbit)
                  have hr1 : r % 2 = 1 := by simpa using hb1
                  rw [hr1] at hm2
                  have ht : ((r : Int) % 2 == 1) = true := by rw [beq_iff_eq]; omega
                  have hsl := setTo_length (bitF x) j
                  have hown := unhide HS
                  unfold InOwn at hown
                  clear hb1 hbit hr1 hm2 HS hSI
                  go_wp2_with (at_builtin; refine wpList_append_own _ rfl _ _ 26 rfl wo.heap.size 3 i0 (.int .i64 0) 1 8 Try.underlying26 hi hz0 hz1 hz2 rfl (by decide) _ _ _ rfl (hown.alloc _) ⟨wr.heap.size, 0, none⟩ 1 1 [.int .i64 (j : Int)] rfl rfl (cell_one_new _ _ _) (one_intL _) ?_ ?_ ?_ ?_)
                  · unfold maxLen; omega
                  · omega
                  · first | omega | (simp; omega)
                  intro v' w4' hown' hgrow _
                  have hb4' := below_append hbi (Nat.le_refl _) hown hgrow
                  have hX4 : Hid (GBox w4' w.heap.size (k : Int) (.slice a n' c)) := (unhide HX).below hb4'
                  rw [← intsV_snocL, ← unhide hF] at hown'
                  have hfe : (setTo (bitF x) j).length + 1 = (setTo (bitF x) (j + 1)).length := by rw [unhide hF]; simp
                  rw [hfe] at hown'
                  have HO4 : Hid (InOwn w4' wo.heap.size v' (setTo (bitF x) (j + 1))) := hown'
                  clear hown' hgrow hown hF hfe hsl
                  go_wp2_with fail
                  exact ⟨⟨j + 1, rq, by go_num, by omega, by first | rfl | go_num, HRN, hq5, unhide HO4, hb4'⟩, by simp [intOf]; omega⟩
              · obtain rfl : j = k := by omega
                have hw9 : Below w.heap.size w wr := hb.trans (hbi.mono hb.size)
                have HBN := hide (own_below (unhide HO) hbi)
                have hL9 := setTo_length (bitF x) j
                have hod9 := unhide HOL j (setTo (bitF x) j)
                have OD := hide (unhide HODD (setTo (bitF x) j) (.slice As (setTo (bitF x) j).length cs) wr (by omega) hw9 ⟨_, _, rfl, hSI⟩)
                have hvl := unhide HVAL (bitF x)
                have hlv := unhide HLV
                have HBT2 : Hid (bet F j (bitF x) (bitF (blkX F j y)) = true → blkX F j x = x) := HBT
                have hkb := unhide HBI
                clear p0 p1
                generalize oddL (rowsS Q j (setTo (bitF x) j)) = od at OD hod9 hvl
                have HAH : Hid (∀ wq, Below wr.heap.size wr wq → Calls Try.prog 58 #[.slice As (setTo (bitF x) j).length cs, .slice Ab Kb.length cb] wq fun u w' => u = .returned (.bool (aheadF (setTo (bitF x) j) Kb)) ∧ Below wq.heap.size wq w') := fun wq hq => by
                  have hq2 : Below wr.heap.size wr wq := hq
                  exact ahead_any wq (setTo (bitF x) j) Kb As Ab cs cb _ _ wr.heap.size wo.heap.size (by omega) (by omega) hq.size (Nat.le_trans hbi.size hq.size) (hSI.below hq (Nat.le_refl _)) (hkb.below (hbi.trans (hq.mono hbi.size)) (Nat.le_refl _))
                have HBE : Hid (bet F j (bitF x) (bitF (blkX F j y)) = (decide ((((setTo (bitF x) j).length : Nat) : Int) - (od : Int) < lv) || (decide ((((setTo (bitF x) j).length : Nat) : Int) - (od : Int) = lv) && (decide ((setTo (bitF x) j).length < Kb.length) || (decide ((setTo (bitF x) j).length = Kb.length) && aheadF (setTo (bitF x) j) Kb))))) := by
                  show _ = _
                  unfold bet
                  rw [← hvl, ← hlv, unhide HKB]
                obtain ⟨p0, p1⟩ := (unhide HXi).cells
                generalize hah : aheadF (setTo (bitF x) j) Kb = ah at HAH HBE
                have HSW := hide (own_lower (show w.heap.size ≤ wo.heap.size from hb.size) (unhide HS))
                have hvn : Hid (((((setTo (bitF x) j).length : Nat) : Int) - (od : Int)) = valB F j (bitF x)) := hvl
                obtain ⟨Ks, hKs⟩ : ∃ Ks, Ks = setTo (bitF x) j := ⟨_, rfl⟩
                have HKS := hide hKs
                rw [← hKs] at hL9 OD HAH HBE HSW hvn ⊢
                obtain ⟨L, hL⟩ : ∃ L, L = Ks.length := ⟨_, rfl⟩
                obtain ⟨Lb, hLb⟩ : ∃ Lb, Lb = Kb.length := ⟨_, rfl⟩
                have HL := hide hL
                have HLB := hide hLb
                rw [← hL] at hL9 OD HAH HBE hvn ⊢
                rw [← hLb] at HAH HBE hLb9 ⊢
                clear hvl hlv hah hKs hL hLb hkb hSI HS
                go_wp2_with fail
                refine (unhide OD).mono ?_
                rintro e w6 ⟨rfl, hb6⟩
                have hw6 := hw9.trans (hb6.mono hw9.size)
                have HX6 := hide ((unhide HXi).below hb6)
                have HB6 := hide (own_below (unhide HBN) hb6)
                have HS6 := hide (own_below (unhide HSW) hb6)
                have HA6 := hide (unhide HAH w6 hb6)
                clear hb6 OD HAH HXi HBN HSW p0 p1 hw9
                have HX9 := unhide HXY
                have HTK : Hid (bet F j (bitF x) (bitF (blkX F j y)) = true → Value.int .i64 ((L : Int) - (od : Int)) = Value.int .i64 (valB F j (bitF (blkX F j (y + 1)))) ∧ InOwn w6 w.heap.size (.slice As L cs) (setTo (bitF (blkX F j (y + 1))) j)) := fun h => by
                  have e := unhide HBT2 h
                  rw [HX9] at e
                  have e2 := unhide hvn
                  have e3 : InOwn w6 w.heap.size (.slice As L cs) Ks := by rw [unhide HL]; exact unhide HS6
                  rw [e2]
                  rw [unhide HKS] at e3
                  rw [e, ← HX9]
                  exact ⟨rfl, e3⟩
                have HKP : Hid (bet F j (bitF x) (bitF (blkX F j y)) = false → Value.int .i64 lv = Value.int .i64 (valB F j (bitF (blkX F j (y + 1)))) ∧ InOwn w6 w.heap.size (.slice Ab Lb cb) (setTo (bitF (blkX F j (y + 1))) j)) := fun h => by
                  have e := unhide HBK h
                  rw [HX9] at e
                  have e3 : InOwn w6 w.heap.size (.slice Ab Lb cb) Kb := by rw [unhide HLB]; exact unhide HB6
                  rw [← unhide HKB] at e3
                  rw [e, ← unhide HLV]
                  exact ⟨rfl, e3⟩
                have hxn : (x : Int) + 1 = ((y + 1 + 1 : Nat) : Int) := by omega
                have hxt2 : y + 1 + 1 ≤ t := by omega
                have HXN := hide hxn
                clear HX9 hxn HBT2 HBT HBK HB6 HS6 HKS HKB HLV HXY hvn HO HBI HRJ HVAL HODD HOL HRV hbi hb hzi hwl
                by_cases c1 : (L : Int) - (od : Int) < lv
                · have hbet : bet F j (bitF x) (bitF (blkX F j y)) = true := by rw [unhide HBE, decide_eq_true c1]; rfl
                  have H9 := hide (unhide HTK hbet)
                  clear hbet HTK HKP HBE HA6
                  go_wp2_with fail
                  exact ⟨⟨y + 1, (by rw [← unhide HXN]; try go_num), hxt2, (unhide H9).1, (unhide H9).2, unhide HX6, hw6⟩, by simp [intOf]; omega⟩
                · by_cases c2 : (L : Int) - (od : Int) = lv
                  · have t2 : ((L : Int) - (od : Int) == lv) = true := by rw [beq_iff_eq]; exact c2
                    by_cases c3 : L < Lb
                    · have hbet : bet F j (bitF x) (bitF (blkX F j y)) = true := by rw [unhide HBE, decide_eq_false c1, decide_eq_true c2, decide_eq_true c3]; rfl
                      have H9 := hide (unhide HTK hbet)
                      have t3 : (L : Int) < (Lb : Int) := by omega
                      clear hbet HTK HKP HBE HA6 c2
                      go_wp2_with fail
                      exact ⟨⟨y + 1, (by rw [← unhide HXN]; try go_num), hxt2, (unhide H9).1, (unhide H9).2, unhide HX6, hw6⟩, by simp [intOf]; omega⟩
                    · by_cases c4 : L = Lb
                      · have t3 : ¬ (L : Int) < (Lb : Int) := by omega
                        have t4 : ((L : Int) == (Lb : Int)) = true := by rw [beq_iff_eq]; omega
                        have hbet : bet F j (bitF x) (bitF (blkX F j y)) = ah := by rw [unhide HBE, decide_eq_false c1, decide_eq_true c2, decide_eq_false c3, decide_eq_true c4]; simp
                        have HBH := hide hbet
                        clear hbet HBE c2 c3 c4
                        go_wp2_with fail
                        refine (unhide HA6).mono ?_
                        rintro e w7 ⟨rfl, hb7⟩
                        have hw7 := hw6.trans (hb7.mono hw6.size)
                        have HX7 := hide ((unhide HX6).below hb7)
                        cases ah with
                        | true =>
                          have H9 := hide (unhide HTK (unhide HBH))
                          have HO7 := hide (own_below (unhide H9).2 hb7)
                          clear HTK HKP HA6 HBH hb7
                          go_wp2_with fail
                          exact ⟨⟨y + 1, (by rw [← unhide HXN]; try go_num), hxt2, (unhide H9).1, unhide HO7, unhide HX7, hw7⟩, by simp [intOf]; omega⟩
                        | false =>
                          have H9 := hide (unhide HKP (unhide HBH))
                          have HO7 := hide (own_below (unhide H9).2 hb7)
                          clear HTK HKP HA6 HBH hb7
                          go_wp2_with fail
                          exact ⟨⟨y + 1, (by rw [← unhide HXN]; try go_num), hxt2, (unhide H9).1, unhide HO7, unhide HX7, hw7⟩, by simp [intOf]; omega⟩
                      · have hbet : bet F j (bitF x) (bitF (blkX F j y)) = false := by rw [unhide HBE, decide_eq_false c1, decide_eq_true c2, decide_eq_false c3, decide_eq_false c4]; rfl
                        have H9 := hide (unhide HKP hbet)
                        have t3 : ¬ (L : Int) < (Lb : Int) := by omega
                        have t4 : ((L : Int) == (Lb : Int)) = false := by rw [beq_eq_false_iff_ne]; omega
                        clear hbet HTK HKP HBE HA6 c2 c3 c4
                        go_wp2_with fail
                        exact ⟨⟨y + 1, (by rw [← unhide HXN]; try go_num), hxt2, (unhide H9).1, (unhide H9).2, unhide HX6, hw6⟩, by simp [intOf]; omega⟩
                  · have hbet : bet F j (bitF x) (bitF (blkX F j y)) = false := by rw [unhide HBE, decide_eq_false c1, decide_eq_false c2]; rfl
                    have H9 := hide (unhide HKP hbet)
                    have t2 : ((L : Int) - (od : Int) == lv) = false := by rw [beq_eq_false_iff_ne]; exact c2
                    clear hbet HTK HKP HBE HA6 c2
                    go_wp2_with fail
                    exact ⟨⟨y + 1, (by rw [← unhide HXN]; try go_num), hxt2, (unhide H9).1, (unhide H9).2, unhide HX6, hw6⟩, by simp [intOf]; omega⟩
          · have hy2 : y = 2 ^ k - 1 := by have e := unhide HT; omega
            have hrv := unhide HRV
            rw [← hy2] at hrv
            have HOV : Hid (InOwn wr w.heap.size (.slice Ab (setTo (bitF (blkX F k y)) k).length cb) V) := by
              show InOwn _ _ _ _
              rw [hrv]
              exact unhide HO
            have hyt : ¬ (((y + 1 : Nat)) : Int) < (t : Int) := by omega
            clear hrv hy2 HO HBT HBK HBI
            go_wp2_with fail
            go_ret
            exact ⟨⟨_, rfl, unhide HOV⟩, hb⟩

end Lk
end Go.Proofs.Ytejfknkcakeakaa
