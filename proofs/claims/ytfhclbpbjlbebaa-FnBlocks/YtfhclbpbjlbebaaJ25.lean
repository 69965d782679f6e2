/-
  Texts of this claim, one behind the other: LkB3, LkB5, LkB4.
-/
import Derived.Test.YtfhclbpbjlbebaaJ24
import Derived.Deep.LoopGhost
import Derived.Deep.DeepCutAuto
import Derived.Deep.DeepFit
import Derived.Deep.RegionLaw
import Derived.Test.YtfhclbpbjlbebaaJ19
import Derived.Test.YtfhclbpbjlbebaaJ15
import Derived.Deep.RegionHeld3

/-
  The contract of impl.Blocks.
-/
namespace Go.Proofs.Ytfhclbpbjlbebaa
namespace Lk
open Go.RowKit
open Gr (Blk Kept EdgeI GrAt GBox Fresh below_new setMany setMany_all below_setCells InOwn InAt own_below own_lower intsV intsAt_of_own graphOk implGraph_gen)

/-- The load of a whole array, as one step of a region that draws. -/
theorem step_load_row {P : Program} {ops : Array Oper} {o : Oper} {a : Act} {w : World} {K : Act → World → Prop} {Q : Exit → Act → World → Prop} {E : Prop} (hgd : o.guard = none) (ty : TypeId) (x : Operand) (ho : o.op = .load ty x)
    (b off : Nat) (hx : a.eval x = .pointer (some ⟨b, off, none⟩)) (cs : List Value) (d : TypeDesc) (hc : w.rangeAt b off cs) (hu : P.underlying ty = some d) (hd : d.isRow = true) (hi : (P.info? ty).map (·.size) = some cs.length)
    (h : K (a.put o.dst (.agg cs.toArray)) w) : if Region.wanted o (yielded ops a.tmps) = true then Oper.wp P o a w K Q else E := by
  rw [if_pos (by simp [Region.wanted, hgd])]
  exact wp_load_mid ty x ho b off hx cs d hc hu hd hi h

/-- The store of a whole array. -/
theorem step_store_row {P : Program} {ops : Array Oper} {o : Oper} {a : Act} {w : World} {K : Act → World → Prop} {Q : Exit → Act → World → Prop} {E : Prop} (hgd : o.guard = none) (ty : TypeId) (x y : Operand) (ho : o.op = .store ty x y)
    (g : Nat) (C Z : Array Value) (t : TypeId) (hx : a.eval x = .pointer (some ⟨g, 0, none⟩)) (hy : a.eval y = .agg C) (hb : Blk w g Z t) (hs : Z.size = C.size) (hi : (P.info? ty).map (·.size) = some C.size) (h1 : C.all (·.oneCell') = true)
    (h : ∀ w', Blk w' g C t → Kept (fun i => i = g) w w' → (∀ i C' t', t' ≠ t → Blk w i C' t' → Blk w' i C' t') → K (a.put o.dst undef) w') : if Region.wanted o (yielded ops a.tmps) = true then Oper.wp P o a w K Q else E := by
  rw [if_pos (by simp [Region.wanted, hgd])]
  refine wp_store_mid ty x y ho g 0 C hx hy (hb.there 0 _ (by rw [hs]; omega)) hi h1 (h _ ?_ ?_ ?_)
  · have h2 := Gr.Blk.many C.toList 0 hb
    rwa [setMany_all _ _ hs] at h2
  · have hB := below_setCells 0 g (Nat.zero_le _) C.toList 0 w w (Below.refl 0 w)
    exact ⟨hB.os, hB.tape, hB.output, hB.size, fun i _ hn => many_block C.toList 0 w i hn⟩
  · intro i C' t' hne hbi
    have hig : ¬ i = g := fun e => by
      subst e
      unfold Blk at hbi hb
      rw [hbi] at hb
      simp at hb
      exact hne hb.2
    unfold Blk
    rw [many_block C.toList 0 w i hig]
    exact hbi
where
  many_block {g : Nat} : ∀ (vs : List Value) (o : Nat) (W : World) (i : Nat), ¬ i = g → (W.setCells g o vs).heap[i]? = W.heap[i]?
    | [], _, _, _, _ => rfl
    | v :: r, o, W, i, hn => by
      rw [World.setCells, many_block r (o + 1) _ i hn]
      exact Below.heap_setCell _ _ _ _ hn

theorem enterLinks (vs : Array Value) (w : World) : (callFunc 25 vs).run Try.prog w = .ok (.enter 25 vs) w := by kernel_rfl
theorem enterAllV (vs : Array Value) (w : World) : (callFunc 26 vs).run Try.prog w = .ok (.enter 26 vs) w := by kernel_rfl
theorem enterList (vs : Array Value) (w : World) : (callFunc 27 vs).run Try.prog w = .ok (.enter 27 vs) w := by kernel_rfl

/-- What Blocks tells. -/
def blocksR (s : Int) (Q : List EdgeI) : List Int := if graphOk s Q = true then setTo (bitF (blkX (lnkF Q) s.toNat (2 ^ s.toNat - 1))) s.toNat else []

theorem blocks_len (s : Int) (Q : List EdgeI) : (blocksR s Q).length ≤ 9 := by
  unfold blocksR
  split
  · rename_i h
    have := ok_size h
    exact Nat.le_trans (setTo_length _ _) (by omega)
  · simp

theorem val_all (F : Nat → Nat → Bool) (n : Nat) : valB F n (allF n) = (n : Int) := by
  unfold valB
  have e : (fun v => decide (v < n) && !allF n v) = fun _ => false := by
    funext v
    unfold allF
    cases decide (v < n) <;> rfl
  rw [e, prts_none F _ _ (fun _ _ => rfl)]
  have h : ∀ k, k ≤ n → (setTo (allF n) k).length = k := fun k => by
    induction k with
    | zero => intro _; rfl
    | succ k ih =>
      intro hk
      rw [setTo_in (by unfold allF; simp; omega), List.length_append, ih (by omega)]
      rfl
  rw [h n (Nat.le_refl _)]
  simp [oddN]

theorem setTo_nine {f : Nat → Bool} {n : Nat} (hn : n ≤ 9) (h : ∀ v, f v = true → v < n) : setTo f 9 = setTo f n := by
  obtain ⟨d, hd⟩ : ∃ d, 9 = n + d := ⟨9 - n, by omega⟩
  rw [hd]
  exact setTo_low f n d (fun j h1 _ => by
    cases hj : f j
    · rfl
    · have := h j hj; omega)

end Lk
end Go.Proofs.Ytfhclbpbjlbebaa

/-
  The contract of spec.Blocks: it goes up through the numbers of the sets.
-/
namespace Go.Proofs.Ytfhclbpbjlbebaa
namespace Lk
open Go.RowKit
open Gr (Blk Kept EdgeI GrAt GBox below_new InOwn InAt own_below own_lower intsV intsAt_of_own info3 graphOk specGraph_any)

theorem left_setTo (f : Nat → Bool) (n : Nat) : leftF n (setTo f n) = fun v => decide (v < n) && !f v := by
  funext v
  unfold leftF
  rw [inK_setTo]
  by_cases h : v < n
  · simp [h]
  · simp [h]

theorem spec_val {n : Nat} {Q : List EdgeI} (hg : graphOk (n : Int) Q = true) (f : Nat → Bool) : ((setTo f n).length : Int) - (oddL (rowsS Q n (setTo f n)) : Int) = valB (lnkF Q) n f := by
  have e := rows_same hg (setTo f n)
  rw [Int.toNat_natCast] at e
  rw [e, odd_same]
  unfold valB partsR
  rw [Int.toNat_natCast, left_setTo]

theorem setTo_bit0 (n : Nat) : setTo (bitF 0) n = [] := by
  unfold setTo
  have : (List.range n).filter (bitF 0) = [] := List.filter_eq_nil_iff.2 (fun v _ => by unfold bitF; simp)
  rw [this]
  rfl

theorem blkX_take {F : Nat → Nat → Bool} {n y : Nat} (h : bet F n (bitF (y + 1)) (bitF (blkX F n y)) = true) : blkX F n (y + 1) = y + 1 := by
  show (if _ then _ else _) = _
  rw [if_pos h]

theorem blkX_keep {F : Nat → Nat → Bool} {n y : Nat} (h : bet F n (bitF (y + 1)) (bitF (blkX F n y)) = false) : blkX F n (y + 1) = blkX F n y := by
  show (if _ then _ else _) = _
  rw [if_neg (by rw [h]; simp)]

theorem bit_div (x k : Nat) : x / 2 ^ k / 2 = x / 2 ^ (k + 1) := by rw [Nat.div_div_eq_div_mul, Nat.pow_succ]

theorem oddR_le (Q : List EdgeI) (n : Nat) (K : List Int) : oddL (rowsS Q n K) ≤ n := Nat.le_trans (oddL_le _) (rowsS_length Q n K)

set_option maxRecDepth 100000 in
set_option maxHeartbeats 8000000 in
theorem specBlocks_gen (B : Nat) (v : Value) (s : Int) (Q : List EdgeI) (h1 : Q.length ≤ 1048576) (w : World) (hB : B ≤ w.heap.size) (hv : GrAt w v B s Q) :
    Calls Try.prog 17 #[v] w fun e w' => (∃ d, e = .returned d ∧ InOwn w' w.heap.size d (blocksR s Q)) ∧ Below w.heap.size w w' := by
  obtain ⟨i0, hi, hz0, hz1, hz2⟩ := info_parts info3
  have OK := hide (fun w1 (hb : Below w.heap.size w w1) => specGraph_any v B s Q h1 w1 (by have := hb.size; omega) (hv.below hb hB))
  have HV := hide hv
  obtain ⟨a, n', c, rfl, _⟩ := hv
  have HR0 : Hid (graphOk s Q = false → blocksR s Q = []) := fun h => by unfold blocksR; rw [h]; rfl
  have HR1 : Hid (graphOk s Q = true → ∃ n : Nat, s = (n : Int) ∧ n ≤ 9 ∧ blocksR s Q = setTo (bitF (blkX (lnkF Q) n (2 ^ n - 1))) n ∧ (∀ f, ((setTo f n).length : Int) - (oddL (rowsS Q n (setTo f n)) : Int) = valB (lnkF Q) n f) ∧
      ∀ K d wq, K.length ≤ 9 → Below w.heap.size w wq → InAt wq d wq.heap.size K → Calls Try.prog 44 #[.agg #[.int .i64 s, .slice a n' c], d] wq fun e w' => e = .returned (.int .i64 (oddL (rowsS Q n K) : Int)) ∧ Below wq.heap.size wq w') := fun hg => by
    obtain ⟨s0, s9⟩ := ok_size hg
    obtain ⟨n, rfl⟩ := Int.eq_ofNat_of_zero_le s0
    refine ⟨n, rfl, by omega, by unfold blocksR; rw [if_pos hg, Int.toNat_natCast], spec_val hg, fun K d wq hK hb hd => ?_⟩
    exact oddS_any _ wq.heap.size n Q d K h1 (by omega) (by omega) wq (Nat.le_refl _) (((unhide HV).below hb hB).mono (by have := hb.size; omega)) hd
  have HOL := hide (fun n K => oddR_le Q n K)
  generalize blocksR s Q = V at HR0 HR1 ⊢
  generalize lnkF Q = F at HR1
  generalize graphOk s Q = gk at OK HR0 HR1
  clear HV h1
  go_enter Try.func17, Try.ntmps17
  go_wp2_with fail
  obtain ⟨V1, hV1⟩ : ∃ W, W = w.alloc (Obj.cells #[Value.int .i64 s, Value.slice a n' c] 26) := ⟨_, rfl⟩
  obtain ⟨V2, hV2⟩ : ∃ W, W = V1.alloc (Obj.cells #[] 3) := ⟨_, rfl⟩
  rw [← hV1, ← hV2]
  have x2 : GBox V2 w.heap.size s (.slice a n' c) := by rw [hV2, hV1]; exact (GBox.new _ _ _).below (below_new _ _)
  have b2 : Below w.heap.size w V2 := by rw [hV2, hV1]; exact (below_new _ _).alloc (by simp) _
  have o2 : InOwn V2 w.heap.size (.slice (some ⟨w.heap.size + 1, 0, none⟩) 0 0) [] := by
    rw [hV2]
    have h := World.ownsRow_made V1 (e := 3) #[] 0 (Nat.le_refl _) (Nat.zero_le _) (show (#[] : Array Value).size = 0 * 1 from rfl)
    have e : V1.heap.size = w.heap.size + 1 := by rw [hV1]; simp
    rw [e] at h
    exact own_lower (by omega) h
  clear hV1 hV2
  obtain ⟨p0, p1⟩ := x2.cells
  refine (unhide OK V2 b2).mono ?_
  rintro e w3 ⟨rfl, hb3⟩
  have x3 := x2.below hb3
  have b3 := b2.trans (hb3.mono b2.size)
  have o3 := own_below o2 hb3
  clear hb3 x2 p0 p1 OK o2 b2
  cases gk
  · have hR := unhide HR0 rfl
    subst hR
    have HO := hide o3
    clear o3
    go_wp2
    go_ret
    exact ⟨⟨_, rfl, unhide HO⟩, b3⟩
  · obtain ⟨n, rfl, hn9, hRV, hval, hodd⟩ := unhide HR1 rfl
    have HRV := hide hRV
    have HVAL := hide hval
    have HODD := hide hodd
    have HO3 := hide o3
    have HX3 := hide x3
    obtain ⟨p0, p1⟩ := x3.cells
    have OD0 := hide (hodd [] (.slice (some ⟨w.heap.size + 1, 0, none⟩) 0 0) w3 (by simp) b3 (by
      obtain ⟨a', c', e', h'⟩ := intsAt_of_own o3
      simp at e'
      obtain ⟨rfl, rfl⟩ := e'
      exact ⟨_, _, rfl, h'⟩))
    have h0 := hval (bitF 0)
    rw [setTo_bit0] at h0
    have HV0 := hide h0
    have ho0 := unhide HOL n []
    generalize oddL (rowsS Q n []) = od0 at OD0 HV0 ho0
    clear hRV hval hodd HR0 HR1 o3 x3 h0
    go_wp2_with fail
    refine (unhide OD0).mono ?_
    rintro e w4 ⟨rfl, hb4⟩
    have b4 := b3.trans (hb4.mono b3.size)
    have HX4 := hide ((unhide HX3).below hb4)
    have HO4 := hide (own_below (unhide HO3) hb4)
    clear hb4 OD0 HX3 HO3 p0 p1 b3
    go_wp2_with fail
    go_loopw [5, 6] (fun tv i wr => ∃ k t : Nat, i = .int .i64 (k : Int) ∧ k ≤ n ∧ tv = .int .i64 (t : Int) ∧ Hid (t = 2 ^ k) ∧ wr = w4) (fun _ i _ => n - (intOf i).toNat)
    case atStart => exact ⟨0, 1, rfl, Nat.zero_le _, rfl, rfl, rfl⟩
    case round =>
      obtain ⟨k, t, rfl, hk, rfl, HT, rfl⟩ := hrel
      obtain ⟨p0, p1⟩ := (unhide HX4).cells
      have ht5 : t ≤ 512 := by
        have := Nat.pow_le_pow_right (show 0 < 2 by omega) (show k ≤ 9 by omega)
        have e := unhide HT
        omega
      by_cases hlt : k < n
      · have hx1 : (k : Int) < (n : Int) := by omega
        have HT' : Hid (2 * t = 2 ^ (k + 1)) := by show _ = _; rw [unhide HT, Nat.pow_succ]; omega
        go_wp2_with fail
        exact ⟨⟨k + 1, 2 * t, by go_num, by omega, by go_num, HT', by first | rfl | trivial⟩, by simp [intOf]; omega⟩
      · obtain rfl : k = n := by omega
        clear hlt
        have ht1 : 1 ≤ t := by have e := unhide HT; have := Nat.one_le_two_pow (n := k); omega
        go_wp2_with fail
        obtain ⟨wo, hwo⟩ : ∃ W, W = wr := ⟨_, rfl⟩
        subst hwo
        go_loopw [3, 4, 7] (fun bv lv xv wr => ∃ y : Nat, xv = .int .i64 ((y + 1 : Nat) : Int) ∧ y + 1 ≤ t ∧ lv = .int .i64 (valB F k (bitF (blkX F k y))) ∧ Hid (InOwn wr w.heap.size bv (setTo (bitF (blkX F k y)) k)) ∧ Hid (GBox wr w.heap.size (k : Int) (.slice a n' c)) ∧ Below w.heap.size w wr) (fun _ _ xv _ => t - (intOf xv).toNat)
        case atStart => exact ⟨0, rfl, by omega, (by have e := unhide HV0; show _ = Value.int .i64 (valB F k (bitF 0)); rw [← e]; (first | rfl | (simp; done) | go_num)), (by show InOwn _ _ _ (setTo (bitF 0) k); rw [setTo_bit0]; exact unhide HO4), unhide HX4, b4⟩
        case round =>
          clear HX4 HO4 b4 HV0
          obtain ⟨y, rfl, hy, rfl, HO, HX, hb⟩ := hrel
          obtain ⟨Ab, cb, rfl, hBI⟩ := intsAt_of_own (unhide HO)
          obtain ⟨p0, p1⟩ := (unhide HX).cells
          have hLb9 := setTo_length (bitF (blkX F k y)) k
          have HBI := hide hBI
          have HBT := hide (fun h => blkX_take (F := F) (n := k) (y := y) h)
          have HBK := hide (fun h => blkX_keep (F := F) (n := k) (y := y) h)
          clear hBI
          by_cases hlt2 : y + 1 < t
          · obtain ⟨x, hx⟩ : ∃ x, x = y + 1 := ⟨_, rfl⟩
            have HXY := hide hx
            have hxt : (x : Int) < (t : Int) := by omega
            have hx0 : (0 : Int) ≤ (x : Int) := by omega
            rw [← hx] at HBT HBK ⊢
            have hxy : y < x := by omega
            have hx512 : x ≤ 512 := by omega
            obtain ⟨Kb, hKb⟩ : ∃ Kb, Kb = setTo (bitF (blkX F k y)) k := ⟨_, rfl⟩
            have HKB : Hid (setTo (bitF (blkX F k y)) k = Kb) := hKb.symm
            rw [← hKb] at HO HBI hLb9 ⊢
            clear hKb
            obtain ⟨lv, hlv⟩ : ∃ lv, lv = valB F k (bitF (blkX F k y)) := ⟨_, rfl⟩
            rw [← hlv]
            have HLV := hide hlv
            clear hx hlv hlt2 hy
            go_wp2_with fail
            obtain ⟨V5, hV5⟩ : ∃ W, W = wr.alloc (Obj.cells #[] 3) := ⟨_, rfl⟩
            rw [← hV5]
            have n5 : Below wr.heap.size wr V5 := by rw [hV5]; exact below_new _ _
            have HS5 : Hid (InOwn V5 wr.heap.size (.slice (some ⟨wr.heap.size, 0, none⟩) 0 0) (setTo (bitF x) 0)) := by
              show InOwn _ _ _ []
              rw [hV5]
              exact World.ownsRow_made wr (e := 3) #[] 0 (Nat.le_refl _) (Nat.zero_le _) (show (#[] : Array Value).size = 0 * 1 from rfl)
            clear hV5
            obtain ⟨wo, hwo⟩ : ∃ W, W = wr := ⟨_, rfl⟩
            subst hwo
            go_loopw [8, 9, 10] (fun sv rv i wi => ∃ j r : Nat, i = .int .i64 (j : Int) ∧ j ≤ k ∧ rv = .int .i64 (r : Int) ∧ Hid (r = x / 2 ^ j) ∧ r ≤ 512 ∧ Hid (InOwn wi wo.heap.size sv (setTo (bitF x) j)) ∧ Below wo.heap.size wo wi) (fun _ _ i _ => k - (intOf i).toNat)
            case atStart => exact ⟨0, x, rfl, Nat.zero_le _, rfl, by show _ = _; simp, hx512, unhide HS5, n5⟩
            case round =>
              clear HS5 n5 p0 p1
              obtain ⟨j, r, rfl, hj, rfl, HRJ, hr5, HS, hbi⟩ := hrel
              obtain ⟨As, cs, rfl, hSI⟩ := intsAt_of_own (unhide HS)
              have HXi := hide ((unhide HX).below hbi)
              obtain ⟨p0, p1⟩ := (unhide HXi).cells
              have hzi := hbi.size
              have hwl := (unhide HX).lt
              by_cases hlt3 : j < k
              · have hjk : (j : Int) < (k : Int) := by omega
                have hd2 : (r : Int).tdiv 2 = ((r / 2 : Nat) : Int) := by rw [Int.tdiv_eq_ediv_of_nonneg (by omega)]; omega
                have hm2 : (r : Int).tmod 2 = ((r % 2 : Nat) : Int) := by rw [Int.tmod_eq_emod_of_nonneg (by omega)]; omega
                have hq5 : r / 2 ≤ 512 := by omega
                have HRN : Hid (r / 2 = x / 2 ^ (j + 1)) := by show _ = _; rw [unhide HRJ, bit_div]
                have hbit : bitF x j = (r % 2 == 1) := by unfold bitF; rw [← unhide HRJ]
                generalize r / 2 = rq at hd2 hq5 HRN
                cases hb1 : (r % 2 == 1)
                · rw [hb1] at hbit
                  have hF := hide (setTo_out hbit)
                  have hr0 : r % 2 = 0 := by simp at hb1; omega
                  rw [hr0] at hm2
                  have ht : ((r : Int) % 2 == 1) = false := by rw [beq_eq_false_iff_ne]; omega
                  have HSn : Hid (InOwn wr wo.heap.size (.slice As (setTo (bitF x) j).length cs) (setTo (bitF x) (j + 1))) := by show InOwn _ _ _ _; rw [unhide hF]; exact unhide HS
                  clear hb1 hbit hr0 hm2 hF HS hSI
                  go_wp2_with fail
                  exact ⟨⟨j + 1, rq, by go_num, by omega, by first | rfl | go_num, HRN, hq5, HSn, hbi⟩, by simp [intOf]; omega⟩
                · rw [hb1] at hbit
                  have hF := hide (setTo_in hbit)
                  have hr1 : r % 2 = 1 := by simpa using hb1
                  rw [hr1] at hm2
                  have ht : ((r : Int) % 2 == 1) = true := by rw [beq_iff_eq]; omega
                  have hsl := setTo_length (bitF x) j
                  have hown := unhide HS
                  unfold InOwn at hown
                  clear hb1 hbit hr1 hm2 HS hSI
                  go_wp2_with (at_builtin; refine wpList_append_own _ rfl _ _ 28 rfl wo.heap.size 3 i0 (.int .i64 0) 1 8 Try.underlying28 hi hz0 hz1 hz2 rfl (by decide) _ _ _ rfl (hown.alloc _) ⟨wr.heap.size, 0, none⟩ 1 1 [.int .i64 (j : Int)] rfl rfl (cell_one_new _ _ _) (one_intL _) ?_ ?_ ?_ ?_)
                  · unfold maxLen; omega
                  · omega
                  · first | omega | (simp; omega)
                  intro v' w4' hown' hgrow _
                  have hb4' := below_append hbi (Nat.le_refl _) hown hgrow
                  have hX4 : Hid (GBox w4' w.heap.size (k : Int) (.slice a n' c)) := (unhide HX).below hb4'
                  rw [← intsV_snocL, ← unhide hF] at hown'
                  have hfe : (setTo (bitF x) j).length + 1 = (setTo (bitF x) (j + 1)).length := by rw [unhide hF]; simp
                  rw [hfe] at hown'
                  have HO4 : Hid (InOwn w4' wo.heap.size v' (setTo (bitF x) (j + 1))) := hown'
                  clear hown' hgrow hown hF hfe hsl
                  go_wp2_with fail
                  exact ⟨⟨j + 1, rq, by go_num, by omega, by first | rfl | go_num, HRN, hq5, unhide HO4, hb4'⟩, by simp [intOf]; omega⟩
              · obtain rfl : j = k := by omega
                have hw9 : Below w.heap.size w wr := hb.trans (hbi.mono hb.size)
                have HBN := hide (own_below (unhide HO) hbi)
                have hL9 := setTo_length (bitF x) j
                have hod9 := unhide HOL j (setTo (bitF x) j)
                have OD := hide (unhide HODD (setTo (bitF x) j) (.slice As (setTo (bitF x) j).length cs) wr (by omega) hw9 ⟨_, _, rfl, hSI⟩)
                have hvl := unhide HVAL (bitF x)
                have hlv := unhide HLV
                have HBT2 : Hid (bet F j (bitF x) (bitF (blkX F j y)) = true → blkX F j x = x) := HBT
                have hkb := unhide HBI
                clear p0 p1
                generalize oddL (rowsS Q j (setTo (bitF x) j)) = od at OD hod9 hvl
                have HAH : Hid (∀ wq, Below wr.heap.size wr wq → Calls Try.prog 45 #[.slice As (setTo (bitF x) j).length cs, .slice Ab Kb.length cb] wq fun u w' => u = .returned (.bool (aheadF (setTo (bitF x) j) Kb)) ∧ Below wq.heap.size wq w') := fun wq hq => by
                  have hq2 : Below wr.heap.size wr wq := hq
                  exact ahead_any wq (setTo (bitF x) j) Kb As Ab cs cb _ _ wr.heap.size wo.heap.size (by omega) (by omega) hq.size (Nat.le_trans hbi.size hq.size) (hSI.below hq (Nat.le_refl _)) (hkb.below (hbi.trans (hq.mono hbi.size)) (Nat.le_refl _))
                have HBE : Hid (bet F j (bitF x) (bitF (blkX F j y)) = (decide ((((setTo (bitF x) j).length : Nat) : Int) - (od : Int) < lv) || (decide ((((setTo (bitF x) j).length : Nat) : Int) - (od : Int) = lv) && (decide ((setTo (bitF x) j).length < Kb.length) || (decide ((setTo (bitF x) j).length = Kb.length) && aheadF (setTo (bitF x) j) Kb))))) := by
                  show _ = _
                  unfold bet
                  rw [← hvl, ← hlv, unhide HKB]
                obtain ⟨p0, p1⟩ := (unhide HXi).cells
                generalize hah : aheadF (setTo (bitF x) j) Kb = ah at HAH HBE
                have HSW := hide (own_lower (show w.heap.size ≤ wo.heap.size from hb.size) (unhide HS))
                have hvn : Hid (((((setTo (bitF x) j).length : Nat) : Int) - (od : Int)) = valB F j (bitF x)) := hvl
                obtain ⟨Ks, hKs⟩ : ∃ Ks, Ks = setTo (bitF x) j := ⟨_, rfl⟩
                have HKS := hide hKs
                rw [← hKs] at hL9 OD HAH HBE HSW hvn ⊢
                obtain ⟨L, hL⟩ : ∃ L, L = Ks.length := ⟨_, rfl⟩
                obtain ⟨Lb, hLb⟩ : ∃ Lb, Lb = Kb.length := ⟨_, rfl⟩
                have HL := hide hL
                have HLB := hide hLb
                rw [← hL] at hL9 OD HAH HBE hvn ⊢
                rw [← hLb] at HAH HBE hLb9 ⊢
                clear hvl hlv hah hKs hL hLb hkb hSI HS
                go_wp2_with fail
                refine (unhide OD).mono ?_
                rintro e w6 ⟨rfl, hb6⟩
                have hw6 := hw9.trans (hb6.mono hw9.size)
                have HX6 := hide ((unhide HXi).below hb6)
                have HB6 := hide (own_below (unhide HBN) hb6)
                have HS6 := hide (own_below (unhide HSW) hb6)
                have HA6 := hide (unhide HAH w6 hb6)
                clear hb6 OD HAH HXi HBN HSW p0 p1 hw9
                have HX9 := unhide HXY
                have HTK : Hid (bet F j (bitF x) (bitF (blkX F j y)) = true → Value.int .i64 ((L : Int) - (od : Int)) = Value.int .i64 (valB F j (bitF (blkX F j (y + 1)))) ∧ InOwn w6 w.heap.size (.slice As L cs) (setTo (bitF (blkX F j (y + 1))) j)) := fun h => by
                  have e := unhide HBT2 h
                  rw [HX9] at e
                  have e2 := unhide hvn
                  have e3 : InOwn w6 w.heap.size (.slice As L cs) Ks := by rw [unhide HL]; exact unhide HS6
                  rw [e2]
                  rw [unhide HKS] at e3
                  rw [e, ← HX9]
                  exact ⟨rfl, e3⟩
                have HKP : Hid (bet F j (bitF x) (bitF (blkX F j y)) = false → Value.int .i64 lv = Value.int .i64 (valB F j (bitF (blkX F j (y + 1)))) ∧ InOwn w6 w.heap.size (.slice Ab Lb cb) (setTo (bitF (blkX F j (y + 1))) j)) := fun h => by
                  have e := unhide HBK h
                  rw [HX9] at e
                  have e3 : InOwn w6 w.heap.size (.slice Ab Lb cb) Kb := by rw [unhide HLB]; exact unhide HB6
                  rw [← unhide HKB] at e3
                  rw [e, ← unhide HLV]
                  exact ⟨rfl, e3⟩
                have hxn : (x : Int) + 1 = ((y + 1 + 1 : Nat) : Int) := by omega
                have hxt2 : y + 1 + 1 ≤ t := by omega
                have HXN := hide hxn
                clear HX9 hxn HBT2 HBT HBK HB6 HS6 HKS HKB HLV HXY hvn HO HBI HRJ HVAL HODD HOL HRV hbi hb hzi hwl
                by_cases c1 : (L : Int) - (od : Int) < lv
                · have hbet : bet F j (bitF x) (bitF (blkX F j y)) = true := by rw [unhide HBE, decide_eq_true c1]; rfl
                  have H9 := hide (unhide HTK hbet)
                  clear hbet HTK HKP HBE HA6
                  go_wp2_with fail
                  exact ⟨⟨y + 1, (by rw [← unhide HXN]; try go_num), hxt2, (unhide H9).1, (unhide H9).2, unhide HX6, hw6⟩, by simp [intOf]; omega⟩
                · by_cases c2 : (L : Int) - (od : Int) = lv
                  · have t2 : ((L : Int) - (od : Int) == lv) = true := by rw [beq_iff_eq]; exact c2
                    by_cases c3 : L < Lb
                    · have hbet : bet F j (bitF x) (bitF (blkX F j y)) = true := by rw [unhide HBE, decide_eq_false c1, decide_eq_true c2, decide_eq_true c3]; rfl
                      have H9 := hide (unhide HTK hbet)
                      have t3 : (L : Int) < (Lb : Int) := by omega
                      clear hbet HTK HKP HBE HA6 c2
                      go_wp2_with fail
                      exact ⟨⟨y + 1, (by rw [← unhide HXN]; try go_num), hxt2, (unhide H9).1, (unhide H9).2, unhide HX6, hw6⟩, by simp [intOf]; omega⟩
                    · by_cases c4 : L = Lb
                      · have t3 : ¬ (L : Int) < (Lb : Int) := by omega
                        have t4 : ((L : Int) == (Lb : Int)) = true := by rw [beq_iff_eq]; omega
                        have hbet : bet F j (bitF x) (bitF (blkX F j y)) = ah := by rw [unhide HBE, decide_eq_false c1, decide_eq_true c2, decide_eq_false c3, decide_eq_true c4]; simp
                        have HBH := hide hbet
                        clear hbet HBE c2 c3 c4
                        go_wp2_with fail
                        refine (unhide HA6).mono ?_
                        rintro e w7 ⟨rfl, hb7⟩
                        have hw7 := hw6.trans (hb7.mono hw6.size)
                        have HX7 := hide ((unhide HX6).below hb7)
                        cases ah with
                        | true =>
                          have H9 := hide (unhide HTK (unhide HBH))
                          have HO7 := hide (own_below (unhide H9).2 hb7)
                          clear HTK HKP HA6 HBH hb7
                          go_wp2_with fail
                          exact ⟨⟨y + 1, (by rw [← unhide HXN]; try go_num), hxt2, (unhide H9).1, unhide HO7, unhide HX7, hw7⟩, by simp [intOf]; omega⟩
                        | false =>
                          have H9 := hide (unhide HKP (unhide HBH))
                          have HO7 := hide (own_below (unhide H9).2 hb7)
                          clear HTK HKP HA6 HBH hb7
                          go_wp2_with fail
                          exact ⟨⟨y + 1, (by rw [← unhide HXN]; try go_num), hxt2, (unhide H9).1, unhide HO7, unhide HX7, hw7⟩, by simp [intOf]; omega⟩
                      · have hbet : bet F j (bitF x) (bitF (blkX F j y)) = false := by rw [unhide HBE, decide_eq_false c1, decide_eq_true c2, decide_eq_false c3, decide_eq_false c4]; rfl
                        have H9 := hide (unhide HKP hbet)
                        have t3 : ¬ (L : Int) < (Lb : Int) := by omega
                        have t4 : ((L : Int) == (Lb : Int)) = false := by rw [beq_eq_false_iff_ne]; omega
                        clear hbet HTK HKP HBE HA6 c2 c3 c4
                        go_wp2_with fail
                        exact ⟨⟨y + 1, (by rw [← unhide HXN]; try go_num), hxt2, (unhide H9).1, (unhide H9).2, unhide HX6, hw6⟩, by simp [intOf]; omega⟩
                  · have hbet : bet F j (bitF x) (bitF (blkX F j y)) = false := by rw [unhide HBE, decide_eq_false c1, decide_eq_false c2]; rfl
                    have H9 := hide (unhide HKP hbet)
                    have t2 : ((L : Int) - (od : Int) == lv) = false := by rw [beq_eq_false_iff_ne]; exact c2
                    clear hbet HTK HKP HBE HA6 c2
                    go_wp2_with fail
                    exact ⟨⟨y + 1, (by rw [← unhide HXN]; try go_num), hxt2, (unhide H9).1, (unhide H9).2, unhide HX6, hw6⟩, by simp [intOf]; omega⟩
          · have hy2 : y = 2 ^ k - 1 := by have e := unhide HT; omega
            have hrv := unhide HRV
            rw [← hy2] at hrv
            have HOV : Hid (InOwn wr w.heap.size (.slice Ab (setTo (bitF (blkX F k y)) k).length cb) V) := by
              show InOwn _ _ _ _
              rw [hrv]
              exact unhide HO
            have hyt : ¬ (((y + 1 : Nat)) : Int) < (t : Int) := by omega
            clear hrv hy2 HO HBT HBK HBI
            go_wp2_with fail
            go_ret
            exact ⟨⟨_, rfl, unhide HOV⟩, hb⟩

end Lk
end Go.Proofs.Ytfhclbpbjlbebaa

/-
  The contract of impl.Blocks.
-/
namespace Go.Proofs.Ytfhclbpbjlbebaa
namespace Lk
open Go.RowKit
open Gr (Blk Kept EdgeI GrAt GBox Fresh below_new setMany setMany_all below_setCells InOwn InAt own_below own_lower intsV intsAt_of_own graphOk implGraph_gen)

theorem there_new (u : World) (Z : Array Value) (t : TypeId) (g n : Nat) (hg : g = u.heap.size) (hn : n ≤ Z.size) : (u.alloc (Obj.cells Z t)).there g 0 n := by
  subst hg
  exact (Gr.Blk.new0 : Blk (u.alloc (Obj.cells Z t)) u.heap.size Z t).there 0 n (by simpa using hn)

theorem fresh_many {w W : World} {g : Nat} {vs : List Value} (h : Fresh w W) (hg : w.heap.size ≤ g) : Fresh w (W.setCells g 0 vs) := below_setCells _ g hg vs 0 W w h

theorem size_many : ∀ (vs : List Value) (g o : Nat) (u : World), (u.setCells g o vs).heap.size = u.heap.size
  | [], _, _, _ => rfl
  | v :: r, g, o, u => by
    rw [World.setCells, size_many r]
    simp

theorem blk_store {W : World} {g : Nat} {Z : Array Value} {L : List Value} {t : TypeId} (h : Blk W g Z t) (hs : Z.size = L.length) : Blk (W.setCells g 0 L) g L.toArray t := by
  have h1 := Gr.Blk.many L 0 h
  have e := setMany_all Z L.toArray (by simpa using hs)
  simp only at e
  rwa [e] at h1

theorem there_block' {w w' : World} {g n : Nat} (h : w.there g 0 n) (_hn : 0 < n) (hb : Below w.heap.size w w') : w'.there g 0 n := fun j hj => by
  have h0 := (h j hj).1
  have hlt : g < w.heap.size := by
    unfold World.cell? at h0
    by_cases e : g < w.heap.size
    · exact e
    · simp only [] at h0
      rw [Array.getElem?_eq_none (by omega)] at h0
      cases h0
  have e := hb.block g hlt
  obtain ⟨h1, h2⟩ := h j hj
  constructor
  · unfold World.cell? at h1 ⊢
    simp only [] at h1 ⊢
    rw [e]; exact h1
  · unfold World.frozen? at h2 ⊢
    simp only [] at h2 ⊢
    rw [e]; exact h2

set_option maxRecDepth 100000 in
set_option maxHeartbeats 8000000 in
theorem implBlocks_gen (B : Nat) (v : Value) (s : Int) (Q : List EdgeI) (h1 : Q.length ≤ 1048576) (w : World) (hB : B ≤ w.heap.size) (hv : GrAt w v B s Q) :
    Calls Try.prog 8 #[v] w fun e w' => (∃ d, e = .returned d ∧ InOwn w' w.heap.size d (blocksR s Q)) ∧ Below w.heap.size w w' := by
  have OK := hide (fun w1 (hb : Below w.heap.size w w1) => implGraph_gen B v s Q h1 w1 (by have := hb.size; omega) (hv.below hb hB))
  have LI := hide (fun (hg : graphOk s Q = true) w1 (hb : Below w.heap.size w w1) => links_any B v s Q h1 (apart_of hg).1 w1 (by have := hb.size; omega) (hv.below hb hB))
  have HR : Hid (graphOk s Q = true → 0 ≤ s ∧ s ≤ 9 ∧ blocksR s Q = setTo (bitF (blkX (lnkF Q) s.toNat (2 ^ s.toNat - 1))) s.toNat) := fun h => by
    obtain ⟨s0, s9⟩ := ok_size h
    exact ⟨s0, s9, by unfold blocksR; rw [if_pos h]⟩
  have HR0 : Hid (graphOk s Q = false → blocksR s Q = []) := fun h => by unfold blocksR; rw [h]; rfl
  obtain ⟨a, n', c, rfl, _⟩ := hv
  generalize blocksR s Q = V at HR HR0 ⊢
  generalize graphOk s Q = gk at OK LI HR HR0
  obtain ⟨F, hF⟩ : ∃ F, F = lnkF Q := ⟨_, rfl⟩
  rw [← hF] at LI HR
  clear h1 hF
  have hzv := zero_fl
  have HZ : Hid (Array.size (fl fun _ => false) = 9) := fl_size _
  generalize (fl fun _ => false) = Z at hzv HZ
  have hzt := zero_tb
  have HZT : Hid (Array.size (tb fun _ _ => false) = 81) := tb_size _
  generalize (tb fun _ _ => false) = ZT at hzt HZT
  go_enter Try.func8, Try.ntmps8
  go_wp2_with fail
  obtain ⟨V1, hV1⟩ : ∃ W, W = w.alloc (Obj.cells #[Value.int .i64 s, Value.slice a n' c] 26) := ⟨_, rfl⟩
  rw [← hV1]
  have x1 : GBox V1 w.heap.size s (.slice a n' c) := by rw [hV1]; exact GBox.new _ _ _
  have b1 : Below w.heap.size w V1 := by rw [hV1]; exact below_new _ _
  clear hV1
  refine (unhide OK V1 b1).mono ?_
  rintro e w2 ⟨rfl, hb2⟩
  have x2 := x1.below hb2
  have b2 := b1.trans (hb2.mono b1.size)
  obtain ⟨p0, p1⟩ := x2.cells
  have z2 := x2.lt
  clear hb2 x1 OK b1
  cases gk
  · have hR := unhide HR0 rfl
    subst hR
    go_wp2
    go_ret
    exact ⟨⟨_, rfl, own_nil _ _⟩, b2⟩
  · obtain ⟨s0, s9, hR⟩ := unhide HR rfl
    obtain ⟨n, rfl⟩ := Int.eq_ofNat_of_zero_le s0
    have hn9 : n ≤ 9 := by omega
    rw [Int.toNat_natCast] at hR
    have HRV := hide hR
    have LI2 := hide (unhide LI rfl)
    have AV := hide (fun W => allV_any n hn9 W)
    have hi2 := hide (infoVF (allF n))
    have h1C := hide (fl_one (allF n))
    have HCS : Hid (Z.size = (fl (allF n)).size) := by show _ = _; rw [fl_size, unhide HZ]
    have hiT := hide (infoTF F)
    have h1T := hide (tb_one F)
    have HTS : Hid (ZT.size = (tb F).size) := by show _ = _; rw [tb_size, unhide HZT]
    obtain ⟨CA, hCA⟩ : ∃ CA, CA = fl (allF n) := ⟨_, rfl⟩
    obtain ⟨CT, hCT⟩ : ∃ CT, CT = tb F := ⟨_, rfl⟩
    rw [← hCA] at AV hi2 h1C HCS
    rw [← hCT] at LI2 hiT h1T HTS
    have HCA := hide hCA
    have HCT := hide hCT
    have HX2 := hide x2
    have HB2 := hide b2
    have HCE : Hid (∀ W, Fresh w2 W → W.cell? ⟨w.heap.size, 0, none⟩ = some (.int .i64 (n : Int)) ∧ W.cell? ⟨w.heap.size, 1, none⟩ = some (.slice a n' c)) := fun W hW => ((unhide HX2).below hW).cells
    have HLI : Hid (∀ W, Fresh w2 W → Calls Try.prog 25 #[.agg #[.int .i64 (n : Int), .slice a n' c]] W fun e w' => e = .returned (.agg CT) ∧ Below W.heap.size W w') := fun W hW => unhide LI2 W ((unhide HB2).trans (Below.mono hW (unhide HB2).size))
    clear hR HR HR0 LI LI2 hCA hCT x2
    have hF0 : Fresh w2 w2 := Gr.Fresh.refl _
    obtain ⟨LT, hLT⟩ : ∃ LT : List Value, CT = LT.toArray := ⟨CT.toList, by simp⟩
    obtain ⟨LA, hLA⟩ : ∃ LA : List Value, CA = LA.toArray := ⟨CA.toList, by simp⟩
    subst hLT
    subst hLA
    have hz81 : LT.length = 81 := by have e := unhide HTS; rw [unhide HZT] at e; simpa using e.symm
    have hz9 : LA.length = 9 := by have e := unhide HCS; rw [unhide HZ] at e; simpa using e.symm
    have HZ81 := hide hz81
    have HZ9 := hide hz9
    have hiT' := unhide hiT
    have hi2' := unhide hi2
    have hall1 : ∀ v ∈ LT, v.oneCell' = true := fun v hv => by have h := unhide h1T; rw [Array.all_eq_true_iff_forall_mem] at h; exact h v (by simpa using hv)
    have hall2 : ∀ v ∈ LA, v.oneCell' = true := fun v hv => by have h := unhide h1C; rw [Array.all_eq_true_iff_forall_mem] at h; exact h v (by simpa using hv)
    have hr1 : ∀ (u : World) (g : Nat), g = u.heap.size → (u.alloc (Obj.cells ZT 56)).there g 0 LT.length := fun u g h => there_new u ZT _ g _ h (by rw [unhide HZ81, unhide HZT]; omega)
    have hr2 : ∀ (u : World) (g : Nat), g = u.heap.size → (u.alloc (Obj.cells Z 54)).there g 0 LA.length := fun u g h => there_new u Z _ g _ h (by rw [unhide HZ9, unhide HZ]; omega)
    have hr3 : ∀ (u : World) (o : Obj) (g : Nat), u.there g 0 LT.length → (u.alloc o).there g 0 LT.length := fun u o g h => there_block' h (by rw [unhide HZ81]; omega) (below_new _ _)
    have hr4 : ∀ (u : World) (o : Obj) (g : Nat), u.there g 0 LA.length → (u.alloc o).there g 0 LA.length := fun u o g h => there_block' h (by rw [unhide HZ9]; omega) (below_new _ _)
    have hr5 : ∀ (u : World) (g h : Nat) (vs : List Value), u.there g 0 LT.length → (u.setCells h 0 vs).there g 0 LT.length := fun u g h vs ht => World.there_setCells ht h 0 vs
    have hr6 : ∀ (u : World) (g h : Nat) (vs : List Value), u.there g 0 LA.length → (u.setCells h 0 vs).there g 0 LA.length := fun u g h vs ht => World.there_setCells ht h 0 vs
    have hdr : ∀ u : World, u.drew.heap.size = u.heap.size := fun _ => rfl
    have hss : ∀ (u : World) (g : Nat) (vs : List Value), (u.setCells g 0 vs).heap.size = u.heap.size := fun u g vs => size_many vs g 0 u
    have hsz : ∀ (u : World) (o : Obj), (u.alloc o).heap.size = u.heap.size + 1 := fun _ _ => by simp
    have hs1a : ∀ (u : World) (g h : Nat) (vs : List Value), g = u.heap.size → ((u.alloc (Obj.cells ZT 56)).setCells h 0 vs).there g 0 LT.length := fun u g h vs e => hr5 _ _ _ _ (hr1 _ _ e)
    have hs1b : ∀ (u : World) (o : Obj) (g : Nat), g = u.heap.size → ((u.alloc (Obj.cells ZT 56)).alloc o).there g 0 LT.length := fun u o g e => hr3 _ _ _ (hr1 _ _ e)
    have hs1c : ∀ (u : World) (o : Obj) (g h : Nat) (vs : List Value), g = u.heap.size → (((u.alloc (Obj.cells ZT 56)).alloc o).setCells h 0 vs).there g 0 LT.length := fun u o g h vs e => hr5 _ _ _ _ (hr3 _ _ _ (hr1 _ _ e))
    have hs1d : ∀ (u : World) (o : Obj) (g h : Nat) (vs : List Value), u.there g 0 LT.length → ((u.alloc o).setCells h 0 vs).there g 0 LT.length := fun u o g h vs e => hr5 _ _ _ _ (hr3 _ _ _ e)
    have hs1e : ∀ (u : World) (o : Obj) (g h : Nat) (vs : List Value), g = u.heap.size + 1 → (((u.alloc o).alloc (Obj.cells ZT 56)).setCells h 0 vs).there g 0 LT.length := fun u o g h vs e => hr5 _ _ _ _ (hr1 _ _ (by rw [e]; simp))
    have hs1f : ∀ (u : World) (o : Obj) (g : Nat), g = u.heap.size + 1 → ((u.alloc o).alloc (Obj.cells ZT 56)).there g 0 LT.length := fun u o g e => hr1 _ _ (by rw [e]; simp)
    have hs2a : ∀ (u : World) (g h : Nat) (vs : List Value), g = u.heap.size → ((u.alloc (Obj.cells Z 54)).setCells h 0 vs).there g 0 LA.length := fun u g h vs e => hr6 _ _ _ _ (hr2 _ _ e)
    have hs2b : ∀ (u : World) (o : Obj) (g : Nat), g = u.heap.size → ((u.alloc (Obj.cells Z 54)).alloc o).there g 0 LA.length := fun u o g e => hr4 _ _ _ (hr2 _ _ e)
    have hs2c : ∀ (u : World) (o : Obj) (g h : Nat) (vs : List Value), g = u.heap.size → (((u.alloc (Obj.cells Z 54)).alloc o).setCells h 0 vs).there g 0 LA.length := fun u o g h vs e => hr6 _ _ _ _ (hr4 _ _ _ (hr2 _ _ e))
    have hs2d : ∀ (u : World) (o : Obj) (g h : Nat) (vs : List Value), u.there g 0 LA.length → ((u.alloc o).setCells h 0 vs).there g 0 LA.length := fun u o g h vs e => hr6 _ _ _ _ (hr4 _ _ _ e)
    have hs2e : ∀ (u : World) (o : Obj) (g h : Nat) (vs : List Value), g = u.heap.size + 1 → (((u.alloc o).alloc (Obj.cells Z 54)).setCells h 0 vs).there g 0 LA.length := fun u o g h vs e => hr6 _ _ _ _ (hr2 _ _ (by rw [e]; simp))
    have hs2f : ∀ (u : World) (o : Obj) (g : Nat), g = u.heap.size + 1 → ((u.alloc o).alloc (Obj.cells Z 54)).there g 0 LA.length := fun u o g e => hr2 _ _ (by rw [e]; simp)
    have HS81 : Hid (ZT.size = LT.length) := by show _ = _; rw [unhide HZ81, unhide HZT]
    have HS9 : Hid (Z.size = LA.length) := by show _ = _; rw [unhide HZ9, unhide HZ]
    clear hz81 hz9
    go_upto_region 3 with fail
    go_cut [3, 4] (fun p3 p4 wx => ∃ T L, p3 = .pointer (some ⟨T, 0, none⟩) ∧ p4 = .pointer (some ⟨L, 0, none⟩) ∧ w2.heap.size ≤ T ∧ w2.heap.size ≤ L ∧ Blk wx T LT.toArray 56 ∧ Blk wx L LA.toArray 54 ∧ Fresh w2 wx)
    case first =>
      go_region_held3 (fun u => u.cell? ⟨w.heap.size, 0, none⟩ = some (.int .i64 (n : Int)) ∧ u.cell? ⟨w.heap.size, 1, none⟩ = some (.slice a n' c))
        (first
          | go_keep
          | (refine unhide HCE _ ?_; ((repeat (first | (with_reducible assumption) | (with_reducible refine Gr.Fresh.drew ?_) | (with_reducible refine Gr.Fresh.alloc ?_) | (with_reducible refine fresh_many ?_ (by omega)))); done)))
        (first
          | (go_at_call 25; refine (unhide HLI _ (by ((repeat (first | (with_reducible assumption) | (with_reducible refine Gr.Fresh.drew ?_) | (with_reducible refine Gr.Fresh.alloc ?_) | (with_reducible refine fresh_many ?_ (by omega)))); done))).mono ?_; rintro e w5 ⟨rfl, hb5⟩; have hF5 : Fresh w2 w5 := Gr.Fresh.below (by ((repeat (first | (with_reducible assumption) | (with_reducible refine Gr.Fresh.drew ?_) | (with_reducible refine Gr.Fresh.alloc ?_) | (with_reducible refine fresh_many ?_ (by omega)))); done)) hb5; have hT5 : ∀ g : Nat, _ → w5.there g 0 LA.length := fun g h => there_block' h (by rw [unhide HZ9]; omega) hb5; have hz5 := hF5.size; have hB5 : ∀ (g : Nat) (C : Array Value) (t : TypeId), Blk _ g C t → Blk w5 g C t := fun g C t h => Gr.Blk.below h hb5; have hU5 : ∀ g : Nat, _ → w5.there g 0 LT.length := fun g h => there_block' h (by rw [unhide HZ81]; omega) hb5; (first | have t5 := hU5 _ (hr1 _ _ rfl) | have t5 := hU5 _ (hs1b _ _ _ rfl) | have t5 := hU5 _ (hs1f _ _ _ rfl) | have t5 := hU5 _ (hs1a _ _ _ _ rfl) | have t5 := hU5 _ (hs1c _ _ _ _ _ rfl) | have t5 := hU5 _ (hs1e _ _ _ _ _ rfl) | have t5 := hU5 _ t6 | have t5 := hU5 _ (hr3 _ _ _ t6) | have t5 := hU5 _ (hr5 _ _ _ _ t6) | have t5 := hU5 _ (hs1d _ _ _ _ _ t6) | skip); (first | have l5 := hT5 _ (hr2 _ _ rfl) | have l5 := hT5 _ (hs2b _ _ _ rfl) | have l5 := hT5 _ (hs2f _ _ _ rfl) | have l5 := hT5 _ (hs2a _ _ _ _ rfl) | have l5 := hT5 _ (hs2c _ _ _ _ _ rfl) | have l5 := hT5 _ (hs2e _ _ _ _ _ rfl) | have l5 := hT5 _ l6 | have l5 := hT5 _ (hr4 _ _ _ l6) | have l5 := hT5 _ (hr6 _ _ _ _ l6) | have l5 := hT5 _ (hs2d _ _ _ _ _ l6) | skip); (try rw [hsz] at t5); (try rw [hdr] at t5); (try rw [hsz] at l5); (try rw [hdr] at l5); have hy5 := hb5.size; (try rw [hdr] at hy5); (try rw [hss] at hy5); (try rw [hsz] at hy5); (try rw [hsz] at hy5); (try rw [hdr] at hy5))
          | (go_at_call 26; refine (unhide AV _).mono ?_; rintro e w6 ⟨rfl, hb6⟩; have hF6 : Fresh w2 w6 := Gr.Fresh.below (by ((repeat (first | (with_reducible assumption) | (with_reducible refine Gr.Fresh.drew ?_) | (with_reducible refine Gr.Fresh.alloc ?_) | (with_reducible refine fresh_many ?_ (by omega)))); done)) hb6; have hT6 : ∀ g : Nat, _ → w6.there g 0 LA.length := fun g h => there_block' h (by rw [unhide HZ9]; omega) hb6; have hz6 := hF6.size; have hB6 : ∀ (g : Nat) (C : Array Value) (t : TypeId), Blk _ g C t → Blk w6 g C t := fun g C t h => Gr.Blk.below h hb6; have hU6 : ∀ g : Nat, _ → w6.there g 0 LT.length := fun g h => there_block' h (by rw [unhide HZ81]; omega) hb6; (first | have t6 := hU6 _ (hr1 _ _ rfl) | have t6 := hU6 _ (hs1b _ _ _ rfl) | have t6 := hU6 _ (hs1f _ _ _ rfl) | have t6 := hU6 _ (hs1a _ _ _ _ rfl) | have t6 := hU6 _ (hs1c _ _ _ _ _ rfl) | have t6 := hU6 _ (hs1e _ _ _ _ _ rfl) | have t6 := hU6 _ t5 | have t6 := hU6 _ (hr3 _ _ _ t5) | have t6 := hU6 _ (hr5 _ _ _ _ t5) | have t6 := hU6 _ (hs1d _ _ _ _ _ t5) | skip); (first | have l6 := hT6 _ (hr2 _ _ rfl) | have l6 := hT6 _ (hs2b _ _ _ rfl) | have l6 := hT6 _ (hs2f _ _ _ rfl) | have l6 := hT6 _ (hs2a _ _ _ _ rfl) | have l6 := hT6 _ (hs2c _ _ _ _ _ rfl) | have l6 := hT6 _ (hs2e _ _ _ _ _ rfl) | have l6 := hT6 _ l5 | have l6 := hT6 _ (hr4 _ _ _ l5) | have l6 := hT6 _ (hr6 _ _ _ _ l5) | have l6 := hT6 _ (hs2d _ _ _ _ _ l5) | skip); (try rw [hsz] at t6); (try rw [hdr] at t6); (try rw [hsz] at l6); (try rw [hdr] at l6); have hy6 := hb6.size; (try rw [hdr] at hy6); (try rw [hss] at hy6); (try rw [hsz] at hy6); (try rw [hsz] at hy6); (try rw [hdr] at hy6)))
      all_goals
        clear hall1 hall2
        go_wp2_with fail
        go_meet
        exact ⟨_, _, rfl, rfl, by omega, by omega, by ((repeat (first | (with_reducible assumption) | (with_reducible refine blk_store ?_ (by first | exact unhide HS81 | exact unhide HS9)) | (with_reducible refine Gr.Blk.many_other (by omega) _ _ ?_) | (with_reducible refine Gr.Blk.drew ?_) | exact Gr.Blk.new0 | exact Gr.Blk.new1 | (with_reducible refine Gr.Blk.alloc ?_) | (with_reducible refine hB5 _ _ _ ?_) | (with_reducible refine hB6 _ _ _ ?_))); done), by ((repeat (first | (with_reducible assumption) | (with_reducible refine blk_store ?_ (by first | exact unhide HS81 | exact unhide HS9)) | (with_reducible refine Gr.Blk.many_other (by omega) _ _ ?_) | (with_reducible refine Gr.Blk.drew ?_) | exact Gr.Blk.new0 | exact Gr.Blk.new1 | (with_reducible refine Gr.Blk.alloc ?_) | (with_reducible refine hB5 _ _ _ ?_) | (with_reducible refine hB6 _ _ _ ?_))); done), by ((repeat (first | (with_reducible assumption) | (with_reducible refine Gr.Fresh.drew ?_) | (with_reducible refine Gr.Fresh.alloc ?_) | (with_reducible refine fresh_many ?_ (by omega)))); done)⟩
    case rest =>
      obtain ⟨T, L, rfl, rfl, hT0, hL0, hBT, hBL, hF⟩ := hcut
      have hLS : ∀ W, Calls Try.prog 27 #[.agg LA.toArray] W fun e w' => (∃ d, e = .returned d ∧ InOwn w' W.heap.size d (setTo (allF n) 9)) ∧ Below W.heap.size W w' := fun W => by rw [unhide HCA]; exact list_any (allF n) W
      have HLS := hide hLS
      have hr9 : wc.rangeAt L 0 LA := by have h := hBL.range; simpa using h
      have hL9 := hBL.lt
      have hw9 := z2
      obtain ⟨g0, g1⟩ := unhide HCE wc hF
      have hcsz : (Try.prog.info? 54).map (·.size) = some LA.length := by simpa using hi2'
      have hund := Try.underlying54
      have hzF := hF.size
      have hlw : w.heap.size < wc.heap.size := by omega
      clear hLS hr1 hr2 hr3 hr4 hr5 hr6 hdr hss hsz hs1a hs1b hs1c hs1d hs1e hs1f hs2a hs2b hs2c hs2d hs2e hs2f hall1 hall2 hiT' hi2' g1
      go_upto_region 4 with fail
      go_region_held3 (fun u => u.cell? ⟨w.heap.size, 0, none⟩ = some (.int .i64 (n : Int)) ∧ u.rangeAt L 0 LA)
        (first | exact ⟨(hb8.cell (p := ⟨w.heap.size, 0, none⟩) hlw).trans g0, hr8⟩ | exact ⟨g0, hr9⟩ | go_keep)
        (first | (go_at_call 27; refine (unhide HLS _).mono ?_; rintro e w8 ⟨⟨d, rfl, ho⟩, hb8q⟩; have hb8 : Below wc.heap.size wc w8 := (Below.refl _ _).drew.trans hb8q; have hr8 : w8.rangeAt L 0 LA := (by have h := (hBL.below hb8).range; simpa using h)))
      obtain ⟨A8, c8, rfl, _⟩ := intsAt_of_own ho
      have hBT8 := hBT.below hb8
      have hBL8 := hBL.below hb8
      have hF8 : Fresh w2 w8 := hF.trans (hb8.mono hF.size)
      have ho8 : InOwn w8 w2.heap.size (.slice A8 (setTo (allF n) 9).length c8) (setTo (allF n) 9) := own_lower hF.size ho
      have hlw8 := Nat.lt_of_lt_of_le hlw hb8.size
      have hL8 := hBL8.lt
      have hzF8 := hF8.size
      have g08 := (hb8.cell (p := ⟨w.heap.size, 0, none⟩) hlw).trans g0
      clear hb8q hBT hBL hb8 hr9 ho hF hlw g0 hL9 hzF
      have hiL := hi2
      obtain ⟨V3, hV3⟩ : ∃ W, W = w8.alloc (Obj.cells Z 54) := ⟨_, rfl⟩
      have hB3 : Blk V3 w8.heap.size Z 54 := by rw [hV3]; exact Gr.Blk.new0
      have t3 : V3.there w8.heap.size 0 LA.toArray.size := hB3.there 0 _ (by have := unhide HS9; simp; omega)
      obtain ⟨V4, hV4⟩ : ∃ W, W = V3.setCells w8.heap.size 0 LA := ⟨_, rfl⟩
      have hB4 : Blk V4 w8.heap.size LA.toArray 54 := by rw [hV4]; exact blk_store hB3 (unhide HS9)
      have hBT4 : Blk V4 T LT.toArray 56 := by
        rw [hV4, hV3]
        exact Gr.Blk.many_other (by have := hBT8.lt; omega) _ _ hBT8.alloc
      have hBL4 : Blk V4 L LA.toArray 54 := by
        rw [hV4, hV3]
        exact Gr.Blk.many_other (by omega) _ _ hBL8.alloc
      have hF4 : Fresh w2 V4 := by rw [hV4, hV3]; exact fresh_many (Gr.Fresh.alloc hF8) (by omega)
      have ho4 : InOwn V4 w2.heap.size (.slice A8 (setTo (allF n) 9).length c8) (setTo (allF n) 9) := by
        have h1 : Below w8.heap.size w8 V4 := by rw [hV4, hV3]; exact fresh_many (Gr.Fresh.alloc (Gr.Fresh.refl w8)) (Nat.le_refl _)
        exact own_below ho8 h1
      have hr8L : w8.rangeAt L 0 LA := by have h := hBL8.range; simpa using h
      rw [hV3] at t3 hV4
      have T3 := hide t3
      have R8 := hide hr8L
      have h1C' := hide (unhide h1C)
      have hi2'' := hide (unhide hi2)
      have hcs := hide hcsz
      clear t3 hr8L hV3 hB3 hcsz
      go_wp2_with (first
        | refine wpList_store_mid rfl 54 _ _ rfl w8.heap.size 0 LA.toArray rfl rfl (unhide T3) (unhide hi2'') (unhide h1C') ?_
        | refine wpList_load_mid rfl 54 _ rfl L 0 rfl LA _ (unhide R8) Try.underlying54 rfl (unhide hcs) ?_)
      rw [← hV4]
      clear hV4 T3 R8 h1C' hi2'' hcs
      have HCA2 : Hid (LA.toArray = fl (allF n)) := unhide HCA
      have hs0 : setTo (allF n) 9 = setTo (allF n) n := setTo_nine hn9 (fun v h => by simpa [allF] using h)
      rw [hs0] at ho4 ⊢
      simp only [Act.put]
      go_loopg [5, 6, 7] (num n (allF n)) (fun gk bv lv sv wr => ∃ (S : Nat) (cur b : Nat → Bool), sv = .pointer (some ⟨S, 0, none⟩) ∧ lv = .int .i64 (valB F n b) ∧ Hid (gk = num n cur) ∧ Hid (Down F n cur b) ∧ Hid (InOwn wr w2.heap.size bv (setTo b n)) ∧ Hid (Blk wr S (fl cur) 54) ∧ Hid (Blk wr T LT.toArray 56) ∧ Hid (Blk wr L LA.toArray 54) ∧ w2.heap.size ≤ S ∧ L ≠ S ∧ Fresh w2 wr)
      case atStart => exact ⟨w8.heap.size, allF n, allF n, rfl, by rw [val_all], rfl, down0 F n, ho4, (by show Blk _ _ _ _; rw [← unhide HCA2]; exact hB4), hBT4, hBL4, hzF8, by omega, hF4⟩
      case round =>
        clear hs0 ho4 hB4 hBT4 hBL4 hF4 ho8 hBT8 hBL8 hF8 hlw8 hL8 hzF8 g08
        obtain ⟨S, cur, b, rfl, rfl, HG, HD, HO, HS, HT, HLL, hS0, hLS, hF⟩ := hrel
        obtain ⟨Ab, cb, rfl, _⟩ := intsAt_of_own (unhide HO)
        obtain ⟨g0, _⟩ := unhide HCE wr hF
        have HST := hide (step_any n S cur hn9 wr (unhide HS))
        have hTS : ¬ T = S := fun e => by
          subst e
          have h1 := unhide HT
          have h2 := unhide HS
          unfold Blk at h1 h2
          rw [h1] at h2
          simp at h2
        go_wp2_with fail
        refine (unhide HST).mono ?_
        rintro e w5 ⟨⟨_, rfl, bo, rfl, hst⟩, hk5⟩
        have hF5 : Fresh w2 w5 := hF.trans (hk5.below hF.size (fun i hi => by omega))
        have HO5 := hide (Gr.Kept.own_alien hk5 (unhide HO) (fun k hk => by subst hk; exact (unhide HS).alien (by decide)))
        have HT5 := hide ((unhide HT).kept hk5 hTS)
        have HL5 := hide ((unhide HLL).kept hk5 hLS)
        clear HST hk5 HO HT HLL HS hF g0
        cases bo
        · have hz := hst.2 rfl
          have hopt := opt_same F n (down_end F n (unhide HD) hz) (blkX_opt F n)
          have HV5 : Hid (InOwn w5 w.heap.size (.slice Ab (setTo b n).length cb) V) := by show InOwn _ _ _ _; rw [unhide HRV, ← hopt]; exact own_lower (unhide HB2).size (unhide HO5)
          have hbe : Below w.heap.size w w5 := (unhide HB2).trans (Below.mono hF5 (unhide HB2).size)
          clear hst hz hopt HO5 HT5 HL5 HD HG
          go_wp2_with fail
          go_ret
          exact ⟨⟨_, rfl, unhide HV5⟩, hbe⟩
        · obtain ⟨k, hk, hck, hz, hB5⟩ := hst.1 rfl
          have HTK := hide (fun ht => down_take F n (unhide HD) hk hck hz ht)
          have HKP := hide (fun ht => down_keep F n (unhide HD) hk hck hz ht)
          have HNM := hide (num_decF n hk hck hz)
          have hin := dec_in n (k := k) (unhide HD).cin
          have hs9 := setTo_nine hn9 hin
          clear hst hz hck
          generalize decF n k cur = c2 at hB5 HTK HKP HNM hin hs9
          obtain ⟨LC, hLC⟩ : ∃ LC : List Value, fl c2 = LC.toArray := ⟨(fl c2).toList, by simp⟩
          have LSC : Hid (∀ W, Calls Try.prog 27 #[.agg LC.toArray] W fun e w' => (∃ d, e = .returned d ∧ InOwn w' W.heap.size d (setTo c2 n)) ∧ Below W.heap.size W w') := fun W => by rw [← hLC, ← hs9]; exact list_any c2 W
          have hR5 : w5.rangeAt S 0 LC := by have h := hB5.range; rw [hLC] at h; simpa using h
          have R5 := hide hR5
          have hcs5 : Hid ((Try.prog.info? 54).map (·.size) = some LC.length) := by have h := infoVF c2; rw [hLC] at h; show Option.map _ _ = _; simpa using h
          have hcsL : Hid ((Try.prog.info? 54).map (·.size) = some LA.length) := by have h := infoVF (allF n); rw [← unhide HCA2] at h; show Option.map _ _ = _; simpa using h
          have WO : Hid (∀ W, Calls Try.prog 30 #[.agg LA.toArray, .agg LC.toArray] W fun e w' => e = .returned (.agg (fl fun v => allF n v && !c2 v)) ∧ Below W.heap.size W w') := fun W => by rw [unhide HCA2, ← hLC]; exact without_any (allF n) c2 W
          have OPP : Hid (∀ W, Blk W T LT.toArray 56 → Calls Try.prog 29 #[.pointer (some ⟨T, 0, none⟩), .agg (fl fun v => allF n v && !c2 v)] W fun e w' => e = .returned (.int .i64 (oddN (prts F (List.range' 0 9) fun v => allF n v && !c2 v) : Int)) ∧ Below W.heap.size W w') := fun W hW => oddParts_any F _ T W (by rw [← unhide HCT]; exact hW)
          have HVC : Hid (valB F n c2 = ((setTo c2 n).length : Int) - (oddN (prts F (List.range' 0 9) fun v => allF n v && !c2 v) : Int)) := rfl
          have hpl := prts_length F (List.range' 0 9) (fun v => allF n v && !c2 v)
          have HB5 := hide hB5
          have hl2 := setTo_length c2 n
          clear hR5 hB5 hs9
          go_wp2_with (first | refine wpList_load_mid rfl 54 _ rfl S 0 rfl LC _ (unhide R5) Try.underlying54 rfl (unhide hcs5) ?_)
          refine (unhide LSC w5).mono ?_
          rintro e w6 ⟨⟨d, rfl, ho6⟩, hb6⟩
          obtain ⟨A6, c6, rfl, _⟩ := intsAt_of_own ho6
          have hF6 : Fresh w2 w6 := hF5.trans (hb6.mono hF5.size)
          have HO6 := hide (own_below (unhide HO5) hb6)
          have HT6 := hide ((unhide HT5).below hb6)
          have HL6 := hide ((unhide HL5).below hb6)
          have HB6 := hide ((unhide HB5).below hb6)
          have HN6 := hide (own_lower hF5.size ho6)
          have hR6 : w6.rangeAt S 0 LC := by have h := (unhide HB6).range; rw [hLC] at h; simpa using h
          have hRL : w6.rangeAt L 0 LA := by have h := (unhide HL6).range; simpa using h
          have R6 := hide hR6
          have RL := hide hRL
          clear hR6 hRL ho6 hb6 HO5 HT5 HL5 HB5 hF5 R5 LSC
          go_wp2_with (first
            | refine wpList_load_mid rfl 54 _ rfl L 0 rfl LA _ (unhide RL) Try.underlying54 rfl (unhide hcsL) ?_
            | refine wpList_load_mid rfl 54 _ rfl S 0 rfl LC _ (unhide R6) Try.underlying54 rfl (unhide hcs5) ?_)
          refine (unhide WO w6).mono ?_
          rintro e w7 ⟨rfl, hb7⟩
          have hF7 : Fresh w2 w7 := hF6.trans (hb7.mono hF6.size)
          have HT7 := hide ((unhide HT6).below hb7)
          have OP7 := hide (unhide OPP w7 (unhide HT7))
          have hb67 := hide hb7
          clear hb7 WO OPP RL R6 HT6
          go_wp2_with fail
          refine (unhide OP7).mono ?_
          rintro e w9 ⟨rfl, hb9⟩
          have hb69 : Below w6.heap.size w6 w9 := (unhide hb67).trans (hb9.mono (unhide hb67).size)
          have hF9 : Fresh w2 w9 := hF7.trans (hb9.mono hF7.size)
          have HO9 := hide (own_below (unhide HO6) hb69)
          have HT9 := hide ((unhide HT7).below hb9)
          have HL9 := hide ((unhide HL6).below hb69)
          have HB9 := hide ((unhide HB6).below hb69)
          have HN9 := hide (own_below (unhide HN6) hb69)
          clear OP7 hb67 hb69 hb9 HO6 HT7 HL6 HB6 HN6 hF6 hF7
          have hodl : oddN (prts F (List.range' 0 9) fun v => allF n v && !c2 v) ≤ 9 := Nat.le_trans (odd_le _) (by simpa using hpl)
          generalize (oddN (prts F (List.range' 0 9) fun v => allF n v && !c2 v)) = od at HVC hodl
          clear hpl
          have hB3 : Blk (w9.alloc (Obj.cells Z 54)) w9.heap.size Z 54 := Gr.Blk.new0
          have hZC : Z.size = LC.length := by
            have e1 : (fl c2).size = LC.length := by rw [hLC]; simp
            rw [← e1, fl_size, unhide HZ]
          have T3 : Hid ((w9.alloc (Obj.cells Z 54)).there w9.heap.size 0 LC.toArray.size) := hB3.there 0 _ (by simp; omega)
          have hR9 : w9.rangeAt S 0 LC := by have h := (unhide HB9).range; rw [hLC] at h; simpa using h
          have R9 := hide hR9
          have hiC : Hid ((Try.prog.info? 54).map (·.size) = some LC.toArray.size) := by have h := infoVF c2; rw [hLC] at h; exact h
          have h1c : Hid (LC.toArray.all (·.oneCell') = true) := by have h := fl_one c2; rw [hLC] at h; exact h
          obtain ⟨V10, hV10⟩ : ∃ W, W = (w9.alloc (Obj.cells Z 54)).setCells w9.heap.size 0 LC := ⟨_, rfl⟩
          have n10 : Below w9.heap.size w9 V10 := by rw [hV10]; exact fresh_many (Gr.Fresh.alloc (Gr.Fresh.refl w9)) (Nat.le_refl _)
          have hz9 : w2.heap.size ≤ w9.heap.size := hF9.size
          have hLne : L ≠ w9.heap.size := by have := (unhide HL9).lt; omega
          have HBn : Hid (Blk V10 w9.heap.size (fl c2) 54) := by show Blk _ _ _ _; rw [hV10, hLC]; exact blk_store hB3 hZC
          have HTn := hide ((unhide HT9).below n10)
          have HLn := hide ((unhide HL9).below n10)
          have hFn : Fresh w2 V10 := hF9.trans (n10.mono hF9.size)
          have HO10 := hide (own_below (unhide HO9) n10)
          have HN10 := hide (own_below (unhide HN9) n10)
          clear hB3 hZC hR9 n10 HT9 HL9 HB9 HO9 HN9 hF9 hLC
          obtain ⟨lv, hlv⟩ : ∃ lv, lv = valB F n b := ⟨_, rfl⟩
          have HLVB : Hid (Value.int .i64 lv = Value.int .i64 (valB F n b)) := by show _ = _; rw [hlv]
          rw [← hlv] at HTK HKP ⊢
          obtain ⟨L2, hL2⟩ : ∃ x, x = (setTo c2 n).length := ⟨_, rfl⟩
          obtain ⟨Lb, hLb⟩ : ∃ x, x = (setTo b n).length := ⟨_, rfl⟩
          have hlb := setTo_length b n
          have HNf : Hid (InOwn V10 w2.heap.size (.slice A6 L2 c6) (setTo c2 n)) := by show InOwn _ _ _ _; rw [hL2]; exact unhide HN10
          have HOf : Hid (InOwn V10 w2.heap.size (.slice Ab Lb cb) (setTo b n)) := by show InOwn _ _ _ _; rw [hLb]; exact unhide HO10
          clear HN10 HO10
          rw [← hL2] at HTK HKP HVC hl2 ⊢
          rw [← hLb] at HTK HKP hlb ⊢
          have HVW : Hid (Value.int .i64 ((L2 : Int) - (od : Int)) = Value.int .i64 (valB F n c2)) := by show _ = _; rw [unhide HVC]
          have HVC2 : Hid (valB F n c2 = (L2 : Int) - (od : Int)) := unhide HVC
          rw [unhide HVC] at HTK HKP
          clear hlv hL2 hLb HVC HD
          by_cases k1 : (L2 : Int) - (od : Int) < lv
          · have HD2 := hide (unhide HTK (.inl k1))
            clear HTK HKP HVC2 HOf
            go_wp2_with (first
              | refine wpList_store_mid rfl 54 _ _ rfl w9.heap.size 0 LC.toArray rfl rfl (unhide T3) (unhide hiC) (unhide h1c) ?_
              | refine wpList_load_mid rfl 54 _ rfl S 0 rfl LC _ (unhide R9) Try.underlying54 rfl (unhide hcs5) ?_)
            rw [← hV10]
            simp only [Act.put]
            go_roundg (num n c2)
            case measure => have := unhide HG; have := unhide HNM; omega
            case rel => exact ⟨w9.heap.size, c2, c2, rfl, unhide HVW, rfl, HD2, HNf, HBn, HTn, HLn, hz9, hLne, hFn⟩
          · by_cases k2 : (L2 : Int) - (od : Int) = lv
            · have t2 : ((L2 : Int) - (od : Int) == lv) = true := by rw [beq_iff_eq]; exact k2
              by_cases k3 : L2 < Lb
              · have t3 : (L2 : Int) < (Lb : Int) := by omega
                have HD2 := hide (unhide HTK (.inr ⟨k2, k3⟩))
                clear k2
                clear HTK HKP HVC2 HOf
                go_wp2_with (first
              | refine wpList_store_mid rfl 54 _ _ rfl w9.heap.size 0 LC.toArray rfl rfl (unhide T3) (unhide hiC) (unhide h1c) ?_
              | refine wpList_load_mid rfl 54 _ rfl S 0 rfl LC _ (unhide R9) Try.underlying54 rfl (unhide hcs5) ?_)
                rw [← hV10]
                simp only [Act.put]
                go_roundg (num n c2)
                case measure => have := unhide HG; have := unhide HNM; omega
                case rel => exact ⟨w9.heap.size, c2, c2, rfl, unhide HVW, rfl, HD2, HNf, HBn, HTn, HLn, hz9, hLne, hFn⟩
              · have t3 : ¬ (L2 : Int) < (Lb : Int) := by omega
                have HD2 := hide (unhide HKP (fun h => h.elim k1 (fun h => k3 h.2)))
                clear HTK HKP HVC2 HNf HVW
                go_wp2_with (first
              | refine wpList_store_mid rfl 54 _ _ rfl w9.heap.size 0 LC.toArray rfl rfl (unhide T3) (unhide hiC) (unhide h1c) ?_
              | refine wpList_load_mid rfl 54 _ rfl S 0 rfl LC _ (unhide R9) Try.underlying54 rfl (unhide hcs5) ?_)
                rw [← hV10]
                simp only [Act.put]
                go_roundg (num n c2)
                case measure => have := unhide HG; have := unhide HNM; omega
                case rel => exact ⟨w9.heap.size, c2, b, rfl, unhide HLVB, rfl, HD2, HOf, HBn, HTn, HLn, hz9, hLne, hFn⟩
            · have t2 : ((L2 : Int) - (od : Int) == lv) = false := by rw [beq_eq_false_iff_ne]; exact k2
              have HD2 := hide (unhide HKP (fun h => h.elim k1 (fun h => k2 h.1)))
              clear HTK HKP HVC2 HNf HVW
              go_wp2_with (first
              | refine wpList_store_mid rfl 54 _ _ rfl w9.heap.size 0 LC.toArray rfl rfl (unhide T3) (unhide hiC) (unhide h1c) ?_
              | refine wpList_load_mid rfl 54 _ rfl S 0 rfl LC _ (unhide R9) Try.underlying54 rfl (unhide hcs5) ?_)
              rw [← hV10]
              simp only [Act.put]
              go_roundg (num n c2)
              case measure => have := unhide HG; have := unhide HNM; omega
              case rel => exact ⟨w9.heap.size, c2, b, rfl, unhide HLVB, rfl, HD2, HOf, HBn, HTn, HLn, hz9, hLne, hFn⟩

end Lk
end Go.Proofs.Ytfhclbpbjlbebaa
