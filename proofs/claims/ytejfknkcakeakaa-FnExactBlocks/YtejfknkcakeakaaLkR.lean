/-
  The contracts of impl's oddParts and leftOf.
-/
import Derived.Test.YtejfknkcakeakaaLkQ
import Derived.Test.YtejfknkcakeakaaLkI
namespace Go.Proofs.Ytejfknkcakeakaa
namespace Lk
open Go.RowKit
open Gr (Blk Kept below_new setMany setMany_all below_setCells own_below own_lower InOwn intsAt_of_own InAt isPlace_is results_cell1)

theorem StsOwn.row {w : World} {B g n c : Nat} {Ps : List (Nat → Bool)} (h : StsOwn w B (.slice (some ⟨g, 0, none⟩) n c) Ps) (k : Nat) (hk : k < Ps.length) : w.rangeAt g (k * 9) (fl Ps[k]).toList := fun j v hv => by
  have hj : j < 9 := by
    have := (List.getElem?_eq_some_iff.1 hv).1
    simpa [fl_size] using this
  have e : n = Ps.length := by
    rcases World.ownsRow.form h (by omega) with ⟨g', cap, h1, _⟩
    simp at h1
    exact h1.2.1
  subst e
  rw [World.ownsRow.cellAt h (k * 9 + j) (by omega), setsV_at Ps k hk j hj, ← hv, Array.getElem?_toList]

theorem StsOwn.form {w : World} {B : Nat} {v : Value} {Ps : List (Nat → Bool)} (h : StsOwn w B v Ps) (h0 : 0 < Ps.length) : ∃ g c, v = .slice (some ⟨g, 0, none⟩) Ps.length c := by
  obtain ⟨g, cap, h1, _⟩ := World.ownsRow.form h h0
  exact ⟨g, cap, h1⟩

/-- How many sets have an odd number of vertices. -/
def oddN (Ps : List (Nat → Bool)) : Nat := (Ps.map fun p => (setTo p 9).length % 2).sum

theorem odd_next (Ps : List (Nat → Bool)) (k : Nat) (h : k < Ps.length) : oddN (Ps.take (k + 1)) = oddN (Ps.take k) + (setTo Ps[k] 9).length % 2 := by
  unfold oddN
  rw [List.take_succ_eq_append_getElem h, List.map_append, List.sum_append]
  simp

theorem odd_le : ∀ (Ps : List (Nat → Bool)), oddN Ps ≤ Ps.length
  | [] => by simp [oddN]
  | p :: r => by
    have := odd_le r
    unfold oddN at *
    simp only [List.map_cons, List.sum_cons, List.length_cons]
    omega

set_option maxRecDepth 100000 in
set_option maxHeartbeats 4000000 in
theorem oddParts_any (F : Nat → Nat → Bool) (f : Nat → Bool) (T : Nat) (w : World) (hT : Blk w T (tb F) 65) :
    Calls Try.prog 55 #[.pointer (some ⟨T, 0, none⟩), .agg (fl f)] w fun e w' => e = .returned (.int .i64 (oddN (prts F (List.range' 0 9) f) : Int)) ∧ Below w.heap.size w w' := by
  have PA := hide (fun W hW => parts_any F f T W hW)
  have HPL := hide (prts_length F (List.range' 0 9) f)
  have hiF := hide (infoVL f)
  obtain ⟨Ps, hPs⟩ : ∃ Ps, Ps = prts F (List.range' 0 9) f := ⟨_, rfl⟩
  rw [← hPs] at PA HPL ⊢
  have HON := hide (fun k h => odd_next Ps k h)
  have HOL := hide (fun k => odd_le (Ps.take k))
  have HEND : Hid (oddN (Ps.take Ps.length) = oddN Ps) := by show _ = _; rw [List.take_length]
  have hzv := zero_fl
  have HZ : Hid (Array.size (fl fun _ => false) = 9) := fl_size _
  generalize (fl fun _ => false) = Z at hzv HZ
  have HT := hide hT
  generalize fl f = C at PA hiF ⊢
  obtain ⟨V1, hV1⟩ : ∃ W, W = w.alloc (Obj.cells C 63) := ⟨_, rfl⟩
  have HB1 : Hid (Blk V1 w.heap.size C 63) := by show Blk _ _ _ _; rw [hV1]; exact Gr.Blk.new0
  have b1 : Below w.heap.size w V1 := by rw [hV1]; exact below_new _ _
  have HT1 := hide ((unhide HT).below b1)
  have hr1 := hide (unhide HB1).range
  rw [hV1] at hr1
  clear hPs hT
  go_enter Try.func55, Try.ntmps55
  go_wp2_with (first
    | refine wpList_load_mid rfl 63 _ rfl w.heap.size 0 rfl C.toList _ (unhide hr1) Try.underlying63 rfl (unhide hiF) ?_)
  rw [← hV1]
  refine (unhide PA V1 (unhide HT1)).mono ?_
  rintro e w2 ⟨⟨d, rfl, ho⟩, hb2⟩
  obtain ⟨A, cp, rfl⟩ := ho.shape
  have b2 := b1.trans (hb2.mono b1.size)
  have HO := hide ho
  obtain ⟨n, hn⟩ : ∃ n, n = Ps.length := ⟨_, rfl⟩
  have HNN : Hid (n = Ps.length) := hn
  have hn9 : n ≤ 9 := by have := unhide HPL; simp at this; omega
  rw [← hn] at HO HEND ⊢
  clear hV1 hr1 HB1 HT1 HT hb2 ho hn PA
  go_wp2_with fail
  go_loopw [5, 12] (fun odd i wr => ∃ k : Nat, i = .int .i64 (k : Int) ∧ k ≤ n ∧ odd = .int .i64 (oddN (Ps.take k) : Int) ∧ Below w2.heap.size w2 wr) (fun _ i _ => n - (intOf i).toNat)
  case atStart => exact ⟨0, rfl, Nat.zero_le _, rfl, Below.refl _ _⟩
  case round =>
    obtain ⟨k, rfl, hk, rfl, hb⟩ := hrel
    by_cases hlt : k < n
    · have hkP : k < Ps.length := by have := unhide HNN; omega
      have HO1 := hide ((unhide HO).below hb)
      obtain ⟨g, c', hA⟩ := (unhide HO1).form (by omega)
      simp at hA
      obtain ⟨rfl, hAn, rfl⟩ := hA
      clear hAn
      have hrow := hide ((unhide HO1).row k hkP)
      have hiL := hide (infoVL Ps[k])
      have hi2 := hide (infoVF Ps[k])
      have h1C := hide (fl_one Ps[k])
      have HCS := hide (fl_size Ps[k])
      have LS := hide (fun W => list_any Ps[k] W)
      have hon := unhide HON k hkP
      have hl9 := setTo_length Ps[k] 9
      have hol := unhide HOL k
      have htl : (Ps.take k).length ≤ 9 := by rw [List.length_take]; omega
      have HOKN := hide hon
      generalize fl Ps[k] = CP at hrow hiL hi2 h1C HCS LS
      generalize setTo Ps[k] 9 = LP at LS HOKN hl9
      have hy0 : (0 : Int) ≤ (k : Int) := by omega
      have hy1 : (k : Int) < (n : Int) := by omega
      obtain ⟨V3, hV3⟩ : ∃ W, W = wr.alloc (Obj.cells Z 63) := ⟨_, rfl⟩
      have HB3 : Hid (Blk V3 wr.heap.size Z 63) := by show Blk _ _ _ _; rw [hV3]; exact Gr.Blk.new0
      have t3 : Hid (V3.there wr.heap.size 0 CP.size) := (unhide HB3).there 0 _ (by rw [unhide HZ, unhide HCS]; omega)
      obtain ⟨V4, hV4⟩ : ∃ W, W = V3.setCells wr.heap.size 0 CP.toList := ⟨_, rfl⟩
      have HC4 : Hid (Blk V4 wr.heap.size CP 63) := by
        have h := Gr.Blk.many CP.toList 0 (unhide HB3)
        rw [setMany_all _ _ (by rw [unhide HZ, unhide HCS])] at h
        rw [hV4]
        exact h
      have b4 : Below w2.heap.size w2 V4 := by rw [hV4, hV3]; exact below_setCells _ _ hb.size _ _ _ _ (hb.alloc hb.size _)
      have r4 := hide (unhide HC4).range
      rw [hV3] at t3 hV4
      rw [hV4] at r4
      clear HB3 hV3 HC4 hon hlt
      go_wp2_with (first
        | refine wpList_store_mid rfl 63 _ _ rfl wr.heap.size 0 CP rfl rfl (unhide t3) (unhide hi2) (unhide h1C) ?_
        | refine wpList_load_mid rfl 63 _ rfl g (k * 9) rfl CP.toList _ (unhide hrow) Try.underlying63 rfl (unhide hiL) ?_
        | refine wpList_load_mid rfl 63 _ rfl wr.heap.size 0 rfl CP.toList _ (unhide r4) Try.underlying63 rfl (unhide hiL) ?_)
      rw [← hV4]
      clear hV4 t3 r4
      refine (unhide LS V4).mono ?_
      rintro e w5 ⟨⟨d, rfl, ho⟩, hb5⟩
      obtain ⟨A5, c5, rfl, _⟩ := intsAt_of_own ho
      have b5 := b4.trans (hb5.mono b4.size)
      clear ho hb5
      go_wp2_with fail
      exact ⟨⟨k + 1, by go_num, by omega, by rw [unhide HOKN]; simp, b5⟩, by simp [intOf]; omega⟩
    · obtain rfl : k = n := by omega
      have he := unhide HEND
      rw [he]
      go_wp2
      go_ret
      exact ⟨rfl, b2.trans (hb.mono b2.size)⟩

/-- The vertices below n that are not among the first numbers of a list. -/
def leftTo (n : Nat) (K : List Int) (j : Nat) : Nat → Bool := fun v => decide (v < n) && !inK (K.take j) (v : Int)

theorem inK_next (K : List Int) (j : Nat) (h : j < K.length) (x : Int) : inK (K.take (j + 1)) x = (inK (K.take j) x || (x == K[j])) := by
  unfold inK
  rw [List.take_succ_eq_append_getElem h, List.contains_eq_any_beq, List.any_append, ← List.contains_eq_any_beq]
  simp

theorem left_in (n : Nat) (K : List Int) (j : Nat) (h : j < K.length) (x : Nat) (hx : K[j] = (x : Int)) : (fl (leftTo n K j)).setIfInBounds x (.bool false) = fl (leftTo n K (j + 1)) := by
  rw [fl_set]
  refine fl_congr (fun v _ => ?_)
  unfold leftTo
  rw [inK_next K j h, hx]
  by_cases e : v = x
  · subst e; simp
  · have e2 : ((v : Int) == (x : Int)) = false := by simp; omega
    simp [e, e2]

theorem left_out (n : Nat) (K : List Int) (j : Nat) (h : j < K.length) (hx : (decide (0 ≤ K[j]) && decide (K[j] < (n : Int))) = false) : fl (leftTo n K j) = fl (leftTo n K (j + 1)) := by
  refine fl_congr (fun v _ => ?_)
  unfold leftTo
  rw [inK_next K j h]
  by_cases hv : v < n
  · have e2 : ((v : Int) == K[j]) = false := by
      cases hq : ((v : Int) == K[j])
      · rfl
      · have := eq_of_beq hq
        rw [← this] at hx
        simp at hx
        omega
    simp [e2]
  · simp [hv]

/-- The vertices below n that are not on a list. -/
def leftF (n : Nat) (K : List Int) : Nat → Bool := fun v => decide (v < n) && !inK K (v : Int)

set_option maxRecDepth 100000 in
set_option maxHeartbeats 4000000 in
theorem leftOf_any (n : Nat) (hn : n ≤ 9) (v : Value) (B : Nat) (K : List Int) (h1 : K.length ≤ 1048576) (w : World) (hB : B ≤ w.heap.size) (hv : InAt w v B K) :
    Calls Try.prog 53 #[.int .i64 (n : Int), v] w fun e w' => e = .returned (.agg (fl (leftF n K))) ∧ Below w.heap.size w w' := by
  obtain ⟨a, c, rfl, hK⟩ := hv
  have HC := hide hK.2
  have AV := hide (fun W => allV_any n hn W)
  have H0 : Hid (fl (allF n) = fl (leftTo n K 0)) := fl_congr (fun j _ => by unfold allF leftTo inK; simp)
  have HEND : Hid (fl (leftTo n K K.length) = fl (leftF n K)) := by show _ = _; unfold leftTo leftF; rw [List.take_length]
  have HI := hide (fun j h x hx => left_in n K j h x hx)
  have HO := hide (fun j h hx => left_out n K j h hx)
  have hi2 := hide (infoVF (allF n))
  have h1C := hide (fl_one (allF n))
  have HCS := hide (fl_size (allF n))
  generalize fl (allF n) = C0 at AV H0 hi2 h1C HCS
  have hzv := zero_fl
  have HZ : Hid (Array.size (fl fun _ => false) = 9) := fl_size _
  generalize (fl fun _ => false) = Z at hzv HZ
  obtain ⟨m, hm⟩ : ∃ m, m = K.length := ⟨_, rfl⟩
  have HMM : Hid (m = K.length) := hm
  rw [← hm] at HEND h1 ⊢
  have hiR := hide (infoVF (leftF n K))
  have hiRL := hide (infoVL (leftF n K))
  have h1R := hide (fl_one (leftF n K))
  have HRS := hide (fl_size (leftF n K))
  have HLR := hide (fun W g (h : Blk W g (fl (leftF n K)) 63) => load_fl h)
  generalize fl (leftF n K) = R at HEND hiR hiRL h1R HRS HLR ⊢
  clear hK hm
  go_enter Try.func53, Try.ntmps53
  go_wp2_with fail
  obtain ⟨V1, hV1⟩ : ∃ W, W = w.alloc (Obj.cells Z 63) := ⟨_, rfl⟩
  rw [← hV1]
  have b1 : Below w.heap.size w V1 := by rw [hV1]; exact below_new _ _
  have HR1 : Hid (Blk V1 w.heap.size Z 63) := by show Blk _ _ _ _; rw [hV1]; exact Gr.Blk.new0
  clear hV1
  refine (unhide AV V1).mono ?_
  rintro e w2 ⟨rfl, hb2⟩
  have b2 := b1.trans (hb2.mono b1.size)
  have HR2 := hide ((unhide HR1).below hb2)
  have z2 := (unhide HR2).lt
  obtain ⟨V3, hV3⟩ : ∃ W, W = w2.alloc (Obj.cells Z 63) := ⟨_, rfl⟩
  have HB3 : Hid (Blk V3 w2.heap.size Z 63) := by show Blk _ _ _ _; rw [hV3]; exact Gr.Blk.new0
  have t3 : Hid (V3.there w2.heap.size 0 C0.size) := (unhide HB3).there 0 _ (by rw [unhide HZ, unhide HCS]; omega)
  obtain ⟨V4, hV4⟩ : ∃ W, W = V3.setCells w2.heap.size 0 C0.toList := ⟨_, rfl⟩
  have HT4 : Hid (Blk V4 w2.heap.size (fl (leftTo n K 0)) 63) := by
    have h := Gr.Blk.many C0.toList 0 (unhide HB3)
    rw [setMany_all _ _ (by rw [unhide HZ, unhide HCS])] at h
    rw [hV4, ← unhide H0]
    exact h
  have HR4 : Hid (Blk V4 w.heap.size Z 63) := by show Blk _ _ _ _; rw [hV4, hV3]; exact Gr.Blk.many_other (by omega) _ _ (unhide HR2).alloc
  have b4 : Below w.heap.size w V4 := by rw [hV4, hV3]; exact below_setCells _ _ b2.size _ _ _ _ (b2.alloc b2.size _)
  rw [hV3] at t3 hV4
  clear hb2 HB3 hV3 AV HR1 HR2
  go_wp2_with (first
    | refine wpList_store_mid rfl 63 _ _ rfl w2.heap.size 0 C0 rfl rfl (unhide t3) (unhide hi2) (unhide h1C) ?_)
  rw [← hV4]
  have hgz := b2.size
  clear hV4 t3
  generalize w2.heap.size = g at HT4 z2 hgz
  go_loopw [12] (fun i wr => ∃ j : Nat, i = .int .i64 (j : Int) ∧ j ≤ m ∧ Hid (Blk wr g (fl (leftTo n K j)) 63) ∧ Hid (Blk wr w.heap.size Z 63) ∧ Below w.heap.size w wr) (fun i _ => m - (intOf i).toNat)
  case atStart => exact ⟨0, rfl, Nat.zero_le _, HT4, HR4, b4⟩
  case round =>
    obtain ⟨j, rfl, hj, HT, HR, hb⟩ := hrel
    have hgl := (unhide HT).lt
    by_cases hlt : j < m
    · have hjK : j < K.length := by have := unhide HMM; omega
      obtain ⟨b, off, rfl, hbB, c1⟩ := unhide HC j hjK
      rw [← hb.cell (p := ⟨b, off + j, none⟩) (by simp; omega)] at c1
      have HI' := hide (unhide HI j hjK)
      have HO' := hide (unhide HO j hjK)
      generalize K[j] = x at c1 HI' HO'
      have IP := hide (fun W => isPlace_is x (n : Int) W)
      have hx2 : (j : Int) < (m : Int) := by omega
      have hx0 : (0 : Int) ≤ (j : Int) := by omega
      cases hip : (decide (0 ≤ x) && decide (x < (n : Int)))
      · have HT' : Hid (Blk wr g (fl (leftTo n K (j + 1))) 63) := by show Blk _ _ _ _; rw [← unhide HO' hip]; exact unhide HT
        rw [hip] at IP
        clear hip HI' HO'
        go_wp2_with fail
        refine (unhide IP wr).mono ?_
        rintro e w5 ⟨rfl, hw5⟩
        subst hw5
        go_wp2_with fail
        exact ⟨⟨j + 1, by go_num, by omega, HT', HR, hb⟩, by simp [intOf]; omega⟩
      · rw [hip] at IP
        have hx : 0 ≤ x ∧ x < (n : Int) := by simpa using hip
        obtain ⟨y, rfl⟩ := Int.eq_ofNat_of_zero_le hx.1
        have hy9 : (y : Int) < 9 := by omega
        have hy0 : (0 : Int) ≤ (y : Int) := by omega
        have d0 := (unhide HT).cell y _ (fl_at _ y (by omega))
        have f0 := (unhide HT).froz y
        generalize leftTo n K j y = bb at d0
        have HT' : Hid (Blk (wr.setCell ⟨g, y, none⟩ (.bool false)) g (fl (leftTo n K (j + 1))) 63) := by
          show Blk _ _ _ _
          rw [← unhide HI' y rfl]
          exact (unhide HT).set y _
        have HR' : Hid (Blk (wr.setCell ⟨g, y, none⟩ (.bool false)) w.heap.size Z 63) := (unhide HR).set_other (by omega) y _
        have hb' : Below w.heap.size w (wr.setCell ⟨g, y, none⟩ (.bool false)) := hb.setCell (p := ⟨g, y, none⟩) hgz _
        clear hip HI' HO' hx
        go_wp2_with fail
        refine (unhide IP wr).mono ?_
        rintro e w5 ⟨rfl, hw5⟩
        subst hw5
        go_wp2_with fail
        exact ⟨⟨j + 1, by go_num, by omega, HT', HR', hb'⟩, by simp [intOf]; omega⟩
    · obtain rfl : j = m := by omega
      have HT' : Hid (Blk wr g R 63) := by show Blk _ _ _ _; rw [← unhide HEND]; exact unhide HT
      have HR1 := hide (unhide HT').range
      have HR5 : Hid (wr.there w.heap.size 0 R.size) := (unhide HR).there 0 _ (by rw [unhide HZ, unhide HRS]; omega)
      have HB : Hid (Blk (wr.setCells w.heap.size 0 R.toList) w.heap.size R 63) := by
        have h := Gr.Blk.many R.toList 0 (unhide HR)
        rwa [setMany_all _ _ (by rw [unhide HZ, unhide HRS])] at h
      have HLD := hide (unhide HLR _ _ (unhide HB))
      clear HB HT'
      go_wp2_with (first
        | refine wpList_load_mid rfl 63 _ rfl g 0 rfl R.toList _ (unhide HR1) Try.underlying63 rfl (unhide hiRL) ?_
        | refine wpList_store_mid rfl 63 _ _ rfl w.heap.size 0 R rfl rfl (unhide HR5) (unhide hiR) (unhide h1R) ?_)
      refine bodyPost_ret (v := .agg R) ?_ rfl ⟨rfl, below_setCells _ _ (Nat.le_refl _) _ _ _ _ hb⟩
      have hld := unhide HLD
      rw [results_cell1 rfl]
      show ((asAddr (Value.pointer (some ⟨w.heap.size, 0, none⟩))).run Try.prog _).andThen _ = _
      simp [asAddr, Result.andThen, hld]

end Lk
end Go.Proofs.Ytejfknkcakeakaa
