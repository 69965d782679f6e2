/-
 GrImpl11.
-/
import Derived.Test.YtkjclkelnheheaaJ36
import Derived.Test.YtkjclkelnheheaaJ17
import Derived.Test.YtkjclkelnheheaaJ12
import Derived.Test.YtkjclkelnheheaaJ37
namespace Go.Proofs.Ytkjclkelnheheaa
namespace Gr
open Go.RowKit
set_option maxRecDepth 100000 in
set_option maxHeartbeats 2000000 in
theorem scalars_any (B : Nat) (v : Value) (s : Int) (Q : List EdgeI) (u : Value) (M : List CoupleI) (hok : matchOk s Q M = true) (h1 : Q.length ≤ 1048576) (w : World) (hB : B ≤ w.heap.size) (hv : GrAt w v B s Q) (hu : CoAt w u B M) :
    Calls Try.prog 40 #[v, u] w fun e w' => e = .returned (.int .i64 (wsum (sums Q M))) ∧ Below w.heap.size w w' := by
  have AT := hide (fun x y w1 (hb : Below w.heap.size w w1) => implEdgeAt_gen B v s Q x y h1 w1 (by have := hb.size; omega) (hv.below hb hB))
  obtain ⟨a0, n0, c0, rfl, hE⟩ := hv
  obtain ⟨hL0, hc0⟩ := hE
  obtain ⟨a, c, rfl, hM⟩ := hu
  obtain ⟨_, hc⟩ := hM
  obtain ⟨hg, h9, hm⟩ := match_sound hok
  have hEV : ∀ x y, edgeAtV s x y Q = atFrom x y 0 Q := fun x y => by unfold edgeAtV; rw [if_pos hg]
  simp only [hEV] at AT
  clear hEV
  have HED : Hid (∀ k (h : k < M.length), ∃ i, ∃ h' : i < Q.length, atFrom M[k].A M[k].B 0 Q = (i : Int) ∧ edgeN Q (atFrom M[k].A M[k].B 0 Q) = Q[i] ∧ edgeOk s Q[i] = true) := fun k h => by
    obtain ⟨i, hi, e1, e2, _⟩ := edgeN_at (mFrom_at Q M none [] hm _ (List.getElem_mem h))
    exact ⟨i, hi, e1, e2, (graph_sound hg).2.2.1 _ (List.getElem_mem hi)⟩
  have HST := hide (fun s k h => sumsFrom_step Q M s k h)
  have HEND : Hid (∀ s, sumsFrom Q s (M.drop M.length) = s) := fun s => by rw [List.drop_length]; rfl
  have H0 : Hid (sums Q M = sumsFrom Q ⟨0, 0, 0⟩ (M.drop 0)) := rfl
  generalize sums Q M = T at H0 ⊢
  have HC0 := hide hc0
  have HL0 := hide hL0
  have HC := hide hc
  obtain ⟨n, hn⟩ : ∃ n, M.length = n := ⟨_, rfl⟩
  rw [hn] at HEND h9
  rw [hn]
  have HN := hide hn
  have HN0 : Hid (n0 ≤ 1048576) := by show _ ≤ _; omega
  clear hc0 hL0 hc hok hm hg h1 hn
  go_enter Try.func40, Try.ntmps40
  go_wp2_with fail
  obtain ⟨V1, hV1⟩ : ∃ W, W = w.alloc (Obj.cells #[Value.int .i64 s, Value.slice a0 n0 c0] 26) := ⟨_, rfl⟩
  rw [← hV1]
  have b1 : Below w.heap.size w V1 := by rw [hV1]; exact below_new _ _
  have x1 : GBox V1 w.heap.size s (.slice a0 n0 c0) := by rw [hV1]; exact GBox.new _ _ _
  have hx1l := x1.lt
  have HX1 := hide x1
  clear hV1 x1
  go_loopw [5, 10] (fun nn i wr => ∃ (j : Nat) (t : SumsI) (N : Int), i = .int .i64 (j : Int) ∧ nn = .int .i64 N ∧ Hid (N = wsum t) ∧ j ≤ n ∧ Hid (T = sumsFrom Q t (M.drop j)) ∧ Hid (SB t (j : Int)) ∧ Below V1.heap.size V1 wr) (fun _ i _ => n - (intOf i).toNat)
  case atStart => exact ⟨0, ⟨0, 0, 0⟩, 0, rfl, rfl, rfl, Nat.zero_le _, unhide H0, SB.zero _ (by omega), Below.refl _ _⟩
  case round =>
    obtain ⟨j, t, N, rfl, rfl, HNE, hj, HR, HSB, hb⟩ := hrel
    have b4 : Below w.heap.size w wr := b1.trans (hb.mono b1.size)
    by_cases hlt : j < n
    · have hjL : j < M.length := by have := unhide HN; omega
      obtain ⟨b, off, rfl, hbB, c0', c1'⟩ := unhide HC j hjL
      obtain ⟨i, hiQ, e1, e2, heok⟩ := unhide HED j hjL
      obtain ⟨b', off', rfl, hbB', d0, d1, d2, d3, d4⟩ := unhide HC0 i hiQ
      have hr := (unhide HR).trans (unhide HST t j hjL)
      have AT1 := hide (unhide AT M[j].A M[j].B)
      have hsn := (unhide HSB).add heok
      have hws := wsum_add (unhide HSB) (by omega) heok
      rw [e1] at AT1
      rw [e2] at hr
      generalize M[j] = mm at c0' c1' AT1
      have SC := hide (fun w => implScalar_any Q[i] w)
      generalize Q[i] = q at d0 d1 d2 d3 d4 hr hsn SC hws
      rw [← unhide HNE] at hws
      obtain ⟨hws0, hws1, hws2, hws3, hws4⟩ := hws
      generalize scal q = sc at SC hws0 hws1 hws2
      obtain ⟨m0, m1⟩ := mm
      obtain ⟨y0, y1, y2, y3, y4⟩ := q
      unfold EdgeI.v at SC
      simp only at c0' c1' AT1 d0 d1 d2 d3 d4 SC
      have HSN := hide hsn
      have HRN := hide hr
      have hx1 : (j : Int) < (n : Int) := by omega
      have hi1 : (i : Int) < (n0 : Int) := by have := unhide HL0; omega
      rw [← b4.cell (p := ⟨b, off + j * 2, none⟩) (by simp; omega)] at c0'
      rw [← b4.cell (p := ⟨b, off + j * 2 + 1, none⟩) (by simp; omega)] at c1'
      go_upto_region 5 with fail
      obtain ⟨V3, hV3⟩ : ∃ W, W = wr.alloc (Obj.cells #[Value.int .i64 m0, Value.int .i64 m1] 85) := ⟨_, rfl⟩
      rw [← hV3]
      have n3 : Below wr.heap.size wr V3 := by rw [hV3]; exact below_new _ _
      have mc : Blk V3 wr.heap.size #[Value.int .i64 m0, Value.int .i64 m1] 85 := by rw [hV3]; exact Blk.new0
      have b3 := b4.trans (n3.mono b4.size)
      have hb3 : Below V1.heap.size V1 V3 := hb.trans (n3.mono hb.size)
      have zc := mc.lt
      clear hV3
      obtain ⟨p0, p1⟩ := ((unhide HX1).below hb3).cells
      have hgl : w.heap.size < V3.heap.size := by have := hb3.size; omega
      have hbl' : b' < V3.heap.size := by have := b3.size; omega
      have k0 : ∀ d : Grown V3.heap.size V3, d.w.cell? ⟨w.heap.size, 0, none⟩ = some (.int .i64 s) := fun d => d.cell hgl p0
      have k1 : ∀ d : Grown V3.heap.size V3, d.w.cell? ⟨w.heap.size, 1, none⟩ = some (.slice (some ⟨b', off', none⟩) n0 c0) := fun d => d.cell hgl p1
      have k2 : ∀ d : Grown V3.heap.size V3, d.w.cell? ⟨wr.heap.size, 0, none⟩ = some (.int .i64 m0) := fun d => d.cell zc (mc.cell 0 _ rfl)
      have k3 : ∀ d : Grown V3.heap.size V3, d.w.cell? ⟨wr.heap.size, 1, none⟩ = some (.int .i64 m1) := fun d => d.cell zc (mc.cell 1 _ rfl)
      have D0 : ∀ d : Grown V3.heap.size V3, d.w.cell? ⟨b', off' + i * 5, none⟩ = some (.int .i64 y0) := fun d => d.cell hbl' ((b3.cell (p := ⟨b', off' + i * 5, none⟩) (by simp; omega)).trans d0)
      have D1 : ∀ d : Grown V3.heap.size V3, d.w.cell? ⟨b', off' + i * 5 + 1, none⟩ = some (.int .i64 y1) := fun d => d.cell hbl' ((b3.cell (p := ⟨b', off' + i * 5 + 1, none⟩) (by simp; omega)).trans d1)
      have D2 : ∀ d : Grown V3.heap.size V3, d.w.cell? ⟨b', off' + i * 5 + 2, none⟩ = some (.int .i64 y2) := fun d => d.cell hbl' ((b3.cell (p := ⟨b', off' + i * 5 + 2, none⟩) (by simp; omega)).trans d2)
      have D3 : ∀ d : Grown V3.heap.size V3, d.w.cell? ⟨b', off' + i * 5 + 3, none⟩ = some (.int .i64 y3) := fun d => d.cell hbl' ((b3.cell (p := ⟨b', off' + i * 5 + 3, none⟩) (by simp; omega)).trans d3)
      have D4 : ∀ d : Grown V3.heap.size V3, d.w.cell? ⟨b', off' + i * 5 + 4, none⟩ = some (.int .i64 y4) := fun d => d.cell hbl' ((b3.cell (p := ⟨b', off' + i * 5 + 4, none⟩) (by simp; omega)).trans d4)
      have A2 : Hid (∀ d : Grown V3.heap.size V3, Calls Try.prog 63 #[.agg #[.int .i64 s, .slice (some ⟨b', off', none⟩) n0 c0], .int .i64 m0, .int .i64 m1] d.w fun e w' => e = .returned (.int .i64 (i : Int)) ∧ Below d.w.heap.size d.w w') := fun d => unhide AT1 d.w (b3.trans (d.below.mono b3.size))
      have wn : IntKind.i64.wrap (N + sc) = N + sc := wrap_in _ (by omega)
      have HWS : Hid (N + sc = wsum (addS t ⟨y0, y1, y2, y3, y4⟩)) := hws0.symm
      have HB := hide hb3
      clear hr HR hsn p0 p1 c0' c1' mc d0 d1 d2 d3 d4 hb hb3 HNE AT1 hws0
      refine wp_region_grown V3.heap.size (by kernel_rfl) (by kernel_rfl) ?_
      repeat (go_big_quiet_step (first
        | (go_at_call 63; exact Calls.grown (Nat.le_refl _) (unhide A2 _))
        | (go_at_call 62; exact Calls.grown (Nat.le_refl _) (unhide SC _))))
      refine wpQuiet_nil ?_
      rintro w5 ⟨d5, rfl⟩
      clear k0 k1 k2 k3 D0 D1 D2 D3 D4
      go_wp2_with fail
      exact ⟨⟨j + 1, _, _, by go_num, rfl, unhide HWS, by omega, unhide HRN, unhide HSN, (unhide HB).trans (d5.below.mono (unhide HB).size)⟩, by simp [intOf]; omega⟩
    · obtain rfl : j = n := by omega
      have hT := (unhide HR).trans (unhide HEND t)
      subst hT
      have hN := unhide HNE
      subst hN
      go_wp2_with fail
      go_ret
      exact ⟨rfl, b4⟩
set_option maxRecDepth 100000 in
set_option maxHeartbeats 2000000 in
theorem implCert_gen (B : Nat) (v : Value) (s : Int) (Q : List EdgeI) (m : Value) (M : List CoupleI) (u : Value) (Y : List Int) (G : List GrpI) (h1 : Q.length ≤ 1048576) (h3 : M.length ≤ 1048576) (h2 : psize Y G ≤ 1048576) (w : World) (hB : B ≤ w.heap.size) (hv : GrAt w v B s Q) (hm : CoAt w m B M) (hu : PrAt w u B Y G) :
    Calls Try.prog 13 #[v, m, u] w fun e w' => e = .returned (.bool (certR s Q M Y G)) ∧ Below w.heap.size w w' := by
  have PK := hide (fun w1 (hb : Below w.heap.size w w1) => implProof_gen B v s Q u Y G h1 h2 w1 (by have := hb.size; omega) (hv.below hb hB) (hu.below hb hB))
  have SM := hide (fun (h : proofOk s Q Y G = true) w1 (hb : Below w.heap.size w w1) => twice_any u B s Y G (proof_sound h).2.1 (proof_sound h).2.2.1 (proof_sound h).2.2.2.2.1 (proof_sound h).2.2.2.2.2 (proof_sound h).2.2.2.1 w1 (by have := hb.size; omega) (hu.below hb hB))
  have WM := hide (fun (h : matchOk s Q M = true) w1 (hb : Below w.heap.size w w1) => scalars_any B v s Q m M h h1 w1 (by have := hb.size; omega) (hv.below hb hB) (hm.below hb hB))
  have MK : Hid (∀ w1, Below w.heap.size w w1 → Calls Try.prog 39 #[v, m] w1 fun e w' => e = .returned (.bool (matchOk s Q M)) ∧ Below w1.heap.size w1 w') := fun w1 hb => by
    obtain ⟨a, c, rfl, hM⟩ := hm
    exact implMatch_any v B s Q a M.length c M h1 h3 w1 (by have := hb.size; omega) (hv.below hb hB) (hM.below hb hB)
  have HBD : Hid (matchOk s Q M = true → 0 ≤ wsum (sums Q M) ∧ wsum (sums Q M) ≤ 90000000) := fun h => sums_range h
  have hV : certR s Q M Y G = (proofOk s Q Y G && (matchOk s Q M && decide (2 * wsum (sums Q M) = sumI Y G))) := rfl
  generalize certR s Q M Y G = V at hV ⊢
  generalize sumI Y G = S at SM hV
  generalize wsum (sums Q M) = T at WM HBD hV
  generalize proofOk s Q Y G = ok at PK SM hV
  generalize matchOk s Q M = mk at MK WM HBD hV
  obtain ⟨a0, n0, c0, rfl, _⟩ := hv
  obtain ⟨am, cm, rfl, _⟩ := hm
  obtain ⟨a, n, c, a', n', c', rfl, _⟩ := hu
  generalize M.length = nm at MK WM
  clear h1 h2 h3
  go_enter Try.func13, Try.ntmps13
  go_wp2_with fail
  obtain ⟨W1, hW1⟩ : ∃ W, W = (w.alloc (Obj.cells #[Value.int .i64 s, Value.slice a0 n0 c0] 26)).alloc (Obj.cells #[Value.slice a n c, Value.slice a' n' c'] 30) := ⟨_, rfl⟩
  rw [← hW1]
  have b1 : Below w.heap.size w W1 := by rw [hW1]; exact (below_new _ _).alloc (by simp) _
  have m0 : Blk W1 w.heap.size #[Value.int .i64 s, Value.slice a0 n0 c0] 26 := by rw [hW1]; exact Blk.new0.alloc
  have m1 : Blk W1 (w.heap.size + 1) #[Value.slice a n c, Value.slice a' n' c'] 30 := by rw [hW1]; exact Blk.new1
  clear hW1
  have z0 := m0.lt
  have z1 := m1.lt
  have k0 : ∀ d : Grown W1.heap.size W1, d.w.cell? ⟨w.heap.size, 0, none⟩ = some (.int .i64 s) := fun d => d.cell z0 (m0.cell 0 _ rfl)
  have k1 : ∀ d : Grown W1.heap.size W1, d.w.cell? ⟨w.heap.size, 1, none⟩ = some (.slice a0 n0 c0) := fun d => d.cell z0 (m0.cell 1 _ rfl)
  have k2 : ∀ d : Grown W1.heap.size W1, d.w.cell? ⟨w.heap.size + 1, 0, none⟩ = some (.slice a n c) := fun d => d.cell z1 (m1.cell 0 _ rfl)
  have k3 : ∀ d : Grown W1.heap.size W1, d.w.cell? ⟨w.heap.size + 1, 1, none⟩ = some (.slice a' n' c') := fun d => d.cell z1 (m1.cell 1 _ rfl)
  have HG : Hid (∀ d : Grown W1.heap.size W1, Below w.heap.size w d.w) := fun d => b1.trans (d.below.mono b1.size)
  have P2 : Hid (∀ d : Grown W1.heap.size W1, Calls Try.prog 7 #[.agg #[.int .i64 s, .slice a0 n0 c0], .agg #[.slice a n c, .slice a' n' c']] d.w fun e w' => e = .returned (.bool ok) ∧ Below d.w.heap.size d.w w') := fun d => unhide PK d.w (unhide HG d)
  have M2 : Hid (∀ d : Grown W1.heap.size W1, Calls Try.prog 39 #[.agg #[.int .i64 s, .slice a0 n0 c0], .slice am nm cm] d.w fun e w' => e = .returned (.bool mk) ∧ Below d.w.heap.size d.w w') := fun d => unhide MK d.w (unhide HG d)
  clear m0 m1 PK MK
  refine wp_region_grown W1.heap.size (by kernel_rfl) (by kernel_rfl) ?_
  cases ok with
  | false =>
    rw [Bool.false_and] at hV
    subst hV
    repeat (go_big_quiet_step (first
      | (go_at_call 7; exact Calls.grown (Nat.le_refl _) (unhide P2 _))))
    refine wpQuiet_nil ?_
    rintro w5 ⟨d5, rfl⟩
    go_wp2_with fail
    go_ret
    exact ⟨rfl, unhide HG d5⟩
  | true =>
    rw [Bool.true_and] at hV
    have S2 : Hid (∀ d : Grown W1.heap.size W1, Calls Try.prog 32 #[.agg #[.slice a n c, .slice a' n' c']] d.w fun e w' => e = .returned (.int .i64 S) ∧ Below d.w.heap.size d.w w') := fun d => unhide SM rfl d.w (unhide HG d)
    cases mk with
    | false =>
      rw [Bool.false_and] at hV
      subst hV
      repeat (go_big_quiet_step (first
        | (go_at_call 7; exact Calls.grown (Nat.le_refl _) (unhide P2 _))
        | (go_at_call 39; exact Calls.grown (Nat.le_refl _) (unhide M2 _))))
      refine wpQuiet_nil ?_
      rintro w5 ⟨d5, rfl⟩
      go_wp2_with fail
      go_ret
      exact ⟨rfl, unhide HG d5⟩
    | true =>
      rw [Bool.true_and] at hV
      obtain ⟨t0, t1⟩ := unhide HBD rfl
      have hw2 : IntKind.i64.wrap (2 * T) = 2 * T := wrap_in _ (by omega)
      have W2 : Hid (∀ d : Grown W1.heap.size W1, Calls Try.prog 40 #[.agg #[.int .i64 s, .slice a0 n0 c0], .slice am nm cm] d.w fun e w' => e = .returned (.int .i64 T) ∧ Below d.w.heap.size d.w w') := fun d => unhide WM rfl d.w (unhide HG d)
      have HV := hide hV
      clear hV
      repeat (go_big_quiet_step (first
        | (go_at_call 7; exact Calls.grown (Nat.le_refl _) (unhide P2 _))
        | (go_at_call 39; exact Calls.grown (Nat.le_refl _) (unhide M2 _))
        | (go_at_call 40; exact Calls.grown (Nat.le_refl _) (unhide W2 _))
        | (go_at_call 32; exact Calls.grown (Nat.le_refl _) (unhide S2 _))))
      refine wpQuiet_nil ?_
      rintro w5 ⟨d5, rfl⟩
      go_wp2_with fail
      go_ret
      refine ⟨?_, unhide HG d5⟩
      have h := unhide HV
      subst h
      first
        | rfl
        | (congr 2; rw [Bool.eq_iff_iff]; simp)
end Gr
end Go.Proofs.Ytkjclkelnheheaa
