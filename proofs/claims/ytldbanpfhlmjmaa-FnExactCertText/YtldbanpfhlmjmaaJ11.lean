/-
  Texts of this claim, one behind the other: GrImpl11, GrCert1, GrCert2, GrCert3.
-/
import Derived.Test.YtldbanpfhlmjmaaJ10
import Derived.Test.YtldbanpfhlmjmaaJ6
import Derived.Test.YtldbanpfhlmjmaaJ8
import Derived.Laws.EntriesVeiled

/-
  The contracts of impl.scalarsOf and impl.Certifies. (With GrCk3: the program's contracts of chapter 11, in the form that a law's walk asks for.)
-/
namespace Go.Proofs.Ytldbanpfhlmjmaa
namespace Gr
open Go.RowKit

set_option maxRecDepth 100000 in
set_option maxHeartbeats 2000000 in
theorem scalars_any (B : Nat) (v : Value) (s : Int) (Q : List EdgeI) (u : Value) (M : List CoupleI) (hok : matchOk s Q M = true) (h1 : Q.length ≤ 1048576) (w : World) (hB : B ≤ w.heap.size) (hv : GrAt w v B s Q) (hu : CoAt w u B M) :
    Calls Try.prog 46 #[v, u] w fun e w' => e = .returned (.int .i64 (wsum (sums Q M))) ∧ Below w.heap.size w w' := by
  have AT := hide (fun x y w1 (hb : Below w.heap.size w w1) => implEdgeAt_gen B v s Q x y h1 w1 (by have := hb.size; omega) (hv.below hb hB))
  obtain ⟨a0, n0, c0, rfl, hE⟩ := hv
  obtain ⟨hL0, hc0⟩ := hE
  obtain ⟨a, c, rfl, hM⟩ := hu
  obtain ⟨_, hc⟩ := hM
  obtain ⟨hg, h9, hm⟩ := match_sound hok
  have hEV : ∀ x y, edgeAtV s x y Q = atFrom x y 0 Q := fun x y => by unfold edgeAtV; rw [if_pos hg]
  simp only [hEV] at AT
  clear hEV
  have HED : Hid (∀ k (h : k < M.length), ∃ i, ∃ h' : i < Q.length, atFrom M[k].A M[k].B 0 Q = (i : Int) ∧ edgeN Q (atFrom M[k].A M[k].B 0 Q) = Q[i] ∧ edgeOk s Q[i] = true) := fun k h => by
    obtain ⟨i, hi, e1, e2, _⟩ := edgeN_at (mFrom_at Q M none [] hm _ (List.getElem_mem h))
    exact ⟨i, hi, e1, e2, (graph_sound hg).2.2.1 _ (List.getElem_mem hi)⟩
  have HST := hide (fun s k h => sumsFrom_step Q M s k h)
  have HEND : Hid (∀ s, sumsFrom Q s (M.drop M.length) = s) := fun s => by rw [List.drop_length]; rfl
  have H0 : Hid (sums Q M = sumsFrom Q ⟨0, 0, 0⟩ (M.drop 0)) := rfl
  generalize sums Q M = T at H0 ⊢
  have HC0 := hide hc0
  have HL0 := hide hL0
  have HC := hide hc
  obtain ⟨n, hn⟩ : ∃ n, M.length = n := ⟨_, rfl⟩
  rw [hn] at HEND h9
  rw [hn]
  have HN := hide hn
  have HN0 : Hid (n0 ≤ 1048576) := by show _ ≤ _; omega
  clear hc0 hL0 hc hok hm hg h1 hn
  go_enter Try.func46, Try.ntmps46
  go_wp2_with fail
  obtain ⟨V1, hV1⟩ : ∃ W, W = w.alloc (Obj.cells #[Value.int .i64 s, Value.slice a0 n0 c0] 37) := ⟨_, rfl⟩
  rw [← hV1]
  have b1 : Below w.heap.size w V1 := by rw [hV1]; exact below_new _ _
  have x1 : GBox V1 w.heap.size s (.slice a0 n0 c0) := by rw [hV1]; exact GBox.new _ _ _
  have hx1l := x1.lt
  have HX1 := hide x1
  clear hV1 x1
  go_loopw [5, 10] (fun nn i wr => ∃ (j : Nat) (t : SumsI) (N : Int), i = .int .i64 (j : Int) ∧ nn = .int .i64 N ∧ Hid (N = wsum t) ∧ j ≤ n ∧ Hid (T = sumsFrom Q t (M.drop j)) ∧ Hid (SB t (j : Int)) ∧ Below V1.heap.size V1 wr) (fun _ i _ => n - (intOf i).toNat)
  case atStart => exact ⟨0, ⟨0, 0, 0⟩, 0, rfl, rfl, rfl, Nat.zero_le _, unhide H0, SB.zero _ (by omega), Below.refl _ _⟩
  case round =>
    obtain ⟨j, t, N, rfl, rfl, HNE, hj, HR, HSB, hb⟩ := hrel
    have b4 : Below w.heap.size w wr := b1.trans (hb.mono b1.size)
    by_cases hlt : j < n
    · have hjL : j < M.length := by have := unhide HN; omega
      obtain ⟨b, off, rfl, hbB, c0', c1'⟩ := unhide HC j hjL
      obtain ⟨i, hiQ, e1, e2, heok⟩ := unhide HED j hjL
      obtain ⟨b', off', rfl, hbB', d0, d1, d2, d3, d4⟩ := unhide HC0 i hiQ
      have hr := (unhide HR).trans (unhide HST t j hjL)
      have AT1 := hide (unhide AT M[j].A M[j].B)
      have hsn := (unhide HSB).add heok
      have hws := wsum_add (unhide HSB) (by omega) heok
      rw [e1] at AT1
      rw [e2] at hr
      generalize M[j] = mm at c0' c1' AT1
      have SC := hide (fun w => implScalar_any Q[i] w)
      generalize Q[i] = q at d0 d1 d2 d3 d4 hr hsn SC hws
      rw [← unhide HNE] at hws
      obtain ⟨hws0, hws1, hws2, hws3, hws4⟩ := hws
      generalize scal q = sc at SC hws0 hws1 hws2
      obtain ⟨m0, m1⟩ := mm
      obtain ⟨y0, y1, y2, y3, y4⟩ := q
      unfold EdgeI.v at SC
      simp only at c0' c1' AT1 d0 d1 d2 d3 d4 SC
      have HSN := hide hsn
      have HRN := hide hr
      have hx1 : (j : Int) < (n : Int) := by omega
      have hi1 : (i : Int) < (n0 : Int) := by have := unhide HL0; omega
      rw [← b4.cell (p := ⟨b, off + j * 2, none⟩) (by simp; omega)] at c0'
      rw [← b4.cell (p := ⟨b, off + j * 2 + 1, none⟩) (by simp; omega)] at c1'
      go_upto_region 5 with fail
      obtain ⟨V3, hV3⟩ : ∃ W, W = wr.alloc (Obj.cells #[Value.int .i64 m0, Value.int .i64 m1] 60) := ⟨_, rfl⟩
      rw [← hV3]
      have n3 : Below wr.heap.size wr V3 := by rw [hV3]; exact below_new _ _
      have mc : Blk V3 wr.heap.size #[Value.int .i64 m0, Value.int .i64 m1] 60 := by rw [hV3]; exact Blk.new0
      have b3 := b4.trans (n3.mono b4.size)
      have hb3 : Below V1.heap.size V1 V3 := hb.trans (n3.mono hb.size)
      have zc := mc.lt
      clear hV3
      obtain ⟨p0, p1⟩ := ((unhide HX1).below hb3).cells
      have hgl : w.heap.size < V3.heap.size := by have := hb3.size; omega
      have hbl' : b' < V3.heap.size := by have := b3.size; omega
      have k0 : ∀ d : Grown V3.heap.size V3, d.w.cell? ⟨w.heap.size, 0, none⟩ = some (.int .i64 s) := fun d => d.cell hgl p0
      have k1 : ∀ d : Grown V3.heap.size V3, d.w.cell? ⟨w.heap.size, 1, none⟩ = some (.slice (some ⟨b', off', none⟩) n0 c0) := fun d => d.cell hgl p1
      have k2 : ∀ d : Grown V3.heap.size V3, d.w.cell? ⟨wr.heap.size, 0, none⟩ = some (.int .i64 m0) := fun d => d.cell zc (mc.cell 0 _ rfl)
      have k3 : ∀ d : Grown V3.heap.size V3, d.w.cell? ⟨wr.heap.size, 1, none⟩ = some (.int .i64 m1) := fun d => d.cell zc (mc.cell 1 _ rfl)
      have D0 : ∀ d : Grown V3.heap.size V3, d.w.cell? ⟨b', off' + i * 5, none⟩ = some (.int .i64 y0) := fun d => d.cell hbl' ((b3.cell (p := ⟨b', off' + i * 5, none⟩) (by simp; omega)).trans d0)
      have D1 : ∀ d : Grown V3.heap.size V3, d.w.cell? ⟨b', off' + i * 5 + 1, none⟩ = some (.int .i64 y1) := fun d => d.cell hbl' ((b3.cell (p := ⟨b', off' + i * 5 + 1, none⟩) (by simp; omega)).trans d1)
      have D2 : ∀ d : Grown V3.heap.size V3, d.w.cell? ⟨b', off' + i * 5 + 2, none⟩ = some (.int .i64 y2) := fun d => d.cell hbl' ((b3.cell (p := ⟨b', off' + i * 5 + 2, none⟩) (by simp; omega)).trans d2)
      have D3 : ∀ d : Grown V3.heap.size V3, d.w.cell? ⟨b', off' + i * 5 + 3, none⟩ = some (.int .i64 y3) := fun d => d.cell hbl' ((b3.cell (p := ⟨b', off' + i * 5 + 3, none⟩) (by simp; omega)).trans d3)
      have D4 : ∀ d : Grown V3.heap.size V3, d.w.cell? ⟨b', off' + i * 5 + 4, none⟩ = some (.int .i64 y4) := fun d => d.cell hbl' ((b3.cell (p := ⟨b', off' + i * 5 + 4, none⟩) (by simp; omega)).trans d4)
      have A2 : Hid (∀ d : Grown V3.heap.size V3, Calls Try.prog 72 #[.agg #[.int .i64 s, .slice (some ⟨b', off', none⟩) n0 c0], .int .i64 m0, .int .i64 m1] d.w fun e w' => e = .returned (.int .i64 (i : Int)) ∧ Below d.w.heap.size d.w w') := fun d => unhide AT1 d.w (b3.trans (d.below.mono b3.size))
      have wn : IntKind.i64.wrap (N + sc) = N + sc := wrap_in _ (by omega)
      have HWS : Hid (N + sc = wsum (addS t ⟨y0, y1, y2, y3, y4⟩)) := hws0.symm
      have HB := hide hb3
      clear hr HR hsn p0 p1 c0' c1' mc d0 d1 d2 d3 d4 hb hb3 HNE AT1 hws0
      refine wp_region_grown V3.heap.size (by kernel_rfl) (by kernel_rfl) ?_
      repeat (go_big_quiet_step (first
        | (go_at_call 72; exact Calls.grown (Nat.le_refl _) (unhide A2 _))
        | (go_at_call 71; exact Calls.grown (Nat.le_refl _) (unhide SC _))))
      refine wpQuiet_nil ?_
      rintro w5 ⟨d5, rfl⟩
      clear k0 k1 k2 k3 D0 D1 D2 D3 D4
      go_wp2_with fail
      exact ⟨⟨j + 1, _, _, by go_num, rfl, unhide HWS, by omega, unhide HRN, unhide HSN, (unhide HB).trans (d5.below.mono (unhide HB).size)⟩, by simp [intOf]; omega⟩
    · obtain rfl : j = n := by omega
      have hT := (unhide HR).trans (unhide HEND t)
      subst hT
      have hN := unhide HNE
      subst hN
      go_wp2_with fail
      go_ret
      exact ⟨rfl, b4⟩

set_option maxRecDepth 100000 in
set_option maxHeartbeats 2000000 in
theorem implCert_gen (B : Nat) (v : Value) (s : Int) (Q : List EdgeI) (m : Value) (M : List CoupleI) (u : Value) (Y : List Int) (G : List GrpI) (h1 : Q.length ≤ 1048576) (h3 : M.length ≤ 1048576) (h2 : psize Y G ≤ 1048576) (w : World) (hB : B ≤ w.heap.size) (hv : GrAt w v B s Q) (hm : CoAt w m B M) (hu : PrAt w u B Y G) :
    Calls Try.prog 23 #[v, m, u] w fun e w' => e = .returned (.bool (certR s Q M Y G)) ∧ Below w.heap.size w w' := by
  have PK := hide (fun w1 (hb : Below w.heap.size w w1) => implProof_gen B v s Q u Y G h1 h2 w1 (by have := hb.size; omega) (hv.below hb hB) (hu.below hb hB))
  have SM := hide (fun (h : proofOk s Q Y G = true) w1 (hb : Below w.heap.size w w1) => twice_any u B s Y G (proof_sound h).2.1 (proof_sound h).2.2.1 (proof_sound h).2.2.2.2.1 (proof_sound h).2.2.2.2.2 (proof_sound h).2.2.2.1 w1 (by have := hb.size; omega) (hu.below hb hB))
  have WM := hide (fun (h : matchOk s Q M = true) w1 (hb : Below w.heap.size w w1) => scalars_any B v s Q m M h h1 w1 (by have := hb.size; omega) (hv.below hb hB) (hm.below hb hB))
  have MK : Hid (∀ w1, Below w.heap.size w w1 → Calls Try.prog 45 #[v, m] w1 fun e w' => e = .returned (.bool (matchOk s Q M)) ∧ Below w1.heap.size w1 w') := fun w1 hb => by
    obtain ⟨a, c, rfl, hM⟩ := hm
    exact implMatch_any v B s Q a M.length c M h1 h3 w1 (by have := hb.size; omega) (hv.below hb hB) (hM.below hb hB)
  have HBD : Hid (matchOk s Q M = true → 0 ≤ wsum (sums Q M) ∧ wsum (sums Q M) ≤ 90000000) := fun h => sums_range h
  have hV : certR s Q M Y G = (proofOk s Q Y G && (matchOk s Q M && decide (2 * wsum (sums Q M) = sumI Y G))) := rfl
  generalize certR s Q M Y G = V at hV ⊢
  generalize sumI Y G = S at SM hV
  generalize wsum (sums Q M) = T at WM HBD hV
  generalize proofOk s Q Y G = ok at PK SM hV
  generalize matchOk s Q M = mk at MK WM HBD hV
  obtain ⟨a0, n0, c0, rfl, _⟩ := hv
  obtain ⟨am, cm, rfl, _⟩ := hm
  obtain ⟨a, n, c, a', n', c', rfl, _⟩ := hu
  generalize M.length = nm at MK WM
  clear h1 h2 h3
  go_enter Try.func23, Try.ntmps23
  go_wp2_with fail
  obtain ⟨W1, hW1⟩ : ∃ W, W = (w.alloc (Obj.cells #[Value.int .i64 s, Value.slice a0 n0 c0] 37)).alloc (Obj.cells #[Value.slice a n c, Value.slice a' n' c'] 41) := ⟨_, rfl⟩
  rw [← hW1]
  have b1 : Below w.heap.size w W1 := by rw [hW1]; exact (below_new _ _).alloc (by simp) _
  have m0 : Blk W1 w.heap.size #[Value.int .i64 s, Value.slice a0 n0 c0] 37 := by rw [hW1]; exact Blk.new0.alloc
  have m1 : Blk W1 (w.heap.size + 1) #[Value.slice a n c, Value.slice a' n' c'] 41 := by rw [hW1]; exact Blk.new1
  clear hW1
  have z0 := m0.lt
  have z1 := m1.lt
  have k0 : ∀ d : Grown W1.heap.size W1, d.w.cell? ⟨w.heap.size, 0, none⟩ = some (.int .i64 s) := fun d => d.cell z0 (m0.cell 0 _ rfl)
  have k1 : ∀ d : Grown W1.heap.size W1, d.w.cell? ⟨w.heap.size, 1, none⟩ = some (.slice a0 n0 c0) := fun d => d.cell z0 (m0.cell 1 _ rfl)
  have k2 : ∀ d : Grown W1.heap.size W1, d.w.cell? ⟨w.heap.size + 1, 0, none⟩ = some (.slice a n c) := fun d => d.cell z1 (m1.cell 0 _ rfl)
  have k3 : ∀ d : Grown W1.heap.size W1, d.w.cell? ⟨w.heap.size + 1, 1, none⟩ = some (.slice a' n' c') := fun d => d.cell z1 (m1.cell 1 _ rfl)
  have HG : Hid (∀ d : Grown W1.heap.size W1, Below w.heap.size w d.w) := fun d => b1.trans (d.below.mono b1.size)
  have P2 : Hid (∀ d : Grown W1.heap.size W1, Calls Try.prog 44 #[.agg #[.int .i64 s, .slice a0 n0 c0], .agg #[.slice a n c, .slice a' n' c']] d.w fun e w' => e = .returned (.bool ok) ∧ Below d.w.heap.size d.w w') := fun d => unhide PK d.w (unhide HG d)
  have M2 : Hid (∀ d : Grown W1.heap.size W1, Calls Try.prog 45 #[.agg #[.int .i64 s, .slice a0 n0 c0], .slice am nm cm] d.w fun e w' => e = .returned (.bool mk) ∧ Below d.w.heap.size d.w w') := fun d => unhide MK d.w (unhide HG d)
  clear m0 m1 PK MK
  refine wp_region_grown W1.heap.size (by kernel_rfl) (by kernel_rfl) ?_
  cases ok with
  | false =>
    rw [Bool.false_and] at hV
    subst hV
    repeat (go_big_quiet_step (first
      | (go_at_call 44; exact Calls.grown (Nat.le_refl _) (unhide P2 _))))
    refine wpQuiet_nil ?_
    rintro w5 ⟨d5, rfl⟩
    go_wp2_with fail
    go_ret
    exact ⟨rfl, unhide HG d5⟩
  | true =>
    rw [Bool.true_and] at hV
    have S2 : Hid (∀ d : Grown W1.heap.size W1, Calls Try.prog 47 #[.agg #[.slice a n c, .slice a' n' c']] d.w fun e w' => e = .returned (.int .i64 S) ∧ Below d.w.heap.size d.w w') := fun d => unhide SM rfl d.w (unhide HG d)
    cases mk with
    | false =>
      rw [Bool.false_and] at hV
      subst hV
      repeat (go_big_quiet_step (first
        | (go_at_call 44; exact Calls.grown (Nat.le_refl _) (unhide P2 _))
        | (go_at_call 45; exact Calls.grown (Nat.le_refl _) (unhide M2 _))))
      refine wpQuiet_nil ?_
      rintro w5 ⟨d5, rfl⟩
      go_wp2_with fail
      go_ret
      exact ⟨rfl, unhide HG d5⟩
    | true =>
      rw [Bool.true_and] at hV
      obtain ⟨t0, t1⟩ := unhide HBD rfl
      have hw2 : IntKind.i64.wrap (2 * T) = 2 * T := wrap_in _ (by omega)
      have W2 : Hid (∀ d : Grown W1.heap.size W1, Calls Try.prog 46 #[.agg #[.int .i64 s, .slice a0 n0 c0], .slice am nm cm] d.w fun e w' => e = .returned (.int .i64 T) ∧ Below d.w.heap.size d.w w') := fun d => unhide WM rfl d.w (unhide HG d)
      have HV := hide hV
      clear hV
      repeat (go_big_quiet_step (first
        | (go_at_call 44; exact Calls.grown (Nat.le_refl _) (unhide P2 _))
        | (go_at_call 45; exact Calls.grown (Nat.le_refl _) (unhide M2 _))
        | (go_at_call 46; exact Calls.grown (Nat.le_refl _) (unhide W2 _))
        | (go_at_call 47; exact Calls.grown (Nat.le_refl _) (unhide S2 _))))
      refine wpQuiet_nil ?_
      rintro w5 ⟨d5, rfl⟩
      go_wp2_with fail
      go_ret
      refine ⟨?_, unhide HG d5⟩
      have h := unhide HV
      subst h
      first
        | rfl
        | (congr 2; rw [Bool.eq_iff_iff]; simp)
end Gr
end Go.Proofs.Ytldbanpfhlmjmaa

/-
  The kind of Cert: sizes, copies, equal ones, what came in.
-/
namespace Go.Proofs.Ytldbanpfhlmjmaa
namespace Gr
open Go.ChangeShapes Go.WideShapes Go.ChangeAt Go.RowKit

set_option maxRecDepth 100000 in
set_option maxHeartbeats 1000000 in
theorem szCert_gen (v : Value) (B : Nat) (s : Int) (Q : List EdgeI) (M : List CoupleI) (Y : List Int) (G : List GrpI) (left : Int) (h0 : 0 ≤ left) (h1 : left ≤ 1048576) (_hn : csize Q M Y G ≤ 9223372036854775807) (w : World) (hv : CeAt w v B s Q M Y G) :
    Calls Try.prog 5 #[v, .int .i64 left] w fun e w' => (∃ x : Int, e = .returned (.int .i64 x) ∧ x ≤ left ∧ (0 ≤ x → (csize Q M Y G : Int) + x ≤ left)) ∧ Below w.heap.size w w' := by
  obtain ⟨a, c, a1, c1, a2, c2, a3, c3, rfl, hg, hm, hp, hQ, hM⟩ := hv
  obtain ⟨g, hge⟩ : ∃ g, g = Value.agg #[.int .i64 s, .slice a Q.length c] := ⟨_, rfl⟩
  obtain ⟨m, hme⟩ : ∃ m, m = Value.slice a1 M.length c1 := ⟨_, rfl⟩
  obtain ⟨p, hpe⟩ : ∃ p, p = Value.agg #[.slice a2 Y.length c2, .slice a3 G.length c3] := ⟨_, rfl⟩
  rw [← hge] at hg
  rw [← hme] at hm
  rw [← hpe] at hp
  have hps : psize Y G ≤ 9223372036854775807 := by unfold psize; omega
  have hgw : GrAt w g w.heap.size s Q := by
    obtain ⟨a, n, c, e, hE⟩ := hg
    refine ⟨a, n, c, e, hE.1, fun j hj => ?_⟩
    obtain ⟨b, off, e, _, c0, c1⟩ := hE.2 j hj
    exact ⟨b, off, e, World.block_lt_of_cell? w _ c0, c0, c1⟩
  have hmw : CoAt w m w.heap.size M := by
    obtain ⟨a, c, e, hE⟩ := hm
    refine ⟨a, c, e, hE.1, fun j hj => ?_⟩
    obtain ⟨b, off, e, _, c0, c1⟩ := hE.2 j hj
    exact ⟨b, off, e, World.block_lt_of_cell? w _ c0, c0, c1⟩
  have hpw : PrAt w p w.heap.size Y G := by
    obtain ⟨a, n, c, a', n', c', e, hY, hG, hI⟩ := hp
    refine ⟨a, n, c, a', n', c', e, ⟨hY.1, fun k hk => ?_⟩, ⟨hG.1, fun j hj => ?_⟩, hI⟩
    · obtain ⟨b2, off2, e2, _, hc2⟩ := hY.2 k hk
      exact ⟨b2, off2, e2, World.block_lt_of_cell? w _ hc2, hc2⟩
    · obtain ⟨b, off, x, cx, e, _, c0, c1, hII⟩ := hG.2 j hj
      refine ⟨b, off, x, cx, e, World.block_lt_of_cell? w _ c0, c0, c1, hII.1, fun k hk => ?_⟩
      obtain ⟨b2, off2, e2, _, hc2⟩ := hII.2 k hk
      exact ⟨b2, off2, e2, World.block_lt_of_cell? w _ hc2, hc2⟩
  have S1 := hide (fun w1 (hb : Below w.heap.size w w1) => szGraph_gen g w.heap.size s Q left h0 h1 hQ w1 (hgw.below hb (Nat.le_refl _)))
  have S2 := hide (fun (l : Int) (l0 : 0 ≤ l) (l1 : l ≤ 1048576) w1 (hb : Below w.heap.size w w1) => szCoupleS_gen m w.heap.size M l l0 l1 hM w1 (hmw.below hb (Nat.le_refl _)))
  have S3 := hide (fun (l : Int) (l0 : 0 ≤ l) (l1 : l ≤ 1048576) w1 (hb : Below w.heap.size w w1) => szProof_gen p w.heap.size Y G l l0 l1 hps w1 (hpw.below hb (Nat.le_refl _)))
  have HP : Hid (csize Q M Y G ≤ Q.length + (M.length + psize Y G)) := by show _ ≤ _; unfold csize; omega
  clear hg hm hp hgw hmw hpw
  subst hge hme hpe
  generalize psize Y G = nP at S3 HP
  generalize csize Q M Y G = nC at HP ⊢
  obtain ⟨nQ, hnQ⟩ : ∃ n, n = Q.length := ⟨_, rfl⟩
  obtain ⟨nM, hnM⟩ : ∃ n, n = M.length := ⟨_, rfl⟩
  rw [← hnQ] at S1 HP hQ ⊢
  rw [← hnM] at S2 HP hM ⊢
  generalize Y.length = nY at S3
  generalize G.length = nG at S3
  clear hnQ hnM
  go_enter Try.func5, Try.ntmps5
  go_wp2_with fail
  obtain ⟨V, hV⟩ : ∃ W, W = w.alloc (Obj.cells #[Value.int .i64 s, Value.slice a nQ c, Value.slice a1 nM c1, Value.slice a2 nY c2, Value.slice a3 nG c3] 31) := ⟨_, rfl⟩
  rw [← hV]
  have b1 : Below w.heap.size w V := by rw [hV]; exact below_new _ _
  have m0 : Blk V w.heap.size #[Value.int .i64 s, Value.slice a nQ c, Value.slice a1 nM c1, Value.slice a2 nY c2, Value.slice a3 nG c3] 31 := by rw [hV]; exact Blk.new0
  clear hV
  refine (unhide S1 V b1).mono ?_
  rintro e w2 ⟨⟨x, rfl, hx1, hx2⟩, hb2⟩
  have b2 := b1.trans (hb2.mono b1.size)
  have m2 := m0.below hb2
  by_cases t : x < 0
  · go_wp2_with fail
    go_ret
    exact ⟨⟨-1, rfl, by omega, fun h => absurd h (by omega)⟩, b2⟩
  have hx2' := hx2 (by omega)
  have p2 : w2.cell? ⟨w.heap.size, 2, none⟩ = some (.slice a1 nM c1) := m2.cell 2 _ rfl
  have S2x := hide (unhide S2 x (by omega) (by omega) w2 b2)
  clear m0 hb2 b1 hx2
  go_wp2_with fail
  refine (unhide S2x).mono ?_
  rintro e w3 ⟨⟨y, rfl, hy1, hy2⟩, hb3⟩
  have b3 := b2.trans (hb3.mono b2.size)
  have m3 := m2.below hb3
  by_cases t2 : y < 0
  · clear p2
    go_wp2_with fail
    go_ret
    exact ⟨⟨-1, rfl, by omega, fun h => absurd h (by omega)⟩, b3⟩
  have hy2' := hy2 (by omega)
  have p3 : w3.cell? ⟨w.heap.size, 3, none⟩ = some (.slice a2 nY c2) := m3.cell 3 _ rfl
  have p4 : w3.cell? ⟨w.heap.size, 4, none⟩ = some (.slice a3 nG c3) := m3.cell 4 _ rfl
  have S3x := hide (unhide S3 y (by omega) (by omega) w3 b3)
  clear m2 hb3 b2 hy2 p2
  go_wp2_with fail
  refine (unhide S3x).mono ?_
  rintro e w4 ⟨⟨z, rfl, hz1, hz2⟩, hb4⟩
  have b4 := b3.trans (hb4.mono b3.size)
  by_cases t3 : z < 0
  · clear p3 p4
    go_wp2_with fail
    go_ret
    exact ⟨⟨-1, rfl, by omega, fun h => absurd h (by omega)⟩, b4⟩
  have HZ : Hid ((nC : Int) + z ≤ left) := by show _ ≤ _; have h1 := unhide HP; have h3 := hz2 (by omega); omega
  clear p3 p4 hz2 hb4 m3
  go_wp2_with fail
  go_ret
  exact ⟨⟨z, rfl, by omega, fun _ => unhide HZ⟩, b4⟩
end Gr
end Go.Proofs.Ytldbanpfhlmjmaa

/-
  Copies of certificates; equal ones; what came in.
-/
namespace Go.Proofs.Ytldbanpfhlmjmaa
namespace Gr
open Go.ChangeShapes Go.WideShapes Go.ChangeAt Go.RowKit

theorem results_cert {fn : Func} {p : Tmp} (h : fn.results = #[.cell p 43]) (tmps : Array Value) (w : World) (g : Nat) (x0 x1 x2 x3 x4 : Value) (hp : tmps.getD p undef = .pointer (some ⟨g, 0, none⟩)) (hg : Blk w g #[x0, x1, x2, x3, x4] 43) :
    (results fn tmps).run Try.prog w = .ok (.agg #[x0, x1, x2, x3, x4]) w := by
  have c0 := hg.cell 0 x0 rfl
  have c1 := hg.cell 1 x1 rfl
  have c2 := hg.cell 2 x2 rfl
  have c3 := hg.cell 3 x3 rfl
  have c4 := hg.cell 4 x4 rfl
  have hp' : tmps[p]?.getD undef = .pointer (some ⟨g, 0, none⟩) := by simpa using hp
  simp [results, h, hp', go_sem, c0, c1, c2, c3, c4]

set_option maxRecDepth 100000 in
set_option maxHeartbeats 2000000 in
theorem eqCert_gen (v u : Value) (B B' : Nat) (s : Int) (Q : List EdgeI) (M : List CoupleI) (Y : List Int) (G : List GrpI) (hn : csize Q M Y G ≤ 1048576) (w : World) (hB : B ≤ w.heap.size) (hB' : B' ≤ w.heap.size) (hv : CeAt w v B s Q M Y G) (hu : CeAt w u B' s Q M Y G) :
    Calls Try.prog 9 #[v, u] w fun e w' => e = .returned (.bool true) ∧ Below w.heap.size w w' := by
  obtain ⟨l1, l2, l3⟩ := csize_le hn
  obtain ⟨a, c, a1, c1, a2, c2, a3, c3, rfl, hg, hm, hp, _⟩ := hv.mono hB
  obtain ⟨x, d, x1, d1, x2, d2, x3, d3, rfl, hg', hm', hp', _⟩ := hu.mono hB'
  have E1 := hide (fun w1 (hb : Below w.heap.size w w1) => eqGraph_same _ _ w.heap.size w.heap.size s Q l1 w1 hb.size hb.size (hg.below hb (Nat.le_refl _)) (hg'.below hb (Nat.le_refl _)))
  have E2 := hide (fun w1 (hb : Below w.heap.size w w1) => eqCoupleS_gen _ _ w.heap.size w.heap.size M l2 w1 hb.size hb.size (hm.below hb (Nat.le_refl _)) (hm'.below hb (Nat.le_refl _)))
  have E3 := hide (fun w1 (hb : Below w.heap.size w w1) => eqProof_gen _ _ w.heap.size w.heap.size Y G l3 w1 hb.size hb.size (hp.below hb (Nat.le_refl _)) (hp'.below hb (Nat.le_refl _)))
  clear hg hm hp hg' hm' hp' l1 l2 l3 hn hv hu
  generalize Q.length = nQ at E1 E2 E3
  generalize M.length = nM at E1 E2 E3
  generalize Y.length = nY at E1 E2 E3
  generalize G.length = nG at E1 E2 E3
  go_enter Try.func9, Try.ntmps9
  go_wp2_with fail
  obtain ⟨V, hV⟩ : ∃ W, W = (w.alloc (Obj.cells #[Value.int .i64 s, Value.slice a nQ c, Value.slice a1 nM c1, Value.slice a2 nY c2, Value.slice a3 nG c3] 43)).alloc (Obj.cells #[Value.int .i64 s, Value.slice x nQ d, Value.slice x1 nM d1, Value.slice x2 nY d2, Value.slice x3 nG d3] 43) := ⟨_, rfl⟩
  rw [← hV]
  have b1 : Below w.heap.size w V := by rw [hV]; exact (below_new _ _).alloc (by simp) _
  have m0 : Blk V w.heap.size #[Value.int .i64 s, Value.slice a nQ c, Value.slice a1 nM c1, Value.slice a2 nY c2, Value.slice a3 nG c3] 43 := by rw [hV]; exact Blk.new0.alloc
  have m1 : Blk V (w.heap.size + 1) #[Value.int .i64 s, Value.slice x nQ d, Value.slice x1 nM d1, Value.slice x2 nY d2, Value.slice x3 nG d3] 43 := by rw [hV]; exact Blk.new1
  clear hV
  refine (unhide E1 V b1).mono ?_
  rintro e w2 ⟨rfl, hb2⟩
  have b2 := b1.trans (hb2.mono b1.size)
  have m0' := m0.below hb2
  have m1' := m1.below hb2
  have p0 : w2.cell? ⟨w.heap.size, 2, none⟩ = some (.slice a1 nM c1) := m0'.cell 2 _ rfl
  have p1 : w2.cell? ⟨w.heap.size + 1, 2, none⟩ = some (.slice x1 nM d1) := m1'.cell 2 _ rfl
  clear m0 m1 hb2 b1
  go_wp2_with fail
  refine (unhide E2 w2 b2).mono ?_
  rintro e w3 ⟨rfl, hb3⟩
  have b3 := b2.trans (hb3.mono b2.size)
  have n0 := m0'.below hb3
  have n1 := m1'.below hb3
  have q0 : w3.cell? ⟨w.heap.size, 3, none⟩ = some (.slice a2 nY c2) := n0.cell 3 _ rfl
  have q1 : w3.cell? ⟨w.heap.size, 4, none⟩ = some (.slice a3 nG c3) := n0.cell 4 _ rfl
  have q2 : w3.cell? ⟨w.heap.size + 1, 3, none⟩ = some (.slice x2 nY d2) := n1.cell 3 _ rfl
  have q3 : w3.cell? ⟨w.heap.size + 1, 4, none⟩ = some (.slice x3 nG d3) := n1.cell 4 _ rfl
  clear p0 p1 m0' m1' hb3 b2
  go_wp2_with fail
  refine (unhide E3 w3 b3).mono ?_
  rintro e w4 ⟨rfl, hb4⟩
  have b4 := b3.trans (hb4.mono b3.size)
  clear q0 q1 q2 q3 hb4
  go_wp2_with fail
  go_ret
  exact ⟨rfl, b4⟩

theorem cells_cert : Try.prog.cellsOf 31 = 5 := by kernel_rfl

set_option maxRecDepth 100000 in
set_option maxHeartbeats 2000000 in
theorem toCert_gen (v : Value) (B : Nat) (s : Int) (Q : List EdgeI) (M : List CoupleI) (Y : List Int) (G : List GrpI) (hn : csize Q M Y G ≤ 1048576) (w : World) (hB : B ≤ w.heap.size) (hv : CeAt w v B s Q M Y G) :
    Calls Try.prog 7 #[v] w fun e w' => (∃ d, e = .returned d ∧ CeOwn w' w.heap.size d s Q M Y G) ∧ Below w.heap.size w w' := by
  obtain ⟨l1, l2, l3⟩ := csize_le hn
  obtain ⟨a, c, a1, c1, a2, c2, a3, c3, rfl, hg, hm, hp, hQ, hM⟩ := hv
  have T1 := hide (fun w1 (hb : Below w.heap.size w w1) => toGraph_any _ B s Q l1 w1 (by have := hb.size; omega) (hg.below hb hB))
  have T2 := hide (fun w1 (hb : Below w.heap.size w w1) => toCoupleS_gen _ B M l2 w1 (by have := hb.size; omega) (hm.below hb hB))
  have T3 := hide (fun w1 (hb : Below w.heap.size w w1) => toProof_own _ B Y G l3 w1 (by have := hb.size; omega) (hp.below hb hB))
  have HLN := hide hp.lens
  have HQM : Hid (Q.length ≤ 9223372036854775807 ∧ M.length ≤ 9223372036854775807) := ⟨hQ, hM⟩
  clear hg hm hp hQ hM
  have HSG : Hid (∀ (w' : World) lo v, GrOwn w' lo v s Q → ∃ x cx, v = .agg #[.int .i64 s, .slice x Q.length cx]) := fun w' lo v h => by obtain ⟨x, cx, e⟩ := h.at.shape; exact ⟨x, cx, e⟩
  have HSC : Hid (∀ (w' : World) lo v, CoOwn w' lo v M → ∃ x cx, v = .slice x M.length cx) := fun w' lo v h => h.at.shape
  have HSI : Hid (∀ (w' : World) lo v, InOwn w' lo v Y → ∃ x cx, v = .slice x Y.length cx) := fun w' lo v h => h.at.shape
  have HSS : Hid (∀ (w' : World) lo v, GsOwn w' lo v G → ∃ x cx, v = .slice x G.length cx) := fun w' lo v h => by obtain ⟨x, cx, e, _⟩ := h.at; exact ⟨x, cx, e⟩
  go_enter Try.func7, Try.ntmps7
  go_wp2_with fail
  obtain ⟨V, hV⟩ : ∃ W, W = ((w.alloc (Obj.cells #[Value.int .i64 s, Value.slice a Q.length c, Value.slice a1 M.length c1, Value.slice a2 Y.length c2, Value.slice a3 G.length c3] 31)).alloc (Obj.cells #[Value.int .i64 0, Value.slice none 0 0, Value.slice none 0 0, Value.slice none 0 0, Value.slice none 0 0] 43)).alloc (Obj.cells #[Value.int .i64 0, Value.slice none 0 0, Value.slice none 0 0, Value.slice none 0 0, Value.slice none 0 0] 43) := ⟨_, rfl⟩
  rw [← hV]
  have b1 : Below w.heap.size w V := by rw [hV]; exact ((below_new _ _).alloc (by simp) _).alloc (by simp; omega) _
  have m0 : Blk V w.heap.size #[Value.int .i64 s, Value.slice a Q.length c, Value.slice a1 M.length c1, Value.slice a2 Y.length c2, Value.slice a3 G.length c3] 31 := by rw [hV]; exact Blk.new0.alloc.alloc
  have m1 : Blk V (w.heap.size + 1) #[Value.int .i64 0, Value.slice none 0 0, Value.slice none 0 0, Value.slice none 0 0, Value.slice none 0 0] 43 := by rw [hV]; exact Blk.new1.alloc
  have m2 : Blk V (w.heap.size + 1 + 1) #[Value.int .i64 0, Value.slice none 0 0, Value.slice none 0 0, Value.slice none 0 0, Value.slice none 0 0] 43 := by rw [hV]; exact Blk.new2
  clear hV
  have z2 := m2.lt
  refine (unhide T1 V b1).mono ?_
  rintro e w2 ⟨⟨g, rfl, hO1⟩, hb2⟩
  obtain ⟨x, cx, rfl⟩ := unhide HSG _ _ _ hO1
  have b2 := b1.trans (hb2.mono b1.size)
  have n0 := m0.below hb2
  have n1 := m1.below hb2
  have n2 := m2.below hb2
  have k2 : Kept (fun g => g = w.heap.size + 1 + 1) w2 ((w2.setCell ⟨w.heap.size + 1 + 1, 0, none⟩ (.int .i64 s)).setCell ⟨w.heap.size + 1 + 1, 1, none⟩ (.slice x Q.length cx)) := (Kept.set (S := fun g => g = w.heap.size + 1 + 1) _ _ _ _ rfl).trans (Kept.set (S := fun g => g = w.heap.size + 1 + 1) _ _ _ _ rfl)
  have HO1 := hide (GrOwn.lower (C := w.heap.size + 1 + 1 + 1) (hO1.kept k2 (fun g hg hS => by have := (hO1.blk g hg).1; omega)) (by omega))
  have o0 := n0.kept k2 (by omega)
  have o1 := n1.kept k2 (by omega)
  have o2 : Blk ((w2.setCell ⟨w.heap.size + 1 + 1, 0, none⟩ (.int .i64 s)).setCell ⟨w.heap.size + 1 + 1, 1, none⟩ (.slice x Q.length cx)) (w.heap.size + 1 + 1) #[Value.int .i64 s, Value.slice x Q.length cx, Value.slice none 0 0, Value.slice none 0 0, Value.slice none 0 0] 43 := (n2.set 0 _).set 1 _
  have b2' : Below w.heap.size w ((w2.setCell ⟨w.heap.size + 1 + 1, 0, none⟩ (.int .i64 s)).setCell ⟨w.heap.size + 1 + 1, 1, none⟩ (.slice x Q.length cx)) := b2.trans (k2.below b2.size (fun i hi => by omega))
  have c2' : w2.cell? ⟨w.heap.size, 2, none⟩ = some (.slice a1 M.length c1) := n0.cell 2 _ rfl
  have e0 : w2.cell? ⟨w.heap.size + 1 + 1, 0, none⟩ = some (.int .i64 0) := n2.cell 0 _ rfl
  have e1 : w2.cell? ⟨w.heap.size + 1 + 1, 1, none⟩ = some (.slice none 0 0) := n2.cell 1 _ rfl
  have f2 := n2.froz
  clear m0 m1 m2 n0 n1 n2 hO1 hb2 k2
  go_wp2_with fail
  clear c2' e0 e1 f2
  generalize ((w2.setCell ⟨w.heap.size + 1 + 1, 0, none⟩ (.int .i64 s)).setCell ⟨w.heap.size + 1 + 1, 1, none⟩ (.slice x Q.length cx)) = V2 at HO1 o0 o1 o2 b2' ⊢
  have z3 := o2.lt
  refine (unhide T2 V2 b2').mono ?_
  rintro e w3 ⟨⟨m, rfl, hO2⟩, hb3⟩
  obtain ⟨y, cy, rfl⟩ := unhide HSC _ _ _ hO2
  have b3 := b2'.trans (hb3.mono b2'.size)
  have n0 := o0.below hb3
  have n1 := o1.below hb3
  have n2 := o2.below hb3
  have k3 : Kept (fun g => g = w.heap.size + 1 + 1) w3 (w3.setCell ⟨w.heap.size + 1 + 1, 2, none⟩ (.slice y M.length cy)) := Kept.set _ _ _ _ rfl
  have HO2 := hide (CoOwn.lower (C := w.heap.size + 1 + 1 + 1) (hO2.kept k3 (fun g hg hS => by have := (hO2.blk g hg).1; omega)) (by omega))
  have hO1' := (unhide HO1).below hb3
  have HO1 := hide (hO1'.kept k3 (fun g hg hS => by have := (hO1'.blk g hg).1; omega))
  have o0 := n0.kept k3 (by omega)
  have o1 := n1.kept k3 (by omega)
  have o2 : Blk (w3.setCell ⟨w.heap.size + 1 + 1, 2, none⟩ (.slice y M.length cy)) (w.heap.size + 1 + 1) #[Value.int .i64 s, Value.slice x Q.length cx, Value.slice y M.length cy, Value.slice none 0 0, Value.slice none 0 0] 43 := n2.set 2 _
  have b3' : Below w.heap.size w (w3.setCell ⟨w.heap.size + 1 + 1, 2, none⟩ (.slice y M.length cy)) := b3.trans (k3.below b3.size (fun i hi => by omega))
  have c3' : w3.cell? ⟨w.heap.size, 3, none⟩ = some (.slice a2 Y.length c2) := n0.cell 3 _ rfl
  have c4' : w3.cell? ⟨w.heap.size, 4, none⟩ = some (.slice a3 G.length c3) := n0.cell 4 _ rfl
  have e2 : w3.cell? ⟨w.heap.size + 1 + 1, 2, none⟩ = some (.slice none 0 0) := n2.cell 2 _ rfl
  have f2 := n2.froz
  clear n0 n1 n2 hO2 hO1' hb3 k3
  go_wp2_with fail
  clear c3' c4' e2 f2
  generalize (w3.setCell ⟨w.heap.size + 1 + 1, 2, none⟩ (.slice y M.length cy)) = V3 at HO1 HO2 o0 o1 o2 b3' ⊢
  have z4 := o2.lt
  refine (unhide T3 V3 b3').mono ?_
  rintro e w4 ⟨⟨vy, vg, rfl, hO3, hO4⟩, hb4⟩
  obtain ⟨u, cu, rfl⟩ := unhide HSI _ _ _ hO3
  obtain ⟨t, ct, rfl⟩ := unhide HSS _ _ _ hO4
  have b4 := b3'.trans (hb4.mono b3'.size)
  have n1 := o1.below hb4
  have n2 := o2.below hb4
  have hO1' := (unhide HO1).below hb4
  have hO2' := (unhide HO2).below hb4
  have hz4 := hb4.size
  have e3 : w4.cell? ⟨w.heap.size + 1 + 1, 3, none⟩ = some (.slice none 0 0) := n2.cell 3 _ rfl
  have e4 : w4.cell? ⟨w.heap.size + 1 + 1, 4, none⟩ = some (.slice none 0 0) := n2.cell 4 _ rfl
  have e0 : w4.cell? ⟨w.heap.size + 1 + 1, 0, none⟩ = some (.int .i64 s) := n2.cell 0 _ rfl
  have e1 : w4.cell? ⟨w.heap.size + 1 + 1, 1, none⟩ = some (.slice x Q.length cx) := n2.cell 1 _ rfl
  have e2 : w4.cell? ⟨w.heap.size + 1 + 1, 2, none⟩ = some (.slice y M.length cy) := n2.cell 2 _ rfl
  have r0 : w4.cell? ⟨w.heap.size + 1, 0, none⟩ = some (.int .i64 0) := n1.cell 0 _ rfl
  have r1 : w4.cell? ⟨w.heap.size + 1, 1, none⟩ = some (.slice none 0 0) := n1.cell 1 _ rfl
  have r2 : w4.cell? ⟨w.heap.size + 1, 2, none⟩ = some (.slice none 0 0) := n1.cell 2 _ rfl
  have r3 : w4.cell? ⟨w.heap.size + 1, 3, none⟩ = some (.slice none 0 0) := n1.cell 3 _ rfl
  have r4 : w4.cell? ⟨w.heap.size + 1, 4, none⟩ = some (.slice none 0 0) := n1.cell 4 _ rfl
  have f1 := n1.froz
  have f2 := n2.froz
  obtain ⟨W9, hW9⟩ : ∃ W, W = ((((((w4.setCell ⟨w.heap.size + 1 + 1, 3, none⟩ (.slice u Y.length cu)).setCell ⟨w.heap.size + 1 + 1, 4, none⟩ (.slice t G.length ct)).setCell ⟨w.heap.size + 1, 0, none⟩ (.int .i64 s)).setCell ⟨w.heap.size + 1, 1, none⟩ (.slice x Q.length cx)).setCell ⟨w.heap.size + 1, 2, none⟩ (.slice y M.length cy)).setCell ⟨w.heap.size + 1, 3, none⟩ (.slice u Y.length cu)).setCell ⟨w.heap.size + 1, 4, none⟩ (.slice t G.length ct) := ⟨_, rfl⟩
  have k9 : Kept (fun g => g = w.heap.size + 1 + 1 ∨ g = w.heap.size + 1) w4 W9 := by
    rw [hW9]
    exact ((((((Kept.set _ _ _ _ (Or.inl rfl)).trans (Kept.set _ _ _ _ (Or.inl rfl))).trans (Kept.set _ _ _ _ (Or.inr rfl))).trans (Kept.set _ _ _ _ (Or.inr rfl))).trans (Kept.set _ _ _ _ (Or.inr rfl))).trans (Kept.set _ _ _ _ (Or.inr rfl))).trans (Kept.set _ _ _ _ (Or.inr rfl))
  have HN : Hid (Blk W9 (w.heap.size + 1) #[.int .i64 s, .slice x Q.length cx, .slice y M.length cy, .slice u Y.length cu, .slice t G.length ct] 43) := by
    show Blk _ _ _ _
    rw [hW9]
    exact ((((((n1.set_other (by omega) _ _).set_other (by omega) _ _).set 0 _).set 1 _).set 2 _).set 3 _).set 4 _
  have HA1 := hide (hO1'.kept k9 (fun g hg hS => by have := (hO1'.blk g hg).1; omega))
  have HA2 := hide (hO2'.kept k9 (fun g hg hS => by have := (hO2'.blk g hg).1; omega))
  have HA3 := hide (hO3.kept k9 (fun g hg hS => by have := (hO3.blk g hg).1; omega))
  have HA4 := hide (hO4.kept k9 (fun g hg hS => by omega))
  have HB9 := hide (b4.trans (k9.below b4.size (fun i hi => by omega)))
  clear o0 o1 o2 n1 n2 hO1' hO2' hO3 hO4 hb4 k9 b4
  go_wp2_with fail
  (try simp only [Exit.inBlock, Exit.then])
  rw [← hW9]
  refine bodyPost_ret (results_cert Try.results7 _ _ (w.heap.size + 1) _ _ _ _ _ rfl (unhide HN)) rfl ?_
  exact ⟨⟨_, rfl, x, cx, y, cy, u, cu, t, ct, rfl, (unhide HA1).at, (unhide HA2).at, PrAt.of_own (unhide HA3) (unhide HA4) (unhide HLN), (unhide HQM).1, (unhide HQM).2⟩, unhide HB9⟩
end Gr
end Go.Proofs.Ytldbanpfhlmjmaa

/-
  A certificate that came in.
-/
namespace Go.Proofs.Ytldbanpfhlmjmaa
namespace Gr
open Go.ChangeShapes Go.WideShapes Go.ChangeAt Go.RowKit

theorem five_of {cs : Array Value} (h : cs.size = 5) : ∃ v0 v1 v2 v3 v4, cs = #[v0, v1, v2, v3, v4] := by
  obtain ⟨l⟩ := cs
  match l, h with
  | [v0, v1, v2, v3, v4], _ => exact ⟨v0, v1, v2, v3, v4, rfl⟩

theorem cells_couples : Try.prog.cellsOf 25 = 1 := by kernel_rfl

theorem cells_groups : Try.prog.cellsOf 27 = 1 := by kernel_rfl

theorem cells_edges : Try.prog.cellsOf 22 = 1 := by kernel_rfl

theorem cells_int1 : Try.prog.cellsOf 3 = 1 := by kernel_rfl

set_option maxRecDepth 100000 in
set_option maxHeartbeats 1000000 in
theorem cert_in {H : Type} {enc : TypeId × Value → H} {W : World} {r : Reach} {b0 : Nat} {v : Value} {d : DataW H} {p : List MemPlace}
    (hv : Value.okWide Try.prog W r b0 31 v) (h : DataW.Trod enc Try.prog W 0 (fun _ => true) true 31 v d p) : ∃ s Q M Y G, CeAt W v W.heap.size s Q M Y G ∧ csize Q M Y G ≤ 9223372036854775807 := by
  obtain ⟨cs, rfl, hsz⟩ := okWide_struct Try.underlying31 hv
  obtain ⟨v0, v1, v2, v3, v4, rfl⟩ := five_of (hsz.trans cells_cert)
  obtain ⟨fuel, hf⟩ := h
  obtain ⟨y0, y1, y2, n, _, _, h0, h1, h2⟩ := Deep.trod_struct3 Try.underlying31 hf
  simp [Value.cells, cells_graph, cells_couples, cells_proof] at h0 h1 h2
  obtain ⟨z0, z1, n1, _, _, g0, g1⟩ := trod_struct2 Try.underlying24 h0
  obtain ⟨z3, z4, n2, _, _, g3, g4⟩ := trod_struct2 Try.underlying29 h2
  simp [cells_int1, cells_edges] at g0 g1
  simp [cells_intS, cells_groups] at g3 g4
  obtain ⟨s, e0, _, _⟩ := DataW.trod_int Try.underlying3 g0
  simp at e0
  subst e0
  obtain ⟨a, k, c, Q, rfl, hQ, hQ1⟩ := edges_open g1
  obtain ⟨a1, k1, c1, M, rfl, hM, hM1⟩ := couples_open h1
  have hone : [v3] = v3.cells.toList := by
    rcases Deep.open_slice Try.underlying26 g3 with ⟨hcs, _⟩ | ⟨a, len, cap, m, n, D, Pl, hcs, _⟩
    · simp at hcs; subst hcs; rfl
    · simp at hcs; subst hcs; rfl
  rw [hone] at g3
  obtain ⟨a2, k2, c2, Y, hcs, hY, _, hn⟩ := ints_open (fun _ => rfl) g3
  rw [← hone] at hcs
  simp at hcs
  subst hcs
  obtain ⟨a3, k3, c3, G, rfl, hG, hG1, hG2⟩ := groups_open (fun _ => rfl) g4
  obtain rfl := hQ.1
  obtain rfl := hM.1
  obtain rfl := hY.1
  obtain rfl := hG.1
  refine ⟨s, Q, M, Y, G, ⟨a, c, a1, c1, a2, c2, a3, c3, rfl, ⟨a, _, c, rfl, hQ⟩, ⟨a1, c1, rfl, hM⟩, ⟨a2, _, c2, a3, _, c3, rfl, hY, hG, hn, hG1, hG2⟩, hQ1, hM1⟩, ?_⟩
  unfold csize
  omega
end Gr
end Go.Proofs.Ytldbanpfhlmjmaa
