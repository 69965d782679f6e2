/-
  Texts of this claim, one behind the other: GrProof1, GrProof2, GrProof3, GrProof4.
-/
import Derived.Test.YtalmbdfcpnkkpaaJ18
import Derived.Test.YtalmbdfcpnkkpaaJ19
import Derived.Deep.DeepFit
import Derived.Test.YtalmbdfcpnkkpaaJ13

/-
  The contracts of spec.l11Nested, spec.l11Slack and spec.l11Sum.
-/
namespace Go.Proofs.Ytalmbdfcpnkkpaa
namespace Gr
open Go.RowKit

set_option maxRecDepth 100000 in
set_option maxHeartbeats 1000000 in
theorem specNested_any (a a' : Option Addr) (c c' B : Nat) (K L : List Int) (h1 : K.length ≤ 1048576) (h2 : L.length ≤ 1048576) (w : World) (hK : IntsAt w a K.length B K) (hL : IntsAt w a' L.length B L) :
    Calls Try.prog 63 #[.slice a K.length c, .slice a' L.length c'] w fun e w' => e = .returned (.bool (nested K L)) ∧ w' = w := by
  have IN := hide (fun x => l03In_any a' L.length c' B L x h2 w hL)
  have HC := hide hK.2
  have HSTEP : Hid (∀ m k (h : k < K.length), cntIn L m (K.drop k) = cntIn L (if inK L K[k] = true then m + 1 else m) (K.drop (k + 1))) := fun m k h => by rw [drop_step K k h]; rfl
  have HEND : Hid (∀ m, cntIn L m (K.drop K.length) = m) := fun m => by rw [List.drop_length]; rfl
  have H0 : Hid (cntIn L 0 K = cntIn L 0 (K.drop 0)) := rfl
  have hN : nested K L = (decide (cntIn L 0 K = 0) || (decide (cntIn L 0 K = K.length) || decide (cntIn L 0 K = L.length))) := rfl
  generalize nested K L = N at hN ⊢
  have hle := cntIn_le L K 0
  generalize cntIn L 0 K = T at H0 hN hle
  obtain ⟨n, hn⟩ : ∃ n, n = K.length := ⟨_, rfl⟩
  obtain ⟨m, hm⟩ : ∃ m, m = L.length := ⟨_, rfl⟩
  have HN := hide hn
  rw [← hn] at HEND hN h1 hle ⊢
  rw [← hm] at IN hN h2 ⊢
  clear hn hm hK hL
  have HNN := hide hN
  clear hN
  go_enter Try.func63, Try.ntmps63
  go_wp2_with fail
  go_loopw [5, 6] (fun t i wr => ∃ (k u : Nat), i = .int .i64 (k : Int) ∧ t = .int .i64 (u : Int) ∧ k ≤ n ∧ u ≤ k ∧ Hid (T = cntIn L u (K.drop k)) ∧ wr = w) (fun _ i _ => n - (intOf i).toNat)
  case atStart => exact ⟨0, 0, rfl, rfl, Nat.zero_le _, Nat.le_refl _, unhide H0, rfl⟩
  case round =>
    obtain ⟨k, u, rfl, rfl, hk, hu, HT, rfl⟩ := hrel
    by_cases hlt : k < n
    · have hkL : k < K.length := by have := unhide HN; omega
      obtain ⟨b, off, rfl, hbB, c0⟩ := unhide HC k hkL
      have IK := hide (unhide IN K[k])
      have HT2 := hide ((unhide HT).trans (unhide HSTEP u k hkL))
      generalize K[k] = x at c0 IK HT2
      generalize inK L x = bx at IK HT2
      cases bx with
      | true =>
        go_wp2_with fail
        refine (unhide IK).mono ?_
        rintro e w1 ⟨rfl, rfl⟩
        go_wp2_with fail
        exact ⟨⟨k + 1, u + 1, by go_num, by go_num, by omega, by omega, unhide HT2, trivial⟩, by simp [intOf]; omega⟩
      | false =>
        go_wp2_with fail
        refine (unhide IK).mono ?_
        rintro e w1 ⟨rfl, rfl⟩
        go_wp2_with fail
        exact ⟨⟨k + 1, u, by go_num, rfl, by omega, by omega, unhide HT2, trivial⟩, by simp [intOf]; omega⟩
    · obtain rfl : k = n := by omega
      have hTu := (unhide HT).trans (unhide HEND u)
      have hN := unhide HNN
      rw [hTu] at hN
      clear hTu HNN HT H0
      by_cases t0 : u = 0
      · subst t0
        simp at hN
        subst hN
        go_wp2_with fail
        go_ret
        exact ⟨rfl, rfl⟩
      · have e0 : ((u : Int) == 0) = false := by simp; omega
        by_cases t1 : u = k
        · have e1 : ((u : Int) == (k : Int)) = true := by simp; omega
          have hNt : N = true := by rw [hN]; simp [t1]
          subst hNt
          clear hN
          have HT1 := hide t1
          clear t1
          go_wp2_with fail
          go_ret
          exact ⟨rfl, rfl⟩
        · have e1 : ((u : Int) == (k : Int)) = false := by simp; omega
          have hNt : N = ((u : Int) == (m : Int)) := by
            rw [hN, Bool.eq_iff_iff]
            simp [t0, t1]
            omega
          subst hNt
          clear hN
          go_wp2_with fail
          go_ret
          exact ⟨rfl, rfl⟩
end Gr
end Go.Proofs.Ytalmbdfcpnkkpaa

/-
  The contracts of spec.l11Slack and spec.l11Sum.
-/
namespace Go.Proofs.Ytalmbdfcpnkkpaa
namespace Gr
open Go.RowKit

set_option maxRecDepth 100000 in
set_option maxHeartbeats 4000000 in
theorem specSlack_any (v : Value) (B : Nat) (s : Int) (Y : List Int) (G : List GrpI) (e : EdgeI) (hYs : (Y.length : Int) = s) (h9 : s ≤ 9) (hY : ∀ y ∈ Y, 0 ≤ y ∧ y ≤ 1000000000) (hq : ∀ q ∈ G, grpHead s q = true) (hG8 : G.length ≤ 8) (he : edgeOk s e = true) (w : World) (hB : B ≤ w.heap.size) (hv : PrAt w v B Y G) :
    Calls Try.prog 64 #[v, e.v] w fun r w' => r = .returned (.int .i64 (slackI Y G e)) ∧ Below w.heap.size w w' := by
  obtain ⟨q0, q1, q2, _, _, _⟩ := (edgeOk_iff s e).1 he
  have hsc := scal_range he
  have SC := hide (fun w => specScalar_any e w)
  have hR : slackI Y G e = slackG e (yAt Y e.A + yAt Y e.B - 2 * scal e) G := rfl
  generalize slackI Y G e = R at hR ⊢
  obtain ⟨a, n, c, a', n', c', rfl, hYA, hGA, _⟩ := hv
  have hYn := hYA.1
  obtain ⟨x0, hx0⟩ := Int.eq_ofNat_of_zero_le q0
  obtain ⟨x1, hx1⟩ := Int.eq_ofNat_of_zero_le (show 0 ≤ e.B by omega)
  have hl0 : x0 < Y.length := by omega
  have hl1 : x1 < Y.length := by omega
  obtain ⟨by0, oy, rfl, hbyB, y0⟩ := hYA.2 x0 hl0
  obtain ⟨by1, oy1, ey, _, y1⟩ := hYA.2 x1 hl1
  simp at ey
  obtain ⟨rfl, rfl⟩ := ey
  have ea : yAt Y e.A = Y[x0] := by unfold yAt; rw [hx0]; simp [hl0]
  have eb : yAt Y e.B = Y[x1] := by unfold yAt; rw [hx1]; simp [hl1]
  rw [ea, eb] at hR
  have r0 := hY _ (List.getElem_mem hl0)
  have r1 := hY _ (List.getElem_mem hl1)
  generalize Y[x0] = ya at y0 hR r0
  generalize Y[x1] = yb at y1 hR r1
  generalize scal e = sc at SC hR hsc
  have HCG := hide hGA.2
  have HGL := hide hGA.1
  have HST : Hid (∀ S k (h : k < G.length), slackG e S (G.drop k) = slackG e (if (inK G[k].M e.A && inK G[k].M e.B) = true then S + G[k].Z else S) (G.drop (k + 1))) := fun S k h => by rw [drop_step G k h]; rfl
  have HEND : Hid (∀ S, slackG e S (G.drop n') = S) := fun S => by rw [← hGA.1, List.drop_length]; rfl
  have H0 : Hid (R = slackG e (ya + yb - 2 * sc) (G.drop 0)) := hR
  have HQ := hide hq
  have HE : Hid (∀ t, slackG e t = slackG e t) := fun _ => rfl
  clear hR ea eb hYA hGA hY hq he HE
  generalize hslk : slackG e = F at HST HEND H0
  clear hslk
  rw [hx0, hx1] at HST
  obtain ⟨eA, eB, e2, e3, e4⟩ := e
  simp only at hx0 hx1 q1 q2
  subst hx0 hx1
  unfold EdgeI.v at SC ⊢
  simp only at SC ⊢
  have w1 : IntKind.i64.wrap (ya + yb) = ya + yb := wrap_in _ (by omega)
  have w2 : IntKind.i64.wrap (2 * sc) = 2 * sc := wrap_in _ (by omega)
  have w3 : IntKind.i64.wrap (ya + yb - 2 * sc) = ya + yb - 2 * sc := wrap_in _ (by omega)
  have hin0 : (x0 : Int) < (n : Int) := by omega
  have hin1 : (x1 : Int) < (n : Int) := by omega
  have hn8 : n' ≤ 8 := by have := unhide HGL; omega
  go_enter Try.func64, Try.ntmps64
  go_wp2_with fail
  obtain ⟨V, hV⟩ : ∃ W, W = (w.alloc (Obj.cells #[Value.slice (some ⟨by0, oy, none⟩) n c, Value.slice a' n' c'] 29)).alloc (Obj.cells #[Value.int .i64 (x0 : Int), Value.int .i64 (x1 : Int), Value.int .i64 e2, Value.int .i64 e3, Value.int .i64 e4] 42) := ⟨_, rfl⟩
  rw [← hV]
  have bV : Below w.heap.size w V := by rw [hV]; exact (below_new _ _).alloc (by simp) _
  have m0 : Blk V w.heap.size #[Value.slice (some ⟨by0, oy, none⟩) n c, Value.slice a' n' c'] 29 := by rw [hV]; exact Blk.new0.alloc
  have m1 : Blk V (w.heap.size + 1) #[Value.int .i64 (x0 : Int), Value.int .i64 (x1 : Int), Value.int .i64 e2, Value.int .i64 e3, Value.int .i64 e4] 42 := by rw [hV]; exact Blk.new1
  clear hV
  have z0 := m0.lt
  have z1 := m1.lt
  have HM0 := hide m0
  have HM1 := hide m1
  have P0 : ∀ d : Grown V.heap.size V, d.w.cell? ⟨w.heap.size, 0, none⟩ = some (.slice (some ⟨by0, oy, none⟩) n c) := fun d => d.cell z0 (m0.cell 0 _ rfl)
  have E0 : ∀ d : Grown V.heap.size V, d.w.cell? ⟨w.heap.size + 1, 0, none⟩ = some (.int .i64 (x0 : Int)) := fun d => d.cell z1 (m1.cell 0 _ rfl)
  have E1 : ∀ d : Grown V.heap.size V, d.w.cell? ⟨w.heap.size + 1, 1, none⟩ = some (.int .i64 (x1 : Int)) := fun d => d.cell z1 (m1.cell 1 _ rfl)
  have E2 : ∀ d : Grown V.heap.size V, d.w.cell? ⟨w.heap.size + 1, 2, none⟩ = some (.int .i64 e2) := fun d => d.cell z1 (m1.cell 2 _ rfl)
  have E3 : ∀ d : Grown V.heap.size V, d.w.cell? ⟨w.heap.size + 1, 3, none⟩ = some (.int .i64 e3) := fun d => d.cell z1 (m1.cell 3 _ rfl)
  have E4 : ∀ d : Grown V.heap.size V, d.w.cell? ⟨w.heap.size + 1, 4, none⟩ = some (.int .i64 e4) := fun d => d.cell z1 (m1.cell 4 _ rfl)
  have Y0 : ∀ d : Grown V.heap.size V, d.w.cell? ⟨by0, oy + x0, none⟩ = some (.int .i64 ya) := fun d => d.cell (by omega) ((bV.cell (p := ⟨by0, oy + x0, none⟩) (by simp; omega)).trans y0)
  have Y1 : ∀ d : Grown V.heap.size V, d.w.cell? ⟨by0, oy + x1, none⟩ = some (.int .i64 yb) := fun d => d.cell (by omega) ((bV.cell (p := ⟨by0, oy + x1, none⟩) (by simp; omega)).trans y1)
  clear m0 m1 y0 y1
  refine wp_region_grown V.heap.size (by kernel_rfl) (by kernel_rfl) ?_
  repeat (go_big_quiet_step (first | (go_at_call 67; exact Calls.grown (Nat.le_refl _) (unhide SC _))))
  refine wpQuiet_nil ?_
  rintro w5 ⟨d5, rfl⟩
  obtain ⟨W5, hb5⟩ := d5
  dsimp only
  clear P0 E0 E1 E2 E3 E4 Y0 Y1 SC
  go_wp2_with fail
  go_loopw [5, 6] (fun t i wr => ∃ (k : Nat) (S : Int), i = .int .i64 (k : Int) ∧ t = .int .i64 S ∧ k ≤ n' ∧ -9030100 ≤ S ∧ S ≤ 2000000000 + 1000000000 * (k : Int) ∧ Hid (R = F S (G.drop k)) ∧ Below V.heap.size V wr) (fun _ i _ => n' - (intOf i).toNat)
  case atStart => exact ⟨0, ya + yb - 2 * sc, rfl, rfl, Nat.zero_le _, by omega, by omega, unhide H0, hb5⟩
  case round =>
    obtain ⟨k, S, rfl, rfl, hk, hS0, hS1, HS, hbr⟩ := hrel
    have hzr := hbr.size
    have p1 : wr.cell? ⟨w.heap.size, 1, none⟩ = some (.slice a' n' c') := ((unhide HM0).below hbr).cell 1 _ rfl
    have bw : Below w.heap.size w wr := bV.trans (hbr.mono bV.size)
    by_cases hlt : k < n'
    · have hkL : k < G.length := by have := unhide HGL; omega
      obtain ⟨b, off, a2, c2, rfl, hbB, d0, d1, hI⟩ := unhide HCG k hkL
      obtain ⟨_, _, hM9, hZ1, hZ2⟩ := (grpHead_iff s _).1 (unhide HQ _ (List.getElem_mem hkL))
      have HSK := hide ((unhide HS).trans (unhide HST S k hkL))
      have IN : Hid (∀ x (d : Grown wr.heap.size wr), Calls Try.prog 66 #[.slice a2 G[k].M.length c2, .int .i64 x] d.w fun e w' => e = .returned (.bool (inK G[k].M x)) ∧ w' = d.w) := fun x d => l03In_any a2 _ c2 B _ x (by omega) d.w (hI.below (bw.trans (d.below.mono bw.size)) hB)
      generalize G[k] = q at d0 d1 hM9 hZ1 hZ2 HSK IN
      clear hI
      have I0 := hide (unhide IN (x0 : Int))
      have I1 := hide (unhide IN (x1 : Int))
      clear IN
      generalize inK q.M (x0 : Int) = b0 at I0 HSK
      generalize inK q.M (x1 : Int) = b1 at I1 HSK
      have hkn : (k : Int) < (n' : Int) := by omega
      have A1 : ∀ d : Grown wr.heap.size wr, d.w.cell? ⟨w.heap.size, 1, none⟩ = some (.slice (some ⟨b, off, none⟩) n' c') := fun d => d.cell (by omega) p1
      have F0 : ∀ d : Grown wr.heap.size wr, d.w.cell? ⟨w.heap.size + 1, 0, none⟩ = some (.int .i64 (x0 : Int)) := fun d => d.cell (by omega) (((unhide HM1).below hbr).cell 0 _ rfl)
      have F1 : ∀ d : Grown wr.heap.size wr, d.w.cell? ⟨w.heap.size + 1, 1, none⟩ = some (.int .i64 (x1 : Int)) := fun d => d.cell (by omega) (((unhide HM1).below hbr).cell 1 _ rfl)
      have g0 : wr.cell? ⟨b, off + k * 2, none⟩ = some (.slice a2 q.M.length c2) := (bw.cell (p := ⟨b, off + k * 2, none⟩) (by simp; omega)).trans d0
      have g1 : wr.cell? ⟨b, off + k * 2 + 1, none⟩ = some (.int .i64 q.Z) := (bw.cell (p := ⟨b, off + k * 2 + 1, none⟩) (by simp; omega)).trans d1
      have G0 : ∀ d : Grown wr.heap.size wr, d.w.cell? ⟨b, off + k * 2, none⟩ = some (.slice a2 q.M.length c2) := fun d => d.cell (by omega) g0
      have HA1 := hide A1
      have HG1 : Hid (∀ d : Grown wr.heap.size wr, d.w.cell? ⟨b, off + k * 2 + 1, none⟩ = some (.int .i64 q.Z)) := fun d => d.cell (by omega) g1
      clear d0 d1 g0 g1
      go_wp2_with fail
      clear p1
      refine wp_region_grown wr.heap.size (by kernel_rfl) (by kernel_rfl) ?_
      cases b0 with
      | false =>
        repeat (go_big_quiet_step (first
          | (go_at_call_of 66 (Value.int IntKind.i64 (x0 : Int)); exact Calls.grown_same (unhide I0 _))
          | (go_at_call_of 66 (Value.int IntKind.i64 (x1 : Int)); exact Calls.grown_same (unhide I1 _))))
        refine wpQuiet_nil ?_
        rintro w6 ⟨d6, rfl⟩
        clear A1 F0 F1 G0
        go_wp2_with fail
        exact ⟨⟨k + 1, S, by go_num, rfl, by omega, by omega, by omega, unhide HSK, hbr.trans (d6.below.mono hbr.size)⟩, by simp [intOf]; omega⟩
      | true =>
        repeat (go_big_quiet_step (first
          | (go_at_call_of 66 (Value.int IntKind.i64 (x0 : Int)); exact Calls.grown_same (unhide I0 _))
          | (go_at_call_of 66 (Value.int IntKind.i64 (x1 : Int)); exact Calls.grown_same (unhide I1 _))))
        refine wpQuiet_nil ?_
        rintro w6 ⟨d6, rfl⟩
        clear A1 F0 F1 G0
        cases b1 with
        | false =>
          go_wp2_with fail
          exact ⟨⟨k + 1, S, by go_num, rfl, by omega, by omega, by omega, unhide HSK, hbr.trans (d6.below.mono hbr.size)⟩, by simp [intOf]; omega⟩
        | true =>
          have j1 := unhide HA1 d6
          have j2 := unhide HG1 d6
          have w4 : IntKind.i64.wrap (S + q.Z) = S + q.Z := wrap_in _ (by omega)
          go_wp2_with fail
          exact ⟨⟨k + 1, S + q.Z, by go_num, rfl, by omega, by omega, by omega, unhide HSK, hbr.trans (d6.below.mono hbr.size)⟩, by simp [intOf]; omega⟩
    · obtain rfl : k = n' := by omega
      have hRS := (unhide HS).trans (unhide HEND S)
      subst hRS
      go_wp2_with fail
      go_ret
      exact ⟨rfl, bw⟩
end Gr
end Go.Proofs.Ytalmbdfcpnkkpaa

/-
  The contract of spec.l11Sum.
-/
namespace Go.Proofs.Ytalmbdfcpnkkpaa
namespace Gr
open Go.RowKit

theorem wrap64_in (x : Int) (h : -9223372036854775808 ≤ x ∧ x ≤ 9223372036854775807) : wrap64 x = x := by
  rw [wrap_mod]
  omega

set_option maxRecDepth 100000 in
set_option maxHeartbeats 4000000 in
theorem specSum_any (v : Value) (B : Nat) (s : Int) (Y : List Int) (G : List GrpI) (hYs : (Y.length : Int) = s) (h9 : s ≤ 9) (hY : ∀ y ∈ Y, 0 ≤ y ∧ y ≤ 1000000000) (hq : ∀ q ∈ G, grpHead s q = true) (hG8 : G.length ≤ 8) (w : World) (hB : B ≤ w.heap.size) (hv : PrAt w v B Y G) :
    Calls Try.prog 48 #[v] w fun r w' => r = .returned (.int .i64 (sumI Y G)) ∧ Below w.heap.size w w' := by
  have hR : sumI Y G = gSum (ySum 0 Y) G := rfl
  generalize sumI Y G = R at hR ⊢
  obtain ⟨a, n, c, a', n', c', rfl, hYA, hGA, _⟩ := hv
  have HSY : Hid (∀ S k (h : k < Y.length), ySum S (Y.drop k) = ySum (S + Y[k]) (Y.drop (k + 1))) := fun S k h => by rw [drop_step Y k h]; rfl
  have HEY : Hid (∀ S, ySum S (Y.drop n) = S) := fun S => by rw [← hYA.1, List.drop_length]; rfl
  have HSG : Hid (∀ S k (h : k < G.length), gSum S (G.drop k) = gSum (S + G[k].Z * ((G[k].M.length / 2 : Nat) : Int)) (G.drop (k + 1))) := fun S k h => by rw [drop_step G k h]; rfl
  have HEG : Hid (∀ S, gSum S (G.drop n') = S) := fun S => by rw [← hGA.1, List.drop_length]; rfl
  have HY := hide hY
  have HQ := hide hq
  have HYL := hide hYA.1
  have HGL := hide hGA.1
  have HCY := hide hYA.2
  have HCG := hide hGA.2
  have H0 : Hid (ySum 0 Y = ySum 0 (Y.drop 0)) := rfl
  have HR := hide hR
  generalize ySum 0 Y = T at H0 HR
  have hn9 : n ≤ 9 := by have := hYA.1; omega
  have hn8 : n' ≤ 8 := by have := hGA.1; omega
  clear hY hq hYA hGA hR
  go_enter Try.func48, Try.ntmps48
  go_wp2_with fail
  obtain ⟨V, hV⟩ : ∃ W, W = w.alloc (Obj.cells #[Value.slice a n c, Value.slice a' n' c'] 29) := ⟨_, rfl⟩
  rw [← hV]
  have bV : Below w.heap.size w V := by rw [hV]; exact below_new _ _
  have m0 : Blk V w.heap.size #[Value.slice a n c, Value.slice a' n' c'] 29 := by rw [hV]; exact Blk.new0
  clear hV
  have z0 := m0.lt
  have p0 : V.cell? ⟨w.heap.size, 0, none⟩ = some (.slice a n c) := m0.cell 0 _ rfl
  have HM0 := hide m0
  clear m0
  go_loopw [3, 4] (fun t i wr => ∃ (k : Nat) (S : Int), i = .int .i64 (k : Int) ∧ t = .int .i64 S ∧ k ≤ n ∧ 0 ≤ S ∧ S ≤ 1000000000 * (k : Int) ∧ Hid (T = ySum S (Y.drop k)) ∧ V = wr) (fun _ i _ => n - (intOf i).toNat)
  case atStart => exact ⟨0, 0, rfl, rfl, Nat.zero_le _, by omega, by omega, unhide H0, rfl⟩
  case round =>
    obtain ⟨k, S, rfl, rfl, hk, hS0, hS1, HS, rfl⟩ := hrel
    by_cases hlt : k < n
    · have hkL : k < Y.length := by have := unhide HYL; omega
      obtain ⟨b, off, rfl, hbB, c0⟩ := unhide HCY k hkL
      rw [← bV.cell (p := ⟨b, off + k, none⟩) (by simp; omega)] at c0
      have hy := unhide HY _ (List.getElem_mem hkL)
      have HS2 := hide ((unhide HS).trans (unhide HSY S k hkL))
      generalize Y[k] = y at c0 hy HS2
      have w1 : IntKind.i64.wrap (S + y) = S + y := wrap_in _ (by omega)
      go_wp2_with fail
      exact ⟨⟨k + 1, S + y, by go_num, rfl, by omega, by omega, by omega, unhide HS2, trivial⟩, by simp [intOf]; omega⟩
    · obtain rfl : k = n := by omega
      have hTS := (unhide HS).trans (unhide HEY S)
      have HR2 : Hid (R = gSum S (G.drop 0)) := by show _ = _; rw [unhide HR, hTS]; rfl
      clear hTS HS HR H0
      go_wp2_with fail
      go_loopw [3, 5] (fun t i wr => ∃ (j : Nat) (U : Int), i = .int .i64 (j : Int) ∧ t = .int .i64 U ∧ j ≤ n' ∧ 0 ≤ U ∧ U ≤ 9000000000 + 4000000000 * (j : Int) ∧ Hid (R = gSum U (G.drop j)) ∧ Below V.heap.size V wr) (fun _ i _ => n' - (intOf i).toNat)
      case atStart => exact ⟨0, S, rfl, rfl, Nat.zero_le _, by omega, by omega, unhide HR2, Below.refl _ _⟩
      case round =>
        obtain ⟨j, U, rfl, rfl, hj, hU0, hU1, HU, hbr⟩ := hrel
        have hzr := hbr.size
        have bw : Below w.heap.size w wr := bV.trans (hbr.mono bV.size)
        have p1 : wr.cell? ⟨w.heap.size, 1, none⟩ = some (.slice a' n' c') := ((unhide HM0).below hbr).cell 1 _ rfl
        by_cases hlt : j < n'
        · have hjL : j < G.length := by have := unhide HGL; omega
          obtain ⟨b, off, a2, c2, rfl, hbB, d0, d1, _⟩ := unhide HCG j hjL
          have hh := half_bounds (unhide HQ _ (List.getElem_mem hjL)) h9
          obtain ⟨_, _, hM9, hZ1, hZ2⟩ := (grpHead_iff s _).1 (unhide HQ _ (List.getElem_mem hjL))
          have HU2 := hide ((unhide HU).trans (unhide HSG U j hjL))
          generalize G[j] = q at d0 d1 hh hM9 hZ1 hZ2 HU2
          have hjn : (j : Int) < (n' : Int) := by omega
          have wh : ((q.M.length : Nat) : Int) / 2 = ((q.M.length / 2 : Nat) : Int) := by omega
          obtain ⟨pz, hpz⟩ : ∃ pz, pz = q.Z * ((q.M.length / 2 : Nat) : Int) := ⟨_, rfl⟩
          rw [← hpz] at hh HU2
          have HWH : Hid (wrap64 (U + wrap64 (q.Z * (((q.M.length : Nat) : Int) / 2))) = U + pz) := by
            show _ = _
            rw [wh, ← hpz, wrap64_in pz (by omega), wrap64_in _ (by omega)]
          clear wh hpz
          have A1 : ∀ d : Grown wr.heap.size wr, d.w.cell? ⟨w.heap.size, 1, none⟩ = some (.slice (some ⟨b, off, none⟩) n' c') := fun d => d.cell (by omega) p1
          have G0 : ∀ d : Grown wr.heap.size wr, d.w.cell? ⟨b, off + j * 2, none⟩ = some (.slice a2 q.M.length c2) := fun d => d.cell (by omega) ((bw.cell (p := ⟨b, off + j * 2, none⟩) (by simp; omega)).trans d0)
          have G1 : ∀ d : Grown wr.heap.size wr, d.w.cell? ⟨b, off + j * 2 + 1, none⟩ = some (.int .i64 q.Z) := fun d => d.cell (by omega) ((bw.cell (p := ⟨b, off + j * 2 + 1, none⟩) (by simp; omega)).trans d1)
          clear d0 d1
          go_wp2_with fail
          clear p1
          refine wp_region_grown wr.heap.size (by kernel_rfl) (by kernel_rfl) ?_
          repeat (go_big_quiet_step (first | fail))
          refine wpQuiet_nil ?_
          rintro w6 ⟨d6, rfl⟩
          clear A1 G0 G1
          go_wp2_with fail
          exact ⟨⟨j + 1, U + pz, by go_num, (by rw [unhide HWH]), by omega, by omega, by omega, unhide HU2, hbr.trans (d6.below.mono hbr.size)⟩, by simp [intOf]; omega⟩
        · obtain rfl : j = n' := by omega
          have hRS := (unhide HU).trans (unhide HEG U)
          subst hRS
          go_wp2_with fail
          go_ret
          exact ⟨rfl, bw⟩
end Gr
end Go.Proofs.Ytalmbdfcpnkkpaa

/-
  The contract of spec.ProofOk.
-/
namespace Go.Proofs.Ytalmbdfcpnkkpaa
namespace Gr
open Go.RowKit

theorem yOk_step (Y : List Int) (k : Nat) (h : k < Y.length) : yOk (Y.drop k) = ((decide (0 ≤ Y[k]) && decide (Y[k] ≤ 1000000000)) && yOk (Y.drop (k + 1))) := by rw [drop_step Y k h]; rfl

theorem grpsOk_step (s : Int) (G : List GrpI) (i : Nat) (h : i < G.length) : grpsOk s (G.take i) (G.drop i) = (grpHead s G[i] && (memOk s none G[i].M && (nestAll G[i].M (G.take i) && grpsOk s (G.take (i + 1)) (G.drop (i + 1))))) := by
  rw [drop_step G i h, List.take_succ_eq_append_getElem h]
  rfl

def prevI (M : List Int) (k : Nat) : Option Int := if k = 0 then none else M[k - 1]?

theorem memOk_step (s : Int) (M : List Int) (k : Nat) (h : k < M.length) : memOk s (prevI M k) (M.drop k) = ((decide (0 ≤ M[k]) && decide (M[k] ≤ s - 1)) && ((match prevI M k with | none => true | some q => decide (q < M[k])) && memOk s (prevI M (k + 1)) (M.drop (k + 1)))) := by
  have e : prevI M (k + 1) = some M[k] := by unfold prevI; simp [h]
  rw [drop_step M k h, e]
  rfl

theorem nestAll_step (b : List Int) (D : List GrpI) (k : Nat) (h : k < D.length) : nestAll b (D.drop k) = (nested D[k].M b && nestAll b (D.drop (k + 1))) := by rw [drop_step D k h]; rfl

theorem slacksOk_step (Y : List Int) (G : List GrpI) (Q : List EdgeI) (k : Nat) (h : k < Q.length) : slacksOk Y G (Q.drop k) = (decide (0 ≤ slackI Y G Q[k]) && slacksOk Y G (Q.drop (k + 1))) := by rw [drop_step Q k h]; rfl

set_option maxRecDepth 100000 in
set_option maxHeartbeats 8000000 in
theorem specProof_gen (B : Nat) (v : Value) (s : Int) (Q : List EdgeI) (u : Value) (Y : List Int) (G : List GrpI) (h1 : Q.length ≤ 1048576) (h2 : psize Y G ≤ 1048576) (w : World) (hB : B ≤ w.heap.size) (hv : GrAt w v B s Q) (hu : PrAt w u B Y G) :
    Calls Try.prog 45 #[v, u] w fun e w' => e = .returned (.bool (proofOk s Q Y G)) ∧ Below w.heap.size w w' := by
  obtain ⟨l1, l2, l3⟩ := psize_le h2
  have OK := hide (fun w1 (hb : Below w.heap.size w w1) => specGraph_any v B s Q h1 w1 (by have := hb.size; omega) (hv.below hb hB))
  have SL := hide (fun (x1 : (Y.length : Int) = s) (x2 : s ≤ 9) (x3 : ∀ y ∈ Y, 0 ≤ y ∧ y ≤ 1000000000) (x4 : ∀ q ∈ G, grpHead s q = true) (x5 : G.length ≤ 8) e (x6 : edgeOk s e = true) w1 (hb : Below w.heap.size w w1) => specSlack_any u B s Y G e x1 x2 x3 x4 x5 x6 w1 (by have := hb.size; omega) (hu.below hb hB))
  obtain ⟨a0, n0, c0, rfl, hE⟩ := hv
  obtain ⟨a, n, c, a', n', c', rfl, hYA, hGA, _⟩ := hu
  have hP : proofOk s Q Y G = (graphOk s Q && (decide ((Y.length : Int) = s) && (decide (G.length ≤ 8) && (yOk Y && (grpsOk s [] G && slacksOk Y G Q))))) := rfl
  generalize proofOk s Q Y G = R at hP ⊢
  have HGS : Hid (graphOk s Q = true → s ≤ 9 ∧ 0 ≤ s ∧ ∀ e ∈ Q, edgeOk s e = true) := fun h => ⟨(graph_sound h).2.1, (graph_sound h).1, (graph_sound h).2.2.1⟩
  generalize graphOk s Q = gk at OK hP HGS
  obtain rfl := hYA.1
  obtain rfl := hGA.1
  obtain rfl := hE.1
  have HCY := hide hYA.2
  have HCG := hide hGA.2
  have HCE := hide hE.2
  have L3 := hide l3
  clear hYA hGA hE l3 h2
  go_enter Try.func45, Try.ntmps45
  go_wp2_with fail
  obtain ⟨V, hV⟩ : ∃ W, W = (w.alloc (Obj.cells #[Value.int .i64 s, Value.slice a0 Q.length c0] 24)).alloc (Obj.cells #[Value.slice a Y.length c, Value.slice a' G.length c'] 29) := ⟨_, rfl⟩
  rw [← hV]
  have bV : Below w.heap.size w V := by rw [hV]; exact (below_new _ _).alloc (by simp) _
  have m0 : Blk V w.heap.size #[Value.int .i64 s, Value.slice a0 Q.length c0] 24 := by rw [hV]; exact Blk.new0.alloc
  have m1 : Blk V (w.heap.size + 1) #[Value.slice a Y.length c, Value.slice a' G.length c'] 29 := by rw [hV]; exact Blk.new1
  clear hV
  refine (unhide OK V bV).mono ?_
  rintro e w3 ⟨rfl, hb3⟩
  have b3 := bV.trans (hb3.mono bV.size)
  have HM0 := hide (m0.below hb3)
  have HM1 := hide (m1.below hb3)
  clear m0 m1 hb3 bV OK
  have z0 := (unhide HM0).lt
  have z1 := (unhide HM1).lt
  have p0 : w3.cell? ⟨w.heap.size, 0, none⟩ = some (.int .i64 s) := (unhide HM0).cell 0 _ rfl
  have p1 : w3.cell? ⟨w.heap.size + 1, 0, none⟩ = some (.slice a Y.length c) := (unhide HM1).cell 0 _ rfl
  have p2 : w3.cell? ⟨w.heap.size + 1, 1, none⟩ = some (.slice a' G.length c') := (unhide HM1).cell 1 _ rfl
  cases gk with
  | false =>
    rw [Bool.false_and] at hP
    subst hP
    go_wp2_with fail
    go_ret
    exact ⟨rfl, b3⟩
  | true =>
    rw [Bool.true_and] at hP
    obtain ⟨hs9, hs0, hek⟩ := unhide HGS rfl
    have HEK := hide hek
    clear hek HGS
    rcases Decidable.em (¬ (Y.length : Int) = s) with t1 | t1
    · rw [decide_eq_false t1, Bool.false_and] at hP
      subst hP
      have e1 : (((Y.length : Nat) : Int) != s) = true := by simp; exact t1
      go_wp2_with fail
      go_ret
      exact ⟨rfl, b3⟩
    replace t1 := Decidable.not_not.1 t1
    rw [decide_eq_true t1, Bool.true_and] at hP
    have e1 : (((Y.length : Nat) : Int) != s) = false := by simp; exact t1
    have HT1 := hide t1
    clear t1
    rcases Decidable.em (¬ G.length ≤ 8) with t2 | t2
    · rw [decide_eq_false t2, Bool.false_and] at hP
      subst hP
      have e2 : (8 : Int) < ((G.length : Nat) : Int) := by omega
      go_wp2_with fail
      go_ret
      exact ⟨rfl, b3⟩
    replace t2 := Decidable.not_not.1 t2
    rw [decide_eq_true t2, Bool.true_and] at hP
    have e2 : ¬ (8 : Int) < ((G.length : Nat) : Int) := by omega
    have HPP := hide hP
    clear hP
    go_wp2_with fail
    go_loopw [5] (fun i wr => ∃ k : Nat, i = .int .i64 (k : Int) ∧ k ≤ Y.length ∧ Hid (yOk Y = yOk (Y.drop k)) ∧ Below w3.heap.size w3 wr) (fun i _ => Y.length - (intOf i).toNat)
    case atStart => exact ⟨0, rfl, Nat.zero_le _, rfl, Below.refl _ _⟩
    case round =>
      obtain ⟨k, rfl, hk, HK, hbr⟩ := hrel
      have p1 : wr.cell? ⟨w.heap.size + 1, 0, none⟩ = some (.slice a Y.length c) := ((unhide HM1).below hbr).cell 0 _ rfl
      have bw := b3.trans (hbr.mono b3.size)
      by_cases hlt : k < Y.length
      · obtain ⟨b, off, rfl, hbB, d0⟩ := unhide HCY k hlt
        rw [← bw.cell (p := ⟨b, off + k, none⟩) (by simp; omega)] at d0
        have HK2 := hide ((unhide HK).trans (yOk_step Y k hlt))
        have LI := hide (fun w => l01In_is Y[k] 0 1000000000 w)
        generalize Y[k] = y at d0 HK2 LI
        generalize (decide (0 ≤ y) && decide (y ≤ 1000000000)) = by0 at HK2 LI
        cases by0 with
        | false =>
          have hR : R = false := by rw [unhide HPP, unhide HK2]; rfl
          subst hR
          go_wp2_with fail
          refine (unhide LI _).mono ?_
          rintro e w4 ⟨rfl, rfl⟩
          go_wp2_with fail
          go_ret
          exact ⟨rfl, bw⟩
        | true =>
          go_wp2_with fail
          refine (unhide LI _).mono ?_
          rintro e w4 ⟨rfl, rfl⟩
          go_wp2_with fail
          exact ⟨⟨k + 1, by go_num, by omega, unhide HK2, hbr⟩, by simp [intOf]; omega⟩
      · obtain rfl : k = Y.length := by omega
        have hy : yOk Y = true := by rw [unhide HK, List.drop_length]; rfl
        have HYY := hide (yOk_at Y hy)
        have HP2 : Hid (R = (grpsOk s [] G && slacksOk Y G Q)) := by show _ = _; rw [unhide HPP, hy, Bool.true_and]
        clear hy HPP HK
        have p2 : wr.cell? ⟨w.heap.size + 1, 1, none⟩ = some (.slice a' G.length c') := ((unhide HM1).below hbr).cell 1 _ rfl
        go_wp2_with fail
        have HBR := hide hbr
        clear p1 p2 bw hbr
        go_loopw [6] (fun i wr => ∃ k : Nat, i = .int .i64 (k : Int) ∧ k ≤ G.length ∧ Hid (grpsOk s [] G = grpsOk s (G.take k) (G.drop k)) ∧ Below w3.heap.size w3 wr) (fun i _ => G.length - (intOf i).toNat)
        case atStart => exact ⟨0, rfl, Nat.zero_le _, rfl, unhide HBR⟩
        case round =>
          obtain ⟨i, rfl, hi, HI, hbr⟩ := hrel
          have p2 : wr.cell? ⟨w.heap.size + 1, 1, none⟩ = some (.slice a' G.length c') := ((unhide HM1).below hbr).cell 1 _ rfl
          have p0 : wr.cell? ⟨w.heap.size, 0, none⟩ = some (.int .i64 s) := ((unhide HM0).below hbr).cell 0 _ rfl
          have bw := b3.trans (hbr.mono b3.size)
          have hzr := hbr.size
          have hne0 : ¬ w.heap.size = wr.heap.size := by omega
          have hlt0 : w.heap.size < wr.heap.size := by omega
          by_cases hlt : i < G.length
          · obtain ⟨b, off, a2, c2, rfl, hbB, d0, d1, hIA⟩ := unhide HCG i hlt
            rw [← bw.cell (p := ⟨b, off + i * 2, none⟩) (by simp; omega)] at d0
            rw [← bw.cell (p := ⟨b, off + i * 2 + 1, none⟩) (by simp; omega)] at d1
            have HI2 := hide ((unhide HI).trans (grpsOk_step s G i hlt))
            have hM := unhide L3 _ (List.getElem_mem hlt)
            have HIA := hide hIA
            generalize G[i] = q at d0 d1 HIA HI2 hM
            clear hIA
            have hH := grpHead_iff s q
            have LZ := hide (fun w => l01In_is q.Z 1 1000000000 w)
            rcases Decidable.em (q.M.length < 3) with x1 | x1
            · have hR : R = false := by
                have : grpHead s q = false := by rw [Bool.eq_false_iff]; intro h; have := hH.1 h; omega
                rw [unhide HP2, unhide HI2, this]; rfl
              subst hR
              have x1' : ((q.M.length : Nat) : Int) < 3 := by omega
              clear hH
              go_wp2_with fail
              go_ret
              exact ⟨rfl, bw.alloc bw.size _⟩
            have x1' : ¬ ((q.M.length : Nat) : Int) < 3 := by omega
            rcases Decidable.em (((q.M.length : Nat) : Int) % 2 = 0) with x2 | x2
            · have hR : R = false := by
                have : grpHead s q = false := by rw [Bool.eq_false_iff]; intro h; have := hH.1 h; omega
                rw [unhide HP2, unhide HI2, this]; rfl
              subst hR
              clear hH
              go_wp2_with fail
              go_ret
              exact ⟨rfl, bw.alloc bw.size _⟩
            rcases Decidable.em (s < ((q.M.length : Nat) : Int)) with x3 | x3
            · have hR : R = false := by
                have : grpHead s q = false := by rw [Bool.eq_false_iff]; intro h; have := hH.1 h; omega
                rw [unhide HP2, unhide HI2, this]; rfl
              subst hR
              clear hH
              go_wp2_with fail
              go_ret
              exact ⟨rfl, bw.alloc bw.size _⟩
            have x2b : (((q.M.length : Nat) : Int) % 2 == 0) = false := by simp; omega
            have hgh : grpHead s q = (decide (1 ≤ q.Z) && decide (q.Z ≤ 1000000000)) := by
              rw [Bool.eq_iff_iff, hH]
              simp
              omega
            rw [hgh] at HI2
            clear hH hgh
            generalize (decide (1 ≤ q.Z) && decide (q.Z ≤ 1000000000)) = bz at LZ HI2
            cases bz with
            | false =>
              have hR : R = false := by rw [unhide HP2, unhide HI2]; rfl
              subst hR
              go_wp2_with fail
              refine (unhide LZ _).mono ?_
              rintro e w4 ⟨rfl, rfl⟩
              go_wp2_with fail
              go_ret
              exact ⟨rfl, bw.alloc bw.size _⟩
            | true =>
              go_wp2_with fail
              refine (unhide LZ _).mono ?_
              rintro e w4 ⟨rfl, rfl⟩
              go_wp2_with fail
              have bx : Below wr.heap.size wr (wr.alloc (Obj.cells #[Value.slice a2 q.M.length c2, Value.int .i64 q.Z] 46)) := below_new _ _
              have ux : Blk (wr.alloc (Obj.cells #[Value.slice a2 q.M.length c2, Value.int .i64 q.Z] 46)) wr.heap.size #[Value.slice a2 q.M.length c2, Value.int .i64 q.Z] 46 := Blk.new0
              generalize wr.alloc (Obj.cells #[Value.slice a2 q.M.length c2, Value.int .i64 q.Z] 46) = V7 at bx ux ⊢
              obtain ⟨N7, hN7⟩ : ∃ N, N = wr.heap.size := ⟨_, rfl⟩
              have b7 := hbr.trans (bx.mono hbr.size)
              have z7 := ux.lt
              rw [← hN7] at ux z7 ⊢
              have HU7 := hide ux
              have HB7 := hide b7
              have h7 : w.heap.size + 1 < N7 := by omega
              clear hN7 bx ux b7 p0 p2 d0 d1 bw hbr hne0 hlt0 hzr LZ wr
              go_loopw [8] (fun j wr => ∃ k : Nat, j = .int .i64 (k : Int) ∧ k ≤ q.M.length ∧ Hid (memOk s none q.M = memOk s (prevI q.M k) (q.M.drop k)) ∧ Below V7.heap.size V7 wr) (fun j _ => q.M.length - (intOf j).toNat)
              case atStart => exact ⟨0, rfl, Nat.zero_le _, rfl, Below.refl _ _⟩
              case round =>
                obtain ⟨k, rfl, hk, HK, hb8⟩ := hrel
                have b8 := (unhide HB7).trans (hb8.mono (unhide HB7).size)
                have bw := b3.trans (b8.mono b3.size)
                have hz8 := hb8.size
                have p7 : wr.cell? ⟨N7, 0, none⟩ = some (.slice a2 q.M.length c2) := ((unhide HU7).below hb8).cell 0 _ rfl
                by_cases hlt8 : k < q.M.length
                · obtain ⟨bm, om, rfl, hbm, g0⟩ := (unhide HIA).2 k hlt8
                  have HPV : Hid (∀ k', k = k' + 1 → ∃ y, prevI q.M k = some y ∧ w.cell? ⟨bm, om + k', none⟩ = some (.int .i64 y)) := fun k' hk' => by
                    obtain ⟨bm', om', e', _, g'⟩ := (unhide HIA).2 k' (by omega)
                    simp at e'
                    obtain ⟨rfl, rfl⟩ := e'
                    refine ⟨q.M[k']'(by omega), ?_, g'⟩
                    unfold prevI
                    rw [if_neg (by omega), show k - 1 = k' by omega]
                    simp
                  have HPZ : Hid (k = 0 → prevI q.M k = none) := fun h => by unfold prevI; rw [if_pos h]
                  have HK2 := hide ((unhide HK).trans (memOk_step s q.M k hlt8))
                  have LI := hide (fun w => l01In_is q.M[k] 0 (s - 1) w)
                  generalize q.M[k] = x at g0 HK2 LI
                  generalize prevI q.M k = pv at HPV HPZ HK2
                  generalize (decide (0 ≤ x) && decide (x ≤ s - 1)) = bx at LI HK2
                  have ws : IntKind.i64.wrap (s - 1) = s - 1 := wrap_in _ (by omega)
                  have hkn : (k : Int) < ((q.M.length : Nat) : Int) := by omega
                  have A0 : ∀ d : Grown wr.heap.size wr, d.w.cell? ⟨w.heap.size, 0, none⟩ = some (.int .i64 s) := fun d => d.cell (by omega) (((unhide HM0).below b8).cell 0 _ rfl)
                  have A7 : ∀ d : Grown wr.heap.size wr, d.w.cell? ⟨N7, 0, none⟩ = some (.slice (some ⟨bm, om, none⟩) q.M.length c2) := fun d => d.cell (by omega) p7
                  have X0 : ∀ d : Grown wr.heap.size wr, d.w.cell? ⟨bm, om + k, none⟩ = some (.int .i64 x) := fun d => d.cell (by omega) ((bw.cell (p := ⟨bm, om + k, none⟩) (by simp; omega)).trans g0)
                  cases bx with
                  | false =>
                    have hR : R = false := by rw [unhide HP2, unhide HI2, unhide HK2]; rfl
                    subst hR
                    go_wp2_with fail
                    refine wp_region_grown wr.heap.size (by kernel_rfl) (by kernel_rfl) ?_
                    repeat (go_big_quiet_step (first | (go_at_call 44; exact Calls.grown_same (unhide LI _))))
                    refine wpQuiet_nil ?_
                    rintro w9 ⟨d9, rfl⟩
                    go_wp2_with fail
                    go_ret
                    exact ⟨rfl, bw.trans (d9.below.mono bw.size)⟩
                  | true =>
                    rcases Nat.eq_zero_or_pos k with hk0 | hk0
                    · have hpv := unhide HPZ hk0
                      subst hpv
                      have hk00 : ¬ (0 : Int) < (k : Int) := by omega
                      have hk0b : decide ((0 : Int) < (k : Int)) = false := decide_eq_false hk00
                      have hk0n : ¬ 0 < k := by omega
                      have hk0m : decide (0 < k) = false := decide_eq_false hk0n
                      have HK0 := hide hk0
                      clear hk0
                      go_wp2_with fail
                      refine wp_region_grown wr.heap.size (by kernel_rfl) (by kernel_rfl) ?_
                      repeat (go_big_quiet_step (first | (go_at_call 44; exact Calls.grown_same (unhide LI _))))
                      refine wpQuiet_nil ?_
                      rintro w9 ⟨d9, rfl⟩
                      go_wp2_with fail
                      exact ⟨⟨k + 1, by go_num, by omega, unhide HK2, hb8.trans (d9.below.mono hb8.size)⟩, by simp [intOf]; omega⟩
                    · obtain ⟨k', hk'⟩ : ∃ k', k = k' + 1 := ⟨k - 1, by omega⟩
                      obtain ⟨y, hpv, gy⟩ := unhide HPV k' hk'
                      subst hpv
                      have hk00 : (0 : Int) < (k : Int) := by omega
                      have wk : IntKind.i64.wrap ((k : Int) - 1) = (k' : Int) := by rw [wrap_in _ (by omega)]; omega
                      have hkn' : (k' : Int) < ((q.M.length : Nat) : Int) := by omega
                      have X1 : ∀ d : Grown wr.heap.size wr, d.w.cell? ⟨bm, om + k', none⟩ = some (.int .i64 y) := fun d => d.cell (by omega) ((bw.cell (p := ⟨bm, om + k', none⟩) (by simp; omega)).trans gy)
                      clear hk' HPV HPZ gy
                      rcases Decidable.em (x ≤ y) with ty | ty
                      · have hR : R = false := by
                          rw [unhide HP2, unhide HI2, unhide HK2]
                          simp only [decide_eq_false (show ¬ y < x by omega)]
                          rfl
                        subst hR
                        have tyb : decide (x ≤ y) = true := decide_eq_true ty
                        go_wp2_with fail
                        refine wp_region_grown wr.heap.size (by kernel_rfl) (by kernel_rfl) ?_
                        repeat (go_big_quiet_step (first | (go_at_call 44; exact Calls.grown_same (unhide LI _))))
                        refine wpQuiet_nil ?_
                        rintro w9 ⟨d9, rfl⟩
                        go_wp2_with fail
                        go_ret
                        exact ⟨rfl, bw.trans (d9.below.mono bw.size)⟩
                      · have HK3 : Hid (memOk s none q.M = memOk s (prevI q.M (k + 1)) (q.M.drop (k + 1))) := by
                          show _ = _
                          rw [unhide HK2]
                          simp only [decide_eq_true (show y < x by omega)]
                          rfl
                        have tyb : decide (x ≤ y) = false := decide_eq_false ty
                        go_wp2_with fail
                        refine wp_region_grown wr.heap.size (by kernel_rfl) (by kernel_rfl) ?_
                        repeat (go_big_quiet_step (first | (go_at_call 44; exact Calls.grown_same (unhide LI _))))
                        refine wpQuiet_nil ?_
                        rintro w9 ⟨d9, rfl⟩
                        go_wp2_with fail
                        exact ⟨⟨k + 1, by go_num, by omega, unhide HK3, hb8.trans (d9.below.mono hb8.size)⟩, by simp [intOf]; omega⟩
                · obtain rfl : k = q.M.length := by omega
                  have hmk : memOk s none q.M = true := by rw [unhide HK, List.drop_length]; cases prevI q.M q.M.length <;> rfl
                  have HI3 : Hid (grpsOk s [] G = (nestAll q.M (G.take i) && grpsOk s (G.take (i + 1)) (G.drop (i + 1)))) := by show _ = _; rw [unhide HI2, hmk]; rfl
                  clear hmk HK HI2
                  go_wp2_with fail
                  have HB8 := hide b8
                  have HU8 := hide ((unhide HU7).below hb8)
                  clear p7 bw b8 hb8 hz8
                  have HLI : Hid ((G.take i).length = i) := by show _ = _; rw [List.length_take]; omega
                  have HGI : Hid (∀ j (h : j < (G.take i).length), ∃ h' : j < G.length, (G.take i)[j] = G[j]) := fun j h => ⟨by rw [List.length_take] at h; omega, List.getElem_take⟩
                  have HNS := hide (fun j h => nestAll_step q.M (G.take i) j h)
                  have HN0 : Hid (nestAll q.M (G.take i) = nestAll q.M ((G.take i).drop 0)) := rfl
                  have HNE : Hid (nestAll q.M ((G.take i).drop i) = true) := by
                    show _ = _
                    have e0 : (G.take i).drop i = [] := List.drop_eq_nil_of_le (by rw [unhide HLI]; exact Nat.le_refl _)
                    rw [e0]
                    rfl
                  generalize G.take i = D at HLI HGI HNS HN0 HNE HI3
                  go_loopw [9] (fun j wr => ∃ k : Nat, j = .int .i64 (k : Int) ∧ k ≤ i ∧ Hid (nestAll q.M D = nestAll q.M (D.drop k)) ∧ Below w3.heap.size w3 wr ∧ Blk wr N7 #[Value.slice a2 q.M.length c2, Value.int .i64 q.Z] 46) (fun j _ => i - (intOf j).toNat)
                  case atStart => exact ⟨0, rfl, Nat.zero_le _, unhide HN0, unhide HB8, unhide HU8⟩
                  case round =>
                    obtain ⟨k, rfl, hk, HK, b8, u8⟩ := hrel
                    have bw := b3.trans (b8.mono b3.size)
                    have z8 := u8.lt
                    by_cases hlt9 : k < i
                    · have hkD : k < D.length := by have := unhide HLI; omega
                      obtain ⟨hkG, ekG⟩ := unhide HGI k hkD
                      obtain ⟨b', off', a3, c3, e', hb', g0, _, hI3⟩ := unhide HCG k hkG
                      simp at e'
                      obtain ⟨rfl, rfl⟩ := e'
                      have HK2 := hide ((unhide HK).trans (unhide HNS k hkD))
                      rw [ekG] at HK2
                      have hM3 := unhide L3 _ (List.getElem_mem hkG)
                      have NE : Hid (∀ d : Grown wr.heap.size wr, Calls Try.prog 63 #[.slice a3 G[k].M.length c3, .slice a2 q.M.length c2] d.w fun e w' => e = .returned (.bool (nested G[k].M q.M)) ∧ w' = d.w) := fun d =>
                        specNested_any a3 a2 c3 c2 B G[k].M q.M hM3 hM d.w (hI3.below (bw.trans (d.below.mono bw.size)) hB) ((unhide HIA).below (bw.trans (d.below.mono bw.size)) hB)
                      generalize G[k] = q3 at g0 HK2 NE
                      generalize nested q3.M q.M = nb at NE HK2
                      have hkn : (k : Int) < ((G.length : Nat) : Int) := by omega
                      have A1 : ∀ d : Grown wr.heap.size wr, d.w.cell? ⟨w.heap.size + 1, 1, none⟩ = some (.slice (some ⟨b, off, none⟩) G.length c') := fun d => d.cell (by omega) (((unhide HM1).below b8).cell 1 _ rfl)
                      have A7 : ∀ d : Grown wr.heap.size wr, d.w.cell? ⟨N7, 0, none⟩ = some (.slice a2 q.M.length c2) := fun d => d.cell (by omega) (u8.cell 0 _ rfl)
                      have X0 : ∀ d : Grown wr.heap.size wr, d.w.cell? ⟨b, off + k * 2, none⟩ = some (.slice a3 q3.M.length c3) := fun d => d.cell (by omega) ((bw.cell (p := ⟨b, off + k * 2, none⟩) (by simp; omega)).trans g0)
                      clear g0 hI3
                      cases nb with
                      | false =>
                        have hR : R = false := by rw [unhide HP2, unhide HI3, unhide HK2]; rfl
                        subst hR
                        go_wp2_with fail
                        refine wp_region_grown wr.heap.size (by kernel_rfl) (by kernel_rfl) ?_
                        repeat (go_big_quiet_step (first | (go_at_call 63; exact Calls.grown_same (unhide NE _))))
                        refine wpQuiet_nil ?_
                        rintro w9 ⟨d9, rfl⟩
                        go_wp2_with fail
                        go_ret
                        exact ⟨rfl, bw.trans (d9.below.mono bw.size)⟩
                      | true =>
                        go_wp2_with fail
                        refine wp_region_grown wr.heap.size (by kernel_rfl) (by kernel_rfl) ?_
                        repeat (go_big_quiet_step (first | (go_at_call 63; exact Calls.grown_same (unhide NE _))))
                        refine wpQuiet_nil ?_
                        rintro w9 ⟨d9, rfl⟩
                        go_wp2_with fail
                        exact ⟨⟨k + 1, by go_num, by omega, unhide HK2, b8.trans (d9.below.mono b8.size), u8.below d9.below⟩, by simp [intOf]; omega⟩
                    · obtain rfl : k = i := by omega
                      have HI4 : Hid (grpsOk s [] G = grpsOk s (G.take (k + 1)) (G.drop (k + 1))) := by show _ = _; rw [unhide HI3, unhide HK, unhide HNE]; rfl
                      go_wp2_with fail
                      exact ⟨⟨k + 1, by go_num, by omega, unhide HI4, b8⟩, by simp [intOf]; omega⟩
          · obtain rfl : i = G.length := by omega
            have hgk : grpsOk s [] G = true := by rw [unhide HI, List.drop_length]; cases G.take G.length <;> rfl
            have HQQ := hide (grpsOk_at s G [] hgk)
            have HP3 : Hid (R = slacksOk Y G (Q.drop 0)) := by show _ = _; rw [unhide HP2, hgk]; rfl
            clear hgk HP2 HI
            have SLK := hide (unhide SL (unhide HT1) hs9 (unhide HYY) (unhide HQQ) t2)
            have p5 : wr.cell? ⟨w.heap.size, 1, none⟩ = some (.slice a0 Q.length c0) := ((unhide HM0).below hbr).cell 1 _ rfl
            go_wp2_with fail
            have HB5 := hide hbr
            clear p0 p2 p5 bw hbr hzr hne0 hlt0
            go_loopw [10] (fun j wr => ∃ k : Nat, j = .int .i64 (k : Int) ∧ k ≤ Q.length ∧ Hid (R = slacksOk Y G (Q.drop k)) ∧ Below w3.heap.size w3 wr) (fun j _ => Q.length - (intOf j).toNat)
            case atStart => exact ⟨0, rfl, Nat.zero_le _, unhide HP3, unhide HB5⟩
            case round =>
              obtain ⟨k, rfl, hk, HK, hb8⟩ := hrel
              have bw := b3.trans (hb8.mono b3.size)
              have hz8 := hb8.size
              have p5 : wr.cell? ⟨w.heap.size, 1, none⟩ = some (.slice a0 Q.length c0) := ((unhide HM0).below hb8).cell 1 _ rfl
              by_cases hlt5 : k < Q.length
              · obtain ⟨be, oe, rfl, hbe, g0, g1, g2, g3, g4⟩ := unhide HCE k hlt5
                have SE := hide (fun w1 hb => unhide SLK Q[k] (unhide HEK _ (List.getElem_mem hlt5)) w1 hb)
                have HK2 := hide ((unhide HK).trans (slacksOk_step Y G Q k hlt5))
                generalize Q[k] = eg at g0 g1 g2 g3 g4 SE HK2
                generalize slackI Y G eg = sl at SE HK2
                obtain ⟨y0, y1, y2, y3, y4⟩ := eg
                unfold EdgeI.v at SE
                simp only at g0 g1 g2 g3 g4 SE
                have hkn : (k : Int) < ((Q.length : Nat) : Int) := by omega
                have A1 : ∀ d : Grown wr.heap.size wr, d.w.cell? ⟨w.heap.size, 1, none⟩ = some (.slice (some ⟨be, oe, none⟩) Q.length c0) := fun d => d.cell (by omega) p5
                have P1 : ∀ d : Grown wr.heap.size wr, d.w.cell? ⟨w.heap.size + 1, 0, none⟩ = some (.slice a Y.length c) := fun d => d.cell (by omega) (((unhide HM1).below hb8).cell 0 _ rfl)
                have P2 : ∀ d : Grown wr.heap.size wr, d.w.cell? ⟨w.heap.size + 1, 1, none⟩ = some (.slice a' G.length c') := fun d => d.cell (by omega) (((unhide HM1).below hb8).cell 1 _ rfl)
                have D0 : ∀ d : Grown wr.heap.size wr, d.w.cell? ⟨be, oe + k * 5, none⟩ = some (.int .i64 y0) := fun d => d.cell (by omega) ((bw.cell (p := ⟨be, oe + k * 5, none⟩) (by simp; omega)).trans g0)
                have D1 : ∀ d : Grown wr.heap.size wr, d.w.cell? ⟨be, oe + k * 5 + 1, none⟩ = some (.int .i64 y1) := fun d => d.cell (by omega) ((bw.cell (p := ⟨be, oe + k * 5 + 1, none⟩) (by simp; omega)).trans g1)
                have D2 : ∀ d : Grown wr.heap.size wr, d.w.cell? ⟨be, oe + k * 5 + 2, none⟩ = some (.int .i64 y2) := fun d => d.cell (by omega) ((bw.cell (p := ⟨be, oe + k * 5 + 2, none⟩) (by simp; omega)).trans g2)
                have D3 : ∀ d : Grown wr.heap.size wr, d.w.cell? ⟨be, oe + k * 5 + 3, none⟩ = some (.int .i64 y3) := fun d => d.cell (by omega) ((bw.cell (p := ⟨be, oe + k * 5 + 3, none⟩) (by simp; omega)).trans g3)
                have D4 : ∀ d : Grown wr.heap.size wr, d.w.cell? ⟨be, oe + k * 5 + 4, none⟩ = some (.int .i64 y4) := fun d => d.cell (by omega) ((bw.cell (p := ⟨be, oe + k * 5 + 4, none⟩) (by simp; omega)).trans g4)
                have SD : Hid (∀ d : Grown wr.heap.size wr, Calls Try.prog 64 #[.agg #[.slice a Y.length c, .slice a' G.length c'], .agg #[.int .i64 y0, .int .i64 y1, .int .i64 y2, .int .i64 y3, .int .i64 y4]] d.w fun r w' => r = .returned (.int .i64 sl) ∧ Below d.w.heap.size d.w w') := fun d => unhide SE d.w (bw.trans (d.below.mono bw.size))
                clear g0 g1 g2 g3 g4 SE
                go_wp2_with fail
                clear p5
                refine wp_region_grown wr.heap.size (by kernel_rfl) (by kernel_rfl) ?_
                repeat (go_big_quiet_step (first | (go_at_call 64; exact Calls.grown (Nat.le_refl _) (unhide SD _))))
                refine wpQuiet_nil ?_
                rintro w9 ⟨d9, rfl⟩
                clear A1 P1 P2 D0 D1 D2 D3 D4
                rcases Decidable.em (sl < 0) with ts | ts
                · have hR : R = false := by rw [unhide HK2, decide_eq_false (by omega)]; rfl
                  subst hR
                  go_wp2_with fail
                  go_ret
                  exact ⟨rfl, bw.trans (d9.below.mono bw.size)⟩
                · have HK3 : Hid (R = slacksOk Y G (Q.drop (k + 1))) := by show _ = _; rw [unhide HK2, decide_eq_true (by omega)]; rfl
                  go_wp2_with fail
                  exact ⟨⟨k + 1, by go_num, by omega, unhide HK3, hb8.trans (d9.below.mono hb8.size)⟩, by simp [intOf]; omega⟩
              · obtain rfl : k = Q.length := by omega
                have hR : R = true := by rw [unhide HK, List.drop_length]; rfl
                subst hR
                go_wp2_with fail
                go_ret
                exact ⟨rfl, bw⟩
end Gr
end Go.Proofs.Ytalmbdfcpnkkpaa
