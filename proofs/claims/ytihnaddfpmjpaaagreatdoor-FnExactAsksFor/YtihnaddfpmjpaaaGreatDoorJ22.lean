/-
 GrProof1, GrProof2, GrProof3, GrProof4, GrProof5, GrProof6, GrCert0, GrCert1, GrCert2, GrCert3, GrCert4.
-/
import Derived.Test.YtihnaddfpmjpaaaGreatDoorJ21
import Derived.Test.YtihnaddfpmjpaaaGreatDoorJ14
import Derived.Deep.DeepFit
import Derived.Test.YtihnaddfpmjpaaaGreatDoorJ17
import Derived.Test.YtihnaddfpmjpaaaGreatDoorJ12
import Derived.Test.YtihnaddfpmjpaaaGreatDoorJ3
import Derived.Test.YtihnaddfpmjpaaaGreatDoorJ2
import Derived.Laws.EntriesVeiled
namespace Go.Proofs.YtihnaddfpmjpaaaGreatDoor
namespace Gr
open Go.RowKit
set_option maxRecDepth 100000 in
set_option maxHeartbeats 1000000 in
theorem specNested_any (a a' : Option Addr) (c c' B : Nat) (K L : List Int) (h1 : K.length ≤ 1048576) (h2 : L.length ≤ 1048576) (w : World) (hK : IntsAt w a K.length B K) (hL : IntsAt w a' L.length B L) :
    Calls Tryz.prog 156 #[.slice a K.length c, .slice a' L.length c'] w fun e w' => e = .returned (.bool (nested K L)) ∧ w' = w := by
  have IN := hide (fun x => l03In_any a' L.length c' B L x h2 w hL)
  have HC := hide hK.2
  have HSTEP : Hid (∀ m k (h : k < K.length), cntIn L m (K.drop k) = cntIn L (if inK L K[k] = true then m + 1 else m) (K.drop (k + 1))) := fun m k h => by rw [drop_step K k h]; rfl
  have HEND : Hid (∀ m, cntIn L m (K.drop K.length) = m) := fun m => by rw [List.drop_length]; rfl
  have H0 : Hid (cntIn L 0 K = cntIn L 0 (K.drop 0)) := rfl
  have hN : nested K L = (decide (cntIn L 0 K = 0) || (decide (cntIn L 0 K = K.length) || decide (cntIn L 0 K = L.length))) := rfl
  generalize nested K L = N at hN ⊢
  have hle := cntIn_le L K 0
  generalize cntIn L 0 K = T at H0 hN hle
  obtain ⟨n, hn⟩ : ∃ n, n = K.length := ⟨_, rfl⟩
  obtain ⟨m, hm⟩ : ∃ m, m = L.length := ⟨_, rfl⟩
  have HN := hide hn
  rw [← hn] at HEND hN h1 hle ⊢
  rw [← hm] at IN hN h2 ⊢
  clear hn hm hK hL
  have HNN := hide hN
  clear hN
  go_enter Tryz.func156, Tryz.ntmps156
  go_wp2_with fail
  go_loopw [5, 6] (fun t i wr => ∃ (k u : Nat), i = .int .i64 (k : Int) ∧ t = .int .i64 (u : Int) ∧ k ≤ n ∧ u ≤ k ∧ Hid (T = cntIn L u (K.drop k)) ∧ wr = w) (fun _ i _ => n - (intOf i).toNat)
  case atStart => exact ⟨0, 0, rfl, rfl, Nat.zero_le _, Nat.le_refl _, unhide H0, rfl⟩
  case round =>
    obtain ⟨k, u, rfl, rfl, hk, hu, HT, rfl⟩ := hrel
    by_cases hlt : k < n
    · have hkL : k < K.length := by have := unhide HN; omega
      obtain ⟨b, off, rfl, hbB, c0⟩ := unhide HC k hkL
      have IK := hide (unhide IN K[k])
      have HT2 := hide ((unhide HT).trans (unhide HSTEP u k hkL))
      generalize K[k] = x at c0 IK HT2
      generalize inK L x = bx at IK HT2
      cases bx with
      | true =>
        go_wp2_with fail
        refine (unhide IK).mono ?_
        rintro e w1 ⟨rfl, rfl⟩
        go_wp2_with fail
        exact ⟨⟨k + 1, u + 1, by go_num, by go_num, by omega, by omega, unhide HT2, trivial⟩, by simp [intOf]; omega⟩
      | false =>
        go_wp2_with fail
        refine (unhide IK).mono ?_
        rintro e w1 ⟨rfl, rfl⟩
        go_wp2_with fail
        exact ⟨⟨k + 1, u, by go_num, rfl, by omega, by omega, unhide HT2, trivial⟩, by simp [intOf]; omega⟩
    · obtain rfl : k = n := by omega
      have hTu := (unhide HT).trans (unhide HEND u)
      have hN := unhide HNN
      rw [hTu] at hN
      clear hTu HNN HT H0
      by_cases t0 : u = 0
      · subst t0
        simp at hN
        subst hN
        go_wp2_with fail
        go_ret
        exact ⟨rfl, rfl⟩
      · have e0 : ((u : Int) == 0) = false := by simp; omega
        by_cases t1 : u = k
        · have e1 : ((u : Int) == (k : Int)) = true := by simp; omega
          have hNt : N = true := by rw [hN]; simp [t1]
          subst hNt
          clear hN
          have HT1 := hide t1
          clear t1
          go_wp2_with fail
          go_ret
          exact ⟨rfl, rfl⟩
        · have e1 : ((u : Int) == (k : Int)) = false := by simp; omega
          have hNt : N = ((u : Int) == (m : Int)) := by
            rw [hN, Bool.eq_iff_iff]
            simp [t0, t1]
            omega
          subst hNt
          clear hN
          go_wp2_with fail
          go_ret
          exact ⟨rfl, rfl⟩
set_option maxRecDepth 100000 in
set_option maxHeartbeats 4000000 in
theorem specSlack_any (v : Value) (B : Nat) (s : Int) (Y : List Int) (G : List GrpI) (e : EdgeI) (hYs : (Y.length : Int) = s) (h9 : s ≤ 9) (hY : ∀ y ∈ Y, 0 ≤ y ∧ y ≤ 1000000000) (hq : ∀ q ∈ G, grpHead s q = true) (hG8 : G.length ≤ 8) (he : edgeOk s e = true) (w : World) (hB : B ≤ w.heap.size) (hv : PrAt w v B Y G) :
    Calls Tryz.prog 157 #[v, e.v] w fun r w' => r = .returned (.int .i64 (slackI Y G e)) ∧ Below w.heap.size w w' := by
  obtain ⟨q0, q1, q2, _, _, _⟩ := (edgeOk_iff s e).1 he
  have hsc := scal_range he
  have SC := hide (fun w => specScalar_any e w)
  have hR : slackI Y G e = slackG e (yAt Y e.A + yAt Y e.B - 2 * scal e) G := rfl
  generalize slackI Y G e = R at hR ⊢
  obtain ⟨a, n, c, a', n', c', rfl, hYA, hGA, _⟩ := hv
  have hYn := hYA.1
  obtain ⟨x0, hx0⟩ := Int.eq_ofNat_of_zero_le q0
  obtain ⟨x1, hx1⟩ := Int.eq_ofNat_of_zero_le (show 0 ≤ e.B by omega)
  have hl0 : x0 < Y.length := by omega
  have hl1 : x1 < Y.length := by omega
  obtain ⟨by0, oy, rfl, hbyB, y0⟩ := hYA.2 x0 hl0
  obtain ⟨by1, oy1, ey, _, y1⟩ := hYA.2 x1 hl1
  simp at ey
  obtain ⟨rfl, rfl⟩ := ey
  have ea : yAt Y e.A = Y[x0] := by unfold yAt; rw [hx0]; simp [hl0]
  have eb : yAt Y e.B = Y[x1] := by unfold yAt; rw [hx1]; simp [hl1]
  rw [ea, eb] at hR
  have r0 := hY _ (List.getElem_mem hl0)
  have r1 := hY _ (List.getElem_mem hl1)
  generalize Y[x0] = ya at y0 hR r0
  generalize Y[x1] = yb at y1 hR r1
  generalize scal e = sc at SC hR hsc
  have HCG := hide hGA.2
  have HGL := hide hGA.1
  have HST : Hid (∀ S k (h : k < G.length), slackG e S (G.drop k) = slackG e (if (inK G[k].M e.A && inK G[k].M e.B) = true then S + G[k].Z else S) (G.drop (k + 1))) := fun S k h => by rw [drop_step G k h]; rfl
  have HEND : Hid (∀ S, slackG e S (G.drop n') = S) := fun S => by rw [← hGA.1, List.drop_length]; rfl
  have H0 : Hid (R = slackG e (ya + yb - 2 * sc) (G.drop 0)) := hR
  have HQ := hide hq
  have HE : Hid (∀ t, slackG e t = slackG e t) := fun _ => rfl
  clear hR ea eb hYA hGA hY hq he HE
  generalize hslk : slackG e = F at HST HEND H0
  clear hslk
  rw [hx0, hx1] at HST
  obtain ⟨eA, eB, e2, e3, e4⟩ := e
  simp only at hx0 hx1 q1 q2
  subst hx0 hx1
  unfold EdgeI.v at SC ⊢
  simp only at SC ⊢
  have w1 : IntKind.i64.wrap (ya + yb) = ya + yb := wrap_in _ (by omega)
  have w2 : IntKind.i64.wrap (2 * sc) = 2 * sc := wrap_in _ (by omega)
  have w3 : IntKind.i64.wrap (ya + yb - 2 * sc) = ya + yb - 2 * sc := wrap_in _ (by omega)
  have hin0 : (x0 : Int) < (n : Int) := by omega
  have hin1 : (x1 : Int) < (n : Int) := by omega
  have hn8 : n' ≤ 8 := by have := unhide HGL; omega
  go_enter Tryz.func157, Tryz.ntmps157
  go_wp2_with fail
  obtain ⟨V, hV⟩ : ∃ W, W = (w.alloc (Obj.cells #[Value.slice (some ⟨by0, oy, none⟩) n c, Value.slice a' n' c'] 132)).alloc (Obj.cells #[Value.int .i64 (x0 : Int), Value.int .i64 (x1 : Int), Value.int .i64 e2, Value.int .i64 e3, Value.int .i64 e4] 106) := ⟨_, rfl⟩
  rw [← hV]
  have bV : Below w.heap.size w V := by rw [hV]; exact (below_new _ _).alloc (by simp) _
  have m0 : Blk V w.heap.size #[Value.slice (some ⟨by0, oy, none⟩) n c, Value.slice a' n' c'] 132 := by rw [hV]; exact Blk.new0.alloc
  have m1 : Blk V (w.heap.size + 1) #[Value.int .i64 (x0 : Int), Value.int .i64 (x1 : Int), Value.int .i64 e2, Value.int .i64 e3, Value.int .i64 e4] 106 := by rw [hV]; exact Blk.new1
  clear hV
  have z0 := m0.lt
  have z1 := m1.lt
  have HM0 := hide m0
  have HM1 := hide m1
  have P0 : ∀ d : Grown V.heap.size V, d.w.cell? ⟨w.heap.size, 0, none⟩ = some (.slice (some ⟨by0, oy, none⟩) n c) := fun d => d.cell z0 (m0.cell 0 _ rfl)
  have E0 : ∀ d : Grown V.heap.size V, d.w.cell? ⟨w.heap.size + 1, 0, none⟩ = some (.int .i64 (x0 : Int)) := fun d => d.cell z1 (m1.cell 0 _ rfl)
  have E1 : ∀ d : Grown V.heap.size V, d.w.cell? ⟨w.heap.size + 1, 1, none⟩ = some (.int .i64 (x1 : Int)) := fun d => d.cell z1 (m1.cell 1 _ rfl)
  have E2 : ∀ d : Grown V.heap.size V, d.w.cell? ⟨w.heap.size + 1, 2, none⟩ = some (.int .i64 e2) := fun d => d.cell z1 (m1.cell 2 _ rfl)
  have E3 : ∀ d : Grown V.heap.size V, d.w.cell? ⟨w.heap.size + 1, 3, none⟩ = some (.int .i64 e3) := fun d => d.cell z1 (m1.cell 3 _ rfl)
  have E4 : ∀ d : Grown V.heap.size V, d.w.cell? ⟨w.heap.size + 1, 4, none⟩ = some (.int .i64 e4) := fun d => d.cell z1 (m1.cell 4 _ rfl)
  have Y0 : ∀ d : Grown V.heap.size V, d.w.cell? ⟨by0, oy + x0, none⟩ = some (.int .i64 ya) := fun d => d.cell (by omega) ((bV.cell (p := ⟨by0, oy + x0, none⟩) (by simp; omega)).trans y0)
  have Y1 : ∀ d : Grown V.heap.size V, d.w.cell? ⟨by0, oy + x1, none⟩ = some (.int .i64 yb) := fun d => d.cell (by omega) ((bV.cell (p := ⟨by0, oy + x1, none⟩) (by simp; omega)).trans y1)
  clear m0 m1 y0 y1
  refine wp_region_grown V.heap.size (by kernel_rfl) (by kernel_rfl) ?_
  repeat (go_big_quiet_step (first | (go_at_call 160; exact Calls.grown (Nat.le_refl _) (unhide SC _))))
  refine wpQuiet_nil ?_
  rintro w5 ⟨d5, rfl⟩
  obtain ⟨W5, hb5⟩ := d5
  dsimp only
  clear P0 E0 E1 E2 E3 E4 Y0 Y1 SC
  go_wp2_with fail
  go_loopw [5, 6] (fun t i wr => ∃ (k : Nat) (S : Int), i = .int .i64 (k : Int) ∧ t = .int .i64 S ∧ k ≤ n' ∧ -9030100 ≤ S ∧ S ≤ 2000000000 + 1000000000 * (k : Int) ∧ Hid (R = F S (G.drop k)) ∧ Below V.heap.size V wr) (fun _ i _ => n' - (intOf i).toNat)
  case atStart => exact ⟨0, ya + yb - 2 * sc, rfl, rfl, Nat.zero_le _, by omega, by omega, unhide H0, hb5⟩
  case round =>
    obtain ⟨k, S, rfl, rfl, hk, hS0, hS1, HS, hbr⟩ := hrel
    have hzr := hbr.size
    have p1 : wr.cell? ⟨w.heap.size, 1, none⟩ = some (.slice a' n' c') := ((unhide HM0).below hbr).cell 1 _ rfl
    have bw : Below w.heap.size w wr := bV.trans (hbr.mono bV.size)
    by_cases hlt : k < n'
    · have hkL : k < G.length := by have := unhide HGL; omega
      obtain ⟨b, off, a2, c2, rfl, hbB, d0, d1, hI⟩ := unhide HCG k hkL
      obtain ⟨_, _, hM9, hZ1, hZ2⟩ := (grpHead_iff s _).1 (unhide HQ _ (List.getElem_mem hkL))
      have HSK := hide ((unhide HS).trans (unhide HST S k hkL))
      have IN : Hid (∀ x (d : Grown wr.heap.size wr), Calls Tryz.prog 159 #[.slice a2 G[k].M.length c2, .int .i64 x] d.w fun e w' => e = .returned (.bool (inK G[k].M x)) ∧ w' = d.w) := fun x d => l03In_any a2 _ c2 B _ x (by omega) d.w (hI.below (bw.trans (d.below.mono bw.size)) hB)
      generalize G[k] = q at d0 d1 hM9 hZ1 hZ2 HSK IN
      clear hI
      have I0 := hide (unhide IN (x0 : Int))
      have I1 := hide (unhide IN (x1 : Int))
      clear IN
      generalize inK q.M (x0 : Int) = b0 at I0 HSK
      generalize inK q.M (x1 : Int) = b1 at I1 HSK
      have hkn : (k : Int) < (n' : Int) := by omega
      have A1 : ∀ d : Grown wr.heap.size wr, d.w.cell? ⟨w.heap.size, 1, none⟩ = some (.slice (some ⟨b, off, none⟩) n' c') := fun d => d.cell (by omega) p1
      have F0 : ∀ d : Grown wr.heap.size wr, d.w.cell? ⟨w.heap.size + 1, 0, none⟩ = some (.int .i64 (x0 : Int)) := fun d => d.cell (by omega) (((unhide HM1).below hbr).cell 0 _ rfl)
      have F1 : ∀ d : Grown wr.heap.size wr, d.w.cell? ⟨w.heap.size + 1, 1, none⟩ = some (.int .i64 (x1 : Int)) := fun d => d.cell (by omega) (((unhide HM1).below hbr).cell 1 _ rfl)
      have g0 : wr.cell? ⟨b, off + k * 2, none⟩ = some (.slice a2 q.M.length c2) := (bw.cell (p := ⟨b, off + k * 2, none⟩) (by simp; omega)).trans d0
      have g1 : wr.cell? ⟨b, off + k * 2 + 1, none⟩ = some (.int .i64 q.Z) := (bw.cell (p := ⟨b, off + k * 2 + 1, none⟩) (by simp; omega)).trans d1
      have G0 : ∀ d : Grown wr.heap.size wr, d.w.cell? ⟨b, off + k * 2, none⟩ = some (.slice a2 q.M.length c2) := fun d => d.cell (by omega) g0
      have HA1 := hide A1
      have HG1 : Hid (∀ d : Grown wr.heap.size wr, d.w.cell? ⟨b, off + k * 2 + 1, none⟩ = some (.int .i64 q.Z)) := fun d => d.cell (by omega) g1
      clear d0 d1 g0 g1
      go_wp2_with fail
      clear p1
      refine wp_region_grown wr.heap.size (by kernel_rfl) (by kernel_rfl) ?_
      cases b0 with
      | false =>
        repeat (go_big_quiet_step (first
          | (go_at_call_of 159 (Value.int IntKind.i64 (x0 : Int)); exact Calls.grown_same (unhide I0 _))
          | (go_at_call_of 159 (Value.int IntKind.i64 (x1 : Int)); exact Calls.grown_same (unhide I1 _))))
        refine wpQuiet_nil ?_
        rintro w6 ⟨d6, rfl⟩
        clear A1 F0 F1 G0
        go_wp2_with fail
        exact ⟨⟨k + 1, S, by go_num, rfl, by omega, by omega, by omega, unhide HSK, hbr.trans (d6.below.mono hbr.size)⟩, by simp [intOf]; omega⟩
      | true =>
        repeat (go_big_quiet_step (first
          | (go_at_call_of 159 (Value.int IntKind.i64 (x0 : Int)); exact Calls.grown_same (unhide I0 _))
          | (go_at_call_of 159 (Value.int IntKind.i64 (x1 : Int)); exact Calls.grown_same (unhide I1 _))))
        refine wpQuiet_nil ?_
        rintro w6 ⟨d6, rfl⟩
        clear A1 F0 F1 G0
        cases b1 with
        | false =>
          go_wp2_with fail
          exact ⟨⟨k + 1, S, by go_num, rfl, by omega, by omega, by omega, unhide HSK, hbr.trans (d6.below.mono hbr.size)⟩, by simp [intOf]; omega⟩
        | true =>
          have j1 := unhide HA1 d6
          have j2 := unhide HG1 d6
          have w4 : IntKind.i64.wrap (S + q.Z) = S + q.Z := wrap_in _ (by omega)
          go_wp2_with fail
          exact ⟨⟨k + 1, S + q.Z, by go_num, rfl, by omega, by omega, by omega, unhide HSK, hbr.trans (d6.below.mono hbr.size)⟩, by simp [intOf]; omega⟩
    · obtain rfl : k = n' := by omega
      have hRS := (unhide HS).trans (unhide HEND S)
      subst hRS
      go_wp2_with fail
      go_ret
      exact ⟨rfl, bw⟩
theorem wrap64_in (x : Int) (h : -9223372036854775808 ≤ x ∧ x ≤ 9223372036854775807) : wrap64 x = x := by
  rw [wrap_mod]
  omega
set_option maxRecDepth 100000 in
set_option maxHeartbeats 4000000 in
theorem specSum_any (v : Value) (B : Nat) (s : Int) (Y : List Int) (G : List GrpI) (hYs : (Y.length : Int) = s) (h9 : s ≤ 9) (hY : ∀ y ∈ Y, 0 ≤ y ∧ y ≤ 1000000000) (hq : ∀ q ∈ G, grpHead s q = true) (hG8 : G.length ≤ 8) (w : World) (hB : B ≤ w.heap.size) (hv : PrAt w v B Y G) :
    Calls Tryz.prog 143 #[v] w fun r w' => r = .returned (.int .i64 (sumI Y G)) ∧ Below w.heap.size w w' := by
  have hR : sumI Y G = gSum (ySum 0 Y) G := rfl
  generalize sumI Y G = R at hR ⊢
  obtain ⟨a, n, c, a', n', c', rfl, hYA, hGA, _⟩ := hv
  have HSY : Hid (∀ S k (h : k < Y.length), ySum S (Y.drop k) = ySum (S + Y[k]) (Y.drop (k + 1))) := fun S k h => by rw [drop_step Y k h]; rfl
  have HEY : Hid (∀ S, ySum S (Y.drop n) = S) := fun S => by rw [← hYA.1, List.drop_length]; rfl
  have HSG : Hid (∀ S k (h : k < G.length), gSum S (G.drop k) = gSum (S + G[k].Z * ((G[k].M.length / 2 : Nat) : Int)) (G.drop (k + 1))) := fun S k h => by rw [drop_step G k h]; rfl
  have HEG : Hid (∀ S, gSum S (G.drop n') = S) := fun S => by rw [← hGA.1, List.drop_length]; rfl
  have HY := hide hY
  have HQ := hide hq
  have HYL := hide hYA.1
  have HGL := hide hGA.1
  have HCY := hide hYA.2
  have HCG := hide hGA.2
  have H0 : Hid (ySum 0 Y = ySum 0 (Y.drop 0)) := rfl
  have HR := hide hR
  generalize ySum 0 Y = T at H0 HR
  have hn9 : n ≤ 9 := by have := hYA.1; omega
  have hn8 : n' ≤ 8 := by have := hGA.1; omega
  clear hY hq hYA hGA hR
  go_enter Tryz.func143, Tryz.ntmps143
  go_wp2_with fail
  obtain ⟨V, hV⟩ : ∃ W, W = w.alloc (Obj.cells #[Value.slice a n c, Value.slice a' n' c'] 132) := ⟨_, rfl⟩
  rw [← hV]
  have bV : Below w.heap.size w V := by rw [hV]; exact below_new _ _
  have m0 : Blk V w.heap.size #[Value.slice a n c, Value.slice a' n' c'] 132 := by rw [hV]; exact Blk.new0
  clear hV
  have z0 := m0.lt
  have p0 : V.cell? ⟨w.heap.size, 0, none⟩ = some (.slice a n c) := m0.cell 0 _ rfl
  have HM0 := hide m0
  clear m0
  go_loopw [3, 4] (fun t i wr => ∃ (k : Nat) (S : Int), i = .int .i64 (k : Int) ∧ t = .int .i64 S ∧ k ≤ n ∧ 0 ≤ S ∧ S ≤ 1000000000 * (k : Int) ∧ Hid (T = ySum S (Y.drop k)) ∧ V = wr) (fun _ i _ => n - (intOf i).toNat)
  case atStart => exact ⟨0, 0, rfl, rfl, Nat.zero_le _, by omega, by omega, unhide H0, rfl⟩
  case round =>
    obtain ⟨k, S, rfl, rfl, hk, hS0, hS1, HS, rfl⟩ := hrel
    by_cases hlt : k < n
    · have hkL : k < Y.length := by have := unhide HYL; omega
      obtain ⟨b, off, rfl, hbB, c0⟩ := unhide HCY k hkL
      rw [← bV.cell (p := ⟨b, off + k, none⟩) (by simp; omega)] at c0
      have hy := unhide HY _ (List.getElem_mem hkL)
      have HS2 := hide ((unhide HS).trans (unhide HSY S k hkL))
      generalize Y[k] = y at c0 hy HS2
      have w1 : IntKind.i64.wrap (S + y) = S + y := wrap_in _ (by omega)
      go_wp2_with fail
      exact ⟨⟨k + 1, S + y, by go_num, rfl, by omega, by omega, by omega, unhide HS2, trivial⟩, by simp [intOf]; omega⟩
    · obtain rfl : k = n := by omega
      have hTS := (unhide HS).trans (unhide HEY S)
      have HR2 : Hid (R = gSum S (G.drop 0)) := by show _ = _; rw [unhide HR, hTS]; rfl
      clear hTS HS HR H0
      go_wp2_with fail
      go_loopw [3, 5] (fun t i wr => ∃ (j : Nat) (U : Int), i = .int .i64 (j : Int) ∧ t = .int .i64 U ∧ j ≤ n' ∧ 0 ≤ U ∧ U ≤ 9000000000 + 4000000000 * (j : Int) ∧ Hid (R = gSum U (G.drop j)) ∧ Below V.heap.size V wr) (fun _ i _ => n' - (intOf i).toNat)
      case atStart => exact ⟨0, S, rfl, rfl, Nat.zero_le _, by omega, by omega, unhide HR2, Below.refl _ _⟩
      case round =>
        obtain ⟨j, U, rfl, rfl, hj, hU0, hU1, HU, hbr⟩ := hrel
        have hzr := hbr.size
        have bw : Below w.heap.size w wr := bV.trans (hbr.mono bV.size)
        have p1 : wr.cell? ⟨w.heap.size, 1, none⟩ = some (.slice a' n' c') := ((unhide HM0).below hbr).cell 1 _ rfl
        by_cases hlt : j < n'
        · have hjL : j < G.length := by have := unhide HGL; omega
          obtain ⟨b, off, a2, c2, rfl, hbB, d0, d1, _⟩ := unhide HCG j hjL
          have hh := half_bounds (unhide HQ _ (List.getElem_mem hjL)) h9
          obtain ⟨_, _, hM9, hZ1, hZ2⟩ := (grpHead_iff s _).1 (unhide HQ _ (List.getElem_mem hjL))
          have HU2 := hide ((unhide HU).trans (unhide HSG U j hjL))
          generalize G[j] = q at d0 d1 hh hM9 hZ1 hZ2 HU2
          have hjn : (j : Int) < (n' : Int) := by omega
          have wh : ((q.M.length : Nat) : Int) / 2 = ((q.M.length / 2 : Nat) : Int) := by omega
          obtain ⟨pz, hpz⟩ : ∃ pz, pz = q.Z * ((q.M.length / 2 : Nat) : Int) := ⟨_, rfl⟩
          rw [← hpz] at hh HU2
          have HWH : Hid (wrap64 (U + wrap64 (q.Z * (((q.M.length : Nat) : Int) / 2))) = U + pz) := by
            show _ = _
            rw [wh, ← hpz, wrap64_in pz (by omega), wrap64_in _ (by omega)]
          clear wh hpz
          have A1 : ∀ d : Grown wr.heap.size wr, d.w.cell? ⟨w.heap.size, 1, none⟩ = some (.slice (some ⟨b, off, none⟩) n' c') := fun d => d.cell (by omega) p1
          have G0 : ∀ d : Grown wr.heap.size wr, d.w.cell? ⟨b, off + j * 2, none⟩ = some (.slice a2 q.M.length c2) := fun d => d.cell (by omega) ((bw.cell (p := ⟨b, off + j * 2, none⟩) (by simp; omega)).trans d0)
          have G1 : ∀ d : Grown wr.heap.size wr, d.w.cell? ⟨b, off + j * 2 + 1, none⟩ = some (.int .i64 q.Z) := fun d => d.cell (by omega) ((bw.cell (p := ⟨b, off + j * 2 + 1, none⟩) (by simp; omega)).trans d1)
          clear d0 d1
          go_wp2_with fail
          clear p1
          refine wp_region_grown wr.heap.size (by kernel_rfl) (by kernel_rfl) ?_
          repeat (go_big_quiet_step (first | fail))
          refine wpQuiet_nil ?_
          rintro w6 ⟨d6, rfl⟩
          clear A1 G0 G1
          go_wp2_with fail
          exact ⟨⟨j + 1, U + pz, by go_num, (by rw [unhide HWH]), by omega, by omega, by omega, unhide HU2, hbr.trans (d6.below.mono hbr.size)⟩, by simp [intOf]; omega⟩
        · obtain rfl : j = n' := by omega
          have hRS := (unhide HU).trans (unhide HEG U)
          subst hRS
          go_wp2_with fail
          go_ret
          exact ⟨rfl, bw⟩
theorem yOk_step (Y : List Int) (k : Nat) (h : k < Y.length) : yOk (Y.drop k) = ((decide (0 ≤ Y[k]) && decide (Y[k] ≤ 1000000000)) && yOk (Y.drop (k + 1))) := by rw [drop_step Y k h]; rfl
theorem grpsOk_step (s : Int) (G : List GrpI) (i : Nat) (h : i < G.length) : grpsOk s (G.take i) (G.drop i) = (grpHead s G[i] && (memOk s none G[i].M && (nestAll G[i].M (G.take i) && grpsOk s (G.take (i + 1)) (G.drop (i + 1))))) := by
  rw [drop_step G i h, List.take_succ_eq_append_getElem h]
  rfl
def prevI (M : List Int) (k : Nat) : Option Int := if k = 0 then none else M[k - 1]?
theorem memOk_step (s : Int) (M : List Int) (k : Nat) (h : k < M.length) : memOk s (prevI M k) (M.drop k) = ((decide (0 ≤ M[k]) && decide (M[k] ≤ s - 1)) && ((match prevI M k with | none => true | some q => decide (q < M[k])) && memOk s (prevI M (k + 1)) (M.drop (k + 1)))) := by
  have e : prevI M (k + 1) = some M[k] := by unfold prevI; simp [h]
  rw [drop_step M k h, e]
  rfl
theorem nestAll_step (b : List Int) (D : List GrpI) (k : Nat) (h : k < D.length) : nestAll b (D.drop k) = (nested D[k].M b && nestAll b (D.drop (k + 1))) := by rw [drop_step D k h]; rfl
theorem slacksOk_step (Y : List Int) (G : List GrpI) (Q : List EdgeI) (k : Nat) (h : k < Q.length) : slacksOk Y G (Q.drop k) = (decide (0 ≤ slackI Y G Q[k]) && slacksOk Y G (Q.drop (k + 1))) := by rw [drop_step Q k h]; rfl
set_option maxRecDepth 100000 in
set_option maxHeartbeats 8000000 in
theorem specProof_gen (B : Nat) (v : Value) (s : Int) (Q : List EdgeI) (u : Value) (Y : List Int) (G : List GrpI) (h1 : Q.length ≤ 1048576) (h2 : psize Y G ≤ 1048576) (w : World) (hB : B ≤ w.heap.size) (hv : GrAt w v B s Q) (hu : PrAt w u B Y G) :
    Calls Tryz.prog 140 #[v, u] w fun e w' => e = .returned (.bool (proofOk s Q Y G)) ∧ Below w.heap.size w w' := by
  obtain ⟨l1, l2, l3⟩ := psize_le h2
  have OK := hide (fun w1 (hb : Below w.heap.size w w1) => specGraph_any v B s Q h1 w1 (by have := hb.size; omega) (hv.below hb hB))
  have SL := hide (fun (x1 : (Y.length : Int) = s) (x2 : s ≤ 9) (x3 : ∀ y ∈ Y, 0 ≤ y ∧ y ≤ 1000000000) (x4 : ∀ q ∈ G, grpHead s q = true) (x5 : G.length ≤ 8) e (x6 : edgeOk s e = true) w1 (hb : Below w.heap.size w w1) => specSlack_any u B s Y G e x1 x2 x3 x4 x5 x6 w1 (by have := hb.size; omega) (hu.below hb hB))
  obtain ⟨a0, n0, c0, rfl, hE⟩ := hv
  obtain ⟨a, n, c, a', n', c', rfl, hYA, hGA, _⟩ := hu
  have hP : proofOk s Q Y G = (graphOk s Q && (decide ((Y.length : Int) = s) && (decide (G.length ≤ 8) && (yOk Y && (grpsOk s [] G && slacksOk Y G Q))))) := rfl
  generalize proofOk s Q Y G = R at hP ⊢
  have HGS : Hid (graphOk s Q = true → s ≤ 9 ∧ 0 ≤ s ∧ ∀ e ∈ Q, edgeOk s e = true) := fun h => ⟨(graph_sound h).2.1, (graph_sound h).1, (graph_sound h).2.2.1⟩
  generalize graphOk s Q = gk at OK hP HGS
  obtain rfl := hYA.1
  obtain rfl := hGA.1
  obtain rfl := hE.1
  have HCY := hide hYA.2
  have HCG := hide hGA.2
  have HCE := hide hE.2
  have L3 := hide l3
  clear hYA hGA hE l3 h2
  go_enter Tryz.func140, Tryz.ntmps140
  go_wp2_with fail
  obtain ⟨V, hV⟩ : ∃ W, W = (w.alloc (Obj.cells #[Value.int .i64 s, Value.slice a0 Q.length c0] 35)).alloc (Obj.cells #[Value.slice a Y.length c, Value.slice a' G.length c'] 132) := ⟨_, rfl⟩
  rw [← hV]
  have bV : Below w.heap.size w V := by rw [hV]; exact (below_new _ _).alloc (by simp) _
  have m0 : Blk V w.heap.size #[Value.int .i64 s, Value.slice a0 Q.length c0] 35 := by rw [hV]; exact Blk.new0.alloc
  have m1 : Blk V (w.heap.size + 1) #[Value.slice a Y.length c, Value.slice a' G.length c'] 132 := by rw [hV]; exact Blk.new1
  clear hV
  refine (unhide OK V bV).mono ?_
  rintro e w3 ⟨rfl, hb3⟩
  have b3 := bV.trans (hb3.mono bV.size)
  have HM0 := hide (m0.below hb3)
  have HM1 := hide (m1.below hb3)
  clear m0 m1 hb3 bV OK
  have z0 := (unhide HM0).lt
  have z1 := (unhide HM1).lt
  have p0 : w3.cell? ⟨w.heap.size, 0, none⟩ = some (.int .i64 s) := (unhide HM0).cell 0 _ rfl
  have p1 : w3.cell? ⟨w.heap.size + 1, 0, none⟩ = some (.slice a Y.length c) := (unhide HM1).cell 0 _ rfl
  have p2 : w3.cell? ⟨w.heap.size + 1, 1, none⟩ = some (.slice a' G.length c') := (unhide HM1).cell 1 _ rfl
  cases gk with
  | false =>
    rw [Bool.false_and] at hP
    subst hP
    go_wp2_with fail
    go_ret
    exact ⟨rfl, b3⟩
  | true =>
    rw [Bool.true_and] at hP
    obtain ⟨hs9, hs0, hek⟩ := unhide HGS rfl
    have HEK := hide hek
    clear hek HGS
    rcases Decidable.em (¬ (Y.length : Int) = s) with t1 | t1
    · rw [decide_eq_false t1, Bool.false_and] at hP
      subst hP
      have e1 : (((Y.length : Nat) : Int) != s) = true := by simp; exact t1
      go_wp2_with fail
      go_ret
      exact ⟨rfl, b3⟩
    replace t1 := Decidable.not_not.1 t1
    rw [decide_eq_true t1, Bool.true_and] at hP
    have e1 : (((Y.length : Nat) : Int) != s) = false := by simp; exact t1
    have HT1 := hide t1
    clear t1
    rcases Decidable.em (¬ G.length ≤ 8) with t2 | t2
    · rw [decide_eq_false t2, Bool.false_and] at hP
      subst hP
      have e2 : (8 : Int) < ((G.length : Nat) : Int) := by omega
      go_wp2_with fail
      go_ret
      exact ⟨rfl, b3⟩
    replace t2 := Decidable.not_not.1 t2
    rw [decide_eq_true t2, Bool.true_and] at hP
    have e2 : ¬ (8 : Int) < ((G.length : Nat) : Int) := by omega
    have HPP := hide hP
    clear hP
    go_wp2_with fail
    go_loopw [5] (fun i wr => ∃ k : Nat, i = .int .i64 (k : Int) ∧ k ≤ Y.length ∧ Hid (yOk Y = yOk (Y.drop k)) ∧ Below w3.heap.size w3 wr) (fun i _ => Y.length - (intOf i).toNat)
    case atStart => exact ⟨0, rfl, Nat.zero_le _, rfl, Below.refl _ _⟩
    case round =>
      obtain ⟨k, rfl, hk, HK, hbr⟩ := hrel
      have p1 : wr.cell? ⟨w.heap.size + 1, 0, none⟩ = some (.slice a Y.length c) := ((unhide HM1).below hbr).cell 0 _ rfl
      have bw := b3.trans (hbr.mono b3.size)
      by_cases hlt : k < Y.length
      · obtain ⟨b, off, rfl, hbB, d0⟩ := unhide HCY k hlt
        rw [← bw.cell (p := ⟨b, off + k, none⟩) (by simp; omega)] at d0
        have HK2 := hide ((unhide HK).trans (yOk_step Y k hlt))
        have LI := hide (fun w => l01In_is Y[k] 0 1000000000 w)
        generalize Y[k] = y at d0 HK2 LI
        generalize (decide (0 ≤ y) && decide (y ≤ 1000000000)) = by0 at HK2 LI
        cases by0 with
        | false =>
          have hR : R = false := by rw [unhide HPP, unhide HK2]; rfl
          subst hR
          go_wp2_with fail
          refine (unhide LI _).mono ?_
          rintro e w4 ⟨rfl, rfl⟩
          go_wp2_with fail
          go_ret
          exact ⟨rfl, bw⟩
        | true =>
          go_wp2_with fail
          refine (unhide LI _).mono ?_
          rintro e w4 ⟨rfl, rfl⟩
          go_wp2_with fail
          exact ⟨⟨k + 1, by go_num, by omega, unhide HK2, hbr⟩, by simp [intOf]; omega⟩
      · obtain rfl : k = Y.length := by omega
        have hy : yOk Y = true := by rw [unhide HK, List.drop_length]; rfl
        have HYY := hide (yOk_at Y hy)
        have HP2 : Hid (R = (grpsOk s [] G && slacksOk Y G Q)) := by show _ = _; rw [unhide HPP, hy, Bool.true_and]
        clear hy HPP HK
        have p2 : wr.cell? ⟨w.heap.size + 1, 1, none⟩ = some (.slice a' G.length c') := ((unhide HM1).below hbr).cell 1 _ rfl
        go_wp2_with fail
        have HBR := hide hbr
        clear p1 p2 bw hbr
        go_loopw [6] (fun i wr => ∃ k : Nat, i = .int .i64 (k : Int) ∧ k ≤ G.length ∧ Hid (grpsOk s [] G = grpsOk s (G.take k) (G.drop k)) ∧ Below w3.heap.size w3 wr) (fun i _ => G.length - (intOf i).toNat)
        case atStart => exact ⟨0, rfl, Nat.zero_le _, rfl, unhide HBR⟩
        case round =>
          obtain ⟨i, rfl, hi, HI, hbr⟩ := hrel
          have p2 : wr.cell? ⟨w.heap.size + 1, 1, none⟩ = some (.slice a' G.length c') := ((unhide HM1).below hbr).cell 1 _ rfl
          have p0 : wr.cell? ⟨w.heap.size, 0, none⟩ = some (.int .i64 s) := ((unhide HM0).below hbr).cell 0 _ rfl
          have bw := b3.trans (hbr.mono b3.size)
          have hzr := hbr.size
          have hne0 : ¬ w.heap.size = wr.heap.size := by omega
          have hlt0 : w.heap.size < wr.heap.size := by omega
          by_cases hlt : i < G.length
          · obtain ⟨b, off, a2, c2, rfl, hbB, d0, d1, hIA⟩ := unhide HCG i hlt
            rw [← bw.cell (p := ⟨b, off + i * 2, none⟩) (by simp; omega)] at d0
            rw [← bw.cell (p := ⟨b, off + i * 2 + 1, none⟩) (by simp; omega)] at d1
            have HI2 := hide ((unhide HI).trans (grpsOk_step s G i hlt))
            have hM := unhide L3 _ (List.getElem_mem hlt)
            have HIA := hide hIA
            generalize G[i] = q at d0 d1 HIA HI2 hM
            clear hIA
            have hH := grpHead_iff s q
            have LZ := hide (fun w => l01In_is q.Z 1 1000000000 w)
            rcases Decidable.em (q.M.length < 3) with x1 | x1
            · have hR : R = false := by
                have : grpHead s q = false := by rw [Bool.eq_false_iff]; intro h; have := hH.1 h; omega
                rw [unhide HP2, unhide HI2, this]; rfl
              subst hR
              have x1' : ((q.M.length : Nat) : Int) < 3 := by omega
              clear hH
              go_wp2_with fail
              go_ret
              exact ⟨rfl, bw.alloc bw.size _⟩
            have x1' : ¬ ((q.M.length : Nat) : Int) < 3 := by omega
            rcases Decidable.em (((q.M.length : Nat) : Int) % 2 = 0) with x2 | x2
            · have hR : R = false := by
                have : grpHead s q = false := by rw [Bool.eq_false_iff]; intro h; have := hH.1 h; omega
                rw [unhide HP2, unhide HI2, this]; rfl
              subst hR
              clear hH
              go_wp2_with fail
              go_ret
              exact ⟨rfl, bw.alloc bw.size _⟩
            rcases Decidable.em (s < ((q.M.length : Nat) : Int)) with x3 | x3
            · have hR : R = false := by
                have : grpHead s q = false := by rw [Bool.eq_false_iff]; intro h; have := hH.1 h; omega
                rw [unhide HP2, unhide HI2, this]; rfl
              subst hR
              clear hH
              go_wp2_with fail
              go_ret
              exact ⟨rfl, bw.alloc bw.size _⟩
            have x2b : (((q.M.length : Nat) : Int) % 2 == 0) = false := by simp; omega
            have hgh : grpHead s q = (decide (1 ≤ q.Z) && decide (q.Z ≤ 1000000000)) := by
              rw [Bool.eq_iff_iff, hH]
              simp
              omega
            rw [hgh] at HI2
            clear hH hgh
            generalize (decide (1 ≤ q.Z) && decide (q.Z ≤ 1000000000)) = bz at LZ HI2
            cases bz with
            | false =>
              have hR : R = false := by rw [unhide HP2, unhide HI2]; rfl
              subst hR
              go_wp2_with fail
              refine (unhide LZ _).mono ?_
              rintro e w4 ⟨rfl, rfl⟩
              go_wp2_with fail
              go_ret
              exact ⟨rfl, bw.alloc bw.size _⟩
            | true =>
              go_wp2_with fail
              refine (unhide LZ _).mono ?_
              rintro e w4 ⟨rfl, rfl⟩
              go_wp2_with fail
              have bx : Below wr.heap.size wr (wr.alloc (Obj.cells #[Value.slice a2 q.M.length c2, Value.int .i64 q.Z] 164)) := below_new _ _
              have ux : Blk (wr.alloc (Obj.cells #[Value.slice a2 q.M.length c2, Value.int .i64 q.Z] 164)) wr.heap.size #[Value.slice a2 q.M.length c2, Value.int .i64 q.Z] 164 := Blk.new0
              generalize wr.alloc (Obj.cells #[Value.slice a2 q.M.length c2, Value.int .i64 q.Z] 164) = V7 at bx ux ⊢
              obtain ⟨N7, hN7⟩ : ∃ N, N = wr.heap.size := ⟨_, rfl⟩
              have b7 := hbr.trans (bx.mono hbr.size)
              have z7 := ux.lt
              rw [← hN7] at ux z7 ⊢
              have HU7 := hide ux
              have HB7 := hide b7
              have h7 : w.heap.size + 1 < N7 := by omega
              clear hN7 bx ux b7 p0 p2 d0 d1 bw hbr hne0 hlt0 hzr LZ wr
              go_loopw [8] (fun j wr => ∃ k : Nat, j = .int .i64 (k : Int) ∧ k ≤ q.M.length ∧ Hid (memOk s none q.M = memOk s (prevI q.M k) (q.M.drop k)) ∧ Below V7.heap.size V7 wr) (fun j _ => q.M.length - (intOf j).toNat)
              case atStart => exact ⟨0, rfl, Nat.zero_le _, rfl, Below.refl _ _⟩
              case round =>
                obtain ⟨k, rfl, hk, HK, hb8⟩ := hrel
                have b8 := (unhide HB7).trans (hb8.mono (unhide HB7).size)
                have bw := b3.trans (b8.mono b3.size)
                have hz8 := hb8.size
                have p7 : wr.cell? ⟨N7, 0, none⟩ = some (.slice a2 q.M.length c2) := ((unhide HU7).below hb8).cell 0 _ rfl
                by_cases hlt8 : k < q.M.length
                · obtain ⟨bm, om, rfl, hbm, g0⟩ := (unhide HIA).2 k hlt8
                  have HPV : Hid (∀ k', k = k' + 1 → ∃ y, prevI q.M k = some y ∧ w.cell? ⟨bm, om + k', none⟩ = some (.int .i64 y)) := fun k' hk' => by
                    obtain ⟨bm', om', e', _, g'⟩ := (unhide HIA).2 k' (by omega)
                    simp at e'
                    obtain ⟨rfl, rfl⟩ := e'
                    refine ⟨q.M[k']'(by omega), ?_, g'⟩
                    unfold prevI
                    rw [if_neg (by omega), show k - 1 = k' by omega]
                    simp
                  have HPZ : Hid (k = 0 → prevI q.M k = none) := fun h => by unfold prevI; rw [if_pos h]
                  have HK2 := hide ((unhide HK).trans (memOk_step s q.M k hlt8))
                  have LI := hide (fun w => l01In_is q.M[k] 0 (s - 1) w)
                  generalize q.M[k] = x at g0 HK2 LI
                  generalize prevI q.M k = pv at HPV HPZ HK2
                  generalize (decide (0 ≤ x) && decide (x ≤ s - 1)) = bx at LI HK2
                  have ws : IntKind.i64.wrap (s - 1) = s - 1 := wrap_in _ (by omega)
                  have hkn : (k : Int) < ((q.M.length : Nat) : Int) := by omega
                  have A0 : ∀ d : Grown wr.heap.size wr, d.w.cell? ⟨w.heap.size, 0, none⟩ = some (.int .i64 s) := fun d => d.cell (by omega) (((unhide HM0).below b8).cell 0 _ rfl)
                  have A7 : ∀ d : Grown wr.heap.size wr, d.w.cell? ⟨N7, 0, none⟩ = some (.slice (some ⟨bm, om, none⟩) q.M.length c2) := fun d => d.cell (by omega) p7
                  have X0 : ∀ d : Grown wr.heap.size wr, d.w.cell? ⟨bm, om + k, none⟩ = some (.int .i64 x) := fun d => d.cell (by omega) ((bw.cell (p := ⟨bm, om + k, none⟩) (by simp; omega)).trans g0)
                  cases bx with
                  | false =>
                    have hR : R = false := by rw [unhide HP2, unhide HI2, unhide HK2]; rfl
                    subst hR
                    go_wp2_with fail
                    refine wp_region_grown wr.heap.size (by kernel_rfl) (by kernel_rfl) ?_
                    repeat (go_big_quiet_step (first | (go_at_call 90; exact Calls.grown_same (unhide LI _))))
                    refine wpQuiet_nil ?_
                    rintro w9 ⟨d9, rfl⟩
                    go_wp2_with fail
                    go_ret
                    exact ⟨rfl, bw.trans (d9.below.mono bw.size)⟩
                  | true =>
                    rcases Nat.eq_zero_or_pos k with hk0 | hk0
                    · have hpv := unhide HPZ hk0
                      subst hpv
                      have hk00 : ¬ (0 : Int) < (k : Int) := by omega
                      have hk0b : decide ((0 : Int) < (k : Int)) = false := decide_eq_false hk00
                      have hk0n : ¬ 0 < k := by omega
                      have hk0m : decide (0 < k) = false := decide_eq_false hk0n
                      have HK0 := hide hk0
                      clear hk0
                      go_wp2_with fail
                      refine wp_region_grown wr.heap.size (by kernel_rfl) (by kernel_rfl) ?_
                      repeat (go_big_quiet_step (first | (go_at_call 90; exact Calls.grown_same (unhide LI _))))
                      refine wpQuiet_nil ?_
                      rintro w9 ⟨d9, rfl⟩
                      go_wp2_with fail
                      exact ⟨⟨k + 1, by go_num, by omega, unhide HK2, hb8.trans (d9.below.mono hb8.size)⟩, by simp [intOf]; omega⟩
                    · obtain ⟨k', hk'⟩ : ∃ k', k = k' + 1 := ⟨k - 1, by omega⟩
                      obtain ⟨y, hpv, gy⟩ := unhide HPV k' hk'
                      subst hpv
                      have hk00 : (0 : Int) < (k : Int) := by omega
                      have wk : IntKind.i64.wrap ((k : Int) - 1) = (k' : Int) := by rw [wrap_in _ (by omega)]; omega
                      have hkn' : (k' : Int) < ((q.M.length : Nat) : Int) := by omega
                      have X1 : ∀ d : Grown wr.heap.size wr, d.w.cell? ⟨bm, om + k', none⟩ = some (.int .i64 y) := fun d => d.cell (by omega) ((bw.cell (p := ⟨bm, om + k', none⟩) (by simp; omega)).trans gy)
                      clear hk' HPV HPZ gy
                      rcases Decidable.em (x ≤ y) with ty | ty
                      · have hR : R = false := by
                          rw [unhide HP2, unhide HI2, unhide HK2]
                          simp only [decide_eq_false (show ¬ y < x by omega)]
                          rfl
                        subst hR
                        have tyb : decide (x ≤ y) = true := decide_eq_true ty
                        go_wp2_with fail
                        refine wp_region_grown wr.heap.size (by kernel_rfl) (by kernel_rfl) ?_
                        repeat (go_big_quiet_step (first | (go_at_call 90; exact Calls.grown_same (unhide LI _))))
                        refine wpQuiet_nil ?_
                        rintro w9 ⟨d9, rfl⟩
                        go_wp2_with fail
                        go_ret
                        exact ⟨rfl, bw.trans (d9.below.mono bw.size)⟩
                      · have HK3 : Hid (memOk s none q.M = memOk s (prevI q.M (k + 1)) (q.M.drop (k + 1))) := by
                          show _ = _
                          rw [unhide HK2]
                          simp only [decide_eq_true (show y < x by omega)]
                          rfl
                        have tyb : decide (x ≤ y) = false := decide_eq_false ty
                        go_wp2_with fail
                        refine wp_region_grown wr.heap.size (by kernel_rfl) (by kernel_rfl) ?_
                        repeat (go_big_quiet_step (first | (go_at_call 90; exact Calls.grown_same (unhide LI _))))
                        refine wpQuiet_nil ?_
                        rintro w9 ⟨d9, rfl⟩
                        go_wp2_with fail
                        exact ⟨⟨k + 1, by go_num, by omega, unhide HK3, hb8.trans (d9.below.mono hb8.size)⟩, by simp [intOf]; omega⟩
                · obtain rfl : k = q.M.length := by omega
                  have hmk : memOk s none q.M = true := by rw [unhide HK, List.drop_length]; cases prevI q.M q.M.length <;> rfl
                  have HI3 : Hid (grpsOk s [] G = (nestAll q.M (G.take i) && grpsOk s (G.take (i + 1)) (G.drop (i + 1)))) := by show _ = _; rw [unhide HI2, hmk]; rfl
                  clear hmk HK HI2
                  go_wp2_with fail
                  have HB8 := hide b8
                  have HU8 := hide ((unhide HU7).below hb8)
                  clear p7 bw b8 hb8 hz8
                  have HLI : Hid ((G.take i).length = i) := by show _ = _; rw [List.length_take]; omega
                  have HGI : Hid (∀ j (h : j < (G.take i).length), ∃ h' : j < G.length, (G.take i)[j] = G[j]) := fun j h => ⟨by rw [List.length_take] at h; omega, List.getElem_take⟩
                  have HNS := hide (fun j h => nestAll_step q.M (G.take i) j h)
                  have HN0 : Hid (nestAll q.M (G.take i) = nestAll q.M ((G.take i).drop 0)) := rfl
                  have HNE : Hid (nestAll q.M ((G.take i).drop i) = true) := by
                    show _ = _
                    have e0 : (G.take i).drop i = [] := List.drop_eq_nil_of_le (by rw [unhide HLI]; exact Nat.le_refl _)
                    rw [e0]
                    rfl
                  generalize G.take i = D at HLI HGI HNS HN0 HNE HI3
                  go_loopw [9] (fun j wr => ∃ k : Nat, j = .int .i64 (k : Int) ∧ k ≤ i ∧ Hid (nestAll q.M D = nestAll q.M (D.drop k)) ∧ Below w3.heap.size w3 wr ∧ Blk wr N7 #[Value.slice a2 q.M.length c2, Value.int .i64 q.Z] 164) (fun j _ => i - (intOf j).toNat)
                  case atStart => exact ⟨0, rfl, Nat.zero_le _, unhide HN0, unhide HB8, unhide HU8⟩
                  case round =>
                    obtain ⟨k, rfl, hk, HK, b8, u8⟩ := hrel
                    have bw := b3.trans (b8.mono b3.size)
                    have z8 := u8.lt
                    by_cases hlt9 : k < i
                    · have hkD : k < D.length := by have := unhide HLI; omega
                      obtain ⟨hkG, ekG⟩ := unhide HGI k hkD
                      obtain ⟨b', off', a3, c3, e', hb', g0, _, hI3⟩ := unhide HCG k hkG
                      simp at e'
                      obtain ⟨rfl, rfl⟩ := e'
                      have HK2 := hide ((unhide HK).trans (unhide HNS k hkD))
                      rw [ekG] at HK2
                      have hM3 := unhide L3 _ (List.getElem_mem hkG)
                      have NE : Hid (∀ d : Grown wr.heap.size wr, Calls Tryz.prog 156 #[.slice a3 G[k].M.length c3, .slice a2 q.M.length c2] d.w fun e w' => e = .returned (.bool (nested G[k].M q.M)) ∧ w' = d.w) := fun d =>
                        specNested_any a3 a2 c3 c2 B G[k].M q.M hM3 hM d.w (hI3.below (bw.trans (d.below.mono bw.size)) hB) ((unhide HIA).below (bw.trans (d.below.mono bw.size)) hB)
                      generalize G[k] = q3 at g0 HK2 NE
                      generalize nested q3.M q.M = nb at NE HK2
                      have hkn : (k : Int) < ((G.length : Nat) : Int) := by omega
                      have A1 : ∀ d : Grown wr.heap.size wr, d.w.cell? ⟨w.heap.size + 1, 1, none⟩ = some (.slice (some ⟨b, off, none⟩) G.length c') := fun d => d.cell (by omega) (((unhide HM1).below b8).cell 1 _ rfl)
                      have A7 : ∀ d : Grown wr.heap.size wr, d.w.cell? ⟨N7, 0, none⟩ = some (.slice a2 q.M.length c2) := fun d => d.cell (by omega) (u8.cell 0 _ rfl)
                      have X0 : ∀ d : Grown wr.heap.size wr, d.w.cell? ⟨b, off + k * 2, none⟩ = some (.slice a3 q3.M.length c3) := fun d => d.cell (by omega) ((bw.cell (p := ⟨b, off + k * 2, none⟩) (by simp; omega)).trans g0)
                      clear g0 hI3
                      cases nb with
                      | false =>
                        have hR : R = false := by rw [unhide HP2, unhide HI3, unhide HK2]; rfl
                        subst hR
                        go_wp2_with fail
                        refine wp_region_grown wr.heap.size (by kernel_rfl) (by kernel_rfl) ?_
                        repeat (go_big_quiet_step (first | (go_at_call 156; exact Calls.grown_same (unhide NE _))))
                        refine wpQuiet_nil ?_
                        rintro w9 ⟨d9, rfl⟩
                        go_wp2_with fail
                        go_ret
                        exact ⟨rfl, bw.trans (d9.below.mono bw.size)⟩
                      | true =>
                        go_wp2_with fail
                        refine wp_region_grown wr.heap.size (by kernel_rfl) (by kernel_rfl) ?_
                        repeat (go_big_quiet_step (first | (go_at_call 156; exact Calls.grown_same (unhide NE _))))
                        refine wpQuiet_nil ?_
                        rintro w9 ⟨d9, rfl⟩
                        go_wp2_with fail
                        exact ⟨⟨k + 1, by go_num, by omega, unhide HK2, b8.trans (d9.below.mono b8.size), u8.below d9.below⟩, by simp [intOf]; omega⟩
                    · obtain rfl : k = i := by omega
                      have HI4 : Hid (grpsOk s [] G = grpsOk s (G.take (k + 1)) (G.drop (k + 1))) := by show _ = _; rw [unhide HI3, unhide HK, unhide HNE]; rfl
                      go_wp2_with fail
                      exact ⟨⟨k + 1, by go_num, by omega, unhide HI4, b8⟩, by simp [intOf]; omega⟩
          · obtain rfl : i = G.length := by omega
            have hgk : grpsOk s [] G = true := by rw [unhide HI, List.drop_length]; cases G.take G.length <;> rfl
            have HQQ := hide (grpsOk_at s G [] hgk)
            have HP3 : Hid (R = slacksOk Y G (Q.drop 0)) := by show _ = _; rw [unhide HP2, hgk]; rfl
            clear hgk HP2 HI
            have SLK := hide (unhide SL (unhide HT1) hs9 (unhide HYY) (unhide HQQ) t2)
            have p5 : wr.cell? ⟨w.heap.size, 1, none⟩ = some (.slice a0 Q.length c0) := ((unhide HM0).below hbr).cell 1 _ rfl
            go_wp2_with fail
            have HB5 := hide hbr
            clear p0 p2 p5 bw hbr hzr hne0 hlt0
            go_loopw [10] (fun j wr => ∃ k : Nat, j = .int .i64 (k : Int) ∧ k ≤ Q.length ∧ Hid (R = slacksOk Y G (Q.drop k)) ∧ Below w3.heap.size w3 wr) (fun j _ => Q.length - (intOf j).toNat)
            case atStart => exact ⟨0, rfl, Nat.zero_le _, unhide HP3, unhide HB5⟩
            case round =>
              obtain ⟨k, rfl, hk, HK, hb8⟩ := hrel
              have bw := b3.trans (hb8.mono b3.size)
              have hz8 := hb8.size
              have p5 : wr.cell? ⟨w.heap.size, 1, none⟩ = some (.slice a0 Q.length c0) := ((unhide HM0).below hb8).cell 1 _ rfl
              by_cases hlt5 : k < Q.length
              · obtain ⟨be, oe, rfl, hbe, g0, g1, g2, g3, g4⟩ := unhide HCE k hlt5
                have SE := hide (fun w1 hb => unhide SLK Q[k] (unhide HEK _ (List.getElem_mem hlt5)) w1 hb)
                have HK2 := hide ((unhide HK).trans (slacksOk_step Y G Q k hlt5))
                generalize Q[k] = eg at g0 g1 g2 g3 g4 SE HK2
                generalize slackI Y G eg = sl at SE HK2
                obtain ⟨y0, y1, y2, y3, y4⟩ := eg
                unfold EdgeI.v at SE
                simp only at g0 g1 g2 g3 g4 SE
                have hkn : (k : Int) < ((Q.length : Nat) : Int) := by omega
                have A1 : ∀ d : Grown wr.heap.size wr, d.w.cell? ⟨w.heap.size, 1, none⟩ = some (.slice (some ⟨be, oe, none⟩) Q.length c0) := fun d => d.cell (by omega) p5
                have P1 : ∀ d : Grown wr.heap.size wr, d.w.cell? ⟨w.heap.size + 1, 0, none⟩ = some (.slice a Y.length c) := fun d => d.cell (by omega) (((unhide HM1).below hb8).cell 0 _ rfl)
                have P2 : ∀ d : Grown wr.heap.size wr, d.w.cell? ⟨w.heap.size + 1, 1, none⟩ = some (.slice a' G.length c') := fun d => d.cell (by omega) (((unhide HM1).below hb8).cell 1 _ rfl)
                have D0 : ∀ d : Grown wr.heap.size wr, d.w.cell? ⟨be, oe + k * 5, none⟩ = some (.int .i64 y0) := fun d => d.cell (by omega) ((bw.cell (p := ⟨be, oe + k * 5, none⟩) (by simp; omega)).trans g0)
                have D1 : ∀ d : Grown wr.heap.size wr, d.w.cell? ⟨be, oe + k * 5 + 1, none⟩ = some (.int .i64 y1) := fun d => d.cell (by omega) ((bw.cell (p := ⟨be, oe + k * 5 + 1, none⟩) (by simp; omega)).trans g1)
                have D2 : ∀ d : Grown wr.heap.size wr, d.w.cell? ⟨be, oe + k * 5 + 2, none⟩ = some (.int .i64 y2) := fun d => d.cell (by omega) ((bw.cell (p := ⟨be, oe + k * 5 + 2, none⟩) (by simp; omega)).trans g2)
                have D3 : ∀ d : Grown wr.heap.size wr, d.w.cell? ⟨be, oe + k * 5 + 3, none⟩ = some (.int .i64 y3) := fun d => d.cell (by omega) ((bw.cell (p := ⟨be, oe + k * 5 + 3, none⟩) (by simp; omega)).trans g3)
                have D4 : ∀ d : Grown wr.heap.size wr, d.w.cell? ⟨be, oe + k * 5 + 4, none⟩ = some (.int .i64 y4) := fun d => d.cell (by omega) ((bw.cell (p := ⟨be, oe + k * 5 + 4, none⟩) (by simp; omega)).trans g4)
                have SD : Hid (∀ d : Grown wr.heap.size wr, Calls Tryz.prog 157 #[.agg #[.slice a Y.length c, .slice a' G.length c'], .agg #[.int .i64 y0, .int .i64 y1, .int .i64 y2, .int .i64 y3, .int .i64 y4]] d.w fun r w' => r = .returned (.int .i64 sl) ∧ Below d.w.heap.size d.w w') := fun d => unhide SE d.w (bw.trans (d.below.mono bw.size))
                clear g0 g1 g2 g3 g4 SE
                go_wp2_with fail
                clear p5
                refine wp_region_grown wr.heap.size (by kernel_rfl) (by kernel_rfl) ?_
                repeat (go_big_quiet_step (first | (go_at_call 157; exact Calls.grown (Nat.le_refl _) (unhide SD _))))
                refine wpQuiet_nil ?_
                rintro w9 ⟨d9, rfl⟩
                clear A1 P1 P2 D0 D1 D2 D3 D4
                rcases Decidable.em (sl < 0) with ts | ts
                · have hR : R = false := by rw [unhide HK2, decide_eq_false (by omega)]; rfl
                  subst hR
                  go_wp2_with fail
                  go_ret
                  exact ⟨rfl, bw.trans (d9.below.mono bw.size)⟩
                · have HK3 : Hid (R = slacksOk Y G (Q.drop (k + 1))) := by show _ = _; rw [unhide HK2, decide_eq_true (by omega)]; rfl
                  go_wp2_with fail
                  exact ⟨⟨k + 1, by go_num, by omega, unhide HK3, hb8.trans (d9.below.mono hb8.size)⟩, by simp [intOf]; omega⟩
              · obtain rfl : k = Q.length := by omega
                have hR : R = true := by rw [unhide HK, List.drop_length]; rfl
                subst hR
                go_wp2_with fail
                go_ret
                exact ⟨rfl, bw⟩
theorem proof_sound {s : Int} {Q : List EdgeI} {Y : List Int} {G : List GrpI} (h : proofOk s Q Y G = true) : graphOk s Q = true ∧ (Y.length : Int) = s ∧ s ≤ 9 ∧ G.length ≤ 8 ∧ (∀ y ∈ Y, 0 ≤ y ∧ y ≤ 1000000000) ∧ (∀ q ∈ G, grpHead s q = true) := by
  unfold proofOk at h
  simp only [Bool.and_eq_true, decide_eq_true_eq] at h
  obtain ⟨h1, h2, h3, h4, h5, _⟩ := h
  exact ⟨h1, h2, (graph_sound h1).2.1, h3, yOk_at Y h4, grpsOk_at s G [] h5⟩
set_option maxRecDepth 100000 in
set_option maxHeartbeats 2000000 in
theorem specWorth_any (B : Nat) (v : Value) (s : Int) (Q : List EdgeI) (u : Value) (M : List CoupleI) (hok : matchOk s Q M = true) (h1 : Q.length ≤ 1048576) (w : World) (hB : B ≤ w.heap.size) (hv : GrAt w v B s Q) (hu : CoAt w u B M) :
    Calls Tryz.prog 142 #[v, u] w fun e w' => e = .returned (.int .i64 (wsum (sums Q M))) ∧ Below w.heap.size w w' := by
  have AT := hide (fun x y w1 (hb : Below w.heap.size w w1) => specAt_any v B s x y Q h1 w1 (by have := hb.size; omega) (hv.below hb hB))
  obtain ⟨a0, n0, c0, rfl, hE⟩ := hv
  obtain ⟨hL0, hc0⟩ := hE
  obtain ⟨a, c, rfl, hM⟩ := hu
  obtain ⟨_, hc⟩ := hM
  obtain ⟨hg, h9, hm⟩ := match_sound hok
  have HED : Hid (∀ k (h : k < M.length), ∃ i, ∃ h' : i < Q.length, atFrom M[k].A M[k].B 0 Q = (i : Int) ∧ edgeN Q (atFrom M[k].A M[k].B 0 Q) = Q[i] ∧ edgeOk s Q[i] = true) := fun k h => by
    obtain ⟨i, hi, e1, e2, _⟩ := edgeN_at (mFrom_at Q M none [] hm _ (List.getElem_mem h))
    exact ⟨i, hi, e1, e2, (graph_sound hg).2.2.1 _ (List.getElem_mem hi)⟩
  have HST := hide (fun s k h => sumsFrom_step Q M s k h)
  have HEND : Hid (∀ s, sumsFrom Q s (M.drop M.length) = s) := fun s => by rw [List.drop_length]; rfl
  have H0 : Hid (sums Q M = sumsFrom Q ⟨0, 0, 0⟩ (M.drop 0)) := rfl
  generalize sums Q M = T at H0 ⊢
  have HC0 := hide hc0
  have HL0 := hide hL0
  have HC := hide hc
  obtain ⟨n, hn⟩ : ∃ n, M.length = n := ⟨_, rfl⟩
  rw [hn] at HEND h9
  rw [hn]
  have HN := hide hn
  have HN0 : Hid (n0 ≤ 1048576) := by show _ ≤ _; omega
  clear hc0 hL0 hc hok hm hg h1 hn
  go_enter Tryz.func142, Tryz.ntmps142
  go_wp2_with fail
  obtain ⟨V1, hV1⟩ : ∃ W, W = w.alloc (Obj.cells #[Value.int .i64 s, Value.slice a0 n0 c0] 35) := ⟨_, rfl⟩
  rw [← hV1]
  have b1 : Below w.heap.size w V1 := by rw [hV1]; exact below_new _ _
  have x1 : GBox V1 w.heap.size s (.slice a0 n0 c0) := by rw [hV1]; exact GBox.new _ _ _
  have hx1l := x1.lt
  have HX1 := hide x1
  clear hV1 x1
  go_loopw [5, 6] (fun nn i wr => ∃ (j : Nat) (t : SumsI) (N : Int), i = .int .i64 (j : Int) ∧ nn = .int .i64 N ∧ Hid (N = wsum t) ∧ j ≤ n ∧ Hid (T = sumsFrom Q t (M.drop j)) ∧ Hid (SB t (j : Int)) ∧ Below V1.heap.size V1 wr) (fun _ i _ => n - (intOf i).toNat)
  case atStart => exact ⟨0, ⟨0, 0, 0⟩, 0, rfl, rfl, rfl, Nat.zero_le _, unhide H0, SB.zero _ (by omega), Below.refl _ _⟩
  case round =>
    obtain ⟨j, t, N, rfl, rfl, HNE, hj, HR, HSB, hb⟩ := hrel
    have b4 : Below w.heap.size w wr := b1.trans (hb.mono b1.size)
    by_cases hlt : j < n
    · have hjL : j < M.length := by have := unhide HN; omega
      obtain ⟨b, off, rfl, hbB, c0', c1'⟩ := unhide HC j hjL
      obtain ⟨i, hiQ, e1, e2, heok⟩ := unhide HED j hjL
      obtain ⟨b', off', rfl, hbB', d0, d1, d2, d3, d4⟩ := unhide HC0 i hiQ
      have hr := (unhide HR).trans (unhide HST t j hjL)
      have AT1 := hide (unhide AT M[j].A M[j].B)
      have hsn := (unhide HSB).add heok
      have hws := wsum_add (unhide HSB) (by omega) heok
      rw [e1] at AT1
      rw [e2] at hr
      generalize M[j] = mm at c0' c1' AT1
      have SC := hide (fun w => specScalar_any Q[i] w)
      generalize Q[i] = q at d0 d1 d2 d3 d4 hr hsn SC hws
      rw [← unhide HNE] at hws
      obtain ⟨hws0, hws1, hws2, hws3, hws4⟩ := hws
      generalize scal q = sc at SC hws0 hws1 hws2
      obtain ⟨m0, m1⟩ := mm
      obtain ⟨y0, y1, y2, y3, y4⟩ := q
      unfold EdgeI.v at SC
      simp only at c0' c1' AT1 d0 d1 d2 d3 d4 SC
      have HSN := hide hsn
      have HRN := hide hr
      have hx1 : (j : Int) < (n : Int) := by omega
      have hi1 : (i : Int) < (n0 : Int) := by have := unhide HL0; omega
      obtain ⟨p0, p1⟩ := ((unhide HX1).below hb).cells
      have hgl : w.heap.size < wr.heap.size := by have := hb.size; omega
      have hbl : b < wr.heap.size := by have := b4.size; omega
      have hbl' : b' < wr.heap.size := by have := b4.size; omega
      have k0 : ∀ d : Grown wr.heap.size wr, d.w.cell? ⟨w.heap.size, 0, none⟩ = some (.int .i64 s) := fun d => d.cell hgl p0
      have k1 : ∀ d : Grown wr.heap.size wr, d.w.cell? ⟨w.heap.size, 1, none⟩ = some (.slice (some ⟨b', off', none⟩) n0 c0) := fun d => d.cell hgl p1
      have k2 : ∀ d : Grown wr.heap.size wr, d.w.cell? ⟨b, off + j * 2, none⟩ = some (.int .i64 m0) := fun d => d.cell hbl ((b4.cell (p := ⟨b, off + j * 2, none⟩) (by simp; omega)).trans c0')
      have k3 : ∀ d : Grown wr.heap.size wr, d.w.cell? ⟨b, off + j * 2 + 1, none⟩ = some (.int .i64 m1) := fun d => d.cell hbl ((b4.cell (p := ⟨b, off + j * 2 + 1, none⟩) (by simp; omega)).trans c1')
      have D0 : ∀ d : Grown wr.heap.size wr, d.w.cell? ⟨b', off' + i * 5, none⟩ = some (.int .i64 y0) := fun d => d.cell hbl' ((b4.cell (p := ⟨b', off' + i * 5, none⟩) (by simp; omega)).trans d0)
      have D1 : ∀ d : Grown wr.heap.size wr, d.w.cell? ⟨b', off' + i * 5 + 1, none⟩ = some (.int .i64 y1) := fun d => d.cell hbl' ((b4.cell (p := ⟨b', off' + i * 5 + 1, none⟩) (by simp; omega)).trans d1)
      have D2 : ∀ d : Grown wr.heap.size wr, d.w.cell? ⟨b', off' + i * 5 + 2, none⟩ = some (.int .i64 y2) := fun d => d.cell hbl' ((b4.cell (p := ⟨b', off' + i * 5 + 2, none⟩) (by simp; omega)).trans d2)
      have D3 : ∀ d : Grown wr.heap.size wr, d.w.cell? ⟨b', off' + i * 5 + 3, none⟩ = some (.int .i64 y3) := fun d => d.cell hbl' ((b4.cell (p := ⟨b', off' + i * 5 + 3, none⟩) (by simp; omega)).trans d3)
      have D4 : ∀ d : Grown wr.heap.size wr, d.w.cell? ⟨b', off' + i * 5 + 4, none⟩ = some (.int .i64 y4) := fun d => d.cell hbl' ((b4.cell (p := ⟨b', off' + i * 5 + 4, none⟩) (by simp; omega)).trans d4)
      have A2 : Hid (∀ d : Grown wr.heap.size wr, Calls Tryz.prog 158 #[.agg #[.int .i64 s, .slice (some ⟨b', off', none⟩) n0 c0], .int .i64 m0, .int .i64 m1] d.w fun e w' => e = .returned (.int .i64 (i : Int)) ∧ Below d.w.heap.size d.w w') := fun d => unhide AT1 d.w (b4.trans (d.below.mono b4.size))
      have wn : IntKind.i64.wrap (N + sc) = N + sc := wrap_in _ (by omega)
      have HWS : Hid (N + sc = wsum (addS t ⟨y0, y1, y2, y3, y4⟩)) := hws0.symm
      have HB := hide hb
      clear hr HR hsn p0 p1 c0' c1' d0 d1 d2 d3 d4 hb HNE AT1 hws0
      go_upto_region 5 with fail
      refine wp_region_grown wr.heap.size (by kernel_rfl) (by kernel_rfl) ?_
      repeat (go_big_quiet_step (first
        | (go_at_call 158; exact Calls.grown (Nat.le_refl _) (unhide A2 _))
        | (go_at_call 160; exact Calls.grown (Nat.le_refl _) (unhide SC _))))
      refine wpQuiet_nil ?_
      rintro w5 ⟨d5, rfl⟩
      clear k0 k1 k2 k3 D0 D1 D2 D3 D4
      go_wp2_with fail
      exact ⟨⟨j + 1, _, _, by go_num, rfl, unhide HWS, by omega, unhide HRN, unhide HSN, (unhide HB).trans (d5.below.mono (unhide HB).size)⟩, by simp [intOf]; omega⟩
    · obtain rfl : j = n := by omega
      have hT := (unhide HR).trans (unhide HEND t)
      subst hT
      have hN := unhide HNE
      subst hN
      go_wp2_with fail
      go_ret
      exact ⟨rfl, b4⟩
def certR (s : Int) (Q : List EdgeI) (M : List CoupleI) (Y : List Int) (G : List GrpI) : Bool := proofOk s Q Y G && (matchOk s Q M && decide (2 * wsum (sums Q M) = sumI Y G))
theorem sums_range {s : Int} {Q : List EdgeI} {M : List CoupleI} (h : matchOk s Q M = true) : 0 ≤ wsum (sums Q M) ∧ wsum (sums Q M) ≤ 90000000 := by
  obtain ⟨hg, h9, hm⟩ := match_sound h
  have key : ∀ (L : List CoupleI) (t : SumsI) (n : Int), SB t n → (∀ x ∈ L, 0 ≤ atFrom x.A x.B 0 Q) → SB (sumsFrom Q t L) (n + (L.length : Int)) := by
    intro L
    induction L with
    | nil => intro t n ht _; simpa [sumsFrom] using ht
    | cons x r ih =>
      intro t n ht hx
      have h1 := ih _ (n + 1) (ht.add (edgeN_ok hg (hx x List.mem_cons_self))) (fun y hy => hx y (List.mem_cons_of_mem _ hy))
      show SB (sumsFrom Q _ r) _
      rw [List.length_cons]
      exact h1.mono (by omega)
  have := key M ⟨0, 0, 0⟩ 0 (SB.zero _ (by omega)) (mFrom_at Q M none [] hm)
  unfold SB at this
  unfold wsum sums
  omega
set_option maxRecDepth 100000 in
set_option maxHeartbeats 2000000 in
theorem specCert_gen (B : Nat) (v : Value) (s : Int) (Q : List EdgeI) (m : Value) (M : List CoupleI) (u : Value) (Y : List Int) (G : List GrpI) (h1 : Q.length ≤ 1048576) (h3 : M.length ≤ 1048576) (h2 : psize Y G ≤ 1048576) (w : World) (hB : B ≤ w.heap.size) (hv : GrAt w v B s Q) (hm : CoAt w m B M) (hu : PrAt w u B Y G) :
    Calls Tryz.prog 129 #[v, m, u] w fun e w' => e = .returned (.bool (certR s Q M Y G)) ∧ Below w.heap.size w w' := by
  have PK := hide (fun w1 (hb : Below w.heap.size w w1) => specProof_gen B v s Q u Y G h1 h2 w1 (by have := hb.size; omega) (hv.below hb hB) (hu.below hb hB))
  have SM := hide (fun (h : proofOk s Q Y G = true) w1 (hb : Below w.heap.size w w1) => specSum_any u B s Y G (proof_sound h).2.1 (proof_sound h).2.2.1 (proof_sound h).2.2.2.2.1 (proof_sound h).2.2.2.2.2 (proof_sound h).2.2.2.1 w1 (by have := hb.size; omega) (hu.below hb hB))
  have WM := hide (fun (h : matchOk s Q M = true) w1 (hb : Below w.heap.size w w1) => specWorth_any B v s Q m M h h1 w1 (by have := hb.size; omega) (hv.below hb hB) (hm.below hb hB))
  have MK : Hid (∀ w1, Below w.heap.size w w1 → Calls Tryz.prog 141 #[v, m] w1 fun e w' => e = .returned (.bool (matchOk s Q M)) ∧ Below w1.heap.size w1 w') := fun w1 hb => by
    obtain ⟨a, c, rfl, hM⟩ := hm
    exact specMatch_any v B s Q a M.length c M h1 h3 w1 (by have := hb.size; omega) (hv.below hb hB) (hM.below hb hB)
  have HBD : Hid (matchOk s Q M = true → 0 ≤ wsum (sums Q M) ∧ wsum (sums Q M) ≤ 90000000) := fun h => sums_range h
  have hV : certR s Q M Y G = (proofOk s Q Y G && (matchOk s Q M && decide (2 * wsum (sums Q M) = sumI Y G))) := rfl
  generalize certR s Q M Y G = V at hV ⊢
  generalize sumI Y G = S at SM hV
  generalize wsum (sums Q M) = T at WM HBD hV
  generalize proofOk s Q Y G = ok at PK SM hV
  generalize matchOk s Q M = mk at MK WM HBD hV
  obtain ⟨a0, n0, c0, rfl, _⟩ := hv
  obtain ⟨am, cm, rfl, _⟩ := hm
  obtain ⟨a, n, c, a', n', c', rfl, _⟩ := hu
  generalize M.length = nm at MK WM
  clear h1 h2 h3
  go_enter Tryz.func129, Tryz.ntmps129
  go_wp2_with fail
  obtain ⟨W1, hW1⟩ : ∃ W, W = (w.alloc (Obj.cells #[Value.int .i64 s, Value.slice a0 n0 c0] 35)).alloc (Obj.cells #[Value.slice a n c, Value.slice a' n' c'] 132) := ⟨_, rfl⟩
  rw [← hW1]
  have b1 : Below w.heap.size w W1 := by rw [hW1]; exact (below_new _ _).alloc (by simp) _
  have m0 : Blk W1 w.heap.size #[Value.int .i64 s, Value.slice a0 n0 c0] 35 := by rw [hW1]; exact Blk.new0.alloc
  have m1 : Blk W1 (w.heap.size + 1) #[Value.slice a n c, Value.slice a' n' c'] 132 := by rw [hW1]; exact Blk.new1
  clear hW1
  have z0 := m0.lt
  have z1 := m1.lt
  have k0 : ∀ d : Grown W1.heap.size W1, d.w.cell? ⟨w.heap.size, 0, none⟩ = some (.int .i64 s) := fun d => d.cell z0 (m0.cell 0 _ rfl)
  have k1 : ∀ d : Grown W1.heap.size W1, d.w.cell? ⟨w.heap.size, 1, none⟩ = some (.slice a0 n0 c0) := fun d => d.cell z0 (m0.cell 1 _ rfl)
  have k2 : ∀ d : Grown W1.heap.size W1, d.w.cell? ⟨w.heap.size + 1, 0, none⟩ = some (.slice a n c) := fun d => d.cell z1 (m1.cell 0 _ rfl)
  have k3 : ∀ d : Grown W1.heap.size W1, d.w.cell? ⟨w.heap.size + 1, 1, none⟩ = some (.slice a' n' c') := fun d => d.cell z1 (m1.cell 1 _ rfl)
  have HG : Hid (∀ d : Grown W1.heap.size W1, Below w.heap.size w d.w) := fun d => b1.trans (d.below.mono b1.size)
  have P2 : Hid (∀ d : Grown W1.heap.size W1, Calls Tryz.prog 140 #[.agg #[.int .i64 s, .slice a0 n0 c0], .agg #[.slice a n c, .slice a' n' c']] d.w fun e w' => e = .returned (.bool ok) ∧ Below d.w.heap.size d.w w') := fun d => unhide PK d.w (unhide HG d)
  have M2 : Hid (∀ d : Grown W1.heap.size W1, Calls Tryz.prog 141 #[.agg #[.int .i64 s, .slice a0 n0 c0], .slice am nm cm] d.w fun e w' => e = .returned (.bool mk) ∧ Below d.w.heap.size d.w w') := fun d => unhide MK d.w (unhide HG d)
  clear m0 m1 PK MK
  refine wp_region_grown W1.heap.size (by kernel_rfl) (by kernel_rfl) ?_
  cases ok with
  | false =>
    rw [Bool.false_and] at hV
    subst hV
    repeat (go_big_quiet_step (first
      | (go_at_call 140; exact Calls.grown (Nat.le_refl _) (unhide P2 _))))
    refine wpQuiet_nil ?_
    rintro w5 ⟨d5, rfl⟩
    go_wp2_with fail
    go_ret
    exact ⟨rfl, unhide HG d5⟩
  | true =>
    rw [Bool.true_and] at hV
    have S2 : Hid (∀ d : Grown W1.heap.size W1, Calls Tryz.prog 143 #[.agg #[.slice a n c, .slice a' n' c']] d.w fun e w' => e = .returned (.int .i64 S) ∧ Below d.w.heap.size d.w w') := fun d => unhide SM rfl d.w (unhide HG d)
    cases mk with
    | false =>
      rw [Bool.false_and] at hV
      subst hV
      repeat (go_big_quiet_step (first
        | (go_at_call 140; exact Calls.grown (Nat.le_refl _) (unhide P2 _))
        | (go_at_call 141; exact Calls.grown (Nat.le_refl _) (unhide M2 _))))
      refine wpQuiet_nil ?_
      rintro w5 ⟨d5, rfl⟩
      go_wp2_with fail
      go_ret
      exact ⟨rfl, unhide HG d5⟩
    | true =>
      rw [Bool.true_and] at hV
      obtain ⟨t0, t1⟩ := unhide HBD rfl
      have hw2 : IntKind.i64.wrap (2 * T) = 2 * T := wrap_in _ (by omega)
      have W2 : Hid (∀ d : Grown W1.heap.size W1, Calls Tryz.prog 142 #[.agg #[.int .i64 s, .slice a0 n0 c0], .slice am nm cm] d.w fun e w' => e = .returned (.int .i64 T) ∧ Below d.w.heap.size d.w w') := fun d => unhide WM rfl d.w (unhide HG d)
      have HV := hide hV
      clear hV
      repeat (go_big_quiet_step (first
        | (go_at_call 140; exact Calls.grown (Nat.le_refl _) (unhide P2 _))
        | (go_at_call 141; exact Calls.grown (Nat.le_refl _) (unhide M2 _))
        | (go_at_call 142; exact Calls.grown (Nat.le_refl _) (unhide W2 _))
        | (go_at_call 143; exact Calls.grown (Nat.le_refl _) (unhide S2 _))))
      refine wpQuiet_nil ?_
      rintro w5 ⟨d5, rfl⟩
      go_wp2_with fail
      go_ret
      refine ⟨?_, unhide HG d5⟩
      have h := unhide HV
      subst h
      first
        | rfl
        | (congr 2; rw [Bool.eq_iff_iff]; simp)
def edgesB : ByteArray → List EdgeI → ByteArray
  | s, [] => s
  | s, e :: r => edgesB (((((s ++ vB e.A) ++ vB e.B) ++ vB e.W1) ++ vB e.W2) ++ vB e.W3) r
def couplesB : ByteArray → List CoupleI → ByteArray
  | s, [] => s
  | s, x :: r => couplesB ((s ++ vB x.A) ++ vB x.B) r
def intsB : ByteArray → List Int → ByteArray
  | s, [] => s
  | s, x :: r => intsB (s ++ vB x) r
def groupsB : ByteArray → List GrpI → ByteArray
  | s, [] => s
  | s, q :: r => groupsB ((intsB (s ++ vB (q.M.length : Int)) q.M) ++ vB q.Z) r
def certB (s : Int) (Q : List EdgeI) (M : List CoupleI) (Y : List Int) (G : List GrpI) : ByteArray :=
  groupsB (intsB (couplesB (edgesB (vB s ++ vB (Q.length : Int)) Q ++ vB (M.length : Int)) M) Y ++ vB (G.length : Int)) G
def certT (s : Int) (Q : List EdgeI) (M : List CoupleI) (Y : List Int) (G : List GrpI) : ByteArray := if certR s Q M Y G = true then certB s Q M Y G else ⟨#[]⟩
def CeAt (w : World) (v : Value) (B : Nat) (s : Int) (Q : List EdgeI) (M : List CoupleI) (Y : List Int) (G : List GrpI) : Prop :=
  ∃ a c a1 c1 a2 c2 a3 c3, v = .agg #[.int .i64 s, .slice a Q.length c, .slice a1 M.length c1, .slice a2 Y.length c2, .slice a3 G.length c3] ∧ GrAt w (.agg #[.int .i64 s, .slice a Q.length c]) B s Q ∧ CoAt w (.slice a1 M.length c1) B M ∧ PrAt w (.agg #[.slice a2 Y.length c2, .slice a3 G.length c3]) B Y G ∧ Q.length ≤ 9223372036854775807 ∧ M.length ≤ 9223372036854775807
theorem CeAt.below {w w' : World} {v : Value} {B C : Nat} {s : Int} {Q : List EdgeI} {M : List CoupleI} {Y : List Int} {G : List GrpI} (h : CeAt w v B s Q M Y G) (hb : Below C w w') (hC : B ≤ C) : CeAt w' v B s Q M Y G := by
  obtain ⟨a, c, a1, c1, a2, c2, a3, c3, rfl, h1, h2, h3, h4, h5⟩ := h
  exact ⟨a, c, a1, c1, a2, c2, a3, c3, rfl, h1.below hb hC, h2.below hb hC, h3.below hb hC, h4, h5⟩
theorem CeAt.mono {w : World} {v : Value} {B C : Nat} {s : Int} {Q : List EdgeI} {M : List CoupleI} {Y : List Int} {G : List GrpI} (h : CeAt w v B s Q M Y G) (hC : B ≤ C) : CeAt w v C s Q M Y G := by
  obtain ⟨a, c, a1, c1, a2, c2, a3, c3, rfl, h1, h2, h3, h4, h5⟩ := h
  exact ⟨a, c, a1, c1, a2, c2, a3, c3, rfl, h1.mono hC, h2.mono hC, h3.mono hC, h4, h5⟩
theorem CeAt.shape {w : World} {v : Value} {B : Nat} {s : Int} {Q : List EdgeI} {M : List CoupleI} {Y : List Int} {G : List GrpI} (h : CeAt w v B s Q M Y G) :
    ∃ a c a1 c1 a2 c2 a3 c3, v = .agg #[.int .i64 s, .slice a Q.length c, .slice a1 M.length c1, .slice a2 Y.length c2, .slice a3 G.length c3] := by
  obtain ⟨a, c, a1, c1, a2, c2, a3, c3, rfl, _⟩ := h
  exact ⟨a, c, a1, c1, a2, c2, a3, c3, rfl⟩
def CeOwn (w : World) (_B : Nat) (v : Value) (s : Int) (Q : List EdgeI) (M : List CoupleI) (Y : List Int) (G : List GrpI) : Prop := CeAt w v w.heap.size s Q M Y G
theorem CeOwn.at {w : World} {B : Nat} {v : Value} {s : Int} {Q : List EdgeI} {M : List CoupleI} {Y : List Int} {G : List GrpI} (h : CeOwn w B v s Q M Y G) : CeAt w v w.heap.size s Q M Y G := h
theorem CeOwn.below {w w' : World} {B : Nat} {v : Value} {s : Int} {Q : List EdgeI} {M : List CoupleI} {Y : List Int} {G : List GrpI} (h : CeOwn w B v s Q M Y G) (hb : Below w.heap.size w w') : CeOwn w' B v s Q M Y G := (CeAt.below h hb (Nat.le_refl _)).mono hb.size
def csize (Q : List EdgeI) (M : List CoupleI) (Y : List Int) (G : List GrpI) : Nat := min (Q.length + (M.length + psize Y G)) 9223372036854775807
theorem csize_le {Q : List EdgeI} {M : List CoupleI} {Y : List Int} {G : List GrpI} (h : csize Q M Y G ≤ 1048576) : Q.length ≤ 1048576 ∧ M.length ≤ 1048576 ∧ psize Y G ≤ 1048576 := by
  unfold csize at h
  omega
theorem lv_any (x : Int) (h0 : 0 ≤ x) (h1 : x ≤ 1000000000) (w : World) :
    Calls Tryz.prog 50 #[.int .i64 x] w fun e w' => e = .returned (.string (vB x)) ∧ Below w.heap.size w w' := by
  obtain ⟨n, rfl⟩ := Int.eq_ofNat_of_zero_le h0
  exact l01Var_any n (by omega) w
theorem memOk_at (s : Int) : ∀ (M : List Int) (p : Option Int), memOk s p M = true → ∀ x ∈ M, 0 ≤ x ∧ x ≤ s - 1
  | [], _, _, x, hx => by simp at hx
  | y :: r, p, h, x, hx => by
    unfold memOk at h
    simp only [Bool.and_eq_true, decide_eq_true_eq] at h
    rcases List.mem_cons.1 hx with rfl | hx
    · exact h.1
    · exact memOk_at s r _ h.2.2 x hx
theorem grpsOk_mem (s : Int) : ∀ (G D : List GrpI), grpsOk s D G = true → ∀ q ∈ G, ∀ x ∈ q.M, 0 ≤ x ∧ x ≤ s - 1
  | [], _, _, q, hq => by simp at hq
  | y :: r, D, h, q, hq => by
    unfold grpsOk at h
    simp only [Bool.and_eq_true] at h
    rcases List.mem_cons.1 hq with rfl | hq
    · exact memOk_at s _ none h.2.1
    · exact grpsOk_mem s r (D ++ [y]) h.2.2.2 q hq
theorem cert_ranges {s : Int} {Q : List EdgeI} {M : List CoupleI} {Y : List Int} {G : List GrpI} (h : certR s Q M Y G = true) :
    0 ≤ s ∧ s ≤ 9 ∧ (∀ e ∈ Q, (0 ≤ e.A ∧ e.A ≤ 9) ∧ (0 ≤ e.B ∧ e.B ≤ 9) ∧ (0 ≤ e.W1 ∧ e.W1 ≤ 50) ∧ (0 ≤ e.W2 ∧ e.W2 ≤ 50) ∧ (0 ≤ e.W3 ∧ e.W3 ≤ 50)) ∧ M.length ≤ 9 ∧ (∀ x ∈ M, (0 ≤ x.A ∧ x.A ≤ 9) ∧ (0 ≤ x.B ∧ x.B ≤ 9)) ∧ Y.length ≤ 9 ∧ (∀ y ∈ Y, 0 ≤ y ∧ y ≤ 1000000000) ∧ G.length ≤ 8 ∧ (∀ q ∈ G, q.M.length ≤ 9 ∧ (∀ x ∈ q.M, 0 ≤ x ∧ x ≤ 9) ∧ 0 ≤ q.Z ∧ q.Z ≤ 1000000000) := by
  unfold certR at h
  simp only [Bool.and_eq_true] at h
  obtain ⟨hp, hm, _⟩ := h
  obtain ⟨hg, hYl, h9, h8, hY, hG⟩ := proof_sound hp
  obtain ⟨h0, _, hE, _⟩ := graph_sound hg
  obtain ⟨_, hM9, hmf⟩ := match_sound hm
  have hE' : ∀ e ∈ Q, (0 ≤ e.A ∧ e.A ≤ 9) ∧ (0 ≤ e.B ∧ e.B ≤ 9) ∧ (0 ≤ e.W1 ∧ e.W1 ≤ 50) ∧ (0 ≤ e.W2 ∧ e.W2 ≤ 50) ∧ (0 ≤ e.W3 ∧ e.W3 ≤ 50) := fun e he => by
    obtain ⟨x0, x1, x2, w1, w2, w3⟩ := (edgeOk_iff s e).1 (hE e he)
    exact ⟨by omega, by omega, worth_range w1, worth_range w2, worth_range w3⟩
  refine ⟨h0, h9, hE', hM9, fun x hx => ?_, by omega, hY, h8, fun q hq => ?_⟩
  · obtain ⟨i, hi, _, _, hh⟩ := edgeN_at (mFrom_at Q M none [] hmf x hx)
    have := hE' _ (List.getElem_mem hi)
    unfold hit at hh
    simp only [Bool.or_eq_true, Bool.and_eq_true, beq_iff_eq] at hh
    omega
  · obtain ⟨_, _, q3, q4, q5⟩ := (grpHead_iff s q).1 (hG q hq)
    unfold proofOk at hp
    simp only [Bool.and_eq_true] at hp
    refine ⟨by omega, fun x hx => ?_, by omega, q5⟩
    have := grpsOk_mem s G [] hp.2.2.2.2.1 q hq x hx
    omega
set_option maxRecDepth 100000 in
set_option maxHeartbeats 8000000 in
theorem specCertText_gen (B : Nat) (v : Value) (s : Int) (Q : List EdgeI) (M : List CoupleI) (Y : List Int) (G : List GrpI) (h1 : csize Q M Y G ≤ 1048576) (w : World) (hB : B ≤ w.heap.size) (hv : CeAt w v B s Q M Y G) :
    Calls Tryz.prog 119 #[v] w fun e w' => e = .returned (.tuple #[.string (certT s Q M Y G), .bool (certR s Q M Y G)]) ∧ Below w.heap.size w w' := by
  obtain ⟨l1, l2, l3⟩ := csize_le h1
  obtain ⟨a, c, a1, c1, a2, c2, a3, c3, rfl, hg, hm, hp, _⟩ := hv
  have CK := hide (fun w1 (hb : Below w.heap.size w w1) => specCert_gen B _ s Q _ M _ Y G l1 l2 l3 w1 (by have := hb.size; omega) (hg.below hb hB) (hm.below hb hB) (hp.below hb hB))
  have hV : certT s Q M Y G = if certR s Q M Y G = true then certB s Q M Y G else ⟨#[]⟩ := rfl
  have HRG : Hid (certR s Q M Y G = true → _) := fun h => cert_ranges h
  generalize certT s Q M Y G = V at hV ⊢
  have hCB : certB s Q M Y G = groupsB (intsB (couplesB (edgesB (vB s ++ vB (Q.length : Int)) Q ++ vB (M.length : Int)) M) Y ++ vB (G.length : Int)) G := rfl
  generalize certB s Q M Y G = CB at hV hCB
  generalize certR s Q M Y G = ok at CK hV HRG ⊢
  obtain ⟨_, n0, _, eg, hE⟩ := hg
  obtain ⟨_, _, em, hMC⟩ := hm
  obtain ⟨_, nY, _, _, nG, _, ep, hYA, hGA, _⟩ := hp
  simp at eg em ep
  obtain ⟨rfl, rfl, rfl⟩ := eg
  obtain ⟨rfl, rfl⟩ := em
  obtain ⟨⟨rfl, rfl, rfl⟩, rfl, rfl, rfl⟩ := ep
  have HCE := hide hE.2
  have HCM := hide hMC.2
  have HCY := hide hYA.2
  have HCG := hide hGA.2
  clear hE hMC hYA hGA h1 l2 l3
  go_enter Tryz.func119, Tryz.ntmps119
  go_wp2_with fail
  obtain ⟨W1, hW1⟩ : ∃ W, W = w.alloc (Obj.cells #[Value.int .i64 s, Value.slice a Q.length c, Value.slice a1 M.length c1, Value.slice a2 Y.length c2, Value.slice a3 G.length c3] 134) := ⟨_, rfl⟩
  rw [← hW1]
  have b1 : Below w.heap.size w W1 := by rw [hW1]; exact below_new _ _
  have m1 : Blk W1 w.heap.size #[Value.int .i64 s, Value.slice a Q.length c, Value.slice a1 M.length c1, Value.slice a2 Y.length c2, Value.slice a3 G.length c3] 134 := by rw [hW1]; exact Blk.new0
  clear hW1
  go_fit (unhide CK W1 b1)
  rintro e w2 ⟨rfl, hb2⟩
  have b2 := b1.trans (hb2.mono b1.size)
  have m2 := m1.below hb2
  have HM := hide m2
  have z2 := m2.lt
  clear m1 hb2 b1 CK
  cases ok with
  | false =>
    rw [if_neg (by simp)] at hV
    subst hV
    clear m2
    go_wp2_with fail
    go_ret2
    exact ⟨rfl, b2⟩
  | true =>
    rw [if_pos rfl] at hV
    subst hV
    obtain ⟨s0, s9, rE, rM9, rM, rY9, rY, rG8, rG⟩ := unhide HRG rfl
    have HRE := hide rE
    have HRM := hide rM
    have HRY := hide rY
    have HRGG := hide rG
    clear rE rM rY rG HRG
    have V0 := hide (fun w => lv_any s s0 (by omega) w)
    have V1 := hide (fun w => lv_any (Q.length : Int) (by omega) (by omega) w)
    have v0 := vB_size s
    have v1 := vB_size (Q.length : Int)
    have HB0 := hide hCB
    clear hCB
    obtain ⟨bs, hbs⟩ : ∃ x, x = vB s := ⟨_, rfl⟩
    obtain ⟨bq, hbq⟩ : ∃ x, x = vB (Q.length : Int) := ⟨_, rfl⟩
    rw [← hbs] at V0 v0 HB0
    rw [← hbq] at V1 v1 HB0
    clear hbs hbq
    have k0 : ∀ d : Grown w2.heap.size w2, d.w.cell? ⟨w.heap.size, 0, none⟩ = some (.int .i64 s) := fun d => d.cell z2 (m2.cell 0 _ rfl)
    have k1 : ∀ d : Grown w2.heap.size w2, d.w.cell? ⟨w.heap.size, 1, none⟩ = some (.slice a Q.length c) := fun d => d.cell z2 (m2.cell 1 _ rfl)
    have hz0 : ¬ 9223372036854775807 < bs.size + bq.size := by omega
    clear m2
    go_wp2_with fail
    refine wp_region_grown w2.heap.size (by kernel_rfl) (by kernel_rfl) ?_
    repeat (go_big_quiet_step (first
      | (go_at_call_of 50 (Value.int IntKind.i64 s); exact Calls.grown (Nat.le_refl _) (unhide V0 _))
      | (go_at_call 50; exact Calls.grown (Nat.le_refl _) (unhide V1 _))))
    refine wpQuiet_nil ?_
    rintro w5 ⟨d5, rfl⟩
    obtain ⟨W5, hb5⟩ := d5
    dsimp only
    clear k0 k1
    go_wp2_with fail
    obtain ⟨T1, hT1⟩ : ∃ x, x = edgesB (bs ++ bq) Q := ⟨_, rfl⟩
    rw [← hT1] at HB0
    have H1 : Hid (T1 = edgesB (bs ++ bq) (Q.drop 0)) := hT1
    have HS1 : Hid (∀ S j (h : j < Q.length), edgesB S (Q.drop j) = edgesB (((((S ++ vB Q[j].A) ++ vB Q[j].B) ++ vB Q[j].W1) ++ vB Q[j].W2) ++ vB Q[j].W3) (Q.drop (j + 1))) := fun S j h => by rw [drop_step Q j h]; rfl
    have HZ1 : Hid ((bs ++ bq).size ≤ 10) := by show _ ≤ _; rw [ByteArray.size_append]; omega
    clear hT1
    go_loopw [4, 5] (fun t i wr => ∃ (j : Nat) (S : ByteArray), i = .int .i64 (j : Int) ∧ t = .string S ∧ j ≤ Q.length ∧ S.size ≤ 10 + 25 * j ∧ Hid (T1 = edgesB S (Q.drop j)) ∧ Below w2.heap.size w2 wr) (fun _ i _ => Q.length - (intOf i).toNat)
    case atStart => exact ⟨0, bs ++ bq, rfl, rfl, Nat.zero_le _, unhide HZ1, unhide H1, hb5⟩
    case round =>
      obtain ⟨j, S, rfl, rfl, hj, hS, HT, hbr⟩ := hrel
      have hzr := hbr.size
      have bw := b2.trans (hbr.mono b2.size)
      have p1 : wr.cell? ⟨w.heap.size, 1, none⟩ = some (.slice a Q.length c) := ((unhide HM).below hbr).cell 1 _ rfl
      by_cases hlt : j < Q.length
      · obtain ⟨b, off, rfl, hbB, d0, d1, d2, d3, d4⟩ := unhide HCE j hlt
        have re := unhide HRE _ (List.getElem_mem hlt)
        have HT2 := hide ((unhide HT).trans (unhide HS1 S j hlt))
        generalize Q[j] = q at d0 d1 d2 d3 d4 re HT2
        obtain ⟨y0, y1, y2, y3, y4⟩ := q
        simp only at d0 d1 d2 d3 d4 re HT2
        rw [← bw.cell (p := ⟨b, off + j * 5, none⟩) (by simp; omega)] at d0
        rw [← bw.cell (p := ⟨b, off + j * 5 + 1, none⟩) (by simp; omega)] at d1
        rw [← bw.cell (p := ⟨b, off + j * 5 + 2, none⟩) (by simp; omega)] at d2
        rw [← bw.cell (p := ⟨b, off + j * 5 + 3, none⟩) (by simp; omega)] at d3
        rw [← bw.cell (p := ⟨b, off + j * 5 + 4, none⟩) (by simp; omega)] at d4
        have X0 := hide (fun w => lv_any y0 re.1.1 (by omega) w)
        have X1 := hide (fun w => lv_any y1 re.2.1.1 (by omega) w)
        have X2 := hide (fun w => lv_any y2 re.2.2.1.1 (by omega) w)
        have X3 := hide (fun w => lv_any y3 re.2.2.2.1.1 (by omega) w)
        have X4 := hide (fun w => lv_any y4 re.2.2.2.2.1 (by omega) w)
        have x0 := vB_size y0
        have x1 := vB_size y1
        have x2 := vB_size y2
        have x3 := vB_size y3
        have x4 := vB_size y4
        generalize vB y0 = g0 at X0 x0 HT2
        generalize vB y1 = g1 at X1 x1 HT2
        generalize vB y2 = g2 at X2 x2 HT2
        generalize vB y3 = g3 at X3 x3 HT2
        generalize vB y4 = g4 at X4 x4 HT2
        have u0 : ¬ 9223372036854775807 < S.size + g0.size := by omega
        have u1 : ¬ 9223372036854775807 < (S ++ g0).size + g1.size := by rw [ByteArray.size_append]; omega
        have u2 : ¬ 9223372036854775807 < ((S ++ g0) ++ g1).size + g2.size := by rw [ByteArray.size_append, ByteArray.size_append]; omega
        have u3 : ¬ 9223372036854775807 < (((S ++ g0) ++ g1) ++ g2).size + g3.size := by rw [ByteArray.size_append, ByteArray.size_append, ByteArray.size_append]; omega
        have u4 : ¬ 9223372036854775807 < ((((S ++ g0) ++ g1) ++ g2) ++ g3).size + g4.size := by rw [ByteArray.size_append, ByteArray.size_append, ByteArray.size_append, ByteArray.size_append]; omega
        have HU5 : Hid ((((((S ++ g0) ++ g1) ++ g2) ++ g3) ++ g4).size ≤ 10 + 25 * (j + 1)) := by show _ ≤ _; rw [ByteArray.size_append, ByteArray.size_append, ByteArray.size_append, ByteArray.size_append, ByteArray.size_append]; omega
        have hbl : b < wr.heap.size := by omega
        clear re
        go_wp2_with fail
        have bx : Below wr.heap.size wr (wr.alloc (Obj.cells #[Value.int .i64 y0, Value.int .i64 y1, Value.int .i64 y2, Value.int .i64 y3, Value.int .i64 y4] 106)) := below_new _ _
        have ux : Blk (wr.alloc (Obj.cells #[Value.int .i64 y0, Value.int .i64 y1, Value.int .i64 y2, Value.int .i64 y3, Value.int .i64 y4] 106)) wr.heap.size #[Value.int .i64 y0, Value.int .i64 y1, Value.int .i64 y2, Value.int .i64 y3, Value.int .i64 y4] 106 := Blk.new0
        generalize wr.alloc (Obj.cells #[Value.int .i64 y0, Value.int .i64 y1, Value.int .i64 y2, Value.int .i64 y3, Value.int .i64 y4] 106) = V3 at bx ux ⊢
        have zx := ux.lt
        have E0 : ∀ d : Grown V3.heap.size V3, d.w.cell? ⟨wr.heap.size, 0, none⟩ = some (.int .i64 y0) := fun d => d.cell zx (ux.cell 0 _ rfl)
        have E1 : ∀ d : Grown V3.heap.size V3, d.w.cell? ⟨wr.heap.size, 1, none⟩ = some (.int .i64 y1) := fun d => d.cell zx (ux.cell 1 _ rfl)
        have E2 : ∀ d : Grown V3.heap.size V3, d.w.cell? ⟨wr.heap.size, 2, none⟩ = some (.int .i64 y2) := fun d => d.cell zx (ux.cell 2 _ rfl)
        have E3 : ∀ d : Grown V3.heap.size V3, d.w.cell? ⟨wr.heap.size, 3, none⟩ = some (.int .i64 y3) := fun d => d.cell zx (ux.cell 3 _ rfl)
        have E4 : ∀ d : Grown V3.heap.size V3, d.w.cell? ⟨wr.heap.size, 4, none⟩ = some (.int .i64 y4) := fun d => d.cell zx (ux.cell 4 _ rfl)
        clear d0 d1 d2 d3 d4 p1
        refine wp_region_grown V3.heap.size (by kernel_rfl) (by kernel_rfl) ?_
        repeat (go_big_quiet_step (first
          | (go_at_call_of 50 (Value.int IntKind.i64 y0); exact Calls.grown (Nat.le_refl _) (unhide X0 _))
          | (go_at_call_of 50 (Value.int IntKind.i64 y1); exact Calls.grown (Nat.le_refl _) (unhide X1 _))
          | (go_at_call_of 50 (Value.int IntKind.i64 y2); exact Calls.grown (Nat.le_refl _) (unhide X2 _))
          | (go_at_call_of 50 (Value.int IntKind.i64 y3); exact Calls.grown (Nat.le_refl _) (unhide X3 _))
          | (go_at_call_of 50 (Value.int IntKind.i64 y4); exact Calls.grown (Nat.le_refl _) (unhide X4 _))))
        refine wpQuiet_nil ?_
        rintro w6 ⟨d6, rfl⟩
        clear E0 E1 E2 E3 E4
        go_wp2_with fail
        exact ⟨⟨j + 1, _, by go_num, rfl, by omega, unhide HU5, unhide HT2, hbr.trans ((bx.trans (d6.below.mono bx.size)).mono hbr.size)⟩, by simp [intOf]; omega⟩
      · obtain rfl : j = Q.length := by omega
        have hT : T1 = S := by rw [unhide HT, List.drop_length]; rfl
        rw [hT] at HB0
        clear hT HT H1 HS1
        have X0 := hide (fun w => lv_any (M.length : Int) (by omega) (by omega) w)
        have x0 := vB_size (M.length : Int)
        generalize vB (M.length : Int) = g0 at X0 x0 HB0
        have u0 : ¬ 9223372036854775807 < S.size + g0.size := by omega
        have p2 : wr.cell? ⟨w.heap.size, 2, none⟩ = some (.slice a1 M.length c1) := ((unhide HM).below hbr).cell 2 _ rfl
        go_wp2_with fail
        refine (unhide X0 _).mono ?_
        rintro e w6 ⟨rfl, hb6⟩
        have hb6' := hbr.trans (hb6.mono hbr.size)
        clear p1 p2
        go_wp2_with fail
        have HB6 := hide hb6'
        obtain ⟨S0, hS0⟩ : ∃ x, x = S ++ g0 := ⟨_, rfl⟩
        have hz6 : S0.size ≤ 30000000 := by rw [hS0, ByteArray.size_append]; omega
        rw [← hS0] at HB0 ⊢
        obtain ⟨T2, hT2⟩ : ∃ x, x = couplesB S0 M := ⟨_, rfl⟩
        rw [← hT2] at HB0
        have H2 : Hid (T2 = couplesB S0 (M.drop 0)) := hT2
        have HS2 : Hid (∀ S j (h : j < M.length), couplesB S (M.drop j) = couplesB ((S ++ vB M[j].A) ++ vB M[j].B) (M.drop (j + 1))) := fun S j h => by rw [drop_step M j h]; rfl
        clear hT2 hS0 hb6 hb6' bw hbr hzr u0 x0 X0 hS
        go_loopw [4, 7] (fun t i wr => ∃ (j : Nat) (S : ByteArray), i = .int .i64 (j : Int) ∧ t = .string S ∧ j ≤ M.length ∧ S.size ≤ 30000000 + 10 * j ∧ Hid (T2 = couplesB S (M.drop j)) ∧ Below w2.heap.size w2 wr) (fun _ i _ => M.length - (intOf i).toNat)
        case atStart => exact ⟨0, S0, rfl, rfl, Nat.zero_le _, hz6, unhide H2, unhide HB6⟩
        case round =>
          obtain ⟨j, S, rfl, rfl, hj, hS, HT, hbr⟩ := hrel
          have hzr := hbr.size
          have bw := b2.trans (hbr.mono b2.size)
          have p2 : wr.cell? ⟨w.heap.size, 2, none⟩ = some (.slice a1 M.length c1) := ((unhide HM).below hbr).cell 2 _ rfl
          by_cases hlt : j < M.length
          · obtain ⟨b, off, rfl, hbB, d0, d1⟩ := unhide HCM j hlt
            have re := unhide HRM _ (List.getElem_mem hlt)
            have HT2 := hide ((unhide HT).trans (unhide HS2 S j hlt))
            generalize M[j] = q at d0 d1 re HT2
            obtain ⟨y0, y1⟩ := q
            simp only at d0 d1 re HT2
            have X0 := hide (fun w => lv_any y0 re.1.1 (by omega) w)
            have X1 := hide (fun w => lv_any y1 re.2.1 (by omega) w)
            have x0 := vB_size y0
            have x1 := vB_size y1
            generalize vB y0 = g0 at X0 x0 HT2
            generalize vB y1 = g1 at X1 x1 HT2
            have u0 : ¬ 9223372036854775807 < S.size + g0.size := by omega
            have u1 : ¬ 9223372036854775807 < (S ++ g0).size + g1.size := by rw [ByteArray.size_append]; omega
            have HU5 : Hid (((S ++ g0) ++ g1).size ≤ 30000000 + 10 * (j + 1)) := by show _ ≤ _; rw [ByteArray.size_append, ByteArray.size_append]; omega
            have hjn : (j : Int) < ((M.length : Nat) : Int) := by omega
            have P2 : ∀ d : Grown wr.heap.size wr, d.w.cell? ⟨w.heap.size, 2, none⟩ = some (.slice (some ⟨b, off, none⟩) M.length c1) := fun d => d.cell (by omega) p2
            have E0 : ∀ d : Grown wr.heap.size wr, d.w.cell? ⟨b, off + j * 2, none⟩ = some (.int .i64 y0) := fun d => d.cell (by omega) ((bw.cell (p := ⟨b, off + j * 2, none⟩) (by simp; omega)).trans d0)
            have E1 : ∀ d : Grown wr.heap.size wr, d.w.cell? ⟨b, off + j * 2 + 1, none⟩ = some (.int .i64 y1) := fun d => d.cell (by omega) ((bw.cell (p := ⟨b, off + j * 2 + 1, none⟩) (by simp; omega)).trans d1)
            clear re d0 d1
            go_wp2_with fail
            clear p2
            refine wp_region_grown wr.heap.size (by kernel_rfl) (by kernel_rfl) ?_
            repeat (go_big_quiet_step (first
              | (go_at_call_of 50 (Value.int IntKind.i64 y0); exact Calls.grown (Nat.le_refl _) (unhide X0 _))
              | (go_at_call_of 50 (Value.int IntKind.i64 y1); exact Calls.grown (Nat.le_refl _) (unhide X1 _))))
            refine wpQuiet_nil ?_
            rintro w6 ⟨d6, rfl⟩
            clear P2 E0 E1
            go_wp2_with fail
            exact ⟨⟨j + 1, _, by go_num, rfl, by omega, unhide HU5, unhide HT2, hbr.trans (d6.below.mono hbr.size)⟩, by simp [intOf]; omega⟩
          · obtain rfl : j = M.length := by omega
            have hT : T2 = S := by rw [unhide HT, List.drop_length]; rfl
            rw [hT] at HB0
            clear hT HT H2 HS2
            go_wp2_with fail
            have HB7 := hide hbr
            obtain ⟨T3, hT3⟩ : ∃ x, x = intsB S Y := ⟨_, rfl⟩
            rw [← hT3] at HB0
            have H3 : Hid (T3 = intsB S (Y.drop 0)) := hT3
            have hz7 : S.size ≤ 31000000 := by omega
            have HS3 : Hid (∀ S j (h : j < Y.length), intsB S (Y.drop j) = intsB (S ++ vB Y[j]) (Y.drop (j + 1))) := fun S j h => by rw [drop_step Y j h]; rfl
            clear hT3 bw hbr hzr p2 hS
            go_loopw [4, 8] (fun t i wr => ∃ (j : Nat) (S : ByteArray), i = .int .i64 (j : Int) ∧ t = .string S ∧ j ≤ Y.length ∧ S.size ≤ 31000000 + 5 * j ∧ Hid (T3 = intsB S (Y.drop j)) ∧ Below w2.heap.size w2 wr) (fun _ i _ => Y.length - (intOf i).toNat)
            case atStart => exact ⟨0, S, rfl, rfl, Nat.zero_le _, hz7, unhide H3, unhide HB7⟩
            case round =>
              obtain ⟨j, S, rfl, rfl, hj, hS, HT, hbr⟩ := hrel
              have hzr := hbr.size
              have bw := b2.trans (hbr.mono b2.size)
              have p3 : wr.cell? ⟨w.heap.size, 3, none⟩ = some (.slice a2 Y.length c2) := ((unhide HM).below hbr).cell 3 _ rfl
              by_cases hlt : j < Y.length
              · obtain ⟨b, off, rfl, hbB, d0⟩ := unhide HCY j hlt
                rw [← bw.cell (p := ⟨b, off + j, none⟩) (by simp; omega)] at d0
                have re := unhide HRY _ (List.getElem_mem hlt)
                have HT2 := hide ((unhide HT).trans (unhide HS3 S j hlt))
                generalize Y[j] = y0 at d0 re HT2
                have X0 := hide (fun w => lv_any y0 re.1 re.2 w)
                have x0 := vB_size y0
                generalize vB y0 = g0 at X0 x0 HT2
                have u0 : ¬ 9223372036854775807 < S.size + g0.size := by omega
                have HU5 : Hid ((S ++ g0).size ≤ 31000000 + 5 * (j + 1)) := by show _ ≤ _; rw [ByteArray.size_append]; omega
                clear re
                go_wp2_with fail
                refine (unhide X0 _).mono ?_
                rintro e w6 ⟨rfl, hb6⟩
                have hb6' := hbr.trans (hb6.mono hbr.size)
                clear p3 d0
                go_wp2_with fail
                exact ⟨⟨j + 1, _, by go_num, rfl, by omega, unhide HU5, unhide HT2, hb6'⟩, by simp [intOf]; omega⟩
              · obtain rfl : j = Y.length := by omega
                have hT : T3 = S := by rw [unhide HT, List.drop_length]; rfl
                rw [hT] at HB0
                clear hT HT H3 HS3
                have X0 := hide (fun w => lv_any (G.length : Int) (by omega) (by omega) w)
                have x0 := vB_size (G.length : Int)
                generalize vB (G.length : Int) = g0 at X0 x0 HB0
                have u0 : ¬ 9223372036854775807 < S.size + g0.size := by omega
                have p4 : wr.cell? ⟨w.heap.size, 4, none⟩ = some (.slice a3 G.length c3) := ((unhide HM).below hbr).cell 4 _ rfl
                go_wp2_with fail
                refine (unhide X0 _).mono ?_
                rintro e w6 ⟨rfl, hb6⟩
                have hb6' := hbr.trans (hb6.mono hbr.size)
                clear p3 p4
                go_wp2_with fail
                have HB8 := hide hb6'
                obtain ⟨S8, hS8⟩ : ∃ x, x = S ++ g0 := ⟨_, rfl⟩
                have hz8 : S8.size ≤ 32000000 := by rw [hS8, ByteArray.size_append]; omega
                rw [← hS8] at HB0 ⊢
                have H4 : Hid (V = groupsB S8 (G.drop 0)) := unhide HB0
                have HS4 : Hid (∀ S j (h : j < G.length), groupsB S (G.drop j) = groupsB ((intsB (S ++ vB (G[j].M.length : Int)) G[j].M) ++ vB G[j].Z) (G.drop (j + 1))) := fun S j h => by rw [drop_step G j h]; rfl
                clear hS8 hb6 hb6' bw hbr hzr u0 x0 X0 hS HB0
                go_loopw [4, 9] (fun t i wr => ∃ (j : Nat) (S : ByteArray), i = .int .i64 (j : Int) ∧ t = .string S ∧ j ≤ G.length ∧ S.size ≤ 32000000 + 55 * j ∧ Hid (V = groupsB S (G.drop j)) ∧ Below w2.heap.size w2 wr) (fun _ i _ => G.length - (intOf i).toNat)
                case atStart => exact ⟨0, S8, rfl, rfl, Nat.zero_le _, hz8, unhide H4, unhide HB8⟩
                case round =>
                  obtain ⟨j, S, rfl, rfl, hj, hS, HT, hbr⟩ := hrel
                  have hzr := hbr.size
                  have bw := b2.trans (hbr.mono b2.size)
                  have p4 : wr.cell? ⟨w.heap.size, 4, none⟩ = some (.slice a3 G.length c3) := ((unhide HM).below hbr).cell 4 _ rfl
                  by_cases hlt : j < G.length
                  · obtain ⟨b, off, a5, c5, rfl, hbB, d0, d1, hIA⟩ := unhide HCG j hlt
                    rw [← bw.cell (p := ⟨b, off + j * 2, none⟩) (by simp; omega)] at d0
                    rw [← bw.cell (p := ⟨b, off + j * 2 + 1, none⟩) (by simp; omega)] at d1
                    obtain ⟨q9, qm, qz0, qz1⟩ := unhide HRGG _ (List.getElem_mem hlt)
                    have HT2 := hide ((unhide HT).trans (unhide HS4 S j hlt))
                    have HIA := hide hIA.2
                    generalize G[j] = q at d0 d1 q9 qm qz0 qz1 HT2 HIA
                    clear hIA
                    have HQM := hide qm
                    have X0 := hide (fun w => lv_any (q.M.length : Int) (by omega) (by omega) w)
                    have X9 := hide (fun w => lv_any q.Z qz0 qz1 w)
                    have x0 := vB_size (q.M.length : Int)
                    have x9 := vB_size q.Z
                    generalize vB (q.M.length : Int) = g0 at X0 x0 HT2
                    generalize vB q.Z = g9 at X9 x9 HT2
                    have u0 : ¬ 9223372036854775807 < S.size + g0.size := by omega
                    have hbl : b < wr.heap.size := by omega
                    clear qm
                    go_wp2_with fail
                    have bx : Below wr.heap.size wr (wr.alloc (Obj.cells #[Value.slice a5 q.M.length c5, Value.int .i64 q.Z] 164)) := below_new _ _
                    have ux : Blk (wr.alloc (Obj.cells #[Value.slice a5 q.M.length c5, Value.int .i64 q.Z] 164)) wr.heap.size #[Value.slice a5 q.M.length c5, Value.int .i64 q.Z] 164 := Blk.new0
                    generalize wr.alloc (Obj.cells #[Value.slice a5 q.M.length c5, Value.int .i64 q.Z] 164) = V3 at bx ux ⊢
                    refine (unhide X0 _).mono ?_
                    rintro e w6 ⟨rfl, hb6⟩
                    obtain ⟨N7, hN7⟩ : ∃ N, N = wr.heap.size := ⟨_, rfl⟩
                    have b6 := hbr.trans ((bx.trans (hb6.mono bx.size)).mono hbr.size)
                    have u6 := ux.below hb6
                    rw [← hN7] at u6 ⊢
                    have HU6 := hide u6
                    have HB6 := hide b6
                    have z6 := u6.lt
                    clear hN7 bx ux b6 u6 d0 d1 p4 hb6 bw hbr hzr hbl
                    go_wp2_with fail
                    obtain ⟨S9, hS9⟩ : ∃ x, x = S ++ g0 := ⟨_, rfl⟩
                    have hz9 : S9.size ≤ S.size + 5 := by rw [hS9, ByteArray.size_append]; omega
                    rw [← hS9] at HT2 ⊢
                    obtain ⟨T5, hT5⟩ : ∃ x, x = intsB S9 q.M := ⟨_, rfl⟩
                    rw [← hT5] at HT2
                    have H5 : Hid (T5 = intsB S9 (q.M.drop 0)) := hT5
                    have HS5 : Hid (∀ S k (h : k < q.M.length), intsB S (q.M.drop k) = intsB (S ++ vB q.M[k]) (q.M.drop (k + 1))) := fun S k h => by rw [drop_step q.M k h]; rfl
                    clear hT5 hS9 u0 x0 X0
                    go_loopw [4, 11] (fun t i wr => ∃ (k : Nat) (S' : ByteArray), i = .int .i64 (k : Int) ∧ t = .string S' ∧ k ≤ q.M.length ∧ S'.size ≤ S.size + 5 + 5 * k ∧ Hid (T5 = intsB S' (q.M.drop k)) ∧ Below w2.heap.size w2 wr ∧ Blk wr N7 #[Value.slice a5 q.M.length c5, Value.int .i64 q.Z] 164) (fun _ i _ => q.M.length - (intOf i).toNat)
                    case atStart => exact ⟨0, S9, rfl, rfl, Nat.zero_le _, hz9, unhide H5, unhide HB6, unhide HU6⟩
                    case round =>
                      obtain ⟨k, S', rfl, rfl, hk, hS', HT5, hbr, ur⟩ := hrel
                      have hzr := hbr.size
                      have bw := b2.trans (hbr.mono b2.size)
                      have p7 : wr.cell? ⟨N7, 0, none⟩ = some (.slice a5 q.M.length c5) := ur.cell 0 _ rfl
                      by_cases hlt5 : k < q.M.length
                      · obtain ⟨b', off', rfl, hbB', e0⟩ := unhide HIA k hlt5
                        rw [← bw.cell (p := ⟨b', off' + k, none⟩) (by simp; omega)] at e0
                        have re := unhide HQM _ (List.getElem_mem hlt5)
                        have HT6 := hide ((unhide HT5).trans (unhide HS5 S' k hlt5))
                        generalize q.M[k] = y0 at e0 re HT6
                        have X0 := hide (fun w => lv_any y0 re.1 (by omega) w)
                        have x0 := vB_size y0
                        generalize vB y0 = g1 at X0 x0 HT6
                        have u0 : ¬ 9223372036854775807 < S'.size + g1.size := by omega
                        have HU5 : Hid ((S' ++ g1).size ≤ S.size + 5 + 5 * (k + 1)) := by show _ ≤ _; rw [ByteArray.size_append]; omega
                        clear re
                        go_wp2_with fail
                        refine (unhide X0 _).mono ?_
                        rintro e w7 ⟨rfl, hb7⟩
                        have hb7' := hbr.trans (hb7.mono hbr.size)
                        have ur' := ur.below hb7
                        clear p7 e0
                        go_wp2_with fail
                        exact ⟨⟨k + 1, _, by go_num, rfl, by omega, unhide HU5, unhide HT6, hb7', ur'⟩, by simp [intOf]; omega⟩
                      · obtain rfl : k = q.M.length := by omega
                        have hT : T5 = S' := by rw [unhide HT5, List.drop_length]; rfl
                        rw [hT] at HT2
                        clear hT HT5 H5 HS5
                        have p8 : wr.cell? ⟨N7, 1, none⟩ = some (.int .i64 q.Z) := ur.cell 1 _ rfl
                        have u0 : ¬ 9223372036854775807 < S'.size + g9.size := by omega
                        have HU5 : Hid ((S' ++ g9).size ≤ 32000000 + 55 * (j + 1)) := by show _ ≤ _; rw [ByteArray.size_append]; omega
                        go_wp2_with fail
                        refine (unhide X9 _).mono ?_
                        rintro e w7 ⟨rfl, hb7⟩
                        have hb7' := hbr.trans (hb7.mono hbr.size)
                        clear p7 p8
                        go_wp2_with fail
                        exact ⟨⟨j + 1, _, by go_num, rfl, by omega, unhide HU5, unhide HT2, hb7'⟩, by simp [intOf]; omega⟩
                  · obtain rfl : j = G.length := by omega
                    have hT : V = S := by rw [unhide HT, List.drop_length]; rfl
                    subst hT
                    go_wp2_with fail
                    go_ret2
                    exact ⟨rfl, bw⟩
end Gr
end Go.Proofs.YtihnaddfpmjpaaaGreatDoor
