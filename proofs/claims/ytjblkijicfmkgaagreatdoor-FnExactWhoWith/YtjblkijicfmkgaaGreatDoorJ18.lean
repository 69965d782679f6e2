/-
  Texts of this claim, one behind the other: GrProof1, GrProof2, GrProof3, GrProof4, GrProof5, GrProof6, GrCert0, GrCert1, GrCert2, GrCert3, GrProofM, GrCertM, GrDual, GrAttain.
-/
import Derived.Test.YtjblkijicfmkgaaGreatDoorJ17
import Derived.Test.YtjblkijicfmkgaaGreatDoorJ10
import Derived.Deep.DeepFit
import Derived.Test.YtjblkijicfmkgaaGreatDoorJ13
import Derived.Test.YtjblkijicfmkgaaGreatDoorJ8
import Derived.Test.YtjblkijicfmkgaaGreatDoorJ3
import Derived.Test.YtjblkijicfmkgaaGreatDoorJ2
import Derived.Laws.EntriesVeiled
import Derived.Test.YtjblkijicfmkgaaGreatDoorJ15

/-
  The contracts of spec.l11Nested, spec.l11Slack and spec.l11Sum.
-/
namespace Go.Proofs.YtjblkijicfmkgaaGreatDoor
namespace Gr
open Go.RowKit

set_option maxRecDepth 100000 in
set_option maxHeartbeats 1000000 in
theorem specNested_any (a a' : Option Addr) (c c' B : Nat) (K L : List Int) (h1 : K.length ≤ 1048576) (h2 : L.length ≤ 1048576) (w : World) (hK : IntsAt w a K.length B K) (hL : IntsAt w a' L.length B L) :
    Calls Tryz.prog 133 #[.slice a K.length c, .slice a' L.length c'] w fun e w' => e = .returned (.bool (nested K L)) ∧ w' = w := by
  have IN := hide (fun x => l03In_any a' L.length c' B L x h2 w hL)
  have HC := hide hK.2
  have HSTEP : Hid (∀ m k (h : k < K.length), cntIn L m (K.drop k) = cntIn L (if inK L K[k] = true then m + 1 else m) (K.drop (k + 1))) := fun m k h => by rw [drop_step K k h]; rfl
  have HEND : Hid (∀ m, cntIn L m (K.drop K.length) = m) := fun m => by rw [List.drop_length]; rfl
  have H0 : Hid (cntIn L 0 K = cntIn L 0 (K.drop 0)) := rfl
  have hN : nested K L = (decide (cntIn L 0 K = 0) || (decide (cntIn L 0 K = K.length) || decide (cntIn L 0 K = L.length))) := rfl
  generalize nested K L = N at hN ⊢
  have hle := cntIn_le L K 0
  generalize cntIn L 0 K = T at H0 hN hle
  obtain ⟨n, hn⟩ : ∃ n, n = K.length := ⟨_, rfl⟩
  obtain ⟨m, hm⟩ : ∃ m, m = L.length := ⟨_, rfl⟩
  have HN := hide hn
  rw [← hn] at HEND hN h1 hle ⊢
  rw [← hm] at IN hN h2 ⊢
  clear hn hm hK hL
  have HNN := hide hN
  clear hN
  go_enter Tryz.func133, Tryz.ntmps133
  go_wp2_with fail
  go_loopw [5, 6] (fun t i wr => ∃ (k u : Nat), i = .int .i64 (k : Int) ∧ t = .int .i64 (u : Int) ∧ k ≤ n ∧ u ≤ k ∧ Hid (T = cntIn L u (K.drop k)) ∧ wr = w) (fun _ i _ => n - (intOf i).toNat)
  case atStart => exact ⟨0, 0, rfl, rfl, Nat.zero_le _, Nat.le_refl _, unhide H0, rfl⟩
  case round =>
    obtain ⟨k, u, rfl, rfl, hk, hu, HT, rfl⟩ := hrel
    by_cases hlt : k < n
    · have hkL : k < K.length := by have := unhide HN; omega
      obtain ⟨b, off, rfl, hbB, c0⟩ := unhide HC k hkL
      have IK := hide (unhide IN K[k])
      have HT2 := hide ((unhide HT).trans (unhide HSTEP u k hkL))
      generalize K[k] = x at c0 IK HT2
      generalize inK L x = bx at IK HT2
      cases bx with
      | true =>
        go_wp2_with fail
        refine (unhide IK).mono ?_
        rintro e w1 ⟨rfl, rfl⟩
        go_wp2_with fail
        exact ⟨⟨k + 1, u + 1, by go_num, by go_num, by omega, by omega, unhide HT2, trivial⟩, by simp [intOf]; omega⟩
      | false =>
        go_wp2_with fail
        refine (unhide IK).mono ?_
        rintro e w1 ⟨rfl, rfl⟩
        go_wp2_with fail
        exact ⟨⟨k + 1, u, by go_num, rfl, by omega, by omega, unhide HT2, trivial⟩, by simp [intOf]; omega⟩
    · obtain rfl : k = n := by omega
      have hTu := (unhide HT).trans (unhide HEND u)
      have hN := unhide HNN
      rw [hTu] at hN
      clear hTu HNN HT H0
      by_cases t0 : u = 0
      · subst t0
        simp at hN
        subst hN
        go_wp2_with fail
        go_ret
        exact ⟨rfl, rfl⟩
      · have e0 : ((u : Int) == 0) = false := by simp; omega
        by_cases t1 : u = k
        · have e1 : ((u : Int) == (k : Int)) = true := by simp; omega
          have hNt : N = true := by rw [hN]; simp [t1]
          subst hNt
          clear hN
          have HT1 := hide t1
          clear t1
          go_wp2_with fail
          go_ret
          exact ⟨rfl, rfl⟩
        · have e1 : ((u : Int) == (k : Int)) = false := by simp; omega
          have hNt : N = ((u : Int) == (m : Int)) := by
            rw [hN, Bool.eq_iff_iff]
            simp [t0, t1]
            omega
          subst hNt
          clear hN
          go_wp2_with fail
          go_ret
          exact ⟨rfl, rfl⟩
end Gr
end Go.Proofs.YtjblkijicfmkgaaGreatDoor

/-
  The contracts of spec.l11Slack and spec.l11Sum.
-/
namespace Go.Proofs.YtjblkijicfmkgaaGreatDoor
namespace Gr
open Go.RowKit

set_option maxRecDepth 100000 in
set_option maxHeartbeats 4000000 in
theorem specSlack_any (v : Value) (B : Nat) (s : Int) (Y : List Int) (G : List GrpI) (e : EdgeI) (hYs : (Y.length : Int) = s) (h9 : s ≤ 9) (hY : ∀ y ∈ Y, 0 ≤ y ∧ y ≤ 1000000000) (hq : ∀ q ∈ G, grpHead s q = true) (hG8 : G.length ≤ 8) (he : edgeOk s e = true) (w : World) (hB : B ≤ w.heap.size) (hv : PrAt w v B Y G) :
    Calls Tryz.prog 134 #[v, e.v] w fun r w' => r = .returned (.int .i64 (slackI Y G e)) ∧ Below w.heap.size w w' := by
  obtain ⟨q0, q1, q2, _, _, _⟩ := (edgeOk_iff s e).1 he
  have hsc := scal_range he
  have SC := hide (fun w => specScalar_any e w)
  have hR : slackI Y G e = slackG e (yAt Y e.A + yAt Y e.B - 2 * scal e) G := rfl
  generalize slackI Y G e = R at hR ⊢
  obtain ⟨a, n, c, a', n', c', rfl, hYA, hGA, _⟩ := hv
  have hYn := hYA.1
  obtain ⟨x0, hx0⟩ := Int.eq_ofNat_of_zero_le q0
  obtain ⟨x1, hx1⟩ := Int.eq_ofNat_of_zero_le (show 0 ≤ e.B by omega)
  have hl0 : x0 < Y.length := by omega
  have hl1 : x1 < Y.length := by omega
  obtain ⟨by0, oy, rfl, hbyB, y0⟩ := hYA.2 x0 hl0
  obtain ⟨by1, oy1, ey, _, y1⟩ := hYA.2 x1 hl1
  simp at ey
  obtain ⟨rfl, rfl⟩ := ey
  have ea : yAt Y e.A = Y[x0] := by unfold yAt; rw [hx0]; simp [hl0]
  have eb : yAt Y e.B = Y[x1] := by unfold yAt; rw [hx1]; simp [hl1]
  rw [ea, eb] at hR
  have r0 := hY _ (List.getElem_mem hl0)
  have r1 := hY _ (List.getElem_mem hl1)
  generalize Y[x0] = ya at y0 hR r0
  generalize Y[x1] = yb at y1 hR r1
  generalize scal e = sc at SC hR hsc
  have HCG := hide hGA.2
  have HGL := hide hGA.1
  have HST : Hid (∀ S k (h : k < G.length), slackG e S (G.drop k) = slackG e (if (inK G[k].M e.A && inK G[k].M e.B) = true then S + G[k].Z else S) (G.drop (k + 1))) := fun S k h => by rw [drop_step G k h]; rfl
  have HEND : Hid (∀ S, slackG e S (G.drop n') = S) := fun S => by rw [← hGA.1, List.drop_length]; rfl
  have H0 : Hid (R = slackG e (ya + yb - 2 * sc) (G.drop 0)) := hR
  have HQ := hide hq
  have HE : Hid (∀ t, slackG e t = slackG e t) := fun _ => rfl
  clear hR ea eb hYA hGA hY hq he HE
  generalize hslk : slackG e = F at HST HEND H0
  clear hslk
  rw [hx0, hx1] at HST
  obtain ⟨eA, eB, e2, e3, e4⟩ := e
  simp only at hx0 hx1 q1 q2
  subst hx0 hx1
  unfold EdgeI.v at SC ⊢
  simp only at SC ⊢
  have w1 : IntKind.i64.wrap (ya + yb) = ya + yb := wrap_in _ (by omega)
  have w2 : IntKind.i64.wrap (2 * sc) = 2 * sc := wrap_in _ (by omega)
  have w3 : IntKind.i64.wrap (ya + yb - 2 * sc) = ya + yb - 2 * sc := wrap_in _ (by omega)
  have hin0 : (x0 : Int) < (n : Int) := by omega
  have hin1 : (x1 : Int) < (n : Int) := by omega
  have hn8 : n' ≤ 8 := by have := unhide HGL; omega
  go_enter Tryz.func134, Tryz.ntmps134
  go_wp2_with fail
  obtain ⟨V, hV⟩ : ∃ W, W = (w.alloc (Obj.cells #[Value.slice (some ⟨by0, oy, none⟩) n c, Value.slice a' n' c'] 57)).alloc (Obj.cells #[Value.int .i64 (x0 : Int), Value.int .i64 (x1 : Int), Value.int .i64 e2, Value.int .i64 e3, Value.int .i64 e4] 113) := ⟨_, rfl⟩
  rw [← hV]
  have bV : Below w.heap.size w V := by rw [hV]; exact (below_new _ _).alloc (by simp) _
  have m0 : Blk V w.heap.size #[Value.slice (some ⟨by0, oy, none⟩) n c, Value.slice a' n' c'] 57 := by rw [hV]; exact Blk.new0.alloc
  have m1 : Blk V (w.heap.size + 1) #[Value.int .i64 (x0 : Int), Value.int .i64 (x1 : Int), Value.int .i64 e2, Value.int .i64 e3, Value.int .i64 e4] 113 := by rw [hV]; exact Blk.new1
  clear hV
  have z0 := m0.lt
  have z1 := m1.lt
  have HM0 := hide m0
  have HM1 := hide m1
  have P0 : ∀ d : Grown V.heap.size V, d.w.cell? ⟨w.heap.size, 0, none⟩ = some (.slice (some ⟨by0, oy, none⟩) n c) := fun d => d.cell z0 (m0.cell 0 _ rfl)
  have E0 : ∀ d : Grown V.heap.size V, d.w.cell? ⟨w.heap.size + 1, 0, none⟩ = some (.int .i64 (x0 : Int)) := fun d => d.cell z1 (m1.cell 0 _ rfl)
  have E1 : ∀ d : Grown V.heap.size V, d.w.cell? ⟨w.heap.size + 1, 1, none⟩ = some (.int .i64 (x1 : Int)) := fun d => d.cell z1 (m1.cell 1 _ rfl)
  have E2 : ∀ d : Grown V.heap.size V, d.w.cell? ⟨w.heap.size + 1, 2, none⟩ = some (.int .i64 e2) := fun d => d.cell z1 (m1.cell 2 _ rfl)
  have E3 : ∀ d : Grown V.heap.size V, d.w.cell? ⟨w.heap.size + 1, 3, none⟩ = some (.int .i64 e3) := fun d => d.cell z1 (m1.cell 3 _ rfl)
  have E4 : ∀ d : Grown V.heap.size V, d.w.cell? ⟨w.heap.size + 1, 4, none⟩ = some (.int .i64 e4) := fun d => d.cell z1 (m1.cell 4 _ rfl)
  have Y0 : ∀ d : Grown V.heap.size V, d.w.cell? ⟨by0, oy + x0, none⟩ = some (.int .i64 ya) := fun d => d.cell (by omega) ((bV.cell (p := ⟨by0, oy + x0, none⟩) (by simp; omega)).trans y0)
  have Y1 : ∀ d : Grown V.heap.size V, d.w.cell? ⟨by0, oy + x1, none⟩ = some (.int .i64 yb) := fun d => d.cell (by omega) ((bV.cell (p := ⟨by0, oy + x1, none⟩) (by simp; omega)).trans y1)
  clear m0 m1 y0 y1
  refine wp_region_grown V.heap.size (by kernel_rfl) (by kernel_rfl) ?_
  repeat (go_big_quiet_step (first | (go_at_call 135; exact Calls.grown (Nat.le_refl _) (unhide SC _))))
  refine wpQuiet_nil ?_
  rintro w5 ⟨d5, rfl⟩
  obtain ⟨W5, hb5⟩ := d5
  dsimp only
  clear P0 E0 E1 E2 E3 E4 Y0 Y1 SC
  go_wp2_with fail
  go_loopw [5, 6] (fun t i wr => ∃ (k : Nat) (S : Int), i = .int .i64 (k : Int) ∧ t = .int .i64 S ∧ k ≤ n' ∧ -9030100 ≤ S ∧ S ≤ 2000000000 + 1000000000 * (k : Int) ∧ Hid (R = F S (G.drop k)) ∧ Below V.heap.size V wr) (fun _ i _ => n' - (intOf i).toNat)
  case atStart => exact ⟨0, ya + yb - 2 * sc, rfl, rfl, Nat.zero_le _, by omega, by omega, unhide H0, hb5⟩
  case round =>
    obtain ⟨k, S, rfl, rfl, hk, hS0, hS1, HS, hbr⟩ := hrel
    have hzr := hbr.size
    have p1 : wr.cell? ⟨w.heap.size, 1, none⟩ = some (.slice a' n' c') := ((unhide HM0).below hbr).cell 1 _ rfl
    have bw : Below w.heap.size w wr := bV.trans (hbr.mono bV.size)
    by_cases hlt : k < n'
    · have hkL : k < G.length := by have := unhide HGL; omega
      obtain ⟨b, off, a2, c2, rfl, hbB, d0, d1, hI⟩ := unhide HCG k hkL
      obtain ⟨_, _, hM9, hZ1, hZ2⟩ := (grpHead_iff s _).1 (unhide HQ _ (List.getElem_mem hkL))
      have HSK := hide ((unhide HS).trans (unhide HST S k hkL))
      have IN : Hid (∀ x (d : Grown wr.heap.size wr), Calls Tryz.prog 48 #[.slice a2 G[k].M.length c2, .int .i64 x] d.w fun e w' => e = .returned (.bool (inK G[k].M x)) ∧ w' = d.w) := fun x d => l03In_any a2 _ c2 B _ x (by omega) d.w (hI.below (bw.trans (d.below.mono bw.size)) hB)
      generalize G[k] = q at d0 d1 hM9 hZ1 hZ2 HSK IN
      clear hI
      have I0 := hide (unhide IN (x0 : Int))
      have I1 := hide (unhide IN (x1 : Int))
      clear IN
      generalize inK q.M (x0 : Int) = b0 at I0 HSK
      generalize inK q.M (x1 : Int) = b1 at I1 HSK
      have hkn : (k : Int) < (n' : Int) := by omega
      have A1 : ∀ d : Grown wr.heap.size wr, d.w.cell? ⟨w.heap.size, 1, none⟩ = some (.slice (some ⟨b, off, none⟩) n' c') := fun d => d.cell (by omega) p1
      have F0 : ∀ d : Grown wr.heap.size wr, d.w.cell? ⟨w.heap.size + 1, 0, none⟩ = some (.int .i64 (x0 : Int)) := fun d => d.cell (by omega) (((unhide HM1).below hbr).cell 0 _ rfl)
      have F1 : ∀ d : Grown wr.heap.size wr, d.w.cell? ⟨w.heap.size + 1, 1, none⟩ = some (.int .i64 (x1 : Int)) := fun d => d.cell (by omega) (((unhide HM1).below hbr).cell 1 _ rfl)
      have g0 : wr.cell? ⟨b, off + k * 2, none⟩ = some (.slice a2 q.M.length c2) := (bw.cell (p := ⟨b, off + k * 2, none⟩) (by simp; omega)).trans d0
      have g1 : wr.cell? ⟨b, off + k * 2 + 1, none⟩ = some (.int .i64 q.Z) := (bw.cell (p := ⟨b, off + k * 2 + 1, none⟩) (by simp; omega)).trans d1
      have G0 : ∀ d : Grown wr.heap.size wr, d.w.cell? ⟨b, off + k * 2, none⟩ = some (.slice a2 q.M.length c2) := fun d => d.cell (by omega) g0
      have HA1 := hide A1
      have HG1 : Hid (∀ d : Grown wr.heap.size wr, d.w.cell? ⟨b, off + k * 2 + 1, none⟩ = some (.int .i64 q.Z)) := fun d => d.cell (by omega) g1
      clear d0 d1 g0 g1
      go_wp2_with fail
      clear p1
      refine wp_region_grown wr.heap.size (by kernel_rfl) (by kernel_rfl) ?_
      cases b0 with
      | false =>
        repeat (go_big_quiet_step (first
          | (go_at_call_of 48 (Value.int IntKind.i64 (x0 : Int)); exact Calls.grown_same (unhide I0 _))
          | (go_at_call_of 48 (Value.int IntKind.i64 (x1 : Int)); exact Calls.grown_same (unhide I1 _))))
        refine wpQuiet_nil ?_
        rintro w6 ⟨d6, rfl⟩
        clear A1 F0 F1 G0
        go_wp2_with fail
        exact ⟨⟨k + 1, S, by go_num, rfl, by omega, by omega, by omega, unhide HSK, hbr.trans (d6.below.mono hbr.size)⟩, by simp [intOf]; omega⟩
      | true =>
        repeat (go_big_quiet_step (first
          | (go_at_call_of 48 (Value.int IntKind.i64 (x0 : Int)); exact Calls.grown_same (unhide I0 _))
          | (go_at_call_of 48 (Value.int IntKind.i64 (x1 : Int)); exact Calls.grown_same (unhide I1 _))))
        refine wpQuiet_nil ?_
        rintro w6 ⟨d6, rfl⟩
        clear A1 F0 F1 G0
        cases b1 with
        | false =>
          go_wp2_with fail
          exact ⟨⟨k + 1, S, by go_num, rfl, by omega, by omega, by omega, unhide HSK, hbr.trans (d6.below.mono hbr.size)⟩, by simp [intOf]; omega⟩
        | true =>
          have j1 := unhide HA1 d6
          have j2 := unhide HG1 d6
          have w4 : IntKind.i64.wrap (S + q.Z) = S + q.Z := wrap_in _ (by omega)
          go_wp2_with fail
          exact ⟨⟨k + 1, S + q.Z, by go_num, rfl, by omega, by omega, by omega, unhide HSK, hbr.trans (d6.below.mono hbr.size)⟩, by simp [intOf]; omega⟩
    · obtain rfl : k = n' := by omega
      have hRS := (unhide HS).trans (unhide HEND S)
      subst hRS
      go_wp2_with fail
      go_ret
      exact ⟨rfl, bw⟩
end Gr
end Go.Proofs.YtjblkijicfmkgaaGreatDoor

/-
  The contract of spec.l11Sum.
-/
namespace Go.Proofs.YtjblkijicfmkgaaGreatDoor
namespace Gr
open Go.RowKit

theorem wrap64_in (x : Int) (h : -9223372036854775808 ≤ x ∧ x ≤ 9223372036854775807) : wrap64 x = x := by
  rw [wrap_mod]
  omega

set_option maxRecDepth 100000 in
set_option maxHeartbeats 4000000 in
theorem specSum_any (v : Value) (B : Nat) (s : Int) (Y : List Int) (G : List GrpI) (hYs : (Y.length : Int) = s) (h9 : s ≤ 9) (hY : ∀ y ∈ Y, 0 ≤ y ∧ y ≤ 1000000000) (hq : ∀ q ∈ G, grpHead s q = true) (hG8 : G.length ≤ 8) (w : World) (hB : B ≤ w.heap.size) (hv : PrAt w v B Y G) :
    Calls Tryz.prog 115 #[v] w fun r w' => r = .returned (.int .i64 (sumI Y G)) ∧ Below w.heap.size w w' := by
  have hR : sumI Y G = gSum (ySum 0 Y) G := rfl
  generalize sumI Y G = R at hR ⊢
  obtain ⟨a, n, c, a', n', c', rfl, hYA, hGA, _⟩ := hv
  have HSY : Hid (∀ S k (h : k < Y.length), ySum S (Y.drop k) = ySum (S + Y[k]) (Y.drop (k + 1))) := fun S k h => by rw [drop_step Y k h]; rfl
  have HEY : Hid (∀ S, ySum S (Y.drop n) = S) := fun S => by rw [← hYA.1, List.drop_length]; rfl
  have HSG : Hid (∀ S k (h : k < G.length), gSum S (G.drop k) = gSum (S + G[k].Z * ((G[k].M.length / 2 : Nat) : Int)) (G.drop (k + 1))) := fun S k h => by rw [drop_step G k h]; rfl
  have HEG : Hid (∀ S, gSum S (G.drop n') = S) := fun S => by rw [← hGA.1, List.drop_length]; rfl
  have HY := hide hY
  have HQ := hide hq
  have HYL := hide hYA.1
  have HGL := hide hGA.1
  have HCY := hide hYA.2
  have HCG := hide hGA.2
  have H0 : Hid (ySum 0 Y = ySum 0 (Y.drop 0)) := rfl
  have HR := hide hR
  generalize ySum 0 Y = T at H0 HR
  have hn9 : n ≤ 9 := by have := hYA.1; omega
  have hn8 : n' ≤ 8 := by have := hGA.1; omega
  clear hY hq hYA hGA hR
  go_enter Tryz.func115, Tryz.ntmps115
  go_wp2_with fail
  obtain ⟨V, hV⟩ : ∃ W, W = w.alloc (Obj.cells #[Value.slice a n c, Value.slice a' n' c'] 57) := ⟨_, rfl⟩
  rw [← hV]
  have bV : Below w.heap.size w V := by rw [hV]; exact below_new _ _
  have m0 : Blk V w.heap.size #[Value.slice a n c, Value.slice a' n' c'] 57 := by rw [hV]; exact Blk.new0
  clear hV
  have z0 := m0.lt
  have p0 : V.cell? ⟨w.heap.size, 0, none⟩ = some (.slice a n c) := m0.cell 0 _ rfl
  have HM0 := hide m0
  clear m0
  go_loopw [3, 4] (fun t i wr => ∃ (k : Nat) (S : Int), i = .int .i64 (k : Int) ∧ t = .int .i64 S ∧ k ≤ n ∧ 0 ≤ S ∧ S ≤ 1000000000 * (k : Int) ∧ Hid (T = ySum S (Y.drop k)) ∧ V = wr) (fun _ i _ => n - (intOf i).toNat)
  case atStart => exact ⟨0, 0, rfl, rfl, Nat.zero_le _, by omega, by omega, unhide H0, rfl⟩
  case round =>
    obtain ⟨k, S, rfl, rfl, hk, hS0, hS1, HS, rfl⟩ := hrel
    by_cases hlt : k < n
    · have hkL : k < Y.length := by have := unhide HYL; omega
      obtain ⟨b, off, rfl, hbB, c0⟩ := unhide HCY k hkL
      rw [← bV.cell (p := ⟨b, off + k, none⟩) (by simp; omega)] at c0
      have hy := unhide HY _ (List.getElem_mem hkL)
      have HS2 := hide ((unhide HS).trans (unhide HSY S k hkL))
      generalize Y[k] = y at c0 hy HS2
      have w1 : IntKind.i64.wrap (S + y) = S + y := wrap_in _ (by omega)
      go_wp2_with fail
      exact ⟨⟨k + 1, S + y, by go_num, rfl, by omega, by omega, by omega, unhide HS2, trivial⟩, by simp [intOf]; omega⟩
    · obtain rfl : k = n := by omega
      have hTS := (unhide HS).trans (unhide HEY S)
      have HR2 : Hid (R = gSum S (G.drop 0)) := by show _ = _; rw [unhide HR, hTS]; rfl
      clear hTS HS HR H0
      go_wp2_with fail
      go_loopw [3, 5] (fun t i wr => ∃ (j : Nat) (U : Int), i = .int .i64 (j : Int) ∧ t = .int .i64 U ∧ j ≤ n' ∧ 0 ≤ U ∧ U ≤ 9000000000 + 4000000000 * (j : Int) ∧ Hid (R = gSum U (G.drop j)) ∧ Below V.heap.size V wr) (fun _ i _ => n' - (intOf i).toNat)
      case atStart => exact ⟨0, S, rfl, rfl, Nat.zero_le _, by omega, by omega, unhide HR2, Below.refl _ _⟩
      case round =>
        obtain ⟨j, U, rfl, rfl, hj, hU0, hU1, HU, hbr⟩ := hrel
        have hzr := hbr.size
        have bw : Below w.heap.size w wr := bV.trans (hbr.mono bV.size)
        have p1 : wr.cell? ⟨w.heap.size, 1, none⟩ = some (.slice a' n' c') := ((unhide HM0).below hbr).cell 1 _ rfl
        by_cases hlt : j < n'
        · have hjL : j < G.length := by have := unhide HGL; omega
          obtain ⟨b, off, a2, c2, rfl, hbB, d0, d1, _⟩ := unhide HCG j hjL
          have hh := half_bounds (unhide HQ _ (List.getElem_mem hjL)) h9
          obtain ⟨_, _, hM9, hZ1, hZ2⟩ := (grpHead_iff s _).1 (unhide HQ _ (List.getElem_mem hjL))
          have HU2 := hide ((unhide HU).trans (unhide HSG U j hjL))
          generalize G[j] = q at d0 d1 hh hM9 hZ1 hZ2 HU2
          have hjn : (j : Int) < (n' : Int) := by omega
          have wh : ((q.M.length : Nat) : Int) / 2 = ((q.M.length / 2 : Nat) : Int) := by omega
          obtain ⟨pz, hpz⟩ : ∃ pz, pz = q.Z * ((q.M.length / 2 : Nat) : Int) := ⟨_, rfl⟩
          rw [← hpz] at hh HU2
          have HWH : Hid (wrap64 (U + wrap64 (q.Z * (((q.M.length : Nat) : Int) / 2))) = U + pz) := by
            show _ = _
            rw [wh, ← hpz, wrap64_in pz (by omega), wrap64_in _ (by omega)]
          clear wh hpz
          have A1 : ∀ d : Grown wr.heap.size wr, d.w.cell? ⟨w.heap.size, 1, none⟩ = some (.slice (some ⟨b, off, none⟩) n' c') := fun d => d.cell (by omega) p1
          have G0 : ∀ d : Grown wr.heap.size wr, d.w.cell? ⟨b, off + j * 2, none⟩ = some (.slice a2 q.M.length c2) := fun d => d.cell (by omega) ((bw.cell (p := ⟨b, off + j * 2, none⟩) (by simp; omega)).trans d0)
          have G1 : ∀ d : Grown wr.heap.size wr, d.w.cell? ⟨b, off + j * 2 + 1, none⟩ = some (.int .i64 q.Z) := fun d => d.cell (by omega) ((bw.cell (p := ⟨b, off + j * 2 + 1, none⟩) (by simp; omega)).trans d1)
          clear d0 d1
          go_wp2_with fail
          clear p1
          refine wp_region_grown wr.heap.size (by kernel_rfl) (by kernel_rfl) ?_
          repeat (go_big_quiet_step (first | fail))
          refine wpQuiet_nil ?_
          rintro w6 ⟨d6, rfl⟩
          clear A1 G0 G1
          go_wp2_with fail
          exact ⟨⟨j + 1, U + pz, by go_num, (by rw [unhide HWH]), by omega, by omega, by omega, unhide HU2, hbr.trans (d6.below.mono hbr.size)⟩, by simp [intOf]; omega⟩
        · obtain rfl : j = n' := by omega
          have hRS := (unhide HU).trans (unhide HEG U)
          subst hRS
          go_wp2_with fail
          go_ret
          exact ⟨rfl, bw⟩
end Gr
end Go.Proofs.YtjblkijicfmkgaaGreatDoor

/-
  The contract of spec.ProofOk.
-/
namespace Go.Proofs.YtjblkijicfmkgaaGreatDoor
namespace Gr
open Go.RowKit

theorem yOk_step (Y : List Int) (k : Nat) (h : k < Y.length) : yOk (Y.drop k) = ((decide (0 ≤ Y[k]) && decide (Y[k] ≤ 1000000000)) && yOk (Y.drop (k + 1))) := by rw [drop_step Y k h]; rfl

theorem grpsOk_step (s : Int) (G : List GrpI) (i : Nat) (h : i < G.length) : grpsOk s (G.take i) (G.drop i) = (grpHead s G[i] && (memOk s none G[i].M && (nestAll G[i].M (G.take i) && grpsOk s (G.take (i + 1)) (G.drop (i + 1))))) := by
  rw [drop_step G i h, List.take_succ_eq_append_getElem h]
  rfl

def prevI (M : List Int) (k : Nat) : Option Int := if k = 0 then none else M[k - 1]?

theorem memOk_step (s : Int) (M : List Int) (k : Nat) (h : k < M.length) : memOk s (prevI M k) (M.drop k) = ((decide (0 ≤ M[k]) && decide (M[k] ≤ s - 1)) && ((match prevI M k with | none => true | some q => decide (q < M[k])) && memOk s (prevI M (k + 1)) (M.drop (k + 1)))) := by
  have e : prevI M (k + 1) = some M[k] := by unfold prevI; simp [h]
  rw [drop_step M k h, e]
  rfl

theorem nestAll_step (b : List Int) (D : List GrpI) (k : Nat) (h : k < D.length) : nestAll b (D.drop k) = (nested D[k].M b && nestAll b (D.drop (k + 1))) := by rw [drop_step D k h]; rfl

theorem slacksOk_step (Y : List Int) (G : List GrpI) (Q : List EdgeI) (k : Nat) (h : k < Q.length) : slacksOk Y G (Q.drop k) = (decide (0 ≤ slackI Y G Q[k]) && slacksOk Y G (Q.drop (k + 1))) := by rw [drop_step Q k h]; rfl

set_option maxRecDepth 100000 in
set_option maxHeartbeats 8000000 in
theorem specProof_gen (B : Nat) (v : Value) (s : Int) (Q : List EdgeI) (u : Value) (Y : List Int) (G : List GrpI) (h1 : Q.length ≤ 1048576) (h2 : psize Y G ≤ 1048576) (w : World) (hB : B ≤ w.heap.size) (hv : GrAt w v B s Q) (hu : PrAt w u B Y G) :
    Calls Tryz.prog 112 #[v, u] w fun e w' => e = .returned (.bool (proofOk s Q Y G)) ∧ Below w.heap.size w w' := by
  obtain ⟨l1, l2, l3⟩ := psize_le h2
  have OK := hide (fun w1 (hb : Below w.heap.size w w1) => specGraph_any v B s Q h1 w1 (by have := hb.size; omega) (hv.below hb hB))
  have SL := hide (fun (x1 : (Y.length : Int) = s) (x2 : s ≤ 9) (x3 : ∀ y ∈ Y, 0 ≤ y ∧ y ≤ 1000000000) (x4 : ∀ q ∈ G, grpHead s q = true) (x5 : G.length ≤ 8) e (x6 : edgeOk s e = true) w1 (hb : Below w.heap.size w w1) => specSlack_any u B s Y G e x1 x2 x3 x4 x5 x6 w1 (by have := hb.size; omega) (hu.below hb hB))
  obtain ⟨a0, n0, c0, rfl, hE⟩ := hv
  obtain ⟨a, n, c, a', n', c', rfl, hYA, hGA, _⟩ := hu
  have hP : proofOk s Q Y G = (graphOk s Q && (decide ((Y.length : Int) = s) && (decide (G.length ≤ 8) && (yOk Y && (grpsOk s [] G && slacksOk Y G Q))))) := rfl
  generalize proofOk s Q Y G = R at hP ⊢
  have HGS : Hid (graphOk s Q = true → s ≤ 9 ∧ 0 ≤ s ∧ ∀ e ∈ Q, edgeOk s e = true) := fun h => ⟨(graph_sound h).2.1, (graph_sound h).1, (graph_sound h).2.2.1⟩
  generalize graphOk s Q = gk at OK hP HGS
  obtain rfl := hYA.1
  obtain rfl := hGA.1
  obtain rfl := hE.1
  have HCY := hide hYA.2
  have HCG := hide hGA.2
  have HCE := hide hE.2
  have L3 := hide l3
  clear hYA hGA hE l3 h2
  go_enter Tryz.func112, Tryz.ntmps112
  go_wp2_with fail
  obtain ⟨V, hV⟩ : ∃ W, W = (w.alloc (Obj.cells #[Value.int .i64 s, Value.slice a0 Q.length c0] 54)).alloc (Obj.cells #[Value.slice a Y.length c, Value.slice a' G.length c'] 57) := ⟨_, rfl⟩
  rw [← hV]
  have bV : Below w.heap.size w V := by rw [hV]; exact (below_new _ _).alloc (by simp) _
  have m0 : Blk V w.heap.size #[Value.int .i64 s, Value.slice a0 Q.length c0] 54 := by rw [hV]; exact Blk.new0.alloc
  have m1 : Blk V (w.heap.size + 1) #[Value.slice a Y.length c, Value.slice a' G.length c'] 57 := by rw [hV]; exact Blk.new1
  clear hV
  refine (unhide OK V bV).mono ?_
  rintro e w3 ⟨rfl, hb3⟩
  have b3 := bV.trans (hb3.mono bV.size)
  have HM0 := hide (m0.below hb3)
  have HM1 := hide (m1.below hb3)
  clear m0 m1 hb3 bV OK
  have z0 := (unhide HM0).lt
  have z1 := (unhide HM1).lt
  have p0 : w3.cell? ⟨w.heap.size, 0, none⟩ = some (.int .i64 s) := (unhide HM0).cell 0 _ rfl
  have p1 : w3.cell? ⟨w.heap.size + 1, 0, none⟩ = some (.slice a Y.length c) := (unhide HM1).cell 0 _ rfl
  have p2 : w3.cell? ⟨w.heap.size + 1, 1, none⟩ = some (.slice a' G.length c') := (unhide HM1).cell 1 _ rfl
  cases gk with
  | false =>
    rw [Bool.false_and] at hP
    subst hP
    go_wp2_with fail
    go_ret
    exact ⟨rfl, b3⟩
  | true =>
    rw [Bool.true_and] at hP
    obtain ⟨hs9, hs0, hek⟩ := unhide HGS rfl
    have HEK := hide hek
    clear hek HGS
    rcases Decidable.em (¬ (Y.length : Int) = s) with t1 | t1
    · rw [decide_eq_false t1, Bool.false_and] at hP
      subst hP
      have e1 : (((Y.length : Nat) : Int) != s) = true := by simp; exact t1
      go_wp2_with fail
      go_ret
      exact ⟨rfl, b3⟩
    replace t1 := Decidable.not_not.1 t1
    rw [decide_eq_true t1, Bool.true_and] at hP
    have e1 : (((Y.length : Nat) : Int) != s) = false := by simp; exact t1
    have HT1 := hide t1
    clear t1
    rcases Decidable.em (¬ G.length ≤ 8) with t2 | t2
    · rw [decide_eq_false t2, Bool.false_and] at hP
      subst hP
      have e2 : (8 : Int) < ((G.length : Nat) : Int) := by omega
      go_wp2_with fail
      go_ret
      exact ⟨rfl, b3⟩
    replace t2 := Decidable.not_not.1 t2
    rw [decide_eq_true t2, Bool.true_and] at hP
    have e2 : ¬ (8 : Int) < ((G.length : Nat) : Int) := by omega
    have HPP := hide hP
    clear hP
    go_wp2_with fail
    go_loopw [5] (fun i wr => ∃ k : Nat, i = .int .i64 (k : Int) ∧ k ≤ Y.length ∧ Hid (yOk Y = yOk (Y.drop k)) ∧ Below w3.heap.size w3 wr) (fun i _ => Y.length - (intOf i).toNat)
    case atStart => exact ⟨0, rfl, Nat.zero_le _, rfl, Below.refl _ _⟩
    case round =>
      obtain ⟨k, rfl, hk, HK, hbr⟩ := hrel
      have p1 : wr.cell? ⟨w.heap.size + 1, 0, none⟩ = some (.slice a Y.length c) := ((unhide HM1).below hbr).cell 0 _ rfl
      have bw := b3.trans (hbr.mono b3.size)
      by_cases hlt : k < Y.length
      · obtain ⟨b, off, rfl, hbB, d0⟩ := unhide HCY k hlt
        rw [← bw.cell (p := ⟨b, off + k, none⟩) (by simp; omega)] at d0
        have HK2 := hide ((unhide HK).trans (yOk_step Y k hlt))
        have LI := hide (fun w => l01In_is Y[k] 0 1000000000 w)
        generalize Y[k] = y at d0 HK2 LI
        generalize (decide (0 ≤ y) && decide (y ≤ 1000000000)) = by0 at HK2 LI
        cases by0 with
        | false =>
          have hR : R = false := by rw [unhide HPP, unhide HK2]; rfl
          subst hR
          go_wp2_with fail
          refine (unhide LI _).mono ?_
          rintro e w4 ⟨rfl, rfl⟩
          go_wp2_with fail
          go_ret
          exact ⟨rfl, bw⟩
        | true =>
          go_wp2_with fail
          refine (unhide LI _).mono ?_
          rintro e w4 ⟨rfl, rfl⟩
          go_wp2_with fail
          exact ⟨⟨k + 1, by go_num, by omega, unhide HK2, hbr⟩, by simp [intOf]; omega⟩
      · obtain rfl : k = Y.length := by omega
        have hy : yOk Y = true := by rw [unhide HK, List.drop_length]; rfl
        have HYY := hide (yOk_at Y hy)
        have HP2 : Hid (R = (grpsOk s [] G && slacksOk Y G Q)) := by show _ = _; rw [unhide HPP, hy, Bool.true_and]
        clear hy HPP HK
        have p2 : wr.cell? ⟨w.heap.size + 1, 1, none⟩ = some (.slice a' G.length c') := ((unhide HM1).below hbr).cell 1 _ rfl
        go_wp2_with fail
        have HBR := hide hbr
        clear p1 p2 bw hbr
        go_loopw [6] (fun i wr => ∃ k : Nat, i = .int .i64 (k : Int) ∧ k ≤ G.length ∧ Hid (grpsOk s [] G = grpsOk s (G.take k) (G.drop k)) ∧ Below w3.heap.size w3 wr) (fun i _ => G.length - (intOf i).toNat)
        case atStart => exact ⟨0, rfl, Nat.zero_le _, rfl, unhide HBR⟩
        case round =>
          obtain ⟨i, rfl, hi, HI, hbr⟩ := hrel
          have p2 : wr.cell? ⟨w.heap.size + 1, 1, none⟩ = some (.slice a' G.length c') := ((unhide HM1).below hbr).cell 1 _ rfl
          have p0 : wr.cell? ⟨w.heap.size, 0, none⟩ = some (.int .i64 s) := ((unhide HM0).below hbr).cell 0 _ rfl
          have bw := b3.trans (hbr.mono b3.size)
          have hzr := hbr.size
          have hne0 : ¬ w.heap.size = wr.heap.size := by omega
          have hlt0 : w.heap.size < wr.heap.size := by omega
          by_cases hlt : i < G.length
          · obtain ⟨b, off, a2, c2, rfl, hbB, d0, d1, hIA⟩ := unhide HCG i hlt
            rw [← bw.cell (p := ⟨b, off + i * 2, none⟩) (by simp; omega)] at d0
            rw [← bw.cell (p := ⟨b, off + i * 2 + 1, none⟩) (by simp; omega)] at d1
            have HI2 := hide ((unhide HI).trans (grpsOk_step s G i hlt))
            have hM := unhide L3 _ (List.getElem_mem hlt)
            have HIA := hide hIA
            generalize G[i] = q at d0 d1 HIA HI2 hM
            clear hIA
            have hH := grpHead_iff s q
            have LZ := hide (fun w => l01In_is q.Z 1 1000000000 w)
            rcases Decidable.em (q.M.length < 3) with x1 | x1
            · have hR : R = false := by
                have : grpHead s q = false := by rw [Bool.eq_false_iff]; intro h; have := hH.1 h; omega
                rw [unhide HP2, unhide HI2, this]; rfl
              subst hR
              have x1' : ((q.M.length : Nat) : Int) < 3 := by omega
              clear hH
              go_wp2_with fail
              go_ret
              exact ⟨rfl, bw.alloc bw.size _⟩
            have x1' : ¬ ((q.M.length : Nat) : Int) < 3 := by omega
            rcases Decidable.em (((q.M.length : Nat) : Int) % 2 = 0) with x2 | x2
            · have hR : R = false := by
                have : grpHead s q = false := by rw [Bool.eq_false_iff]; intro h; have := hH.1 h; omega
                rw [unhide HP2, unhide HI2, this]; rfl
              subst hR
              clear hH
              go_wp2_with fail
              go_ret
              exact ⟨rfl, bw.alloc bw.size _⟩
            rcases Decidable.em (s < ((q.M.length : Nat) : Int)) with x3 | x3
            · have hR : R = false := by
                have : grpHead s q = false := by rw [Bool.eq_false_iff]; intro h; have := hH.1 h; omega
                rw [unhide HP2, unhide HI2, this]; rfl
              subst hR
              clear hH
              go_wp2_with fail
              go_ret
              exact ⟨rfl, bw.alloc bw.size _⟩
            have x2b : (((q.M.length : Nat) : Int) % 2 == 0) = false := by simp; omega
            have hgh : grpHead s q = (decide (1 ≤ q.Z) && decide (q.Z ≤ 1000000000)) := by
              rw [Bool.eq_iff_iff, hH]
              simp
              omega
            rw [hgh] at HI2
            clear hH hgh
            generalize (decide (1 ≤ q.Z) && decide (q.Z ≤ 1000000000)) = bz at LZ HI2
            cases bz with
            | false =>
              have hR : R = false := by rw [unhide HP2, unhide HI2]; rfl
              subst hR
              go_wp2_with fail
              refine (unhide LZ _).mono ?_
              rintro e w4 ⟨rfl, rfl⟩
              go_wp2_with fail
              go_ret
              exact ⟨rfl, bw.alloc bw.size _⟩
            | true =>
              go_wp2_with fail
              refine (unhide LZ _).mono ?_
              rintro e w4 ⟨rfl, rfl⟩
              go_wp2_with fail
              have bx : Below wr.heap.size wr (wr.alloc (Obj.cells #[Value.slice a2 q.M.length c2, Value.int .i64 q.Z] 136)) := below_new _ _
              have ux : Blk (wr.alloc (Obj.cells #[Value.slice a2 q.M.length c2, Value.int .i64 q.Z] 136)) wr.heap.size #[Value.slice a2 q.M.length c2, Value.int .i64 q.Z] 136 := Blk.new0
              generalize wr.alloc (Obj.cells #[Value.slice a2 q.M.length c2, Value.int .i64 q.Z] 136) = V7 at bx ux ⊢
              obtain ⟨N7, hN7⟩ : ∃ N, N = wr.heap.size := ⟨_, rfl⟩
              have b7 := hbr.trans (bx.mono hbr.size)
              have z7 := ux.lt
              rw [← hN7] at ux z7 ⊢
              have HU7 := hide ux
              have HB7 := hide b7
              have h7 : w.heap.size + 1 < N7 := by omega
              clear hN7 bx ux b7 p0 p2 d0 d1 bw hbr hne0 hlt0 hzr LZ wr
              go_loopw [8] (fun j wr => ∃ k : Nat, j = .int .i64 (k : Int) ∧ k ≤ q.M.length ∧ Hid (memOk s none q.M = memOk s (prevI q.M k) (q.M.drop k)) ∧ Below V7.heap.size V7 wr) (fun j _ => q.M.length - (intOf j).toNat)
              case atStart => exact ⟨0, rfl, Nat.zero_le _, rfl, Below.refl _ _⟩
              case round =>
                obtain ⟨k, rfl, hk, HK, hb8⟩ := hrel
                have b8 := (unhide HB7).trans (hb8.mono (unhide HB7).size)
                have bw := b3.trans (b8.mono b3.size)
                have hz8 := hb8.size
                have p7 : wr.cell? ⟨N7, 0, none⟩ = some (.slice a2 q.M.length c2) := ((unhide HU7).below hb8).cell 0 _ rfl
                by_cases hlt8 : k < q.M.length
                · obtain ⟨bm, om, rfl, hbm, g0⟩ := (unhide HIA).2 k hlt8
                  have HPV : Hid (∀ k', k = k' + 1 → ∃ y, prevI q.M k = some y ∧ w.cell? ⟨bm, om + k', none⟩ = some (.int .i64 y)) := fun k' hk' => by
                    obtain ⟨bm', om', e', _, g'⟩ := (unhide HIA).2 k' (by omega)
                    simp at e'
                    obtain ⟨rfl, rfl⟩ := e'
                    refine ⟨q.M[k']'(by omega), ?_, g'⟩
                    unfold prevI
                    rw [if_neg (by omega), show k - 1 = k' by omega]
                    simp
                  have HPZ : Hid (k = 0 → prevI q.M k = none) := fun h => by unfold prevI; rw [if_pos h]
                  have HK2 := hide ((unhide HK).trans (memOk_step s q.M k hlt8))
                  have LI := hide (fun w => l01In_is q.M[k] 0 (s - 1) w)
                  generalize q.M[k] = x at g0 HK2 LI
                  generalize prevI q.M k = pv at HPV HPZ HK2
                  generalize (decide (0 ≤ x) && decide (x ≤ s - 1)) = bx at LI HK2
                  have ws : IntKind.i64.wrap (s - 1) = s - 1 := wrap_in _ (by omega)
                  have hkn : (k : Int) < ((q.M.length : Nat) : Int) := by omega
                  have A0 : ∀ d : Grown wr.heap.size wr, d.w.cell? ⟨w.heap.size, 0, none⟩ = some (.int .i64 s) := fun d => d.cell (by omega) (((unhide HM0).below b8).cell 0 _ rfl)
                  have A7 : ∀ d : Grown wr.heap.size wr, d.w.cell? ⟨N7, 0, none⟩ = some (.slice (some ⟨bm, om, none⟩) q.M.length c2) := fun d => d.cell (by omega) p7
                  have X0 : ∀ d : Grown wr.heap.size wr, d.w.cell? ⟨bm, om + k, none⟩ = some (.int .i64 x) := fun d => d.cell (by omega) ((bw.cell (p := ⟨bm, om + k, none⟩) (by simp; omega)).trans g0)
                  cases bx with
                  | false =>
                    have hR : R = false := by rw [unhide HP2, unhide HI2, unhide HK2]; rfl
                    subst hR
                    go_wp2_with fail
                    refine wp_region_grown wr.heap.size (by kernel_rfl) (by kernel_rfl) ?_
                    repeat (go_big_quiet_step (first | (go_at_call 39; exact Calls.grown_same (unhide LI _))))
                    refine wpQuiet_nil ?_
                    rintro w9 ⟨d9, rfl⟩
                    go_wp2_with fail
                    go_ret
                    exact ⟨rfl, bw.trans (d9.below.mono bw.size)⟩
                  | true =>
                    rcases Nat.eq_zero_or_pos k with hk0 | hk0
                    · have hpv := unhide HPZ hk0
                      subst hpv
                      have hk00 : ¬ (0 : Int) < (k : Int) := by omega
                      have hk0b : decide ((0 : Int) < (k : Int)) = false := decide_eq_false hk00
                      have hk0n : ¬ 0 < k := by omega
                      have hk0m : decide (0 < k) = false := decide_eq_false hk0n
                      have HK0 := hide hk0
                      clear hk0
                      go_wp2_with fail
                      refine wp_region_grown wr.heap.size (by kernel_rfl) (by kernel_rfl) ?_
                      repeat (go_big_quiet_step (first | (go_at_call 39; exact Calls.grown_same (unhide LI _))))
                      refine wpQuiet_nil ?_
                      rintro w9 ⟨d9, rfl⟩
                      go_wp2_with fail
                      exact ⟨⟨k + 1, by go_num, by omega, unhide HK2, hb8.trans (d9.below.mono hb8.size)⟩, by simp [intOf]; omega⟩
                    · obtain ⟨k', hk'⟩ : ∃ k', k = k' + 1 := ⟨k - 1, by omega⟩
                      obtain ⟨y, hpv, gy⟩ := unhide HPV k' hk'
                      subst hpv
                      have hk00 : (0 : Int) < (k : Int) := by omega
                      have wk : IntKind.i64.wrap ((k : Int) - 1) = (k' : Int) := by rw [wrap_in _ (by omega)]; omega
                      have hkn' : (k' : Int) < ((q.M.length : Nat) : Int) := by omega
                      have X1 : ∀ d : Grown wr.heap.size wr, d.w.cell? ⟨bm, om + k', none⟩ = some (.int .i64 y) := fun d => d.cell (by omega) ((bw.cell (p := ⟨bm, om + k', none⟩) (by simp; omega)).trans gy)
                      clear hk' HPV HPZ gy
                      rcases Decidable.em (x ≤ y) with ty | ty
                      · have hR : R = false := by
                          rw [unhide HP2, unhide HI2, unhide HK2]
                          simp only [decide_eq_false (show ¬ y < x by omega)]
                          rfl
                        subst hR
                        have tyb : decide (x ≤ y) = true := decide_eq_true ty
                        go_wp2_with fail
                        refine wp_region_grown wr.heap.size (by kernel_rfl) (by kernel_rfl) ?_
                        repeat (go_big_quiet_step (first | (go_at_call 39; exact Calls.grown_same (unhide LI _))))
                        refine wpQuiet_nil ?_
                        rintro w9 ⟨d9, rfl⟩
                        go_wp2_with fail
                        go_ret
                        exact ⟨rfl, bw.trans (d9.below.mono bw.size)⟩
                      · have HK3 : Hid (memOk s none q.M = memOk s (prevI q.M (k + 1)) (q.M.drop (k + 1))) := by
                          show _ = _
                          rw [unhide HK2]
                          simp only [decide_eq_true (show y < x by omega)]
                          rfl
                        have tyb : decide (x ≤ y) = false := decide_eq_false ty
                        go_wp2_with fail
                        refine wp_region_grown wr.heap.size (by kernel_rfl) (by kernel_rfl) ?_
                        repeat (go_big_quiet_step (first | (go_at_call 39; exact Calls.grown_same (unhide LI _))))
                        refine wpQuiet_nil ?_
                        rintro w9 ⟨d9, rfl⟩
                        go_wp2_with fail
                        exact ⟨⟨k + 1, by go_num, by omega, unhide HK3, hb8.trans (d9.below.mono hb8.size)⟩, by simp [intOf]; omega⟩
                · obtain rfl : k = q.M.length := by omega
                  have hmk : memOk s none q.M = true := by rw [unhide HK, List.drop_length]; cases prevI q.M q.M.length <;> rfl
                  have HI3 : Hid (grpsOk s [] G = (nestAll q.M (G.take i) && grpsOk s (G.take (i + 1)) (G.drop (i + 1)))) := by show _ = _; rw [unhide HI2, hmk]; rfl
                  clear hmk HK HI2
                  go_wp2_with fail
                  have HB8 := hide b8
                  have HU8 := hide ((unhide HU7).below hb8)
                  clear p7 bw b8 hb8 hz8
                  have HLI : Hid ((G.take i).length = i) := by show _ = _; rw [List.length_take]; omega
                  have HGI : Hid (∀ j (h : j < (G.take i).length), ∃ h' : j < G.length, (G.take i)[j] = G[j]) := fun j h => ⟨by rw [List.length_take] at h; omega, List.getElem_take⟩
                  have HNS := hide (fun j h => nestAll_step q.M (G.take i) j h)
                  have HN0 : Hid (nestAll q.M (G.take i) = nestAll q.M ((G.take i).drop 0)) := rfl
                  have HNE : Hid (nestAll q.M ((G.take i).drop i) = true) := by
                    show _ = _
                    have e0 : (G.take i).drop i = [] := List.drop_eq_nil_of_le (by rw [unhide HLI]; exact Nat.le_refl _)
                    rw [e0]
                    rfl
                  generalize G.take i = D at HLI HGI HNS HN0 HNE HI3
                  go_loopw [9] (fun j wr => ∃ k : Nat, j = .int .i64 (k : Int) ∧ k ≤ i ∧ Hid (nestAll q.M D = nestAll q.M (D.drop k)) ∧ Below w3.heap.size w3 wr ∧ Blk wr N7 #[Value.slice a2 q.M.length c2, Value.int .i64 q.Z] 136) (fun j _ => i - (intOf j).toNat)
                  case atStart => exact ⟨0, rfl, Nat.zero_le _, unhide HN0, unhide HB8, unhide HU8⟩
                  case round =>
                    obtain ⟨k, rfl, hk, HK, b8, u8⟩ := hrel
                    have bw := b3.trans (b8.mono b3.size)
                    have z8 := u8.lt
                    by_cases hlt9 : k < i
                    · have hkD : k < D.length := by have := unhide HLI; omega
                      obtain ⟨hkG, ekG⟩ := unhide HGI k hkD
                      obtain ⟨b', off', a3, c3, e', hb', g0, _, hI3⟩ := unhide HCG k hkG
                      simp at e'
                      obtain ⟨rfl, rfl⟩ := e'
                      have HK2 := hide ((unhide HK).trans (unhide HNS k hkD))
                      rw [ekG] at HK2
                      have hM3 := unhide L3 _ (List.getElem_mem hkG)
                      have NE : Hid (∀ d : Grown wr.heap.size wr, Calls Tryz.prog 133 #[.slice a3 G[k].M.length c3, .slice a2 q.M.length c2] d.w fun e w' => e = .returned (.bool (nested G[k].M q.M)) ∧ w' = d.w) := fun d =>
                        specNested_any a3 a2 c3 c2 B G[k].M q.M hM3 hM d.w (hI3.below (bw.trans (d.below.mono bw.size)) hB) ((unhide HIA).below (bw.trans (d.below.mono bw.size)) hB)
                      generalize G[k] = q3 at g0 HK2 NE
                      generalize nested q3.M q.M = nb at NE HK2
                      have hkn : (k : Int) < ((G.length : Nat) : Int) := by omega
                      have A1 : ∀ d : Grown wr.heap.size wr, d.w.cell? ⟨w.heap.size + 1, 1, none⟩ = some (.slice (some ⟨b, off, none⟩) G.length c') := fun d => d.cell (by omega) (((unhide HM1).below b8).cell 1 _ rfl)
                      have A7 : ∀ d : Grown wr.heap.size wr, d.w.cell? ⟨N7, 0, none⟩ = some (.slice a2 q.M.length c2) := fun d => d.cell (by omega) (u8.cell 0 _ rfl)
                      have X0 : ∀ d : Grown wr.heap.size wr, d.w.cell? ⟨b, off + k * 2, none⟩ = some (.slice a3 q3.M.length c3) := fun d => d.cell (by omega) ((bw.cell (p := ⟨b, off + k * 2, none⟩) (by simp; omega)).trans g0)
                      clear g0 hI3
                      cases nb with
                      | false =>
                        have hR : R = false := by rw [unhide HP2, unhide HI3, unhide HK2]; rfl
                        subst hR
                        go_wp2_with fail
                        refine wp_region_grown wr.heap.size (by kernel_rfl) (by kernel_rfl) ?_
                        repeat (go_big_quiet_step (first | (go_at_call 133; exact Calls.grown_same (unhide NE _))))
                        refine wpQuiet_nil ?_
                        rintro w9 ⟨d9, rfl⟩
                        go_wp2_with fail
                        go_ret
                        exact ⟨rfl, bw.trans (d9.below.mono bw.size)⟩
                      | true =>
                        go_wp2_with fail
                        refine wp_region_grown wr.heap.size (by kernel_rfl) (by kernel_rfl) ?_
                        repeat (go_big_quiet_step (first | (go_at_call 133; exact Calls.grown_same (unhide NE _))))
                        refine wpQuiet_nil ?_
                        rintro w9 ⟨d9, rfl⟩
                        go_wp2_with fail
                        exact ⟨⟨k + 1, by go_num, by omega, unhide HK2, b8.trans (d9.below.mono b8.size), u8.below d9.below⟩, by simp [intOf]; omega⟩
                    · obtain rfl : k = i := by omega
                      have HI4 : Hid (grpsOk s [] G = grpsOk s (G.take (k + 1)) (G.drop (k + 1))) := by show _ = _; rw [unhide HI3, unhide HK, unhide HNE]; rfl
                      go_wp2_with fail
                      exact ⟨⟨k + 1, by go_num, by omega, unhide HI4, b8⟩, by simp [intOf]; omega⟩
          · obtain rfl : i = G.length := by omega
            have hgk : grpsOk s [] G = true := by rw [unhide HI, List.drop_length]; cases G.take G.length <;> rfl
            have HQQ := hide (grpsOk_at s G [] hgk)
            have HP3 : Hid (R = slacksOk Y G (Q.drop 0)) := by show _ = _; rw [unhide HP2, hgk]; rfl
            clear hgk HP2 HI
            have SLK := hide (unhide SL (unhide HT1) hs9 (unhide HYY) (unhide HQQ) t2)
            have p5 : wr.cell? ⟨w.heap.size, 1, none⟩ = some (.slice a0 Q.length c0) := ((unhide HM0).below hbr).cell 1 _ rfl
            go_wp2_with fail
            have HB5 := hide hbr
            clear p0 p2 p5 bw hbr hzr hne0 hlt0
            go_loopw [10] (fun j wr => ∃ k : Nat, j = .int .i64 (k : Int) ∧ k ≤ Q.length ∧ Hid (R = slacksOk Y G (Q.drop k)) ∧ Below w3.heap.size w3 wr) (fun j _ => Q.length - (intOf j).toNat)
            case atStart => exact ⟨0, rfl, Nat.zero_le _, unhide HP3, unhide HB5⟩
            case round =>
              obtain ⟨k, rfl, hk, HK, hb8⟩ := hrel
              have bw := b3.trans (hb8.mono b3.size)
              have hz8 := hb8.size
              have p5 : wr.cell? ⟨w.heap.size, 1, none⟩ = some (.slice a0 Q.length c0) := ((unhide HM0).below hb8).cell 1 _ rfl
              by_cases hlt5 : k < Q.length
              · obtain ⟨be, oe, rfl, hbe, g0, g1, g2, g3, g4⟩ := unhide HCE k hlt5
                have SE := hide (fun w1 hb => unhide SLK Q[k] (unhide HEK _ (List.getElem_mem hlt5)) w1 hb)
                have HK2 := hide ((unhide HK).trans (slacksOk_step Y G Q k hlt5))
                generalize Q[k] = eg at g0 g1 g2 g3 g4 SE HK2
                generalize slackI Y G eg = sl at SE HK2
                obtain ⟨y0, y1, y2, y3, y4⟩ := eg
                unfold EdgeI.v at SE
                simp only at g0 g1 g2 g3 g4 SE
                have hkn : (k : Int) < ((Q.length : Nat) : Int) := by omega
                have A1 : ∀ d : Grown wr.heap.size wr, d.w.cell? ⟨w.heap.size, 1, none⟩ = some (.slice (some ⟨be, oe, none⟩) Q.length c0) := fun d => d.cell (by omega) p5
                have P1 : ∀ d : Grown wr.heap.size wr, d.w.cell? ⟨w.heap.size + 1, 0, none⟩ = some (.slice a Y.length c) := fun d => d.cell (by omega) (((unhide HM1).below hb8).cell 0 _ rfl)
                have P2 : ∀ d : Grown wr.heap.size wr, d.w.cell? ⟨w.heap.size + 1, 1, none⟩ = some (.slice a' G.length c') := fun d => d.cell (by omega) (((unhide HM1).below hb8).cell 1 _ rfl)
                have D0 : ∀ d : Grown wr.heap.size wr, d.w.cell? ⟨be, oe + k * 5, none⟩ = some (.int .i64 y0) := fun d => d.cell (by omega) ((bw.cell (p := ⟨be, oe + k * 5, none⟩) (by simp; omega)).trans g0)
                have D1 : ∀ d : Grown wr.heap.size wr, d.w.cell? ⟨be, oe + k * 5 + 1, none⟩ = some (.int .i64 y1) := fun d => d.cell (by omega) ((bw.cell (p := ⟨be, oe + k * 5 + 1, none⟩) (by simp; omega)).trans g1)
                have D2 : ∀ d : Grown wr.heap.size wr, d.w.cell? ⟨be, oe + k * 5 + 2, none⟩ = some (.int .i64 y2) := fun d => d.cell (by omega) ((bw.cell (p := ⟨be, oe + k * 5 + 2, none⟩) (by simp; omega)).trans g2)
                have D3 : ∀ d : Grown wr.heap.size wr, d.w.cell? ⟨be, oe + k * 5 + 3, none⟩ = some (.int .i64 y3) := fun d => d.cell (by omega) ((bw.cell (p := ⟨be, oe + k * 5 + 3, none⟩) (by simp; omega)).trans g3)
                have D4 : ∀ d : Grown wr.heap.size wr, d.w.cell? ⟨be, oe + k * 5 + 4, none⟩ = some (.int .i64 y4) := fun d => d.cell (by omega) ((bw.cell (p := ⟨be, oe + k * 5 + 4, none⟩) (by simp; omega)).trans g4)
                have SD : Hid (∀ d : Grown wr.heap.size wr, Calls Tryz.prog 134 #[.agg #[.slice a Y.length c, .slice a' G.length c'], .agg #[.int .i64 y0, .int .i64 y1, .int .i64 y2, .int .i64 y3, .int .i64 y4]] d.w fun r w' => r = .returned (.int .i64 sl) ∧ Below d.w.heap.size d.w w') := fun d => unhide SE d.w (bw.trans (d.below.mono bw.size))
                clear g0 g1 g2 g3 g4 SE
                go_wp2_with fail
                clear p5
                refine wp_region_grown wr.heap.size (by kernel_rfl) (by kernel_rfl) ?_
                repeat (go_big_quiet_step (first | (go_at_call 134; exact Calls.grown (Nat.le_refl _) (unhide SD _))))
                refine wpQuiet_nil ?_
                rintro w9 ⟨d9, rfl⟩
                clear A1 P1 P2 D0 D1 D2 D3 D4
                rcases Decidable.em (sl < 0) with ts | ts
                · have hR : R = false := by rw [unhide HK2, decide_eq_false (by omega)]; rfl
                  subst hR
                  go_wp2_with fail
                  go_ret
                  exact ⟨rfl, bw.trans (d9.below.mono bw.size)⟩
                · have HK3 : Hid (R = slacksOk Y G (Q.drop (k + 1))) := by show _ = _; rw [unhide HK2, decide_eq_true (by omega)]; rfl
                  go_wp2_with fail
                  exact ⟨⟨k + 1, by go_num, by omega, unhide HK3, hb8.trans (d9.below.mono hb8.size)⟩, by simp [intOf]; omega⟩
              · obtain rfl : k = Q.length := by omega
                have hR : R = true := by rw [unhide HK, List.drop_length]; rfl
                subst hR
                go_wp2_with fail
                go_ret
                exact ⟨rfl, bw⟩
end Gr
end Go.Proofs.YtjblkijicfmkgaaGreatDoor

/-
  The contracts of spec.Bound, spec.l11Worth and spec.Certifies.
-/
namespace Go.Proofs.YtjblkijicfmkgaaGreatDoor
namespace Gr
open Go.RowKit

theorem proof_sound {s : Int} {Q : List EdgeI} {Y : List Int} {G : List GrpI} (h : proofOk s Q Y G = true) : graphOk s Q = true ∧ (Y.length : Int) = s ∧ s ≤ 9 ∧ G.length ≤ 8 ∧ (∀ y ∈ Y, 0 ≤ y ∧ y ≤ 1000000000) ∧ (∀ q ∈ G, grpHead s q = true) := by
  unfold proofOk at h
  simp only [Bool.and_eq_true, decide_eq_true_eq] at h
  obtain ⟨h1, h2, h3, h4, h5, _⟩ := h
  exact ⟨h1, h2, (graph_sound h1).2.1, h3, yOk_at Y h4, grpsOk_at s G [] h5⟩

theorem sum_bounds {s : Int} {Q : List EdgeI} {Y : List Int} {G : List GrpI} (h : proofOk s Q Y G = true) : 0 ≤ sumI Y G ∧ sumI Y G ≤ 41000000000 := by
  obtain ⟨_, h1, h9, h8, hY, hG⟩ := proof_sound h
  have a1 := ySum_bounds Y 0 hY
  have a2 := gSum_bounds h9 G (ySum 0 Y) hG
  unfold sumI
  omega

set_option maxRecDepth 100000 in
set_option maxHeartbeats 2000000 in
theorem specWorth_any (B : Nat) (v : Value) (s : Int) (Q : List EdgeI) (u : Value) (M : List CoupleI) (hok : matchOk s Q M = true) (h1 : Q.length ≤ 1048576) (w : World) (hB : B ≤ w.heap.size) (hv : GrAt w v B s Q) (hu : CoAt w u B M) :
    Calls Tryz.prog 114 #[v, u] w fun e w' => e = .returned (.int .i64 (wsum (sums Q M))) ∧ Below w.heap.size w w' := by
  have AT := hide (fun x y w1 (hb : Below w.heap.size w w1) => specAt_any v B s x y Q h1 w1 (by have := hb.size; omega) (hv.below hb hB))
  obtain ⟨a0, n0, c0, rfl, hE⟩ := hv
  obtain ⟨hL0, hc0⟩ := hE
  obtain ⟨a, c, rfl, hM⟩ := hu
  obtain ⟨_, hc⟩ := hM
  obtain ⟨hg, h9, hm⟩ := match_sound hok
  have HED : Hid (∀ k (h : k < M.length), ∃ i, ∃ h' : i < Q.length, atFrom M[k].A M[k].B 0 Q = (i : Int) ∧ edgeN Q (atFrom M[k].A M[k].B 0 Q) = Q[i] ∧ edgeOk s Q[i] = true) := fun k h => by
    obtain ⟨i, hi, e1, e2, _⟩ := edgeN_at (mFrom_at Q M none [] hm _ (List.getElem_mem h))
    exact ⟨i, hi, e1, e2, (graph_sound hg).2.2.1 _ (List.getElem_mem hi)⟩
  have HST := hide (fun s k h => sumsFrom_step Q M s k h)
  have HEND : Hid (∀ s, sumsFrom Q s (M.drop M.length) = s) := fun s => by rw [List.drop_length]; rfl
  have H0 : Hid (sums Q M = sumsFrom Q ⟨0, 0, 0⟩ (M.drop 0)) := rfl
  generalize sums Q M = T at H0 ⊢
  have HC0 := hide hc0
  have HL0 := hide hL0
  have HC := hide hc
  obtain ⟨n, hn⟩ : ∃ n, M.length = n := ⟨_, rfl⟩
  rw [hn] at HEND h9
  rw [hn]
  have HN := hide hn
  have HN0 : Hid (n0 ≤ 1048576) := by show _ ≤ _; omega
  clear hc0 hL0 hc hok hm hg h1 hn
  go_enter Tryz.func114, Tryz.ntmps114
  go_wp2_with fail
  obtain ⟨V1, hV1⟩ : ∃ W, W = w.alloc (Obj.cells #[Value.int .i64 s, Value.slice a0 n0 c0] 54) := ⟨_, rfl⟩
  rw [← hV1]
  have b1 : Below w.heap.size w V1 := by rw [hV1]; exact below_new _ _
  have x1 : GBox V1 w.heap.size s (.slice a0 n0 c0) := by rw [hV1]; exact GBox.new _ _ _
  have hx1l := x1.lt
  have HX1 := hide x1
  clear hV1 x1
  go_loopw [5, 6] (fun nn i wr => ∃ (j : Nat) (t : SumsI) (N : Int), i = .int .i64 (j : Int) ∧ nn = .int .i64 N ∧ Hid (N = wsum t) ∧ j ≤ n ∧ Hid (T = sumsFrom Q t (M.drop j)) ∧ Hid (SB t (j : Int)) ∧ Below V1.heap.size V1 wr) (fun _ i _ => n - (intOf i).toNat)
  case atStart => exact ⟨0, ⟨0, 0, 0⟩, 0, rfl, rfl, rfl, Nat.zero_le _, unhide H0, SB.zero _ (by omega), Below.refl _ _⟩
  case round =>
    obtain ⟨j, t, N, rfl, rfl, HNE, hj, HR, HSB, hb⟩ := hrel
    have b4 : Below w.heap.size w wr := b1.trans (hb.mono b1.size)
    by_cases hlt : j < n
    · have hjL : j < M.length := by have := unhide HN; omega
      obtain ⟨b, off, rfl, hbB, c0', c1'⟩ := unhide HC j hjL
      obtain ⟨i, hiQ, e1, e2, heok⟩ := unhide HED j hjL
      obtain ⟨b', off', rfl, hbB', d0, d1, d2, d3, d4⟩ := unhide HC0 i hiQ
      have hr := (unhide HR).trans (unhide HST t j hjL)
      have AT1 := hide (unhide AT M[j].A M[j].B)
      have hsn := (unhide HSB).add heok
      have hws := wsum_add (unhide HSB) (by omega) heok
      rw [e1] at AT1
      rw [e2] at hr
      generalize M[j] = mm at c0' c1' AT1
      have SC := hide (fun w => specScalar_any Q[i] w)
      generalize Q[i] = q at d0 d1 d2 d3 d4 hr hsn SC hws
      rw [← unhide HNE] at hws
      obtain ⟨hws0, hws1, hws2, hws3, hws4⟩ := hws
      generalize scal q = sc at SC hws0 hws1 hws2
      obtain ⟨m0, m1⟩ := mm
      obtain ⟨y0, y1, y2, y3, y4⟩ := q
      unfold EdgeI.v at SC
      simp only at c0' c1' AT1 d0 d1 d2 d3 d4 SC
      have HSN := hide hsn
      have HRN := hide hr
      have hx1 : (j : Int) < (n : Int) := by omega
      have hi1 : (i : Int) < (n0 : Int) := by have := unhide HL0; omega
      obtain ⟨p0, p1⟩ := ((unhide HX1).below hb).cells
      have hgl : w.heap.size < wr.heap.size := by have := hb.size; omega
      have hbl : b < wr.heap.size := by have := b4.size; omega
      have hbl' : b' < wr.heap.size := by have := b4.size; omega
      have k0 : ∀ d : Grown wr.heap.size wr, d.w.cell? ⟨w.heap.size, 0, none⟩ = some (.int .i64 s) := fun d => d.cell hgl p0
      have k1 : ∀ d : Grown wr.heap.size wr, d.w.cell? ⟨w.heap.size, 1, none⟩ = some (.slice (some ⟨b', off', none⟩) n0 c0) := fun d => d.cell hgl p1
      have k2 : ∀ d : Grown wr.heap.size wr, d.w.cell? ⟨b, off + j * 2, none⟩ = some (.int .i64 m0) := fun d => d.cell hbl ((b4.cell (p := ⟨b, off + j * 2, none⟩) (by simp; omega)).trans c0')
      have k3 : ∀ d : Grown wr.heap.size wr, d.w.cell? ⟨b, off + j * 2 + 1, none⟩ = some (.int .i64 m1) := fun d => d.cell hbl ((b4.cell (p := ⟨b, off + j * 2 + 1, none⟩) (by simp; omega)).trans c1')
      have D0 : ∀ d : Grown wr.heap.size wr, d.w.cell? ⟨b', off' + i * 5, none⟩ = some (.int .i64 y0) := fun d => d.cell hbl' ((b4.cell (p := ⟨b', off' + i * 5, none⟩) (by simp; omega)).trans d0)
      have D1 : ∀ d : Grown wr.heap.size wr, d.w.cell? ⟨b', off' + i * 5 + 1, none⟩ = some (.int .i64 y1) := fun d => d.cell hbl' ((b4.cell (p := ⟨b', off' + i * 5 + 1, none⟩) (by simp; omega)).trans d1)
      have D2 : ∀ d : Grown wr.heap.size wr, d.w.cell? ⟨b', off' + i * 5 + 2, none⟩ = some (.int .i64 y2) := fun d => d.cell hbl' ((b4.cell (p := ⟨b', off' + i * 5 + 2, none⟩) (by simp; omega)).trans d2)
      have D3 : ∀ d : Grown wr.heap.size wr, d.w.cell? ⟨b', off' + i * 5 + 3, none⟩ = some (.int .i64 y3) := fun d => d.cell hbl' ((b4.cell (p := ⟨b', off' + i * 5 + 3, none⟩) (by simp; omega)).trans d3)
      have D4 : ∀ d : Grown wr.heap.size wr, d.w.cell? ⟨b', off' + i * 5 + 4, none⟩ = some (.int .i64 y4) := fun d => d.cell hbl' ((b4.cell (p := ⟨b', off' + i * 5 + 4, none⟩) (by simp; omega)).trans d4)
      have A2 : Hid (∀ d : Grown wr.heap.size wr, Calls Tryz.prog 64 #[.agg #[.int .i64 s, .slice (some ⟨b', off', none⟩) n0 c0], .int .i64 m0, .int .i64 m1] d.w fun e w' => e = .returned (.int .i64 (i : Int)) ∧ Below d.w.heap.size d.w w') := fun d => unhide AT1 d.w (b4.trans (d.below.mono b4.size))
      have wn : IntKind.i64.wrap (N + sc) = N + sc := wrap_in _ (by omega)
      have HWS : Hid (N + sc = wsum (addS t ⟨y0, y1, y2, y3, y4⟩)) := hws0.symm
      have HB := hide hb
      clear hr HR hsn p0 p1 c0' c1' d0 d1 d2 d3 d4 hb HNE AT1 hws0
      go_upto_region 5 with fail
      refine wp_region_grown wr.heap.size (by kernel_rfl) (by kernel_rfl) ?_
      repeat (go_big_quiet_step (first
        | (go_at_call 64; exact Calls.grown (Nat.le_refl _) (unhide A2 _))
        | (go_at_call 135; exact Calls.grown (Nat.le_refl _) (unhide SC _))))
      refine wpQuiet_nil ?_
      rintro w5 ⟨d5, rfl⟩
      clear k0 k1 k2 k3 D0 D1 D2 D3 D4
      go_wp2_with fail
      exact ⟨⟨j + 1, _, _, by go_num, rfl, unhide HWS, by omega, unhide HRN, unhide HSN, (unhide HB).trans (d5.below.mono (unhide HB).size)⟩, by simp [intOf]; omega⟩
    · obtain rfl : j = n := by omega
      have hT := (unhide HR).trans (unhide HEND t)
      subst hT
      have hN := unhide HNE
      subst hN
      go_wp2_with fail
      go_ret
      exact ⟨rfl, b4⟩
end Gr
end Go.Proofs.YtjblkijicfmkgaaGreatDoor

/-
  The contract of spec.Certifies.
-/
namespace Go.Proofs.YtjblkijicfmkgaaGreatDoor
namespace Gr
open Go.RowKit

/-- What Certifies tells. -/
def certR (s : Int) (Q : List EdgeI) (M : List CoupleI) (Y : List Int) (G : List GrpI) : Bool := proofOk s Q Y G && (matchOk s Q M && decide (2 * wsum (sums Q M) = sumI Y G))

theorem sums_range {s : Int} {Q : List EdgeI} {M : List CoupleI} (h : matchOk s Q M = true) : 0 ≤ wsum (sums Q M) ∧ wsum (sums Q M) ≤ 90000000 := by
  obtain ⟨hg, h9, hm⟩ := match_sound h
  have key : ∀ (L : List CoupleI) (t : SumsI) (n : Int), SB t n → (∀ x ∈ L, 0 ≤ atFrom x.A x.B 0 Q) → SB (sumsFrom Q t L) (n + (L.length : Int)) := by
    intro L
    induction L with
    | nil => intro t n ht _; simpa [sumsFrom] using ht
    | cons x r ih =>
      intro t n ht hx
      have h1 := ih _ (n + 1) (ht.add (edgeN_ok hg (hx x List.mem_cons_self))) (fun y hy => hx y (List.mem_cons_of_mem _ hy))
      show SB (sumsFrom Q _ r) _
      rw [List.length_cons]
      exact h1.mono (by omega)
  have := key M ⟨0, 0, 0⟩ 0 (SB.zero _ (by omega)) (mFrom_at Q M none [] hm)
  unfold SB at this
  unfold wsum sums
  omega

set_option maxRecDepth 100000 in
set_option maxHeartbeats 2000000 in
theorem specCert_gen (B : Nat) (v : Value) (s : Int) (Q : List EdgeI) (m : Value) (M : List CoupleI) (u : Value) (Y : List Int) (G : List GrpI) (h1 : Q.length ≤ 1048576) (h3 : M.length ≤ 1048576) (h2 : psize Y G ≤ 1048576) (w : World) (hB : B ≤ w.heap.size) (hv : GrAt w v B s Q) (hm : CoAt w m B M) (hu : PrAt w u B Y G) :
    Calls Tryz.prog 97 #[v, m, u] w fun e w' => e = .returned (.bool (certR s Q M Y G)) ∧ Below w.heap.size w w' := by
  have PK := hide (fun w1 (hb : Below w.heap.size w w1) => specProof_gen B v s Q u Y G h1 h2 w1 (by have := hb.size; omega) (hv.below hb hB) (hu.below hb hB))
  have SM := hide (fun (h : proofOk s Q Y G = true) w1 (hb : Below w.heap.size w w1) => specSum_any u B s Y G (proof_sound h).2.1 (proof_sound h).2.2.1 (proof_sound h).2.2.2.2.1 (proof_sound h).2.2.2.2.2 (proof_sound h).2.2.2.1 w1 (by have := hb.size; omega) (hu.below hb hB))
  have WM := hide (fun (h : matchOk s Q M = true) w1 (hb : Below w.heap.size w w1) => specWorth_any B v s Q m M h h1 w1 (by have := hb.size; omega) (hv.below hb hB) (hm.below hb hB))
  have MK : Hid (∀ w1, Below w.heap.size w w1 → Calls Tryz.prog 113 #[v, m] w1 fun e w' => e = .returned (.bool (matchOk s Q M)) ∧ Below w1.heap.size w1 w') := fun w1 hb => by
    obtain ⟨a, c, rfl, hM⟩ := hm
    exact specMatch_any v B s Q a M.length c M h1 h3 w1 (by have := hb.size; omega) (hv.below hb hB) (hM.below hb hB)
  have HBD : Hid (matchOk s Q M = true → 0 ≤ wsum (sums Q M) ∧ wsum (sums Q M) ≤ 90000000) := fun h => sums_range h
  have hV : certR s Q M Y G = (proofOk s Q Y G && (matchOk s Q M && decide (2 * wsum (sums Q M) = sumI Y G))) := rfl
  generalize certR s Q M Y G = V at hV ⊢
  generalize sumI Y G = S at SM hV
  generalize wsum (sums Q M) = T at WM HBD hV
  generalize proofOk s Q Y G = ok at PK SM hV
  generalize matchOk s Q M = mk at MK WM HBD hV
  obtain ⟨a0, n0, c0, rfl, _⟩ := hv
  obtain ⟨am, cm, rfl, _⟩ := hm
  obtain ⟨a, n, c, a', n', c', rfl, _⟩ := hu
  generalize M.length = nm at MK WM
  clear h1 h2 h3
  go_enter Tryz.func97, Tryz.ntmps97
  go_wp2_with fail
  obtain ⟨W1, hW1⟩ : ∃ W, W = (w.alloc (Obj.cells #[Value.int .i64 s, Value.slice a0 n0 c0] 54)).alloc (Obj.cells #[Value.slice a n c, Value.slice a' n' c'] 57) := ⟨_, rfl⟩
  rw [← hW1]
  have b1 : Below w.heap.size w W1 := by rw [hW1]; exact (below_new _ _).alloc (by simp) _
  have m0 : Blk W1 w.heap.size #[Value.int .i64 s, Value.slice a0 n0 c0] 54 := by rw [hW1]; exact Blk.new0.alloc
  have m1 : Blk W1 (w.heap.size + 1) #[Value.slice a n c, Value.slice a' n' c'] 57 := by rw [hW1]; exact Blk.new1
  clear hW1
  have z0 := m0.lt
  have z1 := m1.lt
  have k0 : ∀ d : Grown W1.heap.size W1, d.w.cell? ⟨w.heap.size, 0, none⟩ = some (.int .i64 s) := fun d => d.cell z0 (m0.cell 0 _ rfl)
  have k1 : ∀ d : Grown W1.heap.size W1, d.w.cell? ⟨w.heap.size, 1, none⟩ = some (.slice a0 n0 c0) := fun d => d.cell z0 (m0.cell 1 _ rfl)
  have k2 : ∀ d : Grown W1.heap.size W1, d.w.cell? ⟨w.heap.size + 1, 0, none⟩ = some (.slice a n c) := fun d => d.cell z1 (m1.cell 0 _ rfl)
  have k3 : ∀ d : Grown W1.heap.size W1, d.w.cell? ⟨w.heap.size + 1, 1, none⟩ = some (.slice a' n' c') := fun d => d.cell z1 (m1.cell 1 _ rfl)
  have HG : Hid (∀ d : Grown W1.heap.size W1, Below w.heap.size w d.w) := fun d => b1.trans (d.below.mono b1.size)
  have P2 : Hid (∀ d : Grown W1.heap.size W1, Calls Tryz.prog 112 #[.agg #[.int .i64 s, .slice a0 n0 c0], .agg #[.slice a n c, .slice a' n' c']] d.w fun e w' => e = .returned (.bool ok) ∧ Below d.w.heap.size d.w w') := fun d => unhide PK d.w (unhide HG d)
  have M2 : Hid (∀ d : Grown W1.heap.size W1, Calls Tryz.prog 113 #[.agg #[.int .i64 s, .slice a0 n0 c0], .slice am nm cm] d.w fun e w' => e = .returned (.bool mk) ∧ Below d.w.heap.size d.w w') := fun d => unhide MK d.w (unhide HG d)
  clear m0 m1 PK MK
  refine wp_region_grown W1.heap.size (by kernel_rfl) (by kernel_rfl) ?_
  cases ok with
  | false =>
    rw [Bool.false_and] at hV
    subst hV
    repeat (go_big_quiet_step (first
      | (go_at_call 112; exact Calls.grown (Nat.le_refl _) (unhide P2 _))))
    refine wpQuiet_nil ?_
    rintro w5 ⟨d5, rfl⟩
    go_wp2_with fail
    go_ret
    exact ⟨rfl, unhide HG d5⟩
  | true =>
    rw [Bool.true_and] at hV
    have S2 : Hid (∀ d : Grown W1.heap.size W1, Calls Tryz.prog 115 #[.agg #[.slice a n c, .slice a' n' c']] d.w fun e w' => e = .returned (.int .i64 S) ∧ Below d.w.heap.size d.w w') := fun d => unhide SM rfl d.w (unhide HG d)
    cases mk with
    | false =>
      rw [Bool.false_and] at hV
      subst hV
      repeat (go_big_quiet_step (first
        | (go_at_call 112; exact Calls.grown (Nat.le_refl _) (unhide P2 _))
        | (go_at_call 113; exact Calls.grown (Nat.le_refl _) (unhide M2 _))))
      refine wpQuiet_nil ?_
      rintro w5 ⟨d5, rfl⟩
      go_wp2_with fail
      go_ret
      exact ⟨rfl, unhide HG d5⟩
    | true =>
      rw [Bool.true_and] at hV
      obtain ⟨t0, t1⟩ := unhide HBD rfl
      have hw2 : IntKind.i64.wrap (2 * T) = 2 * T := wrap_in _ (by omega)
      have W2 : Hid (∀ d : Grown W1.heap.size W1, Calls Tryz.prog 114 #[.agg #[.int .i64 s, .slice a0 n0 c0], .slice am nm cm] d.w fun e w' => e = .returned (.int .i64 T) ∧ Below d.w.heap.size d.w w') := fun d => unhide WM rfl d.w (unhide HG d)
      have HV := hide hV
      clear hV
      repeat (go_big_quiet_step (first
        | (go_at_call 112; exact Calls.grown (Nat.le_refl _) (unhide P2 _))
        | (go_at_call 113; exact Calls.grown (Nat.le_refl _) (unhide M2 _))
        | (go_at_call 114; exact Calls.grown (Nat.le_refl _) (unhide W2 _))
        | (go_at_call 115; exact Calls.grown (Nat.le_refl _) (unhide S2 _))))
      refine wpQuiet_nil ?_
      rintro w5 ⟨d5, rfl⟩
      go_wp2_with fail
      go_ret
      refine ⟨?_, unhide HG d5⟩
      have h := unhide HV
      subst h
      first
        | rfl
        | (congr 2; rw [Bool.eq_iff_iff]; simp)
end Gr
end Go.Proofs.YtjblkijicfmkgaaGreatDoor

/-
  The bytes of a certificate.
-/
namespace Go.Proofs.YtjblkijicfmkgaaGreatDoor
namespace Gr
open Go.RowKit

def edgesB : ByteArray → List EdgeI → ByteArray
  | s, [] => s
  | s, e :: r => edgesB (((((s ++ vB e.A) ++ vB e.B) ++ vB e.W1) ++ vB e.W2) ++ vB e.W3) r

def couplesB : ByteArray → List CoupleI → ByteArray
  | s, [] => s
  | s, x :: r => couplesB ((s ++ vB x.A) ++ vB x.B) r

def intsB : ByteArray → List Int → ByteArray
  | s, [] => s
  | s, x :: r => intsB (s ++ vB x) r

def groupsB : ByteArray → List GrpI → ByteArray
  | s, [] => s
  | s, q :: r => groupsB ((intsB (s ++ vB (q.M.length : Int)) q.M) ++ vB q.Z) r

/-- The bytes of a certificate. -/
def certB (s : Int) (Q : List EdgeI) (M : List CoupleI) (Y : List Int) (G : List GrpI) : ByteArray :=
  groupsB (intsB (couplesB (edgesB (vB s ++ vB (Q.length : Int)) Q ++ vB (M.length : Int)) M) Y ++ vB (G.length : Int)) G

/-- What CertText tells. -/
def certT (s : Int) (Q : List EdgeI) (M : List CoupleI) (Y : List Int) (G : List GrpI) : ByteArray := if certR s Q M Y G = true then certB s Q M Y G else ⟨#[]⟩

/-- A certificate that can be read. -/
def CeAt (w : World) (v : Value) (B : Nat) (s : Int) (Q : List EdgeI) (M : List CoupleI) (Y : List Int) (G : List GrpI) : Prop :=
  ∃ a c a1 c1 a2 c2 a3 c3, v = .agg #[.int .i64 s, .slice a Q.length c, .slice a1 M.length c1, .slice a2 Y.length c2, .slice a3 G.length c3] ∧ GrAt w (.agg #[.int .i64 s, .slice a Q.length c]) B s Q ∧ CoAt w (.slice a1 M.length c1) B M ∧ PrAt w (.agg #[.slice a2 Y.length c2, .slice a3 G.length c3]) B Y G ∧ Q.length ≤ 9223372036854775807 ∧ M.length ≤ 9223372036854775807

theorem CeAt.below {w w' : World} {v : Value} {B C : Nat} {s : Int} {Q : List EdgeI} {M : List CoupleI} {Y : List Int} {G : List GrpI} (h : CeAt w v B s Q M Y G) (hb : Below C w w') (hC : B ≤ C) : CeAt w' v B s Q M Y G := by
  obtain ⟨a, c, a1, c1, a2, c2, a3, c3, rfl, h1, h2, h3, h4, h5⟩ := h
  exact ⟨a, c, a1, c1, a2, c2, a3, c3, rfl, h1.below hb hC, h2.below hb hC, h3.below hb hC, h4, h5⟩

theorem CeAt.mono {w : World} {v : Value} {B C : Nat} {s : Int} {Q : List EdgeI} {M : List CoupleI} {Y : List Int} {G : List GrpI} (h : CeAt w v B s Q M Y G) (hC : B ≤ C) : CeAt w v C s Q M Y G := by
  obtain ⟨a, c, a1, c1, a2, c2, a3, c3, rfl, h1, h2, h3, h4, h5⟩ := h
  exact ⟨a, c, a1, c1, a2, c2, a3, c3, rfl, h1.mono hC, h2.mono hC, h3.mono hC, h4, h5⟩

theorem CeAt.shape {w : World} {v : Value} {B : Nat} {s : Int} {Q : List EdgeI} {M : List CoupleI} {Y : List Int} {G : List GrpI} (h : CeAt w v B s Q M Y G) :
    ∃ a c a1 c1 a2 c2 a3 c3, v = .agg #[.int .i64 s, .slice a Q.length c, .slice a1 M.length c1, .slice a2 Y.length c2, .slice a3 G.length c3] := by
  obtain ⟨a, c, a1, c1, a2, c2, a3, c3, rfl, _⟩ := h
  exact ⟨a, c, a1, c1, a2, c2, a3, c3, rfl⟩

def CeOwn (w : World) (_B : Nat) (v : Value) (s : Int) (Q : List EdgeI) (M : List CoupleI) (Y : List Int) (G : List GrpI) : Prop := CeAt w v w.heap.size s Q M Y G

theorem CeOwn.at {w : World} {B : Nat} {v : Value} {s : Int} {Q : List EdgeI} {M : List CoupleI} {Y : List Int} {G : List GrpI} (h : CeOwn w B v s Q M Y G) : CeAt w v w.heap.size s Q M Y G := h

theorem CeOwn.below {w w' : World} {B : Nat} {v : Value} {s : Int} {Q : List EdgeI} {M : List CoupleI} {Y : List Int} {G : List GrpI} (h : CeOwn w B v s Q M Y G) (hb : Below w.heap.size w w') : CeOwn w' B v s Q M Y G := (CeAt.below h hb (Nat.le_refl _)).mono hb.size

def csize (Q : List EdgeI) (M : List CoupleI) (Y : List Int) (G : List GrpI) : Nat := min (Q.length + (M.length + psize Y G)) 9223372036854775807

theorem csize_le {Q : List EdgeI} {M : List CoupleI} {Y : List Int} {G : List GrpI} (h : csize Q M Y G ≤ 1048576) : Q.length ≤ 1048576 ∧ M.length ≤ 1048576 ∧ psize Y G ≤ 1048576 := by
  unfold csize at h
  omega
end Gr
end Go.Proofs.YtjblkijicfmkgaaGreatDoor

/-
  The kind of Cert: sizes, copies, equal ones, what came in.
-/
namespace Go.Proofs.YtjblkijicfmkgaaGreatDoor
namespace Gr
open Go.ChangeShapes Go.WideShapes Go.ChangeAt Go.RowKit

end Gr
end Go.Proofs.YtjblkijicfmkgaaGreatDoor

/-
  Copies of certificates; equal ones; what came in.
-/
namespace Go.Proofs.YtjblkijicfmkgaaGreatDoor
namespace Gr
open Go.ChangeShapes Go.WideShapes Go.ChangeAt Go.RowKit

theorem results_cert {fn : Func} {p : Tmp} (h : fn.results = #[.cell p 59]) (tmps : Array Value) (w : World) (g : Nat) (x0 x1 x2 x3 x4 : Value) (hp : tmps.getD p undef = .pointer (some ⟨g, 0, none⟩)) (hg : Blk w g #[x0, x1, x2, x3, x4] 59) :
    (results fn tmps).run Tryz.prog w = .ok (.agg #[x0, x1, x2, x3, x4]) w := by
  have c0 := hg.cell 0 x0 rfl
  have c1 := hg.cell 1 x1 rfl
  have c2 := hg.cell 2 x2 rfl
  have c3 := hg.cell 3 x3 rfl
  have c4 := hg.cell 4 x4 rfl
  have hp' : tmps[p]?.getD undef = .pointer (some ⟨g, 0, none⟩) := by simpa using hp
  simp [results, h, hp', go_sem, c0, c1, c2, c3, c4]

end Gr
end Go.Proofs.YtjblkijicfmkgaaGreatDoor

/-
  A certificate that came in.
-/
namespace Go.Proofs.YtjblkijicfmkgaaGreatDoor
namespace Gr
open Go.ChangeShapes Go.WideShapes Go.ChangeAt Go.RowKit

theorem five_of {cs : Array Value} (h : cs.size = 5) : ∃ v0 v1 v2 v3 v4, cs = #[v0, v1, v2, v3, v4] := by
  obtain ⟨l⟩ := cs
  match l, h with
  | [v0, v1, v2, v3, v4], _ => exact ⟨v0, v1, v2, v3, v4, rfl⟩

theorem cells_int1 : Tryz.prog.cellsOf 3 = 1 := by kernel_rfl

end Gr
end Go.Proofs.YtjblkijicfmkgaaGreatDoor

/-
  Proofs and certificates that a call has made, all their rows in blocks of their own: what is marked is held.
-/
namespace Go.Proofs.YtjblkijicfmkgaaGreatDoor
namespace Gr
open Go.ChangeShapes Go.WideShapes Go.ChangeAt Go.RowKit

theorem DistV.tail {v : Value} {vs : List Value} (h : DistV (v :: vs)) : DistV vs := fun i j hi hj g h1 h2 => by
  have := h (i + 1) (j + 1) (by simpa using hi) (by simpa using hj) g (by simpa using h1) (by simpa using h2)
  omega

theorem DistV.head {v : Value} {vs : List Value} (h : DistV (v :: vs)) (j : Nat) (hj : j < vs.length) (g : Nat) (h1 : v.ownBlock = some g) (h2 : vs[j].ownBlock = some g) : False := by
  have := h 0 (j + 1) (by simp) (by simpa using hj) g (by simpa using h1) (by simpa using h2)
  omega

theorem GOwn.kept {S : Nat → Prop} {w w' : World} {B : Nat} {v : Value} {ms : List Value} {G : List GrpI} (h : GOwn w B v ms G) (hk : Kept S w w') (hS : ∀ g, S g → Alien w g 136) (hT : ∀ j (hj : j < ms.length) g, ms[j].ownBlock = some g → ¬ S g) : GOwn w' B v ms G :=
  ⟨h.1, hk.own_alien h.2.1 hS, fun j h1 h2 => hk.own (h.2.2 j h1 h2) (hT j h1)⟩

theorem GOwn.blk {w : World} {B : Nat} {v : Value} {ms : List Value} {G : List GrpI} (h : GOwn w B v ms G) : ∀ g, GoBlk v ms g → B ≤ g ∧ g < w.heap.size := by
  rintro g (hg | ⟨j, hj, hg⟩)
  · exact h.2.1.lt g hg
  · exact (h.2.2 j hj (by rw [← h.1]; exact hj)).blk g hg

theorem GOwn.at {w : World} {B : Nat} {v : Value} {ms : List Value} {G : List GrpI} (h : GOwn w B v ms G) : ∃ a c, v = .slice a G.length c ∧ groupsAt w a G.length w.heap.size G := by
  obtain ⟨A, c, rfl⟩ := own_shape h.2.1
  refine ⟨A, c, rfl, rfl, fun j hj => ?_⟩
  have hjm : j < ms.length := by rw [h.1]; exact hj
  obtain ⟨g, cap, hA, _, hgl⟩ := h.2.1.form (by omega)
  simp at hA
  obtain ⟨rfl, rfl⟩ := hA
  obtain ⟨a1, c1, e1, hI⟩ := (h.2.2 j hjm hj).at
  have hgc := gC_at ms (zsOf G) j hjm (by rw [zsOf_length]; exact hj)
  have k0 := h.2.1.cellAt (j * 2) (by omega)
  have k1 := h.2.1.cellAt (j * 2 + 1) (by omega)
  rw [hgc.1, e1] at k0
  rw [hgc.2, zsOf_at G j _ hj] at k1
  exact ⟨g, 0, a1, c1, rfl, hgl, by simpa using k0, by simpa using k1, hI⟩

/-- A proof that a call has made. -/
def POwn (w : World) (B : Nat) (v : Value) (Y : List Int) (G : List GrpI) : Prop := ∃ u1 u2 ms, v = .agg #[u1, u2] ∧ InOwn w B u1 Y ∧ GOwn w B u2 ms G ∧ DistV (u1 :: ms)

theorem POwn.below {w w' : World} {B : Nat} {v : Value} {Y : List Int} {G : List GrpI} (h : POwn w B v Y G) (hb : Below w.heap.size w w') : POwn w' B v Y G := by
  obtain ⟨u1, u2, ms, rfl, h1, h2, h3⟩ := h
  exact ⟨u1, u2, ms, rfl, h1.below hb, h2.below hb, h3⟩

theorem own_type {w : World} {B e size n : Nat} {v : Value} {xs : List Value} (h : w.ownsRow B e size v n xs) (g : Nat) (hg : v.ownBlock = some g) : ∃ C z, w.heap[g]? = some (.cells C e z) := by
  rcases h.2 with ⟨rfl, _⟩ | ⟨g1, cap, cur, rfl, _, hh, _⟩
  · simp [Value.ownBlock] at hg
  · have e1 : g1 = g := Option.some.inj hg
    subst e1
    exact ⟨_, _, hh⟩

end Gr
end Go.Proofs.YtjblkijicfmkgaaGreatDoor

/-
  The contracts of laws.heldProof, laws.markCert and laws.heldCert; a certificate that a call has made.
-/
namespace Go.Proofs.YtjblkijicfmkgaaGreatDoor
namespace Gr
open Go.ChangeShapes Go.WideShapes Go.ChangeAt Go.RowKit

theorem POwn.shape {w : World} {B : Nat} {v : Value} {Y : List Int} {G : List GrpI} (h : POwn w B v Y G) : ∃ a c a' c', v = .agg #[.slice a Y.length c, .slice a' G.length c'] := by
  obtain ⟨u1, u2, ms, rfl, h1, h2, _⟩ := h
  obtain ⟨a, c, rfl⟩ := own_shape h1
  obtain ⟨a', c', rfl⟩ := own_shape h2.2.1
  exact ⟨a, c, a', c', rfl⟩

theorem POwn.at {w : World} {B : Nat} {v : Value} {Y : List Int} {G : List GrpI} (h : POwn w B v Y G) (hin : PrIn Y G) : PrAt w v w.heap.size Y G := by
  obtain ⟨u1, u2, ms, rfl, h1, h2, _⟩ := h
  obtain ⟨a, c, rfl, hI⟩ := h1.at
  obtain ⟨a', c', rfl, hG⟩ := h2.at
  exact ⟨a, _, c, a', _, c', rfl, hI, hG, hin⟩

/-- A certificate that a call has made: all of its rows in blocks of their own. -/
def CROwn (w : World) (B : Nat) (v : Value) (s : Int) (Q : List EdgeI) (M : List CoupleI) (Y : List Int) (G : List GrpI) : Prop :=
  ∃ v1 v2 v3 v4, v = .agg #[.int .i64 s, v1, v2, v3, v4] ∧ w.ownsRow B 113 5 v1 Q.length (edgesV Q) ∧ CoOwn w B v2 M ∧ POwn w B (.agg #[v3, v4]) Y G

theorem CROwn.below {w w' : World} {B : Nat} {v : Value} {s : Int} {Q : List EdgeI} {M : List CoupleI} {Y : List Int} {G : List GrpI} (h : CROwn w B v s Q M Y G) (hb : Below w.heap.size w w') : CROwn w' B v s Q M Y G := by
  obtain ⟨v1, v2, v3, v4, rfl, h1, h2, h3⟩ := h
  exact ⟨v1, v2, v3, v4, rfl, own_below h1 hb, h2.below hb, h3.below hb⟩

theorem CROwn.at {w : World} {B : Nat} {v : Value} {s : Int} {Q : List EdgeI} {M : List CoupleI} {Y : List Int} {G : List GrpI} (h : CROwn w B v s Q M Y G) (hn : csize Q M Y G ≤ 1048576) : CeAt w v w.heap.size s Q M Y G := by
  obtain ⟨v1, v2, v3, v4, rfl, h1, h2, h3⟩ := h
  obtain ⟨l1, l2, l3⟩ := csize_le hn
  obtain ⟨m1, m2, m3⟩ := psize_le l3
  have hp := h3.at ⟨by omega, by omega, fun q hq => by have := m3 q hq; omega⟩
  obtain ⟨a2, c2, a3, c3, e3⟩ := h3.shape
  simp at e3
  obtain ⟨rfl, rfl⟩ := e3
  obtain ⟨a, c, rfl, hQ⟩ := edgesAt.of_own h1
  obtain ⟨a1, c1, rfl, hM⟩ := h2.at
  exact ⟨a, c, a1, c1, a2, c2, a3, c3, rfl, ⟨a, _, c, rfl, hQ⟩, ⟨a1, c1, rfl, hM⟩, hp, by omega, by omega⟩

/-- The rows of a proof are of two types. -/
theorem rows_kept {S : Nat → Prop} {w w' : World} {B : Nat} {u1 u2 : Value} {ms : List Value} {Y : List Int} {G : List GrpI} (h1 : InOwn w B u1 Y) (h2 : GOwn w B u2 ms G) (hk : Kept S w w') (hS : ∀ g, S g → Alien w g 136 ∧ Alien w g 3) : InOwn w' B u1 Y ∧ GOwn w' B u2 ms G :=
  ⟨hk.own_alien h1 (fun g hg => (hS g hg).2), h2.1, hk.own_alien h2.2.1 (fun g hg => (hS g hg).1), fun j i1 i2 => hk.own_alien (h2.2.2 j i1 i2) (fun g hg => (hS g hg).2)⟩

/-- The marks of a certificate. -/
def mkM (k : Nat) (Q : List EdgeI) : Nat := k + Q.length * 5
def mkY (k : Nat) (Q : List EdgeI) (M : List CoupleI) : Nat := mkM k Q + M.length * 2
def mkAll (k : Nat) (Q : List EdgeI) (M : List CoupleI) (Y : List Int) (G : List GrpI) : Nat := mkY k Q M + Y.length + offQ G G.length

/-- Blocks from B on that hold no certificate's variable. -/
def CTy (w : World) (B g : Nat) : Prop := B ≤ g ∧ ∀ C t z, w.heap[g]? = some (.cells C t z) → t ≠ 59

theorem CTy.of {w : World} {B e size n g : Nat} {v : Value} {xs : List Value} (h : w.ownsRow B e size v n xs) (hg : v.ownBlock = some g) (he : e ≠ 59) : CTy w B g := by
  refine ⟨(h.lt g hg).1, fun C t z hc => ?_⟩
  obtain ⟨C', z', h'⟩ := own_type h g hg
  rw [h'] at hc
  simp at hc
  rw [← hc.2.1]
  exact he

/-- A certificate's variable stays as it is. -/
theorem Blk.cert {w w' : World} {B g : Nat} {C : Array Value} (h : Blk w g C 59) (hk : Kept (CTy w B) w w') : Blk w' g C 59 := h.kept hk (fun hg => hg.2 _ _ _ h rfl)

theorem types_cert : (113 : Nat) ≠ 59 ∧ (93 : Nat) ≠ 59 ∧ (136 : Nat) ≠ 59 ∧ (3 : Nat) ≠ 59 := by decide

theorem types_apart : (113 : Nat) ≠ 93 ∧ (113 : Nat) ≠ 136 ∧ (113 : Nat) ≠ 3 ∧ (93 : Nat) ≠ 136 ∧ (93 : Nat) ≠ 3 := by decide

end Gr
end Go.Proofs.YtjblkijicfmkgaaGreatDoor

/-
  Whatever proof is accepted: no pairing has more than its sum, twice; one that it certifies has the most.
-/
namespace Go.Proofs.YtjblkijicfmkgaaGreatDoor
namespace Gr
open Go.RowKit

/-- The vertices of couples. -/
def vertsM : List CoupleI → List Int
  | [] => []
  | x :: r => x.A :: x.B :: vertsM r

theorem mem_verts (z : Int) : ∀ (M : List CoupleI), z ∈ vertsM M ↔ ∃ x ∈ M, z = x.A ∨ z = x.B
  | [] => by simp [vertsM]
  | x :: r => by
    simp only [vertsM, List.mem_cons, mem_verts z r]
    constructor
    · rintro (h | h | ⟨y, hy, h⟩)
      · exact ⟨x, .inl rfl, .inl h⟩
      · exact ⟨x, .inl rfl, .inr h⟩
      · exact ⟨y, .inr hy, h⟩
    · rintro ⟨y, hy | hy, h⟩
      · subst hy
        rcases h with h | h
        · exact .inl h
        · exact .inr (.inl h)
      · exact .inr (.inr ⟨y, hy, h⟩)

theorem verts_length : ∀ (M : List CoupleI), (vertsM M).length = 2 * M.length
  | [] => rfl
  | x :: r => by simp only [vertsM, List.length_cons, verts_length r]; omega

theorem verts_nodup : ∀ (M : List CoupleI), M.Pairwise (fun x y => x.A < y.A ∧ y.A ≠ x.B ∧ y.B ≠ x.B) → (∀ x ∈ M, x.A < x.B) → (vertsM M).Nodup
  | [], _, _ => List.nodup_nil
  | x :: r, hp, hx => by
    rw [List.pairwise_cons] at hp
    have hxx := hx x List.mem_cons_self
    have ih := verts_nodup r hp.2 (fun y hy => hx y (List.mem_cons_of_mem _ hy))
    simp only [vertsM, List.nodup_cons, List.mem_cons, not_or]
    refine ⟨⟨by omega, fun h => ?_⟩, fun h => ?_, ih⟩
    · obtain ⟨y, hy, he⟩ := (mem_verts _ r).1 h
      have h1 := hp.1 y hy
      have h2 := hx y (List.mem_cons_of_mem _ hy)
      omega
    · obtain ⟨y, hy, he⟩ := (mem_verts _ r).1 h
      have h1 := hp.1 y hy
      omega

theorem nodup_len {α : Type} [BEq α] [LawfulBEq α] : ∀ (L M : List α), L.Nodup → (∀ x ∈ L, x ∈ M) → L.length ≤ M.length
  | [], _, _, _ => Nat.zero_le _
  | x :: r, M, hn, hs => by
    have hxM := hs x List.mem_cons_self
    rw [List.nodup_cons] at hn
    have h := nodup_len r (M.erase x) hn.2 (fun y hy => (List.mem_erase_of_ne (fun (e : y = x) => hn.1 (by rw [← e]; exact hy))).2 (hs y (List.mem_cons_of_mem _ hy)))
    have h2 := List.length_erase_of_mem hxM
    have h3 : 0 < M.length := List.length_pos_of_mem hxM
    rw [List.length_cons]
    omega

/-- The numbers of some vertices, together. -/
def ySumL (Y : List Int) : List Int → Int
  | [] => 0
  | z :: r => yAt Y z + ySumL Y r

theorem ySum_add : ∀ (Y : List Int) (n : Int), ySum n Y = n + ySum 0 Y
  | [], n => by simp [ySum]
  | y :: r, n => by
    show ySum (n + y) r = n + ySum (0 + y) r
    rw [ySum_add r (n + y), ySum_add r (0 + y)]
    omega

theorem ySum_set : ∀ (Y : List Int) (k : Nat) (h : k < Y.length), ySum 0 (Y.set k 0) = ySum 0 Y - Y[k]
  | [], _, h => by simp at h
  | y :: r, 0, _ => by
    show ySum (0 + 0) r = ySum (0 + y) r - y
    rw [ySum_add r (0 + 0), ySum_add r (0 + y)]
    omega
  | y :: r, k + 1, h => by
    show ySum (0 + y) (r.set k 0) = ySum (0 + y) r - r[k]'(by simpa using h)
    rw [ySum_add _ (0 + y), ySum_add r (0 + y), ySum_set r k (by simpa using h)]
    omega

theorem ySumL_congr {Y Y' : List Int} : ∀ (L : List Int), (∀ z ∈ L, yAt Y z = yAt Y' z) → ySumL Y L = ySumL Y' L
  | [], _ => rfl
  | z :: r, h => by
    unfold ySumL
    rw [h z List.mem_cons_self, ySumL_congr r (fun x hx => h x (List.mem_cons_of_mem _ hx))]

theorem ySumL_le : ∀ (L : List Int) (Y : List Int), L.Nodup → (∀ z ∈ L, 0 ≤ z ∧ z < (Y.length : Int)) → (∀ y ∈ Y, 0 ≤ y) → ySumL Y L ≤ ySum 0 Y
  | [], Y, _, _, hY => by
    have key : ∀ (Y : List Int) (n : Int), (∀ y ∈ Y, 0 ≤ y) → n ≤ ySum n Y := by
      intro Y
      induction Y with
      | nil => intro n _; simp [ySum]
      | cons y r ih =>
        intro n h
        have h1 := ih (n + y) (fun z hz => h z (List.mem_cons_of_mem _ hz))
        have h2 := h y List.mem_cons_self
        show n ≤ ySum (n + y) r
        omega
    exact key Y 0 hY
  | z :: r, Y, hn, hL, hY => by
    rw [List.nodup_cons] at hn
    obtain ⟨h0, h1⟩ := hL z List.mem_cons_self
    obtain ⟨k, rfl⟩ := Int.eq_ofNat_of_zero_le h0
    have hk : k < Y.length := by omega
    have e1 : ySumL Y r = ySumL (Y.set k 0) r := ySumL_congr r (fun x hx => by
      have hx0 := (hL x (List.mem_cons_of_mem _ hx)).1
      obtain ⟨j, rfl⟩ := Int.eq_ofNat_of_zero_le hx0
      have hne : k ≠ j := fun e => hn.1 (by rw [e]; exact hx)
      unfold yAt
      simp [List.getElem?_set_ne hne])
    have ih := ySumL_le r (Y.set k 0) hn.2 (fun x hx => by rw [List.length_set]; exact hL x (List.mem_cons_of_mem _ hx)) (fun y hy => by
      rcases List.mem_or_eq_of_mem_set hy with h | h
      · exact hY y h
      · rw [h]; exact Int.le_refl _)
    rw [ySum_set Y k hk] at ih
    have e2 : yAt Y (k : Int) = Y[k] := by unfold yAt; simp [hk]
    show yAt Y (k : Int) + ySumL Y r ≤ ySum 0 Y
    rw [e1, e2]
    omega

/-- z of the groups that have both ends. -/
def gAdd (x : CoupleI) : List GrpI → Int
  | [] => 0
  | q :: r => (if (inK q.M x.A && inK q.M x.B) = true then q.Z else 0) + gAdd x r

theorem slackG_add (e : EdgeI) (x : CoupleI) (hA : e.A = x.A) (hB : e.B = x.B) : ∀ (G : List GrpI) (n : Int), slackG e n G = n + gAdd x G
  | [], n => by unfold slackG gAdd; omega
  | q :: r, n => by
    unfold slackG gAdd
    rw [slackG_add e x hA hB r, hA, hB]
    split <;> omega

def gAll : List CoupleI → List GrpI → Int
  | [], _ => 0
  | x :: r, G => gAdd x G + gAll r G

/-- How many couples lie in a group. -/
def cntG (q : GrpI) : List CoupleI → Nat
  | [] => 0
  | x :: r => (if (inK q.M x.A && inK q.M x.B) = true then 1 else 0) + cntG q r

theorem gAll_cons (q : GrpI) (G : List GrpI) : ∀ (M : List CoupleI), gAll M (q :: G) = q.Z * (cntG q M : Int) + gAll M G
  | [] => by simp [gAll, cntG]
  | x :: r => by
    simp only [gAll, cntG, gAdd]
    rw [gAll_cons q G r]
    split
    · rw [Int.natCast_add, Int.mul_add]
      simp only [Int.natCast_one, Int.mul_one]
      omega
    · simp only [Nat.zero_add]
      omega

theorem gAll_nil : ∀ (M : List CoupleI), gAll M [] = 0
  | [] => rfl
  | x :: r => by simp only [gAll, gAdd, gAll_nil r]; rfl

theorem cntG_is (q : GrpI) : ∀ (M : List CoupleI), cntG q M = (M.filter fun x => inK q.M x.A && inK q.M x.B).length
  | [] => rfl
  | x :: r => by
    simp only [cntG, List.filter_cons]
    rw [cntG_is q r]
    split
    · rw [List.length_cons]; omega
    · omega

theorem cntG_le (q : GrpI) (M : List CoupleI) (hp : M.Pairwise (fun x y => x.A < y.A ∧ y.A ≠ x.B ∧ y.B ≠ x.B)) (hx : ∀ x ∈ M, x.A < x.B) : cntG q M ≤ q.M.length / 2 := by
  rw [cntG_is]
  have h := nodup_len (vertsM (M.filter fun x => inK q.M x.A && inK q.M x.B)) q.M (verts_nodup _ (hp.filter _) (fun x hxm => hx x (List.mem_filter.1 hxm).1)) (fun z hz => by
    obtain ⟨x, hxm, he⟩ := (mem_verts z _).1 hz
    have hb := (List.mem_filter.1 hxm).2
    rw [Bool.and_eq_true] at hb
    unfold inK at hb
    rcases he with rfl | rfl
    · simpa using hb.1
    · simpa using hb.2)
  rw [verts_length] at h
  omega

theorem gSum_add : ∀ (G : List GrpI) (n : Int), gSum n G = n + gSum 0 G
  | [], n => by simp [gSum]
  | q :: r, n => by
    show gSum (n + q.Z * ((q.M.length / 2 : Nat) : Int)) r = n + gSum (0 + q.Z * ((q.M.length / 2 : Nat) : Int)) r
    rw [gSum_add r (n + _), gSum_add r (0 + _)]
    omega

theorem gAll_le (M : List CoupleI) (hp : M.Pairwise (fun x y => x.A < y.A ∧ y.A ≠ x.B ∧ y.B ≠ x.B)) (hx : ∀ x ∈ M, x.A < x.B) : ∀ (G : List GrpI), (∀ q ∈ G, 0 ≤ q.Z) → gAll M G ≤ gSum 0 G
  | [], _ => by rw [gAll_nil]; simp [gSum]
  | q :: r, h => by
    have ih := gAll_le M hp hx r (fun x hxm => h x (List.mem_cons_of_mem _ hxm))
    have h0 := h q List.mem_cons_self
    have h1 := cntG_le q M hp hx
    rw [gAll_cons]
    show _ ≤ gSum (0 + q.Z * ((q.M.length / 2 : Nat) : Int)) r
    rw [gSum_add r (0 + _)]
    have h2 : q.Z * (cntG q M : Int) ≤ q.Z * ((q.M.length / 2 : Nat) : Int) := Int.mul_le_mul_of_nonneg_left (by omega) h0
    omega

/-- The edge of a couple. -/
def eOf (Q : List EdgeI) (x : CoupleI) : EdgeI := edgeN Q (atFrom x.A x.B 0 Q)

def scM (Q : List EdgeI) : List CoupleI → Int
  | [] => 0
  | x :: r => scal (eOf Q x) + scM Q r

theorem wsum_scM {s : Int} {Q : List EdgeI} (hg : graphOk s Q = true) : ∀ (L : List CoupleI) (t : SumsI) (n : Int), SB t n → 0 ≤ n → n + (L.length : Int) ≤ 9 → (∀ x ∈ L, 0 ≤ atFrom x.A x.B 0 Q) → wsum (sumsFrom Q t L) = wsum t + scM Q L
  | [], t, n, _, _, _, _ => by simp [sumsFrom, scM]
  | x :: r, t, n, ht, h0, h9, hx => by
    rw [List.length_cons] at h9
    have hok := edgeN_ok hg (hx x List.mem_cons_self)
    have h1 := (wsum_add ht (by omega) hok).1
    have ih := wsum_scM hg r (addS t (edgeN Q (atFrom x.A x.B 0 Q))) (n + 1) (ht.add hok) (by omega) (by omega) (fun y hy => hx y (List.mem_cons_of_mem _ hy))
    show wsum (sumsFrom Q (addS t (edgeN Q (atFrom x.A x.B 0 Q))) r) = wsum t + (scal (eOf Q x) + scM Q r)
    rw [ih, h1]
    unfold eOf
    omega

theorem slacks_at (Y : List Int) (G : List GrpI) : ∀ (Q : List EdgeI), slacksOk Y G Q = true → ∀ e ∈ Q, 0 ≤ slackI Y G e
  | [], _, e, he => by simp at he
  | x :: r, h, e, he => by
    unfold slacksOk at h
    rw [Bool.and_eq_true, decide_eq_true_eq] at h
    rcases List.mem_cons.1 he with rfl | he
    · exact h.1
    · exact slacks_at Y G r h.2 e he

/-- No pairing has more than a proof's sum, twice. -/
theorem dual {s : Int} {Q : List EdgeI} {Y : List Int} {G : List GrpI} {M : List CoupleI} (hp : proofOk s Q Y G = true) (hm : matchOk s Q M = true) : 2 * wsum (sums Q M) ≤ sumI Y G := by
  obtain ⟨hg, hYs, h9, h8, hY, hq⟩ := proof_sound hp
  obtain ⟨_, hM9, hmf⟩ := match_sound hm
  obtain ⟨hx, hpw, _⟩ := match_pm hg M none [] hmf
  have hsl : slacksOk Y G Q = true := by
    unfold proofOk at hp
    simp only [Bool.and_eq_true] at hp
    exact hp.2.2.2.2.2
  have hw : wsum (sums Q M) = scM Q M := by
    have h := wsum_scM hg M ⟨0, 0, 0⟩ 0 (SB.zero _ (by omega)) (by omega) (by omega) (fun x h => (hx x h).2.2.2.1)
    show wsum (sumsFrom Q ⟨0, 0, 0⟩ M) = _
    rw [h]
    simp [wsum]
  have hone : ∀ x ∈ M, 2 * scal (eOf Q x) ≤ yAt Y x.A + yAt Y x.B + gAdd x G := fun x hxm => by
    obtain ⟨a0, a1, a2, a3, _⟩ := hx x hxm
    obtain ⟨i, hi, _, e2, hh⟩ := edgeN_at a3
    have hmem : eOf Q x ∈ Q := by unfold eOf; rw [e2]; exact List.getElem_mem hi
    have hs := slacks_at Y G Q hsl _ hmem
    have hek := (edgeOk_iff s _).1 ((graph_sound hg).2.2.1 _ hmem)
    have hab : (eOf Q x).A = x.A ∧ (eOf Q x).B = x.B := by
      unfold eOf at hek ⊢
      rw [e2] at hek ⊢
      unfold hit at hh
      simp at hh
      omega
    unfold slackI at hs
    rw [slackG_add _ x hab.1 hab.2, hab.1, hab.2] at hs
    omega
  have hsum : ∀ (L : List CoupleI), (∀ x ∈ L, x ∈ M) → 2 * scM Q L ≤ ySumL Y (vertsM L) + gAll L G := by
    intro L
    induction L with
    | nil => intro _; simp [scM, vertsM, ySumL, gAll]
    | cons x r ih =>
      intro h
      have h1 := ih (fun y hy => h y (List.mem_cons_of_mem _ hy))
      have h2 := hone x (h x List.mem_cons_self)
      simp only [scM, vertsM, ySumL, gAll]
      omega
  have h1 := hsum M (fun _ h => h)
  have hlt : ∀ x ∈ M, x.A < x.B := fun x h => (hx x h).2.1
  have h2 := ySumL_le (vertsM M) Y (verts_nodup M hpw hlt) (fun z hz => by
    obtain ⟨x, hxm, he⟩ := (mem_verts z M).1 hz
    obtain ⟨a0, a1, a2, _⟩ := hx x hxm
    rcases he with rfl | rfl <;> omega) (fun y hy => (hY y hy).1)
  have h3 := gAll_le M hpw hlt G (fun q hqm => by have := ((grpHead_iff s q).1 (hq q hqm)).2.2.2.1; omega)
  have h4 : sumI Y G = ySum 0 Y + gSum 0 G := by
    unfold sumI
    rw [gSum_add]
  rw [hw, h4]
  omega

/-- A pairing that is certified has the most, by Scalars. -/
theorem certified_top {s : Int} {Q : List EdgeI} {Y : List Int} {G : List GrpI} {M N : List CoupleI} (hc : certR s Q M Y G = true) (hn : matchOk s Q N = true) : wsum (sums Q N) ≤ wsum (sums Q M) := by
  unfold certR at hc
  simp only [Bool.and_eq_true, decide_eq_true_eq] at hc
  have := dual hc.1 hn
  omega
end Gr
end Go.Proofs.YtjblkijicfmkgaaGreatDoor

/-
  The best sums are those of a pairing; so no accepted proof tells less than the best, and a pairing that is certified has the best worth.
-/
namespace Go.Proofs.YtjblkijicfmkgaaGreatDoor
namespace Gr
open Go.RowKit

theorem inK_snoc_parts {U : List Int} {x y : Int} (h : inK (U ++ [x]) y = false) : inK U y = false ∧ y ≠ x := by
  unfold inK at *
  simp at h ⊢
  exact h

theorem bloop_has (Q : List EdgeI) (s : Int) (n : Nat) (U : List Int) (hu : inK U (s - ((n + 1 : Nat) : Int)) = false) (ih : ∀ V, ∃ M, Pm Q s n V M ∧ sums Q M = (best Q s n V).1) :
    ∀ (m : Nat) (b : Int) (acc : SumsI × Int), b + (m : Int) = s → s - (n : Int) ≤ b → (∃ M, Pm Q s (n + 1) U M ∧ sums Q M = acc.1) → ∃ M, Pm Q s (n + 1) U M ∧ sums Q M = (bloop Q (s - ((n + 1 : Nat) : Int)) U (fun V => best Q s n V) m b acc).1
  | 0, _, acc, _, _, h => h
  | m + 1, b, acc, hb, hb0, h => by
    show ∃ M, Pm Q s (n + 1) U M ∧ sums Q M = (bloop Q (s - ((n + 1 : Nat) : Int)) U (fun V => best Q s n V) m (b + 1) (bstep Q (s - ((n + 1 : Nat) : Int)) U (fun V => best Q s n V) acc b)).1
    refine bloop_has Q s n U hu ih m (b + 1) _ (by omega) (by omega) ?_
    unfold bstep
    split
    · exact h
    · rename_i hc
      simp only
      split
      · obtain ⟨M0, hM0, hs0⟩ := ih (U ++ [b])
        have h0 : 0 ≤ atFrom (s - ((n + 1 : Nat) : Int)) b 0 Q := by omega
        have hub : inK U b = false := by
          cases hx : inK U b
          · rfl
          · exact absurd (.inr hx) hc
        refine ⟨⟨s - ((n + 1 : Nat) : Int), b⟩ :: M0, ⟨fun x hx => ?_, List.pairwise_cons.2 ⟨fun y hy => ?_, hM0.2⟩⟩, ?_⟩
        · rcases List.mem_cons.1 hx with rfl | hx
          · exact ⟨Int.le_refl _, by simp only; omega, by simp only; omega, h0, hu, hub⟩
          · obtain ⟨g1, g2, g3, g4, g5, g6⟩ := hM0.1 x hx
            exact ⟨by omega, g2, g3, g4, (inK_snoc_parts g5).1, (inK_snoc_parts g6).1⟩
        · obtain ⟨g1, g2, g3, g4, g5, g6⟩ := hM0.1 y hy
          exact ⟨by simp only; omega, (inK_snoc_parts g5).2, (inK_snoc_parts g6).2⟩
        · rw [sums_cons, hs0]
      · exact h

theorem best_has (Q : List EdgeI) (s : Int) : ∀ (n : Nat) (U : List Int), ∃ M, Pm Q s n U M ∧ sums Q M = (best Q s n U).1
  | 0, _ => ⟨[], ⟨by simp, List.Pairwise.nil⟩, rfl⟩
  | n + 1, U => by
    have up : ∀ M, Pm Q s n U M → Pm Q s (n + 1) U M := fun M h => ⟨fun x hx => by
      obtain ⟨g1, g2⟩ := h.1 x hx
      exact ⟨by omega, g2⟩, h.2⟩
    obtain ⟨M, hM, hs⟩ := best_has Q s n U
    cases hu : inK U (s - ((n + 1 : Nat) : Int)) with
    | true => rw [best_skip Q s n U hu]; exact ⟨M, up M hM, hs⟩
    | false =>
      rw [best_loop Q s n U hu]
      exact bloop_has Q s n U hu (fun V => best_has Q s n V) n (s - (n : Int)) (best Q s n U) (by omega) (by omega) ⟨M, up M hM, hs⟩

theorem pm_from (Q : List EdgeI) : ∀ (M : List CoupleI) (p : Option CoupleI) (U : List Int), (∀ x ∈ M, x.A < x.B ∧ 0 ≤ atFrom x.A x.B 0 Q ∧ inK U x.A = false ∧ inK U x.B = false) → M.Pairwise (fun x y => x.A < y.A ∧ y.A ≠ x.B ∧ y.B ≠ x.B) → (∀ q, p = some q → ∀ x ∈ M, q.A < x.A) → mFrom Q p U M = true
  | [], _, _, _, _, _ => by unfold mFrom; rfl
  | x :: r, p, U, h, hp, ha => by
    obtain ⟨h1, h2, h3, h4⟩ := h x List.mem_cons_self
    rw [List.pairwise_cons] at hp
    have hah : aheadC p x = true := by
      unfold aheadC
      cases p with
      | none => rfl
      | some q => exact decide_eq_true (ha q rfl x List.mem_cons_self)
    have ih := pm_from Q r (some x) (U ++ [x.A, x.B]) (fun y hy => by
      obtain ⟨g1, g2, g3, g4⟩ := h y (List.mem_cons_of_mem _ hy)
      have hr := hp.1 y hy
      unfold inK at g3 g4 ⊢
      simp at g3 g4 ⊢
      exact ⟨g1, g2, ⟨g3, by omega, hr.2.1⟩, g4, by omega, hr.2.2⟩) hp.2 (fun q hq y hy => by
        cases hq
        exact (hp.1 y hy).1)
    unfold mFrom
    rw [decide_eq_true h1, hah, decide_eq_true h2, h3, h4, ih]
    rfl

theorem pm_few {Q : List EdgeI} {s : Int} {n : Nat} {U : List Int} {M : List CoupleI} (h : Pm Q s n U M) (h9 : s ≤ 9) (hn : (n : Int) ≤ s) : M.length ≤ 4 := by
  have hl := nodup_len (vertsM M) ((List.range 9).map (fun (k : Nat) => (k : Int))) (verts_nodup M h.2 (fun x hx => (h.1 x hx).2.1)) (fun z hz => by
    obtain ⟨x, hx, he⟩ := (mem_verts z M).1 hz
    obtain ⟨g1, g2, g3, _⟩ := h.1 x hx
    have hz0 : 0 ≤ z ∧ z < 9 := by rcases he with rfl | rfl <;> omega
    obtain ⟨k, rfl⟩ := Int.eq_ofNat_of_zero_le hz0.1
    exact List.mem_map.2 ⟨k, List.mem_range.2 (by omega), rfl⟩)
  rw [verts_length] at hl
  simp at hl
  omega

theorem match_few {Q : List EdgeI} {s : Int} {M : List CoupleI} (h : matchOk s Q M = true) : M.length ≤ 4 ∧ SB (sums Q M) 4 := by
  obtain ⟨hg, h9, hm⟩ := match_sound h
  obtain ⟨hx, hp, _⟩ := match_pm hg M none [] hm
  obtain ⟨g0, g9, _⟩ := graph_sound hg
  have hl : M.length ≤ 4 := pm_few (Q := Q) (s := s) (n := s.toNat) (U := []) ⟨fun x hxm => by
    obtain ⟨a1, a2, a3, a4, a5, a6⟩ := hx x hxm
    exact ⟨by omega, a2, a3, a4, a5, a6⟩, hp⟩ g9 (by omega)
  refine ⟨hl, ?_⟩
  have key : ∀ (L : List CoupleI) (t : SumsI) (n : Int), SB t n → (∀ x ∈ L, 0 ≤ atFrom x.A x.B 0 Q) → SB (sumsFrom Q t L) (n + (L.length : Int)) := by
    intro L
    induction L with
    | nil => intro t n ht _; simpa [sumsFrom] using ht
    | cons x r ih =>
      intro t n ht hx
      have h1 := ih _ (n + 1) (ht.add (edgeN_ok hg (hx x List.mem_cons_self))) (fun y hy => hx y (List.mem_cons_of_mem _ hy))
      show SB (sumsFrom Q _ r) _
      rw [List.length_cons]
      exact h1.mono (by omega)
  exact (key M ⟨0, 0, 0⟩ 0 (SB.zero _ (by omega)) (fun x hxm => (hx x hxm).2.2.2.1)).mono (by omega)

/-- The best sums are those of a pairing. -/
theorem best_is {s : Int} {Q : List EdgeI} (hg : graphOk s Q = true) : ∃ M, matchOk s Q M = true ∧ sums Q M = (best Q s s.toNat []).1 := by
  obtain ⟨g0, g9, _⟩ := graph_sound hg
  obtain ⟨M, hM, hs⟩ := best_has Q s s.toNat []
  have hf := pm_few hM g9 (by omega)
  refine ⟨M, ?_, hs⟩
  unfold matchOk
  rw [hg, decide_eq_true (by omega : M.length ≤ 9), pm_from Q M none [] (fun x hx => by
    obtain ⟨_, a2, _, a4, a5, a6⟩ := hM.1 x hx
    exact ⟨a2, a4, a5, a6⟩) hM.2 (fun q hq => by cases hq)]
  rfl

theorem le_wsum {a b : SumsI} (ha : SB a 4) (hb : SB b 4) (h : LE a b) : wsum a ≤ wsum b := by
  unfold SB at ha hb
  unfold LE at h
  unfold wsum
  omega

/-- No accepted proof tells less than the best. -/
theorem dual_best {s : Int} {Q : List EdgeI} {Y : List Int} {G : List GrpI} (hp : proofOk s Q Y G = true) : wsum (best Q s s.toNat []).1 ≤ boundR s Q Y G := by
  obtain ⟨M, hm, hs⟩ := best_is (proof_sound hp).1
  have h := dual hp hm
  rw [hs] at h
  unfold boundR
  rw [if_pos hp]
  omega

/-- A pairing that is certified has the best worth, and the best sums. -/
theorem certified_best {s : Int} {Q : List EdgeI} {Y : List Int} {G : List GrpI} {M : List CoupleI} (hc : certR s Q M Y G = true) : sums Q M = (best Q s s.toNat []).1 := by
  have hm : matchOk s Q M = true := by
    unfold certR at hc
    simp only [Bool.and_eq_true] at hc
    exact hc.2.1
  obtain ⟨N, hn, hs⟩ := best_is (match_sound hm).1
  have h1 := certified_top hc hn
  have h2 := (le_iff _ _).1 (best_of_all hm).1
  rw [← hs] at h2 ⊢
  have b1 := (match_few hm).2
  have b2 := (match_few hn).2
  unfold SB at b1 b2
  unfold LE at h2
  unfold wsum at h1
  have e : (sums Q M).W1 = (sums Q N).W1 ∧ (sums Q M).W2 = (sums Q N).W2 ∧ (sums Q M).W3 = (sums Q N).W3 := by omega
  cases hM : sums Q M
  cases hN : sums Q N
  rw [hM, hN] at e
  simp only at e
  rw [e.1, e.2.1, e.2.2]
end Gr
end Go.Proofs.YtjblkijicfmkgaaGreatDoor
