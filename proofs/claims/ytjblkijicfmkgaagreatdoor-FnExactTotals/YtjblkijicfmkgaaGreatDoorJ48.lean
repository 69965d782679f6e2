/-
 GrImplE, GrImplI.
-/
import Derived.Test.YtjblkijicfmkgaaGreatDoorJ3
import Derived.Test.YtjblkijicfmkgaaGreatDoorJ40
import Derived.Test.YtjblkijicfmkgaaGreatDoorJ17
import Derived.Test.YtjblkijicfmkgaaGreatDoorJ14
import Derived.Test.YtjblkijicfmkgaaGreatDoorJ2
import Derived.Deep.RegionHeld3
import Derived.Test.YtjblkijicfmkgaaGreatDoorJ43
namespace Go.Proofs.YtjblkijicfmkgaaGreatDoor
namespace Gr
open Go.RowKit
set_option maxRecDepth 100000 in
set_option maxHeartbeats 1000000 in
theorem sumsWith_any (s : SumsI) (e : EdgeI) (w : World) (h1 : 0 ≤ s.W1 ∧ s.W1 ≤ 100000000) (h2 : 0 ≤ s.W2 ∧ s.W2 ≤ 100000000) (h3 : 0 ≤ s.W3 ∧ s.W3 ≤ 100000000) (k1 : 0 ≤ e.W1 ∧ e.W1 ≤ 50) (k2 : 0 ≤ e.W2 ∧ e.W2 ≤ 50) (k3 : 0 ≤ e.W3 ∧ e.W3 ≤ 50) :
    Calls Tryz.prog 92 #[s.v, e.v] w fun r w' => r = .returned (addS s e).v ∧ Below w.heap.size w w' := by
  obtain ⟨s1, s2, s3⟩ := s
  obtain ⟨e1, e2, e3, e4, e5⟩ := e
  simp only at h1 h2 h3 k1 k2 k3
  unfold addS SumsI.v EdgeI.v
  simp only
  have a1 : IntKind.i64.wrap (s1 + e3) = s1 + e3 := wrap_in _ (by omega)
  have a2 : IntKind.i64.wrap (s2 + e4) = s2 + e4 := wrap_in _ (by omega)
  have a3 : IntKind.i64.wrap (s3 + e5) = s3 + e5 := wrap_in _ (by omega)
  go_enter Tryz.func92, Tryz.ntmps92
  go_wp2
  refine bodyPost_ret (results_sums1 Tryz.results92 _ _ (w.heap.size + 1 + 1) ⟨s1 + e3, s2 + e4, s3 + e5⟩ rfl Blk.new2) rfl ?_
  exact ⟨rfl, ((below_new _ _).alloc (by simp) _).alloc (by simp; omega) _⟩
set_option maxRecDepth 100000 in
set_option maxHeartbeats 4000000 in
theorem implSumsOf_gen (B : Nat) (v : Value) (s : Int) (Q : List EdgeI) (u : Value) (M : List CoupleI) (h1 : Q.length ≤ 1048576) (h2 : M.length ≤ 1048576) (w : World) (hB : B ≤ w.heap.size) (hv : GrAt w v B s Q) (hu : CoAt w u B M) :
    Calls Tryz.prog 71 #[v, u] w fun e w' => (∃ d, e = .returned (.tuple #[d, .bool (matchOk s Q M)]) ∧ SuOwn w' w.heap.size d (sumsR s Q M)) ∧ Below w.heap.size w w' := by
  have MK := hide (fun w1 (hb : Below w.heap.size w w1) => implMatch_gen B v s Q u M h1 h2 w1 (by have := hb.size; omega) (hv.below hb hB) (hu.below hb hB))
  have EA := hide (fun x y w1 (hb : Below w.heap.size w w1) => implEdgeAt_gen B v s Q x y h1 w1 (by have := hb.size; omega) (hv.below hb hB))
  obtain ⟨a, c, rfl, hM⟩ := hu
  obtain ⟨a0, n0, c0, rfl, hE⟩ := hv
  have HFD : Hid (matchOk s Q M = true → ∀ j (h : j < M.length), ∃ i, ∃ hi : i < Q.length, edgeAtV s M[j].A M[j].B Q = (i : Int) ∧ edgeN Q (atFrom M[j].A M[j].B 0 Q) = Q[i] ∧ edgeOk s Q[i] = true) := fun hok j h => by
    rw [match_nolen, Bool.and_eq_true] at hok
    obtain ⟨hg, hm⟩ := hok
    obtain ⟨i1, _, _⟩ := match_pm hg M none [] hm
    obtain ⟨_, _, _, g4, _, _⟩ := i1 M[j] (List.getElem_mem h)
    obtain ⟨i, hi, e1, e2, _⟩ := edgeN_at g4
    refine ⟨i, hi, ?_, e2, (graph_sound hg).2.2.1 _ (List.getElem_mem hi)⟩
    unfold edgeAtV
    rw [if_pos hg]
    exact e1
  have hV : sumsR s Q M = if matchOk s Q M = true then sums Q M else ⟨0, 0, 0⟩ := rfl
  have H0 : Hid (sums Q M = sumsFrom Q ⟨0, 0, 0⟩ (M.drop 0)) := rfl
  generalize sumsR s Q M = V at hV ⊢
  generalize sums Q M = T at H0 hV
  generalize matchOk s Q M = ok at MK HFD hV ⊢
  obtain ⟨hEL, hEC⟩ := hE
  obtain ⟨_, hMC⟩ := hM
  have HEC := hide hEC
  have HMC := hide hMC
  have HMS : Hid (∀ (S : SumsI) j (h : j < M.length), sumsFrom Q S (M.drop j) = sumsFrom Q (addS S (edgeN Q (atFrom M[j].A M[j].B 0 Q))) (M.drop (j + 1))) := fun S j h => by
    rw [← List.getElem_cons_drop h]
    rfl
  have HME : Hid (∀ S, sumsFrom Q S (M.drop M.length) = S) := fun S => by rw [List.drop_length]; rfl
  clear hEC hMC h1
  obtain ⟨n, hn⟩ : ∃ n, n = M.length := ⟨_, rfl⟩
  have HN := hide hn
  rw [← hn] at MK HME h2 ⊢
  clear hn
  go_enter Tryz.func71, Tryz.ntmps71
  go_wp2_with fail
  obtain ⟨V1, hV1⟩ : ∃ W, W = w.alloc (Obj.cells #[Value.int .i64 s, Value.slice a0 n0 c0] 54) := ⟨_, rfl⟩
  obtain ⟨V2, hV2⟩ : ∃ W, W = V1.alloc (Obj.cells #[Value.int .i64 0, Value.int .i64 0, Value.int .i64 0] 25) := ⟨_, rfl⟩
  rw [← hV1, ← hV2]
  have z1 : V1.heap.size = w.heap.size + 1 := by rw [hV1]; simp
  have b1 : Below w.heap.size w V1 := by rw [hV1]; exact below_new _ _
  have b2 : Below w.heap.size w V2 := by rw [hV2]; exact b1.alloc b1.size _
  have x1 : GBox V1 w.heap.size s (.slice a0 n0 c0) := by rw [hV1]; exact GBox.new _ _ _
  have x2 : GBox V2 w.heap.size s (.slice a0 n0 c0) := by rw [hV2]; exact x1.below (below_new _ _)
  have r2 : SBox V2 (w.heap.size + 1) ⟨0, 0, 0⟩ := by rw [hV2, ← z1]; exact SBox.new _ ⟨0, 0, 0⟩
  clear hV1 hV2 b1 x1 z1
  refine (unhide MK V2 b2).mono ?_
  rintro e w3 ⟨rfl, hb3⟩
  have x3 := x2.below hb3
  have r3 := r2.below hb3
  have b3 := b2.trans (hb3.mono b2.size)
  obtain ⟨p0, p1⟩ := x3.cells
  clear hb3 x2 r2 b2
  cases ok with
  | false =>
    rw [if_neg (by simp)] at hV
    subst hV
    obtain ⟨u0, u1, u2⟩ := r3.cells
    have uf := r3.froz
    have HR := hide r3
    clear r3 x3
    go_wp2
    (try simp only [Exit.inBlock, Exit.then])
    refine bodyPost_ret (results_sums2 Tryz.results71 _ _ (w.heap.size + 1) _ rfl ((unhide HR).three 0 0 0)) rfl ?_
    exact ⟨⟨_, rfl, rfl⟩, b3.trans ((kept3 w3 (w.heap.size + 1) _ _ _).below b3.size (fun i hi => by omega))⟩
  | true =>
    rw [if_pos rfl] at hV
    subst hV
    have HFT := hide (unhide HFD rfl)
    clear HFD p0 p1
    have hxl := x3.lt
    have hrl := r3.lt
    have HX := hide x3
    have HRR := hide r3
    clear x3 r3 MK
    go_wp2_with fail
    go_loopw [16] (fun i wr => ∃ (j : Nat) (S : SumsI), i = .int .i64 (j : Int) ∧ j ≤ n ∧ Hid (V = sumsFrom Q S (M.drop j)) ∧ Hid (SB S (j : Int)) ∧ Hid (SBox wr w3.heap.size S) ∧ Below w3.heap.size w3 wr) (fun i _ => n - (intOf i).toNat)
    case atStart => exact ⟨0, ⟨0, 0, 0⟩, rfl, Nat.zero_le _, unhide H0, SB.zero _ (by omega), SBox.new _ ⟨0, 0, 0⟩, below_new _ _⟩
    case round =>
      obtain ⟨j, S, rfl, hj, HR, HSB, HSX, hb⟩ := hrel
      have hsr := hb.size
      have hbw : Below w.heap.size w wr := b3.trans (hb.mono b3.size)
      have hsl := (unhide HSX).lt
      obtain ⟨g0, g1⟩ := ((unhide HX).below hb).cells
      by_cases hlt : j < n
      · have hjL : j < M.length := by have := unhide HN; omega
        obtain ⟨b, off, rfl, hbB, c1, c2⟩ := unhide HMC j hjL
        obtain ⟨i, hi, e1, e2, e3⟩ := unhide HFT j hjL
        obtain ⟨b', off', rfl, hb'B, d0, d1, d2, d3, d4⟩ := unhide HEC i hi
        have HRN := hide ((unhide HR).trans (unhide HMS S j hjL))
        have EJ := hide (fun w1 hb => unhide EA M[j].A M[j].B w1 hb)
        rw [e1] at EJ
        rw [e2] at HRN
        generalize Q[i] = q at HRN d0 d1 d2 d3 d4 e3
        generalize M[j] = x at c1 c2 EJ
        rw [← hbw.cell (p := ⟨b, off + j * 2, none⟩) (by simp; omega)] at c1
        rw [← hbw.cell (p := ⟨b, off + j * 2 + 1, none⟩) (by simp; omega)] at c2
        rw [← hbw.cell (p := ⟨b', off' + i * 5, none⟩) (by simp; omega)] at d0
        rw [← hbw.cell (p := ⟨b', off' + i * 5 + 1, none⟩) (by simp; omega)] at d1
        rw [← hbw.cell (p := ⟨b', off' + i * 5 + 2, none⟩) (by simp; omega)] at d2
        rw [← hbw.cell (p := ⟨b', off' + i * 5 + 3, none⟩) (by simp; omega)] at d3
        rw [← hbw.cell (p := ⟨b', off' + i * 5 + 4, none⟩) (by simp; omega)] at d4
        have HSA := hide ((unhide HSB).add e3)
        obtain ⟨x0, x1⟩ := x
        obtain ⟨y0, y1, y2, y3, y4⟩ := q
        simp only at c1 c2 d0 d1 d2 d3 d4 EJ
        obtain ⟨_, _, _, q3, q4, q5⟩ := (edgeOk_iff s _).1 e3
        simp only at q3 q4 q5
        obtain ⟨S1, S2, S3⟩ := S
        have hs1 : 0 ≤ S1 ∧ S1 ≤ 100000000 := by have := (unhide HSB).1; simp only at this; omega
        have hs2 : 0 ≤ S2 ∧ S2 ≤ 100000000 := by have := (unhide HSB).2.1; simp only at this; omega
        have hs3 : 0 ≤ S3 ∧ S3 ≤ 100000000 := by have := (unhide HSB).2.2; simp only at this; omega
        have SW := hide (fun w => sumsWith_any ⟨S1, S2, S3⟩ ⟨y0, y1, y2, y3, y4⟩ w hs1 hs2 hs3 (worth_range q3) (worth_range q4) (worth_range q5))
        generalize addS ⟨S1, S2, S3⟩ ⟨y0, y1, y2, y3, y4⟩ = N at SW HSA HRN
        unfold SumsI.v EdgeI.v at SW
        simp only at SW
        clear q3 q4 q5 e1 e2 e3 hs1 hs2 hs3
        have hin : (i : Int) < (n0 : Int) := by omega
        have hbl : b < wr.heap.size := by omega
        have hbn : ¬ b = wr.heap.size := by omega
        obtain ⟨k0, k1, k2⟩ := (unhide HSX).cells
        simp only at k0 k1 k2
        go_wp2_with fail
        obtain ⟨V3, hV3⟩ : ∃ W, W = wr.alloc (Obj.cells #[Value.int .i64 x0, Value.int .i64 x1] 93) := ⟨_, rfl⟩
        rw [← hV3]
        have bx : Below wr.heap.size wr V3 := by rw [hV3]; exact below_new _ _
        have ux : Blk V3 wr.heap.size #[Value.int .i64 x0, Value.int .i64 x1] 93 := by rw [hV3]; exact Blk.new0
        clear hV3
        have hz3 := bx.size
        have hz4 := ux.lt
        have bw3 : Below w.heap.size w V3 := hbw.trans (bx.mono hbw.size)
        have K0 : ∀ d : Grown V3.heap.size V3, d.w.cell? ⟨w3.heap.size, 0, none⟩ = some (.int .i64 S1) := fun d => d.cell (by omega) ((bx.cell (p := ⟨w3.heap.size, 0, none⟩) hsl).trans k0)
        have K1 : ∀ d : Grown V3.heap.size V3, d.w.cell? ⟨w3.heap.size, 1, none⟩ = some (.int .i64 S2) := fun d => d.cell (by omega) ((bx.cell (p := ⟨w3.heap.size, 1, none⟩) hsl).trans k1)
        have K2 : ∀ d : Grown V3.heap.size V3, d.w.cell? ⟨w3.heap.size, 2, none⟩ = some (.int .i64 S3) := fun d => d.cell (by omega) ((bx.cell (p := ⟨w3.heap.size, 2, none⟩) hsl).trans k2)
        have G0 : ∀ d : Grown V3.heap.size V3, d.w.cell? ⟨w.heap.size, 0, none⟩ = some (.int .i64 s) := fun d => d.cell (by omega) ((bx.cell (p := ⟨w.heap.size, 0, none⟩) (by simp; omega)).trans g0)
        have G1 : ∀ d : Grown V3.heap.size V3, d.w.cell? ⟨w.heap.size, 1, none⟩ = some (.slice (some ⟨b', off', none⟩) n0 c0) := fun d => d.cell (by omega) ((bx.cell (p := ⟨w.heap.size, 1, none⟩) (by simp; omega)).trans g1)
        have X0 : ∀ d : Grown V3.heap.size V3, d.w.cell? ⟨wr.heap.size, 0, none⟩ = some (.int .i64 x0) := fun d => d.cell hz4 (ux.cell 0 _ rfl)
        have X1 : ∀ d : Grown V3.heap.size V3, d.w.cell? ⟨wr.heap.size, 1, none⟩ = some (.int .i64 x1) := fun d => d.cell hz4 (ux.cell 1 _ rfl)
        have D0 : ∀ d : Grown V3.heap.size V3, d.w.cell? ⟨b', off' + i * 5, none⟩ = some (.int .i64 y0) := fun d => d.cell (by omega) ((bx.cell (p := ⟨b', off' + i * 5, none⟩) (by simp; omega)).trans d0)
        have D1 : ∀ d : Grown V3.heap.size V3, d.w.cell? ⟨b', off' + i * 5 + 1, none⟩ = some (.int .i64 y1) := fun d => d.cell (by omega) ((bx.cell (p := ⟨b', off' + i * 5 + 1, none⟩) (by simp; omega)).trans d1)
        have D2 : ∀ d : Grown V3.heap.size V3, d.w.cell? ⟨b', off' + i * 5 + 2, none⟩ = some (.int .i64 y2) := fun d => d.cell (by omega) ((bx.cell (p := ⟨b', off' + i * 5 + 2, none⟩) (by simp; omega)).trans d2)
        have D3 : ∀ d : Grown V3.heap.size V3, d.w.cell? ⟨b', off' + i * 5 + 3, none⟩ = some (.int .i64 y3) := fun d => d.cell (by omega) ((bx.cell (p := ⟨b', off' + i * 5 + 3, none⟩) (by simp; omega)).trans d3)
        have D4 : ∀ d : Grown V3.heap.size V3, d.w.cell? ⟨b', off' + i * 5 + 4, none⟩ = some (.int .i64 y4) := fun d => d.cell (by omega) ((bx.cell (p := ⟨b', off' + i * 5 + 4, none⟩) (by simp; omega)).trans d4)
        have E2 : Hid (∀ d : Grown V3.heap.size V3, Calls Tryz.prog 93 #[.agg #[.int .i64 s, .slice (some ⟨b', off', none⟩) n0 c0], .int .i64 x0, .int .i64 x1] d.w fun e w' => e = .returned (.int .i64 (i : Int)) ∧ Below d.w.heap.size d.w w') := fun d => unhide EJ d.w (bw3.trans (d.below.mono bw3.size))
        clear k0 k1 k2 g0 g1 c1 c2 d0 d1 d2 d3 d4 EJ ux
        refine wp_region_pre V3.heap.size 12 1 #[true, true, true, true, true, true, true, true, true, true, true, true, false] (by kernel_rfl) (by kernel_rfl) (by kernel_rfl) (by kernel_rfl) (by kernel_rfl) (by kernel_rfl) ?_
        (try simp only [List.take_succ_cons, List.take_zero])
        repeat (go_big_quiet_step (first
          | (go_at_call 93; exact Calls.grown (Nat.le_refl _) (unhide E2 _))
          | (go_at_call 92; exact Calls.grown (Nat.le_refl _) (unhide SW _))))
        refine wpQuiet_nil ?_
        rintro w5 ⟨d5, rfl⟩
        obtain ⟨W5, hb5⟩ := d5
        dsimp only
        clear K0 K1 K2 G0 G1 X0 X1 D0 D1 D2 D3 D4
        have b5 : Below wr.heap.size wr W5 := bx.trans (hb5.mono bx.size)
        have r5 := (unhide HSX).below b5
        have HB5 := hide (hb.trans (b5.mono hb.size))
        obtain ⟨u0, u1, u2⟩ := r5.cells
        have uf := r5.froz
        have HR5 := hide r5
        simp only at u0 u1 u2
        clear r5 b5 hb5 bx bw3
        refine wpAny_ready (rs := [12]) (fuel := 0) (by kernel_rfl) (by simp) ?_
        refine AllReady.cons (i := 12) rfl (fun K hK => ?_) AllReady.nil
        go_simp
        refine hK _ _ ?_
        clear hK K
        refine ⟨by kernel_rfl, ?_⟩
        go_wp2_with fail
        refine ⟨⟨j + 1, N, by go_num, by omega, unhide HRN, unhide HSA, (unhide HR5).three N.W1 N.W2 N.W3, ?_⟩, by simp [intOf]; omega⟩
        exact (unhide HB5).trans ((kept3 W5 w3.heap.size _ _ _).below (unhide HB5).size (fun i hi => by omega))
      · have hjn : j = n := by omega
        subst hjn
        have hS := (unhide HR).trans (unhide HME S)
        subst hS
        have r5 := (unhide HRR).below hb
        obtain ⟨u0, u1, u2⟩ := r5.cells
        have uf := r5.froz
        have HR5 := hide r5
        obtain ⟨k0, k1, k2⟩ := (unhide HSX).cells
        clear g0 g1 r5
        go_wp2_with fail
        (try simp only [Exit.inBlock, Exit.then])
        refine bodyPost_ret (results_sums2 Tryz.results71 _ _ (w.heap.size + 1) _ rfl ((unhide HR5).three V.W1 V.W2 V.W3)) rfl ?_
        exact ⟨⟨_, rfl, rfl⟩, hbw.trans ((kept3 wr (w.heap.size + 1) _ _ _).below hbw.size (fun i hi => by omega))⟩
end Gr
end Go.Proofs.YtjblkijicfmkgaaGreatDoor
