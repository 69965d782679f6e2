/-
  Texts of this claim, one behind the other: GrCert4, GrRC0, GrCertK, GrRI0.
-/
import Derived.Test.YtjblkijicfmkgaaGreatDoorJ18
import Derived.Deep.DeepFit
import Derived.Test.YtjblkijicfmkgaaGreatDoorJ2

/-
  The contract of spec.CertText.
-/
namespace Go.Proofs.YtjblkijicfmkgaaGreatDoor
namespace Gr
open Go.RowKit

theorem lv_any (x : Int) (h0 : 0 ≤ x) (h1 : x ≤ 1000000000) (w : World) :
    Calls Tryz.prog 98 #[.int .i64 x] w fun e w' => e = .returned (.string (vB x)) ∧ Below w.heap.size w w' := by
  obtain ⟨n, rfl⟩ := Int.eq_ofNat_of_zero_le h0
  exact l01Var_any n (by omega) w

theorem memOk_at (s : Int) : ∀ (M : List Int) (p : Option Int), memOk s p M = true → ∀ x ∈ M, 0 ≤ x ∧ x ≤ s - 1
  | [], _, _, x, hx => by simp at hx
  | y :: r, p, h, x, hx => by
    unfold memOk at h
    simp only [Bool.and_eq_true, decide_eq_true_eq] at h
    rcases List.mem_cons.1 hx with rfl | hx
    · exact h.1
    · exact memOk_at s r _ h.2.2 x hx

theorem grpsOk_mem (s : Int) : ∀ (G D : List GrpI), grpsOk s D G = true → ∀ q ∈ G, ∀ x ∈ q.M, 0 ≤ x ∧ x ≤ s - 1
  | [], _, _, q, hq => by simp at hq
  | y :: r, D, h, q, hq => by
    unfold grpsOk at h
    simp only [Bool.and_eq_true] at h
    rcases List.mem_cons.1 hq with rfl | hq
    · exact memOk_at s _ none h.2.1
    · exact grpsOk_mem s r (D ++ [y]) h.2.2.2 q hq

/-- What stands in a certificate. -/
theorem cert_ranges {s : Int} {Q : List EdgeI} {M : List CoupleI} {Y : List Int} {G : List GrpI} (h : certR s Q M Y G = true) :
    0 ≤ s ∧ s ≤ 9 ∧ (∀ e ∈ Q, (0 ≤ e.A ∧ e.A ≤ 9) ∧ (0 ≤ e.B ∧ e.B ≤ 9) ∧ (0 ≤ e.W1 ∧ e.W1 ≤ 50) ∧ (0 ≤ e.W2 ∧ e.W2 ≤ 50) ∧ (0 ≤ e.W3 ∧ e.W3 ≤ 50)) ∧ M.length ≤ 9 ∧ (∀ x ∈ M, (0 ≤ x.A ∧ x.A ≤ 9) ∧ (0 ≤ x.B ∧ x.B ≤ 9)) ∧ Y.length ≤ 9 ∧ (∀ y ∈ Y, 0 ≤ y ∧ y ≤ 1000000000) ∧ G.length ≤ 8 ∧ (∀ q ∈ G, q.M.length ≤ 9 ∧ (∀ x ∈ q.M, 0 ≤ x ∧ x ≤ 9) ∧ 0 ≤ q.Z ∧ q.Z ≤ 1000000000) := by
  unfold certR at h
  simp only [Bool.and_eq_true] at h
  obtain ⟨hp, hm, _⟩ := h
  obtain ⟨hg, hYl, h9, h8, hY, hG⟩ := proof_sound hp
  obtain ⟨h0, _, hE, _⟩ := graph_sound hg
  obtain ⟨_, hM9, hmf⟩ := match_sound hm
  have hE' : ∀ e ∈ Q, (0 ≤ e.A ∧ e.A ≤ 9) ∧ (0 ≤ e.B ∧ e.B ≤ 9) ∧ (0 ≤ e.W1 ∧ e.W1 ≤ 50) ∧ (0 ≤ e.W2 ∧ e.W2 ≤ 50) ∧ (0 ≤ e.W3 ∧ e.W3 ≤ 50) := fun e he => by
    obtain ⟨x0, x1, x2, w1, w2, w3⟩ := (edgeOk_iff s e).1 (hE e he)
    exact ⟨by omega, by omega, worth_range w1, worth_range w2, worth_range w3⟩
  refine ⟨h0, h9, hE', hM9, fun x hx => ?_, by omega, hY, h8, fun q hq => ?_⟩
  · obtain ⟨i, hi, _, _, hh⟩ := edgeN_at (mFrom_at Q M none [] hmf x hx)
    have := hE' _ (List.getElem_mem hi)
    unfold hit at hh
    simp only [Bool.or_eq_true, Bool.and_eq_true, beq_iff_eq] at hh
    omega
  · obtain ⟨_, _, q3, q4, q5⟩ := (grpHead_iff s q).1 (hG q hq)
    unfold proofOk at hp
    simp only [Bool.and_eq_true] at hp
    refine ⟨by omega, fun x hx => ?_, by omega, q5⟩
    have := grpsOk_mem s G [] hp.2.2.2.2.1 q hq x hx
    omega

set_option maxRecDepth 100000 in
set_option maxHeartbeats 8000000 in
theorem specCertText_gen (B : Nat) (v : Value) (s : Int) (Q : List EdgeI) (M : List CoupleI) (Y : List Int) (G : List GrpI) (h1 : csize Q M Y G ≤ 1048576) (w : World) (hB : B ≤ w.heap.size) (hv : CeAt w v B s Q M Y G) :
    Calls Tryz.prog 79 #[v] w fun e w' => e = .returned (.tuple #[.string (certT s Q M Y G), .bool (certR s Q M Y G)]) ∧ Below w.heap.size w w' := by
  obtain ⟨l1, l2, l3⟩ := csize_le h1
  obtain ⟨a, c, a1, c1, a2, c2, a3, c3, rfl, hg, hm, hp, _⟩ := hv
  have CK := hide (fun w1 (hb : Below w.heap.size w w1) => specCert_gen B _ s Q _ M _ Y G l1 l2 l3 w1 (by have := hb.size; omega) (hg.below hb hB) (hm.below hb hB) (hp.below hb hB))
  have hV : certT s Q M Y G = if certR s Q M Y G = true then certB s Q M Y G else ⟨#[]⟩ := rfl
  have HRG : Hid (certR s Q M Y G = true → _) := fun h => cert_ranges h
  generalize certT s Q M Y G = V at hV ⊢
  have hCB : certB s Q M Y G = groupsB (intsB (couplesB (edgesB (vB s ++ vB (Q.length : Int)) Q ++ vB (M.length : Int)) M) Y ++ vB (G.length : Int)) G := rfl
  generalize certB s Q M Y G = CB at hV hCB
  generalize certR s Q M Y G = ok at CK hV HRG ⊢
  obtain ⟨_, n0, _, eg, hE⟩ := hg
  obtain ⟨_, _, em, hMC⟩ := hm
  obtain ⟨_, nY, _, _, nG, _, ep, hYA, hGA, _⟩ := hp
  simp at eg em ep
  obtain ⟨rfl, rfl, rfl⟩ := eg
  obtain ⟨rfl, rfl⟩ := em
  obtain ⟨⟨rfl, rfl, rfl⟩, rfl, rfl, rfl⟩ := ep
  have HCE := hide hE.2
  have HCM := hide hMC.2
  have HCY := hide hYA.2
  have HCG := hide hGA.2
  clear hE hMC hYA hGA h1 l2 l3
  go_enter Tryz.func79, Tryz.ntmps79
  go_wp2_with fail
  obtain ⟨W1, hW1⟩ : ∃ W, W = w.alloc (Obj.cells #[Value.int .i64 s, Value.slice a Q.length c, Value.slice a1 M.length c1, Value.slice a2 Y.length c2, Value.slice a3 G.length c3] 59) := ⟨_, rfl⟩
  rw [← hW1]
  have b1 : Below w.heap.size w W1 := by rw [hW1]; exact below_new _ _
  have m1 : Blk W1 w.heap.size #[Value.int .i64 s, Value.slice a Q.length c, Value.slice a1 M.length c1, Value.slice a2 Y.length c2, Value.slice a3 G.length c3] 59 := by rw [hW1]; exact Blk.new0
  clear hW1
  go_fit (unhide CK W1 b1)
  rintro e w2 ⟨rfl, hb2⟩
  have b2 := b1.trans (hb2.mono b1.size)
  have m2 := m1.below hb2
  have HM := hide m2
  have z2 := m2.lt
  clear m1 hb2 b1 CK
  cases ok with
  | false =>
    rw [if_neg (by simp)] at hV
    subst hV
    clear m2
    go_wp2_with fail
    go_ret2
    exact ⟨rfl, b2⟩
  | true =>
    rw [if_pos rfl] at hV
    subst hV
    obtain ⟨s0, s9, rE, rM9, rM, rY9, rY, rG8, rG⟩ := unhide HRG rfl
    have HRE := hide rE
    have HRM := hide rM
    have HRY := hide rY
    have HRGG := hide rG
    clear rE rM rY rG HRG
    have V0 := hide (fun w => lv_any s s0 (by omega) w)
    have V1 := hide (fun w => lv_any (Q.length : Int) (by omega) (by omega) w)
    have v0 := vB_size s
    have v1 := vB_size (Q.length : Int)
    have HB0 := hide hCB
    clear hCB
    obtain ⟨bs, hbs⟩ : ∃ x, x = vB s := ⟨_, rfl⟩
    obtain ⟨bq, hbq⟩ : ∃ x, x = vB (Q.length : Int) := ⟨_, rfl⟩
    rw [← hbs] at V0 v0 HB0
    rw [← hbq] at V1 v1 HB0
    clear hbs hbq
    have k0 : ∀ d : Grown w2.heap.size w2, d.w.cell? ⟨w.heap.size, 0, none⟩ = some (.int .i64 s) := fun d => d.cell z2 (m2.cell 0 _ rfl)
    have k1 : ∀ d : Grown w2.heap.size w2, d.w.cell? ⟨w.heap.size, 1, none⟩ = some (.slice a Q.length c) := fun d => d.cell z2 (m2.cell 1 _ rfl)
    have hz0 : ¬ 9223372036854775807 < bs.size + bq.size := by omega
    clear m2
    go_wp2_with fail
    refine wp_region_grown w2.heap.size (by kernel_rfl) (by kernel_rfl) ?_
    repeat (go_big_quiet_step (first
      | (go_at_call_of 98 (Value.int IntKind.i64 s); exact Calls.grown (Nat.le_refl _) (unhide V0 _))
      | (go_at_call 98; exact Calls.grown (Nat.le_refl _) (unhide V1 _))))
    refine wpQuiet_nil ?_
    rintro w5 ⟨d5, rfl⟩
    obtain ⟨W5, hb5⟩ := d5
    dsimp only
    clear k0 k1
    go_wp2_with fail
    obtain ⟨T1, hT1⟩ : ∃ x, x = edgesB (bs ++ bq) Q := ⟨_, rfl⟩
    rw [← hT1] at HB0
    have H1 : Hid (T1 = edgesB (bs ++ bq) (Q.drop 0)) := hT1
    have HS1 : Hid (∀ S j (h : j < Q.length), edgesB S (Q.drop j) = edgesB (((((S ++ vB Q[j].A) ++ vB Q[j].B) ++ vB Q[j].W1) ++ vB Q[j].W2) ++ vB Q[j].W3) (Q.drop (j + 1))) := fun S j h => by rw [drop_step Q j h]; rfl
    have HZ1 : Hid ((bs ++ bq).size ≤ 10) := by show _ ≤ _; rw [ByteArray.size_append]; omega
    clear hT1
    go_loopw [4, 5] (fun t i wr => ∃ (j : Nat) (S : ByteArray), i = .int .i64 (j : Int) ∧ t = .string S ∧ j ≤ Q.length ∧ S.size ≤ 10 + 25 * j ∧ Hid (T1 = edgesB S (Q.drop j)) ∧ Below w2.heap.size w2 wr) (fun _ i _ => Q.length - (intOf i).toNat)
    case atStart => exact ⟨0, bs ++ bq, rfl, rfl, Nat.zero_le _, unhide HZ1, unhide H1, hb5⟩
    case round =>
      obtain ⟨j, S, rfl, rfl, hj, hS, HT, hbr⟩ := hrel
      have hzr := hbr.size
      have bw := b2.trans (hbr.mono b2.size)
      have p1 : wr.cell? ⟨w.heap.size, 1, none⟩ = some (.slice a Q.length c) := ((unhide HM).below hbr).cell 1 _ rfl
      by_cases hlt : j < Q.length
      · obtain ⟨b, off, rfl, hbB, d0, d1, d2, d3, d4⟩ := unhide HCE j hlt
        have re := unhide HRE _ (List.getElem_mem hlt)
        have HT2 := hide ((unhide HT).trans (unhide HS1 S j hlt))
        generalize Q[j] = q at d0 d1 d2 d3 d4 re HT2
        obtain ⟨y0, y1, y2, y3, y4⟩ := q
        simp only at d0 d1 d2 d3 d4 re HT2
        rw [← bw.cell (p := ⟨b, off + j * 5, none⟩) (by simp; omega)] at d0
        rw [← bw.cell (p := ⟨b, off + j * 5 + 1, none⟩) (by simp; omega)] at d1
        rw [← bw.cell (p := ⟨b, off + j * 5 + 2, none⟩) (by simp; omega)] at d2
        rw [← bw.cell (p := ⟨b, off + j * 5 + 3, none⟩) (by simp; omega)] at d3
        rw [← bw.cell (p := ⟨b, off + j * 5 + 4, none⟩) (by simp; omega)] at d4
        have X0 := hide (fun w => lv_any y0 re.1.1 (by omega) w)
        have X1 := hide (fun w => lv_any y1 re.2.1.1 (by omega) w)
        have X2 := hide (fun w => lv_any y2 re.2.2.1.1 (by omega) w)
        have X3 := hide (fun w => lv_any y3 re.2.2.2.1.1 (by omega) w)
        have X4 := hide (fun w => lv_any y4 re.2.2.2.2.1 (by omega) w)
        have x0 := vB_size y0
        have x1 := vB_size y1
        have x2 := vB_size y2
        have x3 := vB_size y3
        have x4 := vB_size y4
        generalize vB y0 = g0 at X0 x0 HT2
        generalize vB y1 = g1 at X1 x1 HT2
        generalize vB y2 = g2 at X2 x2 HT2
        generalize vB y3 = g3 at X3 x3 HT2
        generalize vB y4 = g4 at X4 x4 HT2
        have u0 : ¬ 9223372036854775807 < S.size + g0.size := by omega
        have u1 : ¬ 9223372036854775807 < (S ++ g0).size + g1.size := by rw [ByteArray.size_append]; omega
        have u2 : ¬ 9223372036854775807 < ((S ++ g0) ++ g1).size + g2.size := by rw [ByteArray.size_append, ByteArray.size_append]; omega
        have u3 : ¬ 9223372036854775807 < (((S ++ g0) ++ g1) ++ g2).size + g3.size := by rw [ByteArray.size_append, ByteArray.size_append, ByteArray.size_append]; omega
        have u4 : ¬ 9223372036854775807 < ((((S ++ g0) ++ g1) ++ g2) ++ g3).size + g4.size := by rw [ByteArray.size_append, ByteArray.size_append, ByteArray.size_append, ByteArray.size_append]; omega
        have HU5 : Hid ((((((S ++ g0) ++ g1) ++ g2) ++ g3) ++ g4).size ≤ 10 + 25 * (j + 1)) := by show _ ≤ _; rw [ByteArray.size_append, ByteArray.size_append, ByteArray.size_append, ByteArray.size_append, ByteArray.size_append]; omega
        have hbl : b < wr.heap.size := by omega
        clear re
        go_wp2_with fail
        have bx : Below wr.heap.size wr (wr.alloc (Obj.cells #[Value.int .i64 y0, Value.int .i64 y1, Value.int .i64 y2, Value.int .i64 y3, Value.int .i64 y4] 113)) := below_new _ _
        have ux : Blk (wr.alloc (Obj.cells #[Value.int .i64 y0, Value.int .i64 y1, Value.int .i64 y2, Value.int .i64 y3, Value.int .i64 y4] 113)) wr.heap.size #[Value.int .i64 y0, Value.int .i64 y1, Value.int .i64 y2, Value.int .i64 y3, Value.int .i64 y4] 113 := Blk.new0
        generalize wr.alloc (Obj.cells #[Value.int .i64 y0, Value.int .i64 y1, Value.int .i64 y2, Value.int .i64 y3, Value.int .i64 y4] 113) = V3 at bx ux ⊢
        have zx := ux.lt
        have E0 : ∀ d : Grown V3.heap.size V3, d.w.cell? ⟨wr.heap.size, 0, none⟩ = some (.int .i64 y0) := fun d => d.cell zx (ux.cell 0 _ rfl)
        have E1 : ∀ d : Grown V3.heap.size V3, d.w.cell? ⟨wr.heap.size, 1, none⟩ = some (.int .i64 y1) := fun d => d.cell zx (ux.cell 1 _ rfl)
        have E2 : ∀ d : Grown V3.heap.size V3, d.w.cell? ⟨wr.heap.size, 2, none⟩ = some (.int .i64 y2) := fun d => d.cell zx (ux.cell 2 _ rfl)
        have E3 : ∀ d : Grown V3.heap.size V3, d.w.cell? ⟨wr.heap.size, 3, none⟩ = some (.int .i64 y3) := fun d => d.cell zx (ux.cell 3 _ rfl)
        have E4 : ∀ d : Grown V3.heap.size V3, d.w.cell? ⟨wr.heap.size, 4, none⟩ = some (.int .i64 y4) := fun d => d.cell zx (ux.cell 4 _ rfl)
        clear d0 d1 d2 d3 d4 p1
        refine wp_region_grown V3.heap.size (by kernel_rfl) (by kernel_rfl) ?_
        repeat (go_big_quiet_step (first
          | (go_at_call_of 98 (Value.int IntKind.i64 y0); exact Calls.grown (Nat.le_refl _) (unhide X0 _))
          | (go_at_call_of 98 (Value.int IntKind.i64 y1); exact Calls.grown (Nat.le_refl _) (unhide X1 _))
          | (go_at_call_of 98 (Value.int IntKind.i64 y2); exact Calls.grown (Nat.le_refl _) (unhide X2 _))
          | (go_at_call_of 98 (Value.int IntKind.i64 y3); exact Calls.grown (Nat.le_refl _) (unhide X3 _))
          | (go_at_call_of 98 (Value.int IntKind.i64 y4); exact Calls.grown (Nat.le_refl _) (unhide X4 _))))
        refine wpQuiet_nil ?_
        rintro w6 ⟨d6, rfl⟩
        clear E0 E1 E2 E3 E4
        go_wp2_with fail
        exact ⟨⟨j + 1, _, by go_num, rfl, by omega, unhide HU5, unhide HT2, hbr.trans ((bx.trans (d6.below.mono bx.size)).mono hbr.size)⟩, by simp [intOf]; omega⟩
      · obtain rfl : j = Q.length := by omega
        have hT : T1 = S := by rw [unhide HT, List.drop_length]; rfl
        rw [hT] at HB0
        clear hT HT H1 HS1
        have X0 := hide (fun w => lv_any (M.length : Int) (by omega) (by omega) w)
        have x0 := vB_size (M.length : Int)
        generalize vB (M.length : Int) = g0 at X0 x0 HB0
        have u0 : ¬ 9223372036854775807 < S.size + g0.size := by omega
        have p2 : wr.cell? ⟨w.heap.size, 2, none⟩ = some (.slice a1 M.length c1) := ((unhide HM).below hbr).cell 2 _ rfl
        go_wp2_with fail
        refine (unhide X0 _).mono ?_
        rintro e w6 ⟨rfl, hb6⟩
        have hb6' := hbr.trans (hb6.mono hbr.size)
        clear p1 p2
        go_wp2_with fail
        have HB6 := hide hb6'
        obtain ⟨S0, hS0⟩ : ∃ x, x = S ++ g0 := ⟨_, rfl⟩
        have hz6 : S0.size ≤ 30000000 := by rw [hS0, ByteArray.size_append]; omega
        rw [← hS0] at HB0 ⊢
        obtain ⟨T2, hT2⟩ : ∃ x, x = couplesB S0 M := ⟨_, rfl⟩
        rw [← hT2] at HB0
        have H2 : Hid (T2 = couplesB S0 (M.drop 0)) := hT2
        have HS2 : Hid (∀ S j (h : j < M.length), couplesB S (M.drop j) = couplesB ((S ++ vB M[j].A) ++ vB M[j].B) (M.drop (j + 1))) := fun S j h => by rw [drop_step M j h]; rfl
        clear hT2 hS0 hb6 hb6' bw hbr hzr u0 x0 X0 hS
        go_loopw [4, 7] (fun t i wr => ∃ (j : Nat) (S : ByteArray), i = .int .i64 (j : Int) ∧ t = .string S ∧ j ≤ M.length ∧ S.size ≤ 30000000 + 10 * j ∧ Hid (T2 = couplesB S (M.drop j)) ∧ Below w2.heap.size w2 wr) (fun _ i _ => M.length - (intOf i).toNat)
        case atStart => exact ⟨0, S0, rfl, rfl, Nat.zero_le _, hz6, unhide H2, unhide HB6⟩
        case round =>
          obtain ⟨j, S, rfl, rfl, hj, hS, HT, hbr⟩ := hrel
          have hzr := hbr.size
          have bw := b2.trans (hbr.mono b2.size)
          have p2 : wr.cell? ⟨w.heap.size, 2, none⟩ = some (.slice a1 M.length c1) := ((unhide HM).below hbr).cell 2 _ rfl
          by_cases hlt : j < M.length
          · obtain ⟨b, off, rfl, hbB, d0, d1⟩ := unhide HCM j hlt
            have re := unhide HRM _ (List.getElem_mem hlt)
            have HT2 := hide ((unhide HT).trans (unhide HS2 S j hlt))
            generalize M[j] = q at d0 d1 re HT2
            obtain ⟨y0, y1⟩ := q
            simp only at d0 d1 re HT2
            have X0 := hide (fun w => lv_any y0 re.1.1 (by omega) w)
            have X1 := hide (fun w => lv_any y1 re.2.1 (by omega) w)
            have x0 := vB_size y0
            have x1 := vB_size y1
            generalize vB y0 = g0 at X0 x0 HT2
            generalize vB y1 = g1 at X1 x1 HT2
            have u0 : ¬ 9223372036854775807 < S.size + g0.size := by omega
            have u1 : ¬ 9223372036854775807 < (S ++ g0).size + g1.size := by rw [ByteArray.size_append]; omega
            have HU5 : Hid (((S ++ g0) ++ g1).size ≤ 30000000 + 10 * (j + 1)) := by show _ ≤ _; rw [ByteArray.size_append, ByteArray.size_append]; omega
            have hjn : (j : Int) < ((M.length : Nat) : Int) := by omega
            have P2 : ∀ d : Grown wr.heap.size wr, d.w.cell? ⟨w.heap.size, 2, none⟩ = some (.slice (some ⟨b, off, none⟩) M.length c1) := fun d => d.cell (by omega) p2
            have E0 : ∀ d : Grown wr.heap.size wr, d.w.cell? ⟨b, off + j * 2, none⟩ = some (.int .i64 y0) := fun d => d.cell (by omega) ((bw.cell (p := ⟨b, off + j * 2, none⟩) (by simp; omega)).trans d0)
            have E1 : ∀ d : Grown wr.heap.size wr, d.w.cell? ⟨b, off + j * 2 + 1, none⟩ = some (.int .i64 y1) := fun d => d.cell (by omega) ((bw.cell (p := ⟨b, off + j * 2 + 1, none⟩) (by simp; omega)).trans d1)
            clear re d0 d1
            go_wp2_with fail
            clear p2
            refine wp_region_grown wr.heap.size (by kernel_rfl) (by kernel_rfl) ?_
            repeat (go_big_quiet_step (first
              | (go_at_call_of 98 (Value.int IntKind.i64 y0); exact Calls.grown (Nat.le_refl _) (unhide X0 _))
              | (go_at_call_of 98 (Value.int IntKind.i64 y1); exact Calls.grown (Nat.le_refl _) (unhide X1 _))))
            refine wpQuiet_nil ?_
            rintro w6 ⟨d6, rfl⟩
            clear P2 E0 E1
            go_wp2_with fail
            exact ⟨⟨j + 1, _, by go_num, rfl, by omega, unhide HU5, unhide HT2, hbr.trans (d6.below.mono hbr.size)⟩, by simp [intOf]; omega⟩
          · obtain rfl : j = M.length := by omega
            have hT : T2 = S := by rw [unhide HT, List.drop_length]; rfl
            rw [hT] at HB0
            clear hT HT H2 HS2
            go_wp2_with fail
            have HB7 := hide hbr
            obtain ⟨T3, hT3⟩ : ∃ x, x = intsB S Y := ⟨_, rfl⟩
            rw [← hT3] at HB0
            have H3 : Hid (T3 = intsB S (Y.drop 0)) := hT3
            have hz7 : S.size ≤ 31000000 := by omega
            have HS3 : Hid (∀ S j (h : j < Y.length), intsB S (Y.drop j) = intsB (S ++ vB Y[j]) (Y.drop (j + 1))) := fun S j h => by rw [drop_step Y j h]; rfl
            clear hT3 bw hbr hzr p2 hS
            go_loopw [4, 8] (fun t i wr => ∃ (j : Nat) (S : ByteArray), i = .int .i64 (j : Int) ∧ t = .string S ∧ j ≤ Y.length ∧ S.size ≤ 31000000 + 5 * j ∧ Hid (T3 = intsB S (Y.drop j)) ∧ Below w2.heap.size w2 wr) (fun _ i _ => Y.length - (intOf i).toNat)
            case atStart => exact ⟨0, S, rfl, rfl, Nat.zero_le _, hz7, unhide H3, unhide HB7⟩
            case round =>
              obtain ⟨j, S, rfl, rfl, hj, hS, HT, hbr⟩ := hrel
              have hzr := hbr.size
              have bw := b2.trans (hbr.mono b2.size)
              have p3 : wr.cell? ⟨w.heap.size, 3, none⟩ = some (.slice a2 Y.length c2) := ((unhide HM).below hbr).cell 3 _ rfl
              by_cases hlt : j < Y.length
              · obtain ⟨b, off, rfl, hbB, d0⟩ := unhide HCY j hlt
                rw [← bw.cell (p := ⟨b, off + j, none⟩) (by simp; omega)] at d0
                have re := unhide HRY _ (List.getElem_mem hlt)
                have HT2 := hide ((unhide HT).trans (unhide HS3 S j hlt))
                generalize Y[j] = y0 at d0 re HT2
                have X0 := hide (fun w => lv_any y0 re.1 re.2 w)
                have x0 := vB_size y0
                generalize vB y0 = g0 at X0 x0 HT2
                have u0 : ¬ 9223372036854775807 < S.size + g0.size := by omega
                have HU5 : Hid ((S ++ g0).size ≤ 31000000 + 5 * (j + 1)) := by show _ ≤ _; rw [ByteArray.size_append]; omega
                clear re
                go_wp2_with fail
                refine (unhide X0 _).mono ?_
                rintro e w6 ⟨rfl, hb6⟩
                have hb6' := hbr.trans (hb6.mono hbr.size)
                clear p3 d0
                go_wp2_with fail
                exact ⟨⟨j + 1, _, by go_num, rfl, by omega, unhide HU5, unhide HT2, hb6'⟩, by simp [intOf]; omega⟩
              · obtain rfl : j = Y.length := by omega
                have hT : T3 = S := by rw [unhide HT, List.drop_length]; rfl
                rw [hT] at HB0
                clear hT HT H3 HS3
                have X0 := hide (fun w => lv_any (G.length : Int) (by omega) (by omega) w)
                have x0 := vB_size (G.length : Int)
                generalize vB (G.length : Int) = g0 at X0 x0 HB0
                have u0 : ¬ 9223372036854775807 < S.size + g0.size := by omega
                have p4 : wr.cell? ⟨w.heap.size, 4, none⟩ = some (.slice a3 G.length c3) := ((unhide HM).below hbr).cell 4 _ rfl
                go_wp2_with fail
                refine (unhide X0 _).mono ?_
                rintro e w6 ⟨rfl, hb6⟩
                have hb6' := hbr.trans (hb6.mono hbr.size)
                clear p3 p4
                go_wp2_with fail
                have HB8 := hide hb6'
                obtain ⟨S8, hS8⟩ : ∃ x, x = S ++ g0 := ⟨_, rfl⟩
                have hz8 : S8.size ≤ 32000000 := by rw [hS8, ByteArray.size_append]; omega
                rw [← hS8] at HB0 ⊢
                have H4 : Hid (V = groupsB S8 (G.drop 0)) := unhide HB0
                have HS4 : Hid (∀ S j (h : j < G.length), groupsB S (G.drop j) = groupsB ((intsB (S ++ vB (G[j].M.length : Int)) G[j].M) ++ vB G[j].Z) (G.drop (j + 1))) := fun S j h => by rw [drop_step G j h]; rfl
                clear hS8 hb6 hb6' bw hbr hzr u0 x0 X0 hS HB0
                go_loopw [4, 9] (fun t i wr => ∃ (j : Nat) (S : ByteArray), i = .int .i64 (j : Int) ∧ t = .string S ∧ j ≤ G.length ∧ S.size ≤ 32000000 + 55 * j ∧ Hid (V = groupsB S (G.drop j)) ∧ Below w2.heap.size w2 wr) (fun _ i _ => G.length - (intOf i).toNat)
                case atStart => exact ⟨0, S8, rfl, rfl, Nat.zero_le _, hz8, unhide H4, unhide HB8⟩
                case round =>
                  obtain ⟨j, S, rfl, rfl, hj, hS, HT, hbr⟩ := hrel
                  have hzr := hbr.size
                  have bw := b2.trans (hbr.mono b2.size)
                  have p4 : wr.cell? ⟨w.heap.size, 4, none⟩ = some (.slice a3 G.length c3) := ((unhide HM).below hbr).cell 4 _ rfl
                  by_cases hlt : j < G.length
                  · obtain ⟨b, off, a5, c5, rfl, hbB, d0, d1, hIA⟩ := unhide HCG j hlt
                    rw [← bw.cell (p := ⟨b, off + j * 2, none⟩) (by simp; omega)] at d0
                    rw [← bw.cell (p := ⟨b, off + j * 2 + 1, none⟩) (by simp; omega)] at d1
                    obtain ⟨q9, qm, qz0, qz1⟩ := unhide HRGG _ (List.getElem_mem hlt)
                    have HT2 := hide ((unhide HT).trans (unhide HS4 S j hlt))
                    have HIA := hide hIA.2
                    generalize G[j] = q at d0 d1 q9 qm qz0 qz1 HT2 HIA
                    clear hIA
                    have HQM := hide qm
                    have X0 := hide (fun w => lv_any (q.M.length : Int) (by omega) (by omega) w)
                    have X9 := hide (fun w => lv_any q.Z qz0 qz1 w)
                    have x0 := vB_size (q.M.length : Int)
                    have x9 := vB_size q.Z
                    generalize vB (q.M.length : Int) = g0 at X0 x0 HT2
                    generalize vB q.Z = g9 at X9 x9 HT2
                    have u0 : ¬ 9223372036854775807 < S.size + g0.size := by omega
                    have hbl : b < wr.heap.size := by omega
                    clear qm
                    go_wp2_with fail
                    have bx : Below wr.heap.size wr (wr.alloc (Obj.cells #[Value.slice a5 q.M.length c5, Value.int .i64 q.Z] 136)) := below_new _ _
                    have ux : Blk (wr.alloc (Obj.cells #[Value.slice a5 q.M.length c5, Value.int .i64 q.Z] 136)) wr.heap.size #[Value.slice a5 q.M.length c5, Value.int .i64 q.Z] 136 := Blk.new0
                    generalize wr.alloc (Obj.cells #[Value.slice a5 q.M.length c5, Value.int .i64 q.Z] 136) = V3 at bx ux ⊢
                    refine (unhide X0 _).mono ?_
                    rintro e w6 ⟨rfl, hb6⟩
                    obtain ⟨N7, hN7⟩ : ∃ N, N = wr.heap.size := ⟨_, rfl⟩
                    have b6 := hbr.trans ((bx.trans (hb6.mono bx.size)).mono hbr.size)
                    have u6 := ux.below hb6
                    rw [← hN7] at u6 ⊢
                    have HU6 := hide u6
                    have HB6 := hide b6
                    have z6 := u6.lt
                    clear hN7 bx ux b6 u6 d0 d1 p4 hb6 bw hbr hzr hbl
                    go_wp2_with fail
                    obtain ⟨S9, hS9⟩ : ∃ x, x = S ++ g0 := ⟨_, rfl⟩
                    have hz9 : S9.size ≤ S.size + 5 := by rw [hS9, ByteArray.size_append]; omega
                    rw [← hS9] at HT2 ⊢
                    obtain ⟨T5, hT5⟩ : ∃ x, x = intsB S9 q.M := ⟨_, rfl⟩
                    rw [← hT5] at HT2
                    have H5 : Hid (T5 = intsB S9 (q.M.drop 0)) := hT5
                    have HS5 : Hid (∀ S k (h : k < q.M.length), intsB S (q.M.drop k) = intsB (S ++ vB q.M[k]) (q.M.drop (k + 1))) := fun S k h => by rw [drop_step q.M k h]; rfl
                    clear hT5 hS9 u0 x0 X0
                    go_loopw [4, 11] (fun t i wr => ∃ (k : Nat) (S' : ByteArray), i = .int .i64 (k : Int) ∧ t = .string S' ∧ k ≤ q.M.length ∧ S'.size ≤ S.size + 5 + 5 * k ∧ Hid (T5 = intsB S' (q.M.drop k)) ∧ Below w2.heap.size w2 wr ∧ Blk wr N7 #[Value.slice a5 q.M.length c5, Value.int .i64 q.Z] 136) (fun _ i _ => q.M.length - (intOf i).toNat)
                    case atStart => exact ⟨0, S9, rfl, rfl, Nat.zero_le _, hz9, unhide H5, unhide HB6, unhide HU6⟩
                    case round =>
                      obtain ⟨k, S', rfl, rfl, hk, hS', HT5, hbr, ur⟩ := hrel
                      have hzr := hbr.size
                      have bw := b2.trans (hbr.mono b2.size)
                      have p7 : wr.cell? ⟨N7, 0, none⟩ = some (.slice a5 q.M.length c5) := ur.cell 0 _ rfl
                      by_cases hlt5 : k < q.M.length
                      · obtain ⟨b', off', rfl, hbB', e0⟩ := unhide HIA k hlt5
                        rw [← bw.cell (p := ⟨b', off' + k, none⟩) (by simp; omega)] at e0
                        have re := unhide HQM _ (List.getElem_mem hlt5)
                        have HT6 := hide ((unhide HT5).trans (unhide HS5 S' k hlt5))
                        generalize q.M[k] = y0 at e0 re HT6
                        have X0 := hide (fun w => lv_any y0 re.1 (by omega) w)
                        have x0 := vB_size y0
                        generalize vB y0 = g1 at X0 x0 HT6
                        have u0 : ¬ 9223372036854775807 < S'.size + g1.size := by omega
                        have HU5 : Hid ((S' ++ g1).size ≤ S.size + 5 + 5 * (k + 1)) := by show _ ≤ _; rw [ByteArray.size_append]; omega
                        clear re
                        go_wp2_with fail
                        refine (unhide X0 _).mono ?_
                        rintro e w7 ⟨rfl, hb7⟩
                        have hb7' := hbr.trans (hb7.mono hbr.size)
                        have ur' := ur.below hb7
                        clear p7 e0
                        go_wp2_with fail
                        exact ⟨⟨k + 1, _, by go_num, rfl, by omega, unhide HU5, unhide HT6, hb7', ur'⟩, by simp [intOf]; omega⟩
                      · obtain rfl : k = q.M.length := by omega
                        have hT : T5 = S' := by rw [unhide HT5, List.drop_length]; rfl
                        rw [hT] at HT2
                        clear hT HT5 H5 HS5
                        have p8 : wr.cell? ⟨N7, 1, none⟩ = some (.int .i64 q.Z) := ur.cell 1 _ rfl
                        have u0 : ¬ 9223372036854775807 < S'.size + g9.size := by omega
                        have HU5 : Hid ((S' ++ g9).size ≤ 32000000 + 55 * (j + 1)) := by show _ ≤ _; rw [ByteArray.size_append]; omega
                        go_wp2_with fail
                        refine (unhide X9 _).mono ?_
                        rintro e w7 ⟨rfl, hb7⟩
                        have hb7' := hbr.trans (hb7.mono hbr.size)
                        clear p7 p8
                        go_wp2_with fail
                        exact ⟨⟨j + 1, _, by go_num, rfl, by omega, unhide HU5, unhide HT2, hb7'⟩, by simp [intOf]; omega⟩
                  · obtain rfl : j = G.length := by omega
                    have hT : V = S := by rw [unhide HT, List.drop_length]; rfl
                    subst hT
                    go_wp2_with fail
                    go_ret2
                    exact ⟨rfl, bw⟩
end Gr
end Go.Proofs.YtjblkijicfmkgaaGreatDoor

/-
  The numbers of a certificate's bytes, read one behind the other; what was written is read back. Without a program.
-/
namespace Go.Proofs.YtjblkijicfmkgaaGreatDoor
namespace Gr
open Go.RowKit

def rdEdges (t : ByteArray) : Nat → CS → List EdgeI × CS
  | 0, c => ([], c)
  | k + 1, c => if c.b = true then ([], c) else
    let a := rd t c
    let b := rd t a.2
    let d := rd t b.2
    let e := rd t d.2
    let f := rd t e.2
    let r := rdEdges t k f.2
    (⟨a.1, b.1, d.1, e.1, f.1⟩ :: r.1, r.2)

def rdCouples (t : ByteArray) : Nat → CS → List CoupleI × CS
  | 0, c => ([], c)
  | k + 1, c => if c.b = true then ([], c) else
    let a := rd t c
    let b := rd t a.2
    let r := rdCouples t k b.2
    (⟨a.1, b.1⟩ :: r.1, r.2)

def rdGroups (t : ByteArray) : Nat → CS → List GrpI × CS
  | 0, c => ([], c)
  | k + 1, c => if c.b = true then ([], c) else
    let a := rd t c
    let m := rdInts t (min a.1.toNat 100) a.2
    let z := rd t m.2
    let r := rdGroups t k z.2
    (⟨m.1, z.1⟩ :: r.1, r.2)

/-- What is read of a text. -/
structure RC where
  s : Int
  Q : List EdgeI
  M : List CoupleI
  Y : List Int
  G : List GrpI
  c : CS

def rdCert (t : ByteArray) : RC :=
  let s := rd t ⟨0, false⟩
  let n := rd t s.2
  let E := rdEdges t (min n.1.toNat 100) n.2
  let m := rd t E.2
  let M := rdCouples t (min m.1.toNat 100) m.2
  let Y := rdInts t (min s.1.toNat 100) M.2
  let g := rd t Y.2
  let G := rdGroups t (min g.1.toNat 100) g.2
  ⟨s.1, E.1, M.1, Y.1, G.1, G.2⟩

def RC.ok (x : RC) (t : ByteArray) : Bool := !x.c.b && (certR x.s x.Q x.M x.Y x.G && decide (certB x.s x.Q x.M x.Y x.G = t))

/-- What ReadCert tells. -/
def rcOk (t : ByteArray) : Bool := (rdCert t).ok t
def rcV (t : ByteArray) : RC := if rcOk t = true then rdCert t else ⟨0, [], [], [], [], ⟨0, false⟩⟩

def edgeL (e : EdgeI) : List UInt8 := vL e.A ++ (vL e.B ++ (vL e.W1 ++ (vL e.W2 ++ vL e.W3)))
def coupleL (x : CoupleI) : List UInt8 := vL x.A ++ vL x.B
def grpL (q : GrpI) : List UInt8 := vL (q.M.length : Int) ++ (q.M.flatMap vL ++ vL q.Z)

theorem edgesB_list : ∀ (Q : List EdgeI) (S : ByteArray), (edgesB S Q).data.toList = S.data.toList ++ Q.flatMap edgeL
  | [], S => by simp [edgesB]
  | e :: r, S => by
    rw [edgesB, edgesB_list r]
    simp only [app_list, vB_list, List.flatMap_cons, edgeL, List.append_assoc]

theorem couplesB_list : ∀ (Q : List CoupleI) (S : ByteArray), (couplesB S Q).data.toList = S.data.toList ++ Q.flatMap coupleL
  | [], S => by simp [couplesB]
  | e :: r, S => by
    rw [couplesB, couplesB_list r]
    simp only [app_list, vB_list, List.flatMap_cons, coupleL, List.append_assoc]

theorem intsB_list : ∀ (Q : List Int) (S : ByteArray), (intsB S Q).data.toList = S.data.toList ++ Q.flatMap vL
  | [], S => by simp [intsB]
  | e :: r, S => by
    rw [intsB, intsB_list r]
    simp only [app_list, vB_list, List.flatMap_cons, List.append_assoc]

theorem groupsB_list : ∀ (Q : List GrpI) (S : ByteArray), (groupsB S Q).data.toList = S.data.toList ++ Q.flatMap grpL
  | [], S => by simp [groupsB]
  | e :: r, S => by
    rw [groupsB, groupsB_list r]
    simp only [app_list, vB_list, intsB_list, List.flatMap_cons, grpL, List.append_assoc]

theorem certB_list (s : Int) (Q : List EdgeI) (M : List CoupleI) (Y : List Int) (G : List GrpI) :
    (certB s Q M Y G).data.toList = vL s ++ (vL (Q.length : Int) ++ (Q.flatMap edgeL ++ (vL (M.length : Int) ++ (M.flatMap coupleL ++ (Y.flatMap vL ++ (vL (G.length : Int) ++ G.flatMap grpL)))))) := by
  unfold certB
  simp only [groupsB_list, app_list, vB_list, intsB_list, couplesB_list, edgesB_list, List.append_assoc]

theorem edges_back (t : ByteArray) : ∀ (Q : List EdgeI) (p r : List UInt8), (∀ e ∈ Q, small e.A ∧ small e.B ∧ small e.W1 ∧ small e.W2 ∧ small e.W3) → t.data.toList = p ++ (Q.flatMap edgeL ++ r) → rdEdges t Q.length ⟨p.length, false⟩ = (Q, ⟨(p ++ Q.flatMap edgeL).length, false⟩)
  | [], p, r, _, _ => by simp [rdEdges]
  | e :: Q, p, r, h, ht => by
    obtain ⟨⟨a0, a1⟩, ⟨b0, b1⟩, ⟨c0, c1⟩, ⟨d0, d1⟩, ⟨e0, e1⟩⟩ := h e (by simp)
    rw [List.flatMap_cons] at ht
    simp only [edgeL, List.append_assoc] at ht
    have r1 := rd_back t p _ e.A a0 a1 ht
    have r2 := rd_back t (p ++ vL e.A) _ e.B b0 b1 (by rw [ht]; simp only [List.append_assoc] <;> rfl)
    have r3 := rd_back t (p ++ vL e.A ++ vL e.B) _ e.W1 c0 c1 (by rw [ht]; simp only [List.append_assoc] <;> rfl)
    have r4 := rd_back t (p ++ vL e.A ++ vL e.B ++ vL e.W1) _ e.W2 d0 d1 (by rw [ht]; simp only [List.append_assoc] <;> rfl)
    have r5 := rd_back t (p ++ vL e.A ++ vL e.B ++ vL e.W1 ++ vL e.W2) _ e.W3 e0 e1 (by rw [ht]; simp only [List.append_assoc] <;> rfl)
    have r6 := edges_back t Q (p ++ vL e.A ++ vL e.B ++ vL e.W1 ++ vL e.W2 ++ vL e.W3) r (fun x hx => h x (by simp [hx])) (by rw [ht]; simp only [List.append_assoc] <;> rfl)
    rw [List.length_cons, rdEdges, if_neg (by simp)]
    simp only [r1, r2, r3, r4, r5, r6]
    simp only [List.flatMap_cons, edgeL, List.append_assoc]

theorem couples_back (t : ByteArray) : ∀ (Q : List CoupleI) (p r : List UInt8), (∀ e ∈ Q, small e.A ∧ small e.B) → t.data.toList = p ++ (Q.flatMap coupleL ++ r) → rdCouples t Q.length ⟨p.length, false⟩ = (Q, ⟨(p ++ Q.flatMap coupleL).length, false⟩)
  | [], p, r, _, _ => by simp [rdCouples]
  | e :: Q, p, r, h, ht => by
    obtain ⟨⟨a0, a1⟩, ⟨b0, b1⟩⟩ := h e (by simp)
    rw [List.flatMap_cons] at ht
    simp only [coupleL, List.append_assoc] at ht
    have r1 := rd_back t p _ e.A a0 a1 ht
    have r2 := rd_back t (p ++ vL e.A) _ e.B b0 b1 (by rw [ht]; simp only [List.append_assoc] <;> rfl)
    have r6 := couples_back t Q (p ++ vL e.A ++ vL e.B) r (fun x hx => h x (by simp [hx])) (by rw [ht]; simp only [List.append_assoc] <;> rfl)
    rw [List.length_cons, rdCouples, if_neg (by simp)]
    simp only [r1, r2, r6]
    simp only [List.flatMap_cons, coupleL, List.append_assoc]

theorem min_nat (n : Nat) (h : n ≤ 100) : min ((n : Int).toNat) 100 = n := by omega

theorem groups_back (t : ByteArray) : ∀ (Q : List GrpI) (p r : List UInt8), (∀ q ∈ Q, q.M.length ≤ 100 ∧ (∀ x ∈ q.M, small x) ∧ small q.Z) → t.data.toList = p ++ (Q.flatMap grpL ++ r) → rdGroups t Q.length ⟨p.length, false⟩ = (Q, ⟨(p ++ Q.flatMap grpL).length, false⟩)
  | [], p, r, _, _ => by simp [rdGroups]
  | q :: Q, p, r, h, ht => by
    obtain ⟨hl, hm, z0, z1⟩ := h q (by simp)
    rw [List.flatMap_cons] at ht
    simp only [grpL, List.append_assoc] at ht
    have r1 := rd_back t p _ (q.M.length : Int) (by omega) (by omega) ht
    have r2 := ints_back t q.M (p ++ vL (q.M.length : Int)) _ hm (by rw [ht]; simp only [List.append_assoc] <;> rfl)
    have r3 := rd_back t (p ++ vL (q.M.length : Int) ++ q.M.flatMap vL) _ q.Z z0 z1 (by rw [ht]; simp only [List.append_assoc] <;> rfl)
    have r6 := groups_back t Q (p ++ vL (q.M.length : Int) ++ q.M.flatMap vL ++ vL q.Z) r (fun x hx => h x (by simp [hx])) (by rw [ht]; simp only [List.append_assoc] <;> rfl)
    rw [List.length_cons, rdGroups, if_neg (by simp)]
    simp only [r1, min_nat _ hl, r2, r3, r6]
    simp only [List.flatMap_cons, grpL, List.append_assoc]

theorem few_of (hi : Int) : ∀ (L : List Int) (lo : Int), L.Pairwise (· < ·) → (∀ x ∈ L, lo ≤ x ∧ x < hi) → (L.length : Int) ≤ max 0 (hi - lo)
  | [], lo, _, _ => by simp; omega
  | x :: r, lo, h, hb => by
    have h1 := List.pairwise_cons.1 h
    have h2 := hb x (by simp)
    have h3 := few_of hi r (x + 1) h1.2 (fun y hy => ⟨by have := h1.1 y hy; omega, (hb y (by simp [hy])).2⟩)
    rw [List.length_cons]
    omega

theorem edges_few {s : Int} {Q : List EdgeI} (h : graphOk s Q = true) : Q.length ≤ 81 := by
  obtain ⟨h0, h9, hE, hP⟩ := graph_sound h
  have h1 : (Q.map fun e => e.A * 9 + e.B).Pairwise (· < ·) := by
    rw [List.pairwise_map]
    refine List.Pairwise.imp_of_mem ?_ hP
    intro a b ha hb hab
    have a1 := (edgeOk_iff s a).1 (hE a ha)
    have b1 := (edgeOk_iff s b).1 (hE b hb)
    rcases (ahead_iff a b).1 hab with h | ⟨h, h'⟩ <;> omega
  have h2 := few_of 81 _ 0 h1 (fun x hx => by
    obtain ⟨e, he, rfl⟩ := List.mem_map.1 hx
    have a1 := (edgeOk_iff s e).1 (hE e he)
    omega)
  rw [List.length_map] at h2
  omega

theorem cert_sizes {s : Int} {Q : List EdgeI} {M : List CoupleI} {Y : List Int} {G : List GrpI} (h : certR s Q M Y G = true) : (Y.length : Int) = s ∧ Q.length ≤ 81 := by
  unfold certR at h
  simp only [Bool.and_eq_true] at h
  have hp := proof_sound h.1
  exact ⟨hp.2.1, edges_few hp.1⟩

theorem rdCert_back {s : Int} {Q : List EdgeI} {M : List CoupleI} {Y : List Int} {G : List GrpI} (h : certR s Q M Y G = true) :
    rdCert (certB s Q M Y G) = ⟨s, Q, M, Y, G, ⟨(certB s Q M Y G).size, false⟩⟩ := by
  obtain ⟨s0, s9, rE, rM9, rM, rY9, rY, rG8, rG⟩ := cert_ranges h
  obtain ⟨hY, hQ'⟩ := cert_sizes h
  have hQ : Q.length ≤ 100 := by omega
  generalize ht : certB s Q M Y G = t
  have hl := certB_list s Q M Y G
  rw [ht] at hl
  have q1 := rd_back t [] _ s s0 (by omega) hl
  have q2 := rd_back t ([] ++ vL s) _ (Q.length : Int) (by omega) (by omega) (by rw [hl]; simp only [List.nil_append] <;> rfl)
  have q3 := edges_back t Q ([] ++ vL s ++ vL (Q.length : Int)) _ (fun e he => by obtain ⟨a, b, c, d, f⟩ := rE e he; exact ⟨⟨a.1, by omega⟩, ⟨b.1, by omega⟩, ⟨c.1, by omega⟩, ⟨d.1, by omega⟩, ⟨f.1, by omega⟩⟩) (by rw [hl]; simp only [List.append_assoc, List.nil_append] <;> rfl)
  have q4 := rd_back t ([] ++ vL s ++ vL (Q.length : Int) ++ Q.flatMap edgeL) _ (M.length : Int) (by omega) (by omega) (by rw [hl]; simp only [List.append_assoc, List.nil_append] <;> rfl)
  have q5 := couples_back t M ([] ++ vL s ++ vL (Q.length : Int) ++ Q.flatMap edgeL ++ vL (M.length : Int)) _ (fun e he => by obtain ⟨a, b⟩ := rM e he; exact ⟨⟨a.1, by omega⟩, ⟨b.1, by omega⟩⟩) (by rw [hl]; simp only [List.append_assoc, List.nil_append] <;> rfl)
  have q6 := ints_back t Y ([] ++ vL s ++ vL (Q.length : Int) ++ Q.flatMap edgeL ++ vL (M.length : Int) ++ M.flatMap coupleL) _ (fun e he => rY e he) (by rw [hl]; simp only [List.append_assoc, List.nil_append] <;> rfl)
  have q7 := rd_back t ([] ++ vL s ++ vL (Q.length : Int) ++ Q.flatMap edgeL ++ vL (M.length : Int) ++ M.flatMap coupleL ++ Y.flatMap vL) _ (G.length : Int) (by omega) (by omega) (by rw [hl]; simp only [List.append_assoc, List.nil_append] <;> rfl)
  have q8 := groups_back t G ([] ++ vL s ++ vL (Q.length : Int) ++ Q.flatMap edgeL ++ vL (M.length : Int) ++ M.flatMap coupleL ++ Y.flatMap vL ++ vL (G.length : Int)) [] (fun q hq => by obtain ⟨a, b, c, d⟩ := rG q hq; exact ⟨by omega, fun x hx => ⟨(b x hx).1, by have := (b x hx).2; omega⟩, c, d⟩) (by rw [hl]; simp only [List.append_assoc, List.nil_append, List.append_nil])
  have hsz : t.size = ([] ++ vL s ++ vL (Q.length : Int) ++ Q.flatMap edgeL ++ vL (M.length : Int) ++ M.flatMap coupleL ++ Y.flatMap vL ++ vL (G.length : Int) ++ G.flatMap grpL).length := by
    have : t.size = t.data.toList.length := by simp
    rw [this, hl]
    simp only [List.append_assoc, List.nil_append]
  have e1 : min s.toNat 100 = Y.length := by omega
  unfold rdCert
  simp only [List.length_nil] at q1
  simp only [q1, q2, min_nat _ hQ, q3, q4, min_nat _ (show M.length ≤ 100 by omega), q5, e1, q6, q7, min_nat _ (show G.length ≤ 100 by omega), q8, ← hsz]

/-- What ReadCert takes is the text of a certificate, and of each one its text is taken. -/
theorem rc_of {s : Int} {Q : List EdgeI} {M : List CoupleI} {Y : List Int} {G : List GrpI} (h : certR s Q M Y G = true) :
    rcOk (certB s Q M Y G) = true ∧ rcV (certB s Q M Y G) = ⟨s, Q, M, Y, G, ⟨(certB s Q M Y G).size, false⟩⟩ := by
  have e := rdCert_back h
  have h1 : rcOk (certB s Q M Y G) = true := by
    unfold rcOk RC.ok
    rw [e]
    simp [h]
  exact ⟨h1, by unfold rcV; rw [if_pos h1, e]⟩

theorem rc_is {t : ByteArray} (h : rcOk t = true) : certR (rcV t).s (rcV t).Q (rcV t).M (rcV t).Y (rcV t).G = true ∧ certB (rcV t).s (rcV t).Q (rcV t).M (rcV t).Y (rcV t).G = t := by
  have e : rcV t = rdCert t := by unfold rcV; rw [if_pos h]
  rw [e]
  unfold rcOk RC.ok at h
  simp only [Bool.and_eq_true, decide_eq_true_eq] at h
  exact h.2

end Gr
end Go.Proofs.YtjblkijicfmkgaaGreatDoor

/-
  Certificates are small.
-/
namespace Go.Proofs.YtjblkijicfmkgaaGreatDoor
namespace Gr
open Go.RowKit

theorem gbulk_le : ∀ (G : List GrpI), (∀ q ∈ G, q.M.length ≤ 9) → gbulk G ≤ 9 * G.length
  | [], _ => by unfold gbulk; simp
  | q :: r, h => by
    have h1 := h q List.mem_cons_self
    have h2 := gbulk_le r (fun x hx => h x (List.mem_cons_of_mem _ hx))
    unfold gbulk
    rw [List.length_cons]
    omega

theorem offQ_all_le (G : List GrpI) (h : ∀ q ∈ G, q.M.length ≤ 9) : offQ G G.length ≤ 10 * G.length := by
  unfold offQ
  rw [List.take_length]
  induction G with
  | nil => simp
  | cons q r ih =>
    have h1 := h q List.mem_cons_self
    have h2 := ih (fun x hx => h x (List.mem_cons_of_mem _ hx))
    simp only [List.map_cons, List.sum_cons, List.length_cons]
    omega

theorem cert_small {s : Int} {Q : List EdgeI} {M : List CoupleI} {Y : List Int} {G : List GrpI} (h : certR s Q M Y G = true) : csize Q M Y G ≤ 1048576 ∧ mkAll 1 Q M Y G ≤ 100000000 := by
  obtain ⟨hY, hQ⟩ := cert_sizes h
  unfold certR at h
  simp only [Bool.and_eq_true] at h
  obtain ⟨hp, hm, _⟩ := h
  obtain ⟨_, _, h9, h8, _, hg⟩ := proof_sound hp
  have hM : M.length ≤ 9 := by
    unfold matchOk at hm
    simp only [Bool.and_eq_true, decide_eq_true_eq] at hm
    exact hm.2.1
  have hq : ∀ q ∈ G, q.M.length ≤ 9 := fun q hq => by
    have := ((grpHead_iff s q).1 (hg q hq)).2.2.1
    omega
  have h1 := gbulk_le G hq
  have h2 := offQ_all_le G hq
  have hY9 : Y.length ≤ 9 := by omega
  unfold csize psize mkAll mkY mkM
  omega

theorem rc_small (t : ByteArray) : csize (rcV t).Q (rcV t).M (rcV t).Y (rcV t).G ≤ 1048576 ∧ mkAll 1 (rcV t).Q (rcV t).M (rcV t).Y (rcV t).G ≤ 100000000 := by
  by_cases h : rcOk t = true
  · exact cert_small (rc_is h).1
  · have e : rcV t = ⟨0, [], [], [], [], ⟨0, false⟩⟩ := by unfold rcV; rw [if_neg h]
    rw [e]
    simp [csize, psize, mkAll, mkY, mkM, gbulk, offQ]
end Gr
end Go.Proofs.YtjblkijicfmkgaaGreatDoor

/-
  The numbers of a certificate's bytes as the program reads them: it takes the same texts, and reads the same of them. Without a program.
-/
namespace Go.Proofs.YtjblkijicfmkgaaGreatDoor
namespace Gr
open Go.RowKit

/-- A number. -/
def nm (t : ByteArray) (c : CS) : Int × CS := match readA t (c.p : Int) with | none => (0, ⟨t.size, true⟩) | some x => ((x.1 : Int), ⟨x.2, c.b⟩)

/-- A number of at most m. -/
def rcnt (t : ByteArray) (m : Int) (c : CS) : Int × CS := if m < (nm t c).1 then (0, ⟨t.size, true⟩) else nm t c

def nums (t : ByteArray) : Nat → CS → List Int × CS
  | 0, c => ([], c)
  | k + 1, c => ((nm t c).1 :: (nums t k (nm t c).2).1, (nums t k (nm t c).2).2)

def edg (t : ByteArray) (c : CS) : EdgeI × CS :=
  let a := nm t c
  let b := nm t a.2
  let d := nm t b.2
  let e := nm t d.2
  let f := nm t e.2
  (⟨a.1, b.1, d.1, e.1, f.1⟩, f.2)

def edgs (t : ByteArray) : Nat → CS → List EdgeI × CS
  | 0, c => ([], c)
  | k + 1, c => ((edg t c).1 :: (edgs t k (edg t c).2).1, (edgs t k (edg t c).2).2)

def cpl (t : ByteArray) (c : CS) : CoupleI × CS :=
  let a := nm t c
  let b := nm t a.2
  (⟨a.1, b.1⟩, b.2)

def cpls (t : ByteArray) : Nat → CS → List CoupleI × CS
  | 0, c => ([], c)
  | k + 1, c => ((cpl t c).1 :: (cpls t k (cpl t c).2).1, (cpls t k (cpl t c).2).2)

def grp (t : ByteArray) (c : CS) : GrpI × CS :=
  let a := rcnt t 9 c
  let m := nums t a.1.toNat a.2
  let z := nm t m.2
  (⟨m.1, z.1⟩, z.2)

def grps (t : ByteArray) : Nat → CS → List GrpI × CS
  | 0, c => ([], c)
  | k + 1, c => ((grp t c).1 :: (grps t k (grp t c).2).1, (grps t k (grp t c).2).2)

def mdl (t : ByteArray) : RC :=
  let s := rcnt t 9 ⟨0, false⟩
  let n := rcnt t 36 s.2
  let E := edgs t n.1.toNat n.2
  let m := rcnt t 4 E.2
  let M := cpls t m.1.toNat m.2
  let Y := nums t s.1.toNat M.2
  let g := rcnt t 8 Y.2
  let G := grps t g.1.toNat g.2
  ⟨s.1, E.1, M.1, Y.1, G.1, G.2⟩

def mdlOk (t : ByteArray) : Bool := !((mdl t).c.b || decide ((mdl t).c.p < t.size)) && certR (mdl t).s (mdl t).Q (mdl t).M (mdl t).Y (mdl t).G

/-! ### What is read is written so -/

/-- What a reader has behind it: unless it failed, just these bytes. -/
def Beh (t : ByteArray) (c : CS) (l : List UInt8) : Prop := c.p ≤ t.size ∧ (c.b = false → t.data.toList.take c.p = l)

theorem nm_beh {t : ByteArray} {c : CS} {l : List UInt8} (h : Beh t c l) : Beh t (nm t c).2 (l ++ vL (nm t c).1) := by
  unfold nm
  cases hr : readA t (c.p : Int) with
  | none => exact ⟨Nat.le_refl _, fun hb => by simp at hb⟩
  | some x =>
    obtain ⟨x, e⟩ := x
    obtain ⟨h1, h2⟩ := readA_text hr
    refine ⟨h2, fun hb => ?_⟩
    have hb' : c.b = false := hb
    show t.data.toList.take e = l ++ varB 4 (x : Int).toNat
    rw [h1, h.2 hb', Int.toNat_natCast]

theorem nm_range (t : ByteArray) (c : CS) : 0 ≤ (nm t c).1 ∧ (nm t c).1 ≤ 1000000000 := by
  unfold nm
  cases hr : readA t (c.p : Int) with
  | none => exact ⟨Int.le_refl _, by show (0 : Int) ≤ 1000000000; decide⟩
  | some x =>
    obtain ⟨x, e⟩ := x
    have := (readA_bound hr).1
    constructor
    · show (0 : Int) ≤ (x : Int); omega
    · show (x : Int) ≤ 1000000000; omega

theorem rcnt_beh {t : ByteArray} {m : Int} {c : CS} {l : List UInt8} (h : Beh t c l) : Beh t (rcnt t m c).2 (l ++ vL (rcnt t m c).1) := by
  unfold rcnt
  split
  · exact ⟨Nat.le_refl _, fun hb => by simp at hb⟩
  · exact nm_beh h

theorem rcnt_range (t : ByteArray) (m : Int) (c : CS) (hm : 0 ≤ m) : 0 ≤ (rcnt t m c).1 ∧ (rcnt t m c).1 ≤ m := by
  unfold rcnt
  have := nm_range t c
  split
  · exact ⟨Int.le_refl _, hm⟩
  · exact ⟨this.1, by omega⟩

theorem nums_beh {t : ByteArray} : ∀ (k : Nat) {c : CS} {l : List UInt8}, Beh t c l → Beh t (nums t k c).2 (l ++ (nums t k c).1.flatMap vL)
  | 0, c, l, h => by simpa [nums] using h
  | k + 1, c, l, h => by
    have := nums_beh k (nm_beh h)
    simpa [nums, List.append_assoc] using this

theorem nums_length {t : ByteArray} : ∀ (k : Nat) (c : CS), (nums t k c).1.length = k
  | 0, _ => rfl
  | k + 1, c => by simp [nums, nums_length k]

theorem edg_beh {t : ByteArray} {c : CS} {l : List UInt8} (h : Beh t c l) : Beh t (edg t c).2 (l ++ edgeL (edg t c).1) := by
  have := nm_beh (nm_beh (nm_beh (nm_beh (nm_beh h))))
  simpa [edg, edgeL, List.append_assoc] using this

theorem edgs_beh {t : ByteArray} : ∀ (k : Nat) {c : CS} {l : List UInt8}, Beh t c l → Beh t (edgs t k c).2 (l ++ (edgs t k c).1.flatMap edgeL)
  | 0, c, l, h => by simpa [edgs] using h
  | k + 1, c, l, h => by
    have := edgs_beh k (edg_beh h)
    simpa [edgs, List.append_assoc] using this

theorem edgs_length {t : ByteArray} : ∀ (k : Nat) (c : CS), (edgs t k c).1.length = k
  | 0, _ => rfl
  | k + 1, c => by simp [edgs, edgs_length k]

theorem cpl_beh {t : ByteArray} {c : CS} {l : List UInt8} (h : Beh t c l) : Beh t (cpl t c).2 (l ++ coupleL (cpl t c).1) := by
  have := nm_beh (nm_beh h)
  simpa [cpl, coupleL, List.append_assoc] using this

theorem cpls_beh {t : ByteArray} : ∀ (k : Nat) {c : CS} {l : List UInt8}, Beh t c l → Beh t (cpls t k c).2 (l ++ (cpls t k c).1.flatMap coupleL)
  | 0, c, l, h => by simpa [cpls] using h
  | k + 1, c, l, h => by
    have := cpls_beh k (cpl_beh h)
    simpa [cpls, List.append_assoc] using this

theorem cpls_length {t : ByteArray} : ∀ (k : Nat) (c : CS), (cpls t k c).1.length = k
  | 0, _ => rfl
  | k + 1, c => by simp [cpls, cpls_length k]

theorem toNat_back {n : Int} (h : 0 ≤ n) : ((n.toNat : Nat) : Int) = n := by omega

theorem grp_beh {t : ByteArray} {c : CS} {l : List UInt8} (h : Beh t c l) : Beh t (grp t c).2 (l ++ grpL (grp t c).1) := by
  have h1 := nm_beh (nums_beh (rcnt t 9 c).1.toNat (rcnt_beh (m := 9) h))
  have e : ((nums t (rcnt t 9 c).1.toNat (rcnt t 9 c).2).1.length : Int) = (rcnt t 9 c).1 := by
    rw [nums_length, toNat_back (rcnt_range t 9 c (by decide)).1]
  simpa [grp, grpL, List.append_assoc, e] using h1

theorem grps_beh {t : ByteArray} : ∀ (k : Nat) {c : CS} {l : List UInt8}, Beh t c l → Beh t (grps t k c).2 (l ++ (grps t k c).1.flatMap grpL)
  | 0, c, l, h => by simpa [grps] using h
  | k + 1, c, l, h => by
    have := grps_beh k (grp_beh h)
    simpa [grps, List.append_assoc] using this

theorem grps_length {t : ByteArray} : ∀ (k : Nat) (c : CS), (grps t k c).1.length = k
  | 0, _ => rfl
  | k + 1, c => by simp [grps, grps_length k]

theorem mdl_beh (t : ByteArray) : Beh t (mdl t).c (certB (mdl t).s (mdl t).Q (mdl t).M (mdl t).Y (mdl t).G).data.toList := by
  have h0 : Beh t ⟨0, false⟩ [] := ⟨Nat.zero_le _, fun _ => rfl⟩
  unfold mdl
  dsimp only
  have hs := rcnt_beh (m := 9) h0
  generalize rcnt t 9 ⟨0, false⟩ = s at hs ⊢
  have hn := rcnt_beh (m := 36) hs
  have rn := rcnt_range t 36 s.2 (by decide)
  generalize rcnt t 36 s.2 = n at hn rn ⊢
  have hE := edgs_beh n.1.toNat hn
  have lE := edgs_length (t := t) n.1.toNat n.2
  generalize edgs t n.1.toNat n.2 = E at hE lE ⊢
  have hm := rcnt_beh (m := 4) hE
  have rm := rcnt_range t 4 E.2 (by decide)
  generalize rcnt t 4 E.2 = m at hm rm ⊢
  have hM := cpls_beh m.1.toNat hm
  have lM := cpls_length (t := t) m.1.toNat m.2
  generalize cpls t m.1.toNat m.2 = M at hM lM ⊢
  have hY := nums_beh s.1.toNat hM
  generalize nums t s.1.toNat M.2 = Y at hY ⊢
  have hg := rcnt_beh (m := 8) hY
  have rg := rcnt_range t 8 Y.2 (by decide)
  generalize rcnt t 8 Y.2 = g at hg rg ⊢
  have hG := grps_beh g.1.toNat hg
  have lG := grps_length (t := t) g.1.toNat g.2
  generalize grps t g.1.toNat g.2 = G at hG lG ⊢
  rw [certB_list, lE, lM, lG, toNat_back rn.1, toNat_back rm.1, toNat_back rg.1]
  simp only [List.nil_append, List.append_assoc] at hG
  exact hG

/-- What the program takes, ReadCert's text takes, and the same is read. -/
theorem mdl_sound {t : ByteArray} (h : mdlOk t = true) : rcOk t = true ∧ rcV t = ⟨(mdl t).s, (mdl t).Q, (mdl t).M, (mdl t).Y, (mdl t).G, ⟨t.size, false⟩⟩ := by
  unfold mdlOk at h
  simp only [Bool.and_eq_true, Bool.not_eq_true', Bool.or_eq_false_iff, decide_eq_false_iff_not] at h
  obtain ⟨⟨hb, hp⟩, hc⟩ := h
  have hB := mdl_beh t
  have e : certB (mdl t).s (mdl t).Q (mdl t).M (mdl t).Y (mdl t).G = t := by
    apply ByteArray.ext
    rw [← Array.toList_inj, ← hB.2 hb, List.take_of_length_le]
    have : t.data.toList.length = t.size := by simp
    omega
  have := rc_of hc
  rw [e] at this
  exact this

/-! ### A certificate's text is taken -/

theorem rd_bad {t : ByteArray} {c : CS} (h : (rd t c).2.b = false) : c.b = false := by
  cases hb : c.b with
  | false => rfl
  | true =>
    unfold rd at h
    rw [if_pos hb] at h
    simp at h

theorem nm_rd {t : ByteArray} {c : CS} (h : (rd t c).2.b = false) : nm t c = rd t c := by
  have hb := rd_bad h
  unfold nm
  unfold rd at h ⊢
  rw [if_neg (by rw [hb]; simp)] at h ⊢
  cases hr : readA t (c.p : Int) with
  | none => rw [hr] at h; simp at h
  | some x => simp [hb]

theorem rdInts_bad {t : ByteArray} : ∀ (k : Nat) {c : CS}, (rdInts t k c).2.b = false → c.b = false
  | 0, c, h => h
  | k + 1, c, h => by
    cases hb : c.b with
    | false => rfl
    | true => rw [rdInts, if_pos hb] at h; rw [hb] at h; exact h

theorem nums_rd {t : ByteArray} : ∀ (k : Nat) {c : CS}, (rdInts t k c).2.b = false → nums t k c = rdInts t k c
  | 0, c, _ => rfl
  | k + 1, c, h => by
    have hb := rdInts_bad (k + 1) h
    rw [rdInts, if_neg (by rw [hb]; simp)] at h ⊢
    simp only at h ⊢
    have h2 := nums_rd k h
    have h1 := nm_rd (rdInts_bad k h)
    rw [nums, h1, h2]

theorem rdEdges_bad {t : ByteArray} : ∀ (k : Nat) {c : CS}, (rdEdges t k c).2.b = false → c.b = false
  | 0, c, h => h
  | k + 1, c, h => by
    cases hb : c.b with
    | false => rfl
    | true => rw [rdEdges, if_pos hb] at h; rw [hb] at h; exact h

theorem edgs_rd {t : ByteArray} : ∀ (k : Nat) {c : CS}, (rdEdges t k c).2.b = false → edgs t k c = rdEdges t k c
  | 0, c, _ => rfl
  | k + 1, c, h => by
    have hb := rdEdges_bad (k + 1) h
    rw [rdEdges, if_neg (by rw [hb]; simp)] at h ⊢
    simp only at h ⊢
    have h2 := edgs_rd k h
    have b5 := rdEdges_bad k h
    have b4 := rd_bad b5
    have b3 := rd_bad b4
    have b2 := rd_bad b3
    have b1 := rd_bad b2
    have e : edg t c = (⟨(rd t c).1, (rd t (rd t c).2).1, (rd t (rd t (rd t c).2).2).1, (rd t (rd t (rd t (rd t c).2).2).2).1, (rd t (rd t (rd t (rd t (rd t c).2).2).2).2).1⟩, (rd t (rd t (rd t (rd t (rd t c).2).2).2).2).2) := by
      unfold edg
      simp only [nm_rd b1, nm_rd b2, nm_rd b3, nm_rd b4, nm_rd b5]
    rw [edgs, e]
    simp only [h2]

theorem rdCouples_bad {t : ByteArray} : ∀ (k : Nat) {c : CS}, (rdCouples t k c).2.b = false → c.b = false
  | 0, c, h => h
  | k + 1, c, h => by
    cases hb : c.b with
    | false => rfl
    | true => rw [rdCouples, if_pos hb] at h; rw [hb] at h; exact h

theorem cpls_rd {t : ByteArray} : ∀ (k : Nat) {c : CS}, (rdCouples t k c).2.b = false → cpls t k c = rdCouples t k c
  | 0, c, _ => rfl
  | k + 1, c, h => by
    have hb := rdCouples_bad (k + 1) h
    rw [rdCouples, if_neg (by rw [hb]; simp)] at h ⊢
    simp only at h ⊢
    have h2 := cpls_rd k h
    have b2 := rdCouples_bad k h
    have b1 := rd_bad b2
    have e : cpl t c = (⟨(rd t c).1, (rd t (rd t c).2).1⟩, (rd t (rd t c).2).2) := by
      unfold cpl
      simp only [nm_rd b1, nm_rd b2]
    rw [cpls, e]
    simp only [h2]

theorem rdGroups_bad {t : ByteArray} : ∀ (k : Nat) {c : CS}, (rdGroups t k c).2.b = false → c.b = false
  | 0, c, h => h
  | k + 1, c, h => by
    cases hb : c.b with
    | false => rfl
    | true => rw [rdGroups, if_pos hb] at h; rw [hb] at h; exact h

theorem rdInts_length {t : ByteArray} : ∀ (k : Nat) {c : CS}, (rdInts t k c).2.b = false → (rdInts t k c).1.length = k := fun k c h => by rw [← nums_rd k h, nums_length]

theorem rcnt_rd {t : ByteArray} {c : CS} {m : Int} (h : (rd t c).2.b = false) (hm : (rd t c).1 ≤ m) : rcnt t m c = rd t c := by
  unfold rcnt
  rw [nm_rd h, if_neg (by omega)]

theorem grps_rd {t : ByteArray} : ∀ (k : Nat) {c : CS}, (rdGroups t k c).2.b = false → (∀ q ∈ (rdGroups t k c).1, q.M.length ≤ 9) → grps t k c = rdGroups t k c
  | 0, c, _, _ => rfl
  | k + 1, c, h, h9 => by
    have hb := rdGroups_bad (k + 1) h
    rw [rdGroups, if_neg (by rw [hb]; simp)] at h h9 ⊢
    simp only at h h9 ⊢
    have h2 := grps_rd k h (fun q hq => h9 q (List.mem_cons_of_mem _ hq))
    have b3 := rdGroups_bad k h
    have b2 := rd_bad b3
    have b1 := rdInts_bad _ b2
    have hl := h9 _ (List.mem_cons_self)
    simp only at hl
    rw [rdInts_length _ b2] at hl
    have hr := nm_range t c
    rw [nm_rd b1] at hr
    have hc : (rd t c).1 ≤ 9 := by omega
    have e9 : min (rd t c).1.toNat 100 = (rd t c).1.toNat := by omega
    rw [e9] at h h2 b3 b2 ⊢
    have e : grp t c = (⟨(rdInts t (rd t c).1.toNat (rd t c).2).1, (rd t (rdInts t (rd t c).1.toNat (rd t c).2).2).1⟩, (rd t (rdInts t (rd t c).1.toNat (rd t c).2).2).2) := by
      unfold grp
      simp only [rcnt_rd b1 hc, nums_rd _ b2, nm_rd b3]
    rw [grps, e]
    simp only [h2]

/-- Where an edge stands among all that there can be. -/
def offE (a : Int) : Int := if a = 0 then 0 else if a = 1 then 8 else if a = 2 then 15 else if a = 3 then 21 else if a = 4 then 26 else if a = 5 then 30 else if a = 6 then 33 else 35

theorem offE_lt (a b a' b' : Int) (h0 : 0 ≤ a) (h1 : a < b) (h2 : b ≤ 8) (h0' : 0 ≤ a') (h1' : a' < b') (h2' : b' ≤ 8) (h : a < a' ∨ (a = a' ∧ b < b')) : offE a + b - a < offE a' + b' - a' := by
  unfold offE
  rcases h with h | ⟨h, h3⟩
  · (repeat' split) <;> omega
  · subst h; omega

theorem offE_range (a b : Int) (h0 : 0 ≤ a) (h1 : a < b) (h2 : b ≤ 8) : 1 ≤ offE a + b - a ∧ offE a + b - a < 37 := by
  unfold offE
  (repeat' split) <;> omega

theorem edges_36 {s : Int} {Q : List EdgeI} (h : graphOk s Q = true) : Q.length ≤ 36 := by
  obtain ⟨h0, h9, hE, hP⟩ := graph_sound h
  have h1 : (Q.map fun e => offE e.A + e.B - e.A).Pairwise (· < ·) := by
    rw [List.pairwise_map]
    refine List.Pairwise.imp_of_mem ?_ hP
    intro a b ha hb hab
    have a1 := (edgeOk_iff s a).1 (hE a ha)
    have b1 := (edgeOk_iff s b).1 (hE b hb)
    exact offE_lt _ _ _ _ (by omega) (by omega) (by omega) (by omega) (by omega) (by omega) ((ahead_iff a b).1 hab)
  have h2 := few_of 37 _ 1 h1 (fun x hx => by
    obtain ⟨e, he, rfl⟩ := List.mem_map.1 hx
    have a1 := (edgeOk_iff s e).1 (hE e he)
    exact offE_range _ _ (by omega) (by omega) (by omega))
  rw [List.length_map] at h2
  omega

theorem mdl_back {s : Int} {Q : List EdgeI} {M : List CoupleI} {Y : List Int} {G : List GrpI} (h : certR s Q M Y G = true) :
    mdl (certB s Q M Y G) = ⟨s, Q, M, Y, G, ⟨(certB s Q M Y G).size, false⟩⟩ := by
  have hr := rdCert_back h
  obtain ⟨s0, s9, rE, rM9, rM, rY9, rY, rG8, rG⟩ := cert_ranges h
  have hC := h
  unfold certR at hC
  simp only [Bool.and_eq_true] at hC
  have h36 := edges_36 (proof_sound hC.1).1
  have h4 := (match_few hC.2.1).1
  generalize certB s Q M Y G = t at hr
  unfold rdCert at hr
  simp only [RC.mk.injEq] at hr
  obtain ⟨e1, e2, e3, e4, e5, e6⟩ := hr
  have bG := congrArg (fun x : CS => x.b) e6
  simp only at bG
  have bg := rdGroups_bad _ bG
  have bY := rd_bad bg
  have bM := rdInts_bad _ bY
  have bm := rdCouples_bad _ bM
  have bE := rd_bad bm
  have bn := rdEdges_bad _ bE
  have bs := rd_bad bn
  have q1 := nm_range t ⟨0, false⟩
  rw [nm_rd bs] at q1
  have k1 : rcnt t 9 ⟨0, false⟩ = rd t ⟨0, false⟩ := rcnt_rd bs (by rw [e1]; exact s9)
  generalize rd t ⟨0, false⟩ = S at *
  have q2 := nm_range t S.2
  rw [nm_rd bn] at q2
  have lE := congrArg List.length e2
  rw [← edgs_rd _ bE, edgs_length] at lE
  have m2 : min (rd t S.2).1.toNat 100 = (rd t S.2).1.toNat := by omega
  have k2 : rcnt t 36 S.2 = rd t S.2 := rcnt_rd bn (by omega)
  rw [m2] at e2 e3 e4 e5 e6 bG bg bY bM bm bE
  generalize rd t S.2 = N at *
  have k3 := edgs_rd _ bE
  generalize rdEdges t N.1.toNat N.2 = E at *
  have q3 := nm_range t E.2
  rw [nm_rd bm] at q3
  have lM := congrArg List.length e3
  rw [← cpls_rd _ bM, cpls_length] at lM
  have m3 : min (rd t E.2).1.toNat 100 = (rd t E.2).1.toNat := by omega
  have k4 : rcnt t 4 E.2 = rd t E.2 := rcnt_rd bm (by omega)
  rw [m3] at e3 e4 e5 e6 bG bg bY bM
  generalize rd t E.2 = m at *
  have k5 := cpls_rd _ bM
  generalize rdCouples t m.1.toNat m.2 = M' at *
  have m1 : min S.1.toNat 100 = S.1.toNat := by omega
  rw [m1] at e4 e5 e6 bG bg bY
  have k6 := nums_rd _ bY
  generalize rdInts t S.1.toNat M'.2 = Y' at *
  have q4 := nm_range t Y'.2
  rw [nm_rd bg] at q4
  have k8 := grps_rd _ bG (by rw [e5]; exact fun q hq => (rG q hq).1)
  have lG := congrArg List.length e5
  rw [← k8, grps_length] at lG
  have k7 : rcnt t 8 Y'.2 = rd t Y'.2 := rcnt_rd bg (by omega)
  have m4 : min (rd t Y'.2).1.toNat 100 = (rd t Y'.2).1.toNat := by omega
  rw [m4] at e5 e6 k8
  unfold mdl
  dsimp only
  rw [k1, k2, k3, k4, k5, k6, k7, k8, e1, e2, e3, e4, e5, e6]

theorem mdl_is (t : ByteArray) : mdlOk t = rcOk t ∧ (rcOk t = true → rcV t = ⟨(mdl t).s, (mdl t).Q, (mdl t).M, (mdl t).Y, (mdl t).G, ⟨t.size, false⟩⟩) := by
  cases hr : rcOk t with
  | false =>
    refine ⟨?_, fun h => by cases h⟩
    cases hm : mdlOk t with
    | false => rfl
    | true => rw [(mdl_sound hm).1] at hr; cases hr
  | true =>
    obtain ⟨hc, ht⟩ := rc_is hr
    have hb := mdl_back hc
    rw [ht] at hb
    have hm : mdlOk t = true := by
      unfold mdlOk
      rw [hb]
      simp [hc]
    exact ⟨hm, fun _ => (mdl_sound hm).2⟩

end Gr
end Go.Proofs.YtjblkijicfmkgaaGreatDoor
