/-
  Texts of this claim, one behind the other: GrCk1, GrCk2, GrSums, GrSumsM, GrSumsO, GrKSums, GrBetter, GrBest0, GrSumsMath, GrProof5.
-/
import Derived.Test.YtdaihbgabamaiaaJ7
import Derived.Test.YtdaihbgabamaiaaJ5
import Derived.Test.YtdaihbgabamaiaaJ1
import Derived.Deep.RegionHeld3
import Derived.Lib.SmallJoins
import Derived.Deep.Slices
import Derived.Test.YtdaihbgabamaiaaJ4
import Derived.Test.YtdaihbgabamaiaaJ3

/-
  The contracts of impl.isShort and impl.isAnyShort.
-/
namespace Go.Proofs.Ytdaihbgabamaiaa
namespace Gr
open Go.RowKit

set_option maxRecDepth 100000 in
set_option maxHeartbeats 4000000 in
theorem isShort_any (v : Value) (B : Nat) (s : Int) (Y : List Int) (G : List GrpI) (e : EdgeI) (hYs : (Y.length : Int) = s) (h9 : s ≤ 9) (hY : ∀ y ∈ Y, 0 ≤ y ∧ y ≤ 1000000000) (hq : ∀ q ∈ G, grpHead s q = true) (hG8 : G.length ≤ 8) (he : edgeOk s e = true) (w : World) (hB : B ≤ w.heap.size) (hv : PrAt w v B Y G) :
    Calls Try.prog 59 #[e.v, v, .agg (fs (setF G))] w fun r w' => r = .returned (.bool (decide (slackI Y G e < 0))) ∧ Below w.heap.size w w' := by
  obtain ⟨q0, q1, q2, _, _, _⟩ := (edgeOk_iff s e).1 he
  have hsc := scal_range he
  have SC := hide (fun w => implScalar_any e w)
  have hR : slackI Y G e = slackG e (yAt Y e.A + yAt Y e.B - 2 * scal e) G := rfl
  generalize slackI Y G e = R at hR ⊢
  obtain ⟨a, n, c, a', n', c', rfl, hYA, hGA, _⟩ := hv
  have hYn := hYA.1
  obtain ⟨x0, hx0⟩ := Int.eq_ofNat_of_zero_le q0
  obtain ⟨x1, hx1⟩ := Int.eq_ofNat_of_zero_le (show 0 ≤ e.B by omega)
  have hl0 : x0 < Y.length := by omega
  have hl1 : x1 < Y.length := by omega
  obtain ⟨by0, oy, rfl, hbyB, y0⟩ := hYA.2 x0 hl0
  obtain ⟨by1, oy1, ey, _, y1⟩ := hYA.2 x1 hl1
  simp at ey
  obtain ⟨rfl, rfl⟩ := ey
  have ea : yAt Y e.A = Y[x0] := by unfold yAt; rw [hx0]; simp [hl0]
  have eb : yAt Y e.B = Y[x1] := by unfold yAt; rw [hx1]; simp [hl1]
  rw [ea, eb] at hR
  have r0 := hY _ (List.getElem_mem hl0)
  have r1 := hY _ (List.getElem_mem hl1)
  generalize Y[x0] = ya at y0 hR r0
  generalize Y[x1] = yb at y1 hR r1
  generalize scal e = sc at SC hR hsc
  have HCG := hide hGA.2
  have HGL := hide hGA.1
  have HE := hide (fun i (w : World) => hasEnds_any (setF G i) e x0 x1 hx0 hx1 (by omega) (by omega) w)
  have HST : Hid (∀ S k (h : k < G.length), slackG e S (G.drop k) = slackG e (if (setF G k x0 && setF G k x1) = true then S + G[k].Z else S) (G.drop (k + 1))) := fun S k h => by
    rw [drop_step G k h, setF_at G k h]
    show slackG e (if (inK G[k].M e.A && inK G[k].M e.B) = true then S + G[k].Z else S) (G.drop (k + 1)) = _
    rw [hx0, hx1]
    rfl
  have HEND : Hid (∀ S, slackG e S (G.drop n') = S) := fun S => by rw [← hGA.1, List.drop_length]; rfl
  have H0 : Hid (R = slackG e (ya + yb - 2 * sc) (G.drop 0)) := hR
  have HQ := hide hq
  have HPT := hide (fun k (h : k < 8) => fs_part (setF G) k h)
  have HIL := hide (fun k => infoSetL (setF G k))
  have hsz := hide (fs_size (setF G))
  clear hR ea eb hYA hGA hY hq he
  generalize hslk : slackG e = FF at HST HEND H0
  clear hslk
  generalize fs (setF G) = C at HPT hsz ⊢
  obtain ⟨eA, eB, e2, e3, e4⟩ := e
  simp only at hx0 hx1 q1 q2
  subst hx0 hx1
  unfold EdgeI.v at SC HE ⊢
  simp only at SC HE ⊢
  have w1 : IntKind.i64.wrap (ya + yb) = ya + yb := wrap_in _ (by omega)
  have w2 : IntKind.i64.wrap (2 * sc) = 2 * sc := wrap_in _ (by omega)
  have w3 : IntKind.i64.wrap (ya + yb - 2 * sc) = ya + yb - 2 * sc := wrap_in _ (by omega)
  have hin0 : (x0 : Int) < (n : Int) := by omega
  have hin1 : (x1 : Int) < (n : Int) := by omega
  have hn8 : n' ≤ 8 := by have := unhide HGL; omega
  go_enter Try.func59, Try.ntmps59
  go_wp2_with fail
  obtain ⟨V, hV⟩ : ∃ W, W = ((w.alloc (Obj.cells #[Value.int .i64 (x0 : Int), Value.int .i64 (x1 : Int), Value.int .i64 e2, Value.int .i64 e3, Value.int .i64 e4] 61)).alloc (Obj.cells #[Value.slice (some ⟨by0, oy, none⟩) n c, Value.slice a' n' c'] 38)).alloc (Obj.cells C 71) := ⟨_, rfl⟩
  rw [← hV]
  have bV : Below w.heap.size w V := by rw [hV]; exact ((below_new _ _).alloc (by simp) _).alloc (by simp; omega) _
  have m1 : Blk V w.heap.size #[Value.int .i64 (x0 : Int), Value.int .i64 (x1 : Int), Value.int .i64 e2, Value.int .i64 e3, Value.int .i64 e4] 61 := by rw [hV]; exact Blk.new0.alloc.alloc
  have m0 : Blk V (w.heap.size + 1) #[Value.slice (some ⟨by0, oy, none⟩) n c, Value.slice a' n' c'] 38 := by rw [hV]; exact Blk.new1.alloc
  have m2 : Blk V (w.heap.size + 1 + 1) C 71 := by rw [hV]; exact Blk.new2
  clear hV
  have z0 := m0.lt
  have z1 := m1.lt
  have z2 := m2.lt
  have HM0 := hide m0
  have HM1 := hide m1
  have HM2 := hide m2
  have P0 : ∀ d : Grown V.heap.size V, d.w.cell? ⟨w.heap.size + 1, 0, none⟩ = some (.slice (some ⟨by0, oy, none⟩) n c) := fun d => d.cell z0 (m0.cell 0 _ rfl)
  have E0 : ∀ d : Grown V.heap.size V, d.w.cell? ⟨w.heap.size, 0, none⟩ = some (.int .i64 (x0 : Int)) := fun d => d.cell z1 (m1.cell 0 _ rfl)
  have E1 : ∀ d : Grown V.heap.size V, d.w.cell? ⟨w.heap.size, 1, none⟩ = some (.int .i64 (x1 : Int)) := fun d => d.cell z1 (m1.cell 1 _ rfl)
  have E2 : ∀ d : Grown V.heap.size V, d.w.cell? ⟨w.heap.size, 2, none⟩ = some (.int .i64 e2) := fun d => d.cell z1 (m1.cell 2 _ rfl)
  have E3 : ∀ d : Grown V.heap.size V, d.w.cell? ⟨w.heap.size, 3, none⟩ = some (.int .i64 e3) := fun d => d.cell z1 (m1.cell 3 _ rfl)
  have E4 : ∀ d : Grown V.heap.size V, d.w.cell? ⟨w.heap.size, 4, none⟩ = some (.int .i64 e4) := fun d => d.cell z1 (m1.cell 4 _ rfl)
  have Y0 : ∀ d : Grown V.heap.size V, d.w.cell? ⟨by0, oy + x0, none⟩ = some (.int .i64 ya) := fun d => d.cell (by omega) ((bV.cell (p := ⟨by0, oy + x0, none⟩) (by simp; omega)).trans y0)
  have Y1 : ∀ d : Grown V.heap.size V, d.w.cell? ⟨by0, oy + x1, none⟩ = some (.int .i64 yb) := fun d => d.cell (by omega) ((bV.cell (p := ⟨by0, oy + x1, none⟩) (by simp; omega)).trans y1)
  clear m0 m1 m2 y0 y1
  refine wp_region_grown V.heap.size (by kernel_rfl) (by kernel_rfl) ?_
  repeat (go_big_quiet_step (first | (go_at_call 64; exact Calls.grown (Nat.le_refl _) (unhide SC _))))
  refine wpQuiet_nil ?_
  rintro w5 ⟨d5, rfl⟩
  obtain ⟨W5, hb5⟩ := d5
  dsimp only
  clear P0 E0 E1 E2 E3 E4 Y0 Y1 SC
  have p1 : W5.cell? ⟨w.heap.size + 1, 1, none⟩ = some (.slice a' n' c') := ((unhide HM0).below hb5).cell 1 _ rfl
  go_wp2_with fail
  clear p1
  go_loopw [7, 30] (fun t i wr => ∃ (k : Nat) (S : Int), i = .int .i64 (k : Int) ∧ t = .int .i64 S ∧ k ≤ n' ∧ -9030100 ≤ S ∧ S ≤ 2000000000 + 1000000000 * (k : Int) ∧ Hid (R = FF S (G.drop k)) ∧ Below V.heap.size V wr) (fun _ i _ => n' - (intOf i).toNat)
  case atStart => exact ⟨0, ya + yb - 2 * sc, rfl, rfl, Nat.zero_le _, by omega, by omega, unhide H0, hb5⟩
  case round =>
    obtain ⟨k, S, rfl, rfl, hk, hS0, hS1, HS, hbr⟩ := hrel
    have hzr := hbr.size
    have bw : Below w.heap.size w wr := bV.trans (hbr.mono bV.size)
    by_cases hlt : k < n'
    · have hkL : k < G.length := by have := unhide HGL; omega
      obtain ⟨b, off, a2, c2, rfl, hbB, d0, d1, hI⟩ := unhide HCG k hkL
      obtain ⟨_, _, hM9, hZ1, hZ2⟩ := (grpHead_iff s _).1 (unhide HQ _ (List.getElem_mem hkL))
      have HSK := hide ((unhide HS).trans (unhide HST S k hkL))
      have HEk := hide (unhide HE k)
      have HPk := hide (fun W (hB2 : Blk W (w.heap.size + 1 + 1) C 71) => hB2.part (k * 9) (fl (setF G k)) (unhide HPT k (by omega)))
      have HLk := hide (unhide HIL k)
      generalize fl (setF G k) = Fk at HEk HPk HLk
      generalize (setF G k x0 && setF G k x1) = o at HEk HSK
      generalize G[k] = q at d0 d1 hM9 hZ1 hZ2 HSK
      clear hI
      have hkn : (k : Int) < (n' : Int) := by omega
      have hk8 : (k : Int) < 8 := by omega
      rw [← bw.cell (p := ⟨b, off + k * 2, none⟩) (by simp; omega)] at d0
      rw [← bw.cell (p := ⟨b, off + k * 2 + 1, none⟩) (by simp; omega)] at d1
      go_wp2_with fail
      obtain ⟨V3, hV3⟩ : ∃ W, W = wr.alloc (Obj.cells #[Value.slice a2 q.M.length c2, Value.int .i64 q.Z] 57) := ⟨_, rfl⟩
      rw [← hV3]
      have n3 : Below wr.heap.size wr V3 := by rw [hV3]; exact below_new _ _
      have HG3 : Hid (Blk V3 wr.heap.size #[Value.slice a2 q.M.length c2, Value.int .i64 q.Z] 57) := by show Blk _ _ _ _; rw [hV3]; exact Blk.new0
      have b3 : Below V.heap.size V V3 := hbr.trans (n3.mono hbr.size)
      have m13 := (unhide HM1).below b3
      have m23 := (unhide HM2).below b3
      clear hV3 d0 d1
      have y1 := m13.lt
      have y2 := m23.lt
      have hr3 : Hid (∀ W, (∃ d : Grown V3.heap.size V3, W = d.w) → W.rangeAt (w.heap.size + 1 + 1) (k * 9) Fk.toList) := by
        rintro W ⟨d, rfl⟩
        exact unhide HPk d.w (m23.below d.below)
      have F0 : ∀ d : Grown V3.heap.size V3, d.w.cell? ⟨w.heap.size, 0, none⟩ = some (.int .i64 (x0 : Int)) := fun d => d.cell y1 (m13.cell 0 _ rfl)
      have F1 : ∀ d : Grown V3.heap.size V3, d.w.cell? ⟨w.heap.size, 1, none⟩ = some (.int .i64 (x1 : Int)) := fun d => d.cell y1 (m13.cell 1 _ rfl)
      have F2 : ∀ d : Grown V3.heap.size V3, d.w.cell? ⟨w.heap.size, 2, none⟩ = some (.int .i64 e2) := fun d => d.cell y1 (m13.cell 2 _ rfl)
      have F3 : ∀ d : Grown V3.heap.size V3, d.w.cell? ⟨w.heap.size, 3, none⟩ = some (.int .i64 e3) := fun d => d.cell y1 (m13.cell 3 _ rfl)
      have F4 : ∀ d : Grown V3.heap.size V3, d.w.cell? ⟨w.heap.size, 4, none⟩ = some (.int .i64 e4) := fun d => d.cell y1 (m13.cell 4 _ rfl)
      clear m13 m23
      refine wp_region_grown V3.heap.size (by kernel_rfl) (by kernel_rfl) ?_
      repeat (first
        | (refine wpQuiet_load_mid (by rfl) 69 _ rfl (w.heap.size + 1 + 1) (k * 9) rfl Fk.toList _ (unhide hr3) Try.underlying69 rfl (unhide HLk) ?_
           (conv => arg 6; simp [Act.put]))
        | go_big_quiet_step (first
          | (go_at_call 72; exact Calls.grown (Nat.le_refl _) (unhide HEk _))))
      refine wpQuiet_nil ?_
      rintro w6 ⟨d6, rfl⟩
      clear F0 F1 F2 F3 F4 hr3
      have b6 : Below V.heap.size V d6.w := b3.trans (d6.below.mono b3.size)
      cases o with
      | false =>
        have HSK2 : Hid (R = FF S (G.drop (k + 1))) := unhide HSK
        clear HSK
        go_wp2_with fail
        exact ⟨⟨k + 1, S, by go_num, rfl, by omega, by omega, by omega, HSK2, b6⟩, by simp [intOf]; omega⟩
      | true =>
        have HSK2 : Hid (R = FF (S + q.Z) (G.drop (k + 1))) := unhide HSK
        clear HSK
        have j2 : d6.w.cell? ⟨wr.heap.size, 1, none⟩ = some (.int .i64 q.Z) := ((unhide HG3).below d6.below).cell 1 _ rfl
        have w4 : IntKind.i64.wrap (S + q.Z) = S + q.Z := wrap_in _ (by omega)
        go_wp2_with fail
        exact ⟨⟨k + 1, S + q.Z, by go_num, rfl, by omega, by omega, by omega, HSK2, b6⟩, by simp [intOf]; omega⟩
    · obtain rfl : k = n' := by omega
      have hRS := (unhide HS).trans (unhide HEND S)
      subst hRS
      go_wp2_with fail
      go_ret
      exact ⟨rfl, bw⟩
end Gr
end Go.Proofs.Ytdaihbgabamaiaa

/-
  The contracts of impl.isAnyShort and impl.twiceBound.
-/
namespace Go.Proofs.Ytdaihbgabamaiaa
namespace Gr
open Go.RowKit

set_option maxRecDepth 100000 in
set_option maxHeartbeats 4000000 in
theorem isAnyShort_any (B : Nat) (v : Value) (s : Int) (Q : List EdgeI) (u : Value) (Y : List Int) (G : List GrpI) (h1 : Q.length ≤ 1048576) (hQ : ∀ e ∈ Q, edgeOk s e = true) (hYs : (Y.length : Int) = s) (h9 : s ≤ 9) (hY : ∀ y ∈ Y, 0 ≤ y ∧ y ≤ 1000000000) (hq : ∀ q ∈ G, grpHead s q = true) (hm : ∀ q ∈ G, ∀ x ∈ q.M, 0 ≤ x ∧ x < 9) (hG8 : G.length ≤ 8) (w : World) (hB : B ≤ w.heap.size) (hv : GrAt w v B s Q) (hu : PrAt w u B Y G) :
    Calls Try.prog 36 #[v, u] w fun e w' => e = .returned (.bool (!slacksOk Y G Q)) ∧ Below w.heap.size w w' := by
  have SH := hide (fun e (he : edgeOk s e = true) w1 (hb : Below w.heap.size w w1) => isShort_any u B s Y G e hYs h9 hY hq hG8 he w1 (by have := hb.size; omega) (hu.below hb hB))
  have HEO := hide hQ
  have HST := hide (fun k h => slacksOk_step Y G Q k h)
  have H0 : Hid (slacksOk Y G Q = slacksOk Y G (Q.drop 0)) := rfl
  generalize slacksOk Y G Q = R at H0 ⊢
  obtain ⟨a0, n0, c0, rfl, hE⟩ := hv
  obtain ⟨a, n, c, a', n', c', rfl, hYA, hGA, _⟩ := hu
  have HEND : Hid (slacksOk Y G (Q.drop n0) = true) := by show _ = _; rw [← hE.1, List.drop_length]; rfl
  have SO := hide (fun w1 (hb : Below w.heap.size w w1) => setsOf_any a' n' c' B G (by have := hGA.1; omega) (fun q h => ⟨(by have h3 := ((grpHead_iff s q).1 (hq q h)).2.2.1; omega), hm q h⟩) w1 (by have := hb.size; omega) (hGA.below hb hB))
  have HCE := hide hE.2
  have HEL := hide hE.1
  have hn0 : n0 ≤ 1048576 := by have := hE.1; omega
  have hiS := hide (infoSetsF (setF G))
  have hiL := hide (infoSetsL (setF G))
  have h1S := hide (fs_one (setF G))
  have hsS := hide (fs_size (setF G))
  generalize fs (setF G) = C at SO SH hiS hiL h1S hsS
  have hzv := zero_sets
  have HZ : Hid (Array.size (fs fun _ _ => false) = 72) := fs_size _
  generalize (fs fun _ _ => false) = Z at hzv HZ
  clear hYA hGA hE hQ hYs h9 hY hq hm hG8 h1
  go_enter Try.func36, Try.ntmps36
  go_wp2_with fail
  obtain ⟨V, hV⟩ : ∃ W, W = (w.alloc (Obj.cells #[Value.int .i64 s, Value.slice a0 n0 c0] 34)).alloc (Obj.cells #[Value.slice a n c, Value.slice a' n' c'] 38) := ⟨_, rfl⟩
  rw [← hV]
  have bV : Below w.heap.size w V := by rw [hV]; exact (below_new _ _).alloc (by simp) _
  have m0 : Blk V w.heap.size #[Value.int .i64 s, Value.slice a0 n0 c0] 34 := by rw [hV]; exact Blk.new0.alloc
  have m1 : Blk V (w.heap.size + 1) #[Value.slice a n c, Value.slice a' n' c'] 38 := by rw [hV]; exact Blk.new1
  clear hV
  refine (unhide SO V bV).mono ?_
  rintro e w3 ⟨rfl, hb3⟩
  have b3 := bV.trans (hb3.mono bV.size)
  have n0' := m0.below hb3
  have n1' := m1.below hb3
  have z1 := n1'.lt
  clear m0 m1 hb3 bV SO
  obtain ⟨V3, hV3⟩ : ∃ W, W = w3.alloc (Obj.cells Z 71) := ⟨_, rfl⟩
  have HB3 : Hid (Blk V3 w3.heap.size Z 71) := by show Blk _ _ _ _; rw [hV3]; exact Blk.new0
  have t3 : Hid (V3.there w3.heap.size 0 C.size) := (unhide HB3).there 0 _ (by rw [unhide HZ, unhide hsS]; omega)
  obtain ⟨V4, hV4⟩ : ∃ W, W = V3.setCells w3.heap.size 0 C.toList := ⟨_, rfl⟩
  have HC4 : Hid (Blk V4 w3.heap.size C 71) := by
    have h := Blk.many C.toList 0 (unhide HB3)
    rw [setMany_all _ _ (by rw [unhide HZ, unhide hsS])] at h
    rw [hV4]
    exact h
  have HM0 : Hid (Blk V4 w.heap.size #[Value.int .i64 s, Value.slice a0 n0 c0] 34) := by
    show Blk _ _ _ _
    rw [hV4, hV3]
    exact Blk.many_other (by omega) _ _ n0'.alloc
  have HM1 : Hid (Blk V4 (w.heap.size + 1) #[Value.slice a n c, Value.slice a' n' c'] 38) := by
    show Blk _ _ _ _
    rw [hV4, hV3]
    exact Blk.many_other (by omega) _ _ n1'.alloc
  have b4 : Below w.heap.size w V4 := by rw [hV4, hV3]; exact below_setCells _ _ b3.size _ _ _ _ (b3.alloc b3.size _)
  have p1 : V4.cell? ⟨w.heap.size, 1, none⟩ = some (.slice a0 n0 c0) := (unhide HM0).cell 1 _ rfl
  rw [hV3] at t3 hV4
  rw [hV4] at p1
  clear HB3 hV3 n0' n1' b3
  go_wp2_with (first
    | refine wpList_store_mid rfl 71 _ _ rfl w3.heap.size 0 C rfl rfl (unhide t3) (unhide hiS) (unhide h1S) ?_)
  rw [← hV4]
  have z4 := (unhide HC4).lt
  have z0 := (unhide HM1).lt
  clear hV4 t3 p1
  generalize w3.heap.size = sb at HC4 z4
  go_loopw [14] (fun i wr => ∃ k : Nat, i = .int .i64 (k : Int) ∧ k ≤ n0 ∧ Hid (R = slacksOk Y G (Q.drop k)) ∧ Below V4.heap.size V4 wr) (fun i _ => n0 - (intOf i).toNat)
  case atStart => exact ⟨0, rfl, Nat.zero_le _, unhide H0, Below.refl _ _⟩
  case round =>
    obtain ⟨k, rfl, hk, HR, hbr⟩ := hrel
    have bw : Below w.heap.size w wr := b4.trans (hbr.mono b4.size)
    have hzr := hbr.size
    by_cases hlt : k < n0
    · have hkL : k < Q.length := by have := unhide HEL; omega
      obtain ⟨b, off, rfl, hbB, d0, d1, d2, d3, d4⟩ := unhide HCE k hkL
      rw [← bw.cell (p := ⟨b, off + k * 5, none⟩) (by simp; omega)] at d0
      rw [← bw.cell (p := ⟨b, off + k * 5 + 1, none⟩) (by simp; omega)] at d1
      rw [← bw.cell (p := ⟨b, off + k * 5 + 2, none⟩) (by simp; omega)] at d2
      rw [← bw.cell (p := ⟨b, off + k * 5 + 3, none⟩) (by simp; omega)] at d3
      rw [← bw.cell (p := ⟨b, off + k * 5 + 4, none⟩) (by simp; omega)] at d4
      have HR2 := hide ((unhide HR).trans (unhide HST k hkL))
      have SHk := hide (unhide SH Q[k] (unhide HEO _ (List.getElem_mem hkL)))
      generalize Q[k] = q at d0 d1 d2 d3 d4 HR2 SHk
      have hsd : decide (0 ≤ slackI Y G q) = !decide (slackI Y G q < 0) := by
        rw [Bool.eq_iff_iff]
        simp
      rw [hsd] at HR2
      generalize decide (slackI Y G q < 0) = o at SHk HR2
      clear hsd
      obtain ⟨y0, y1, y2, y3, y4⟩ := q
      unfold EdgeI.v at SHk
      simp only at d0 d1 d2 d3 d4 SHk
      have hx2 : (k : Int) < (n0 : Int) := by omega
      have hx3 : (0 : Int) ≤ (k : Int) := by omega
      obtain ⟨V6, hV6⟩ : ∃ W, W = wr.alloc (Obj.cells #[Value.int .i64 y0, Value.int .i64 y1, Value.int .i64 y2, Value.int .i64 y3, Value.int .i64 y4] 61) := ⟨_, rfl⟩
      have n6 : Below wr.heap.size wr V6 := by rw [hV6]; exact below_new _ _
      have b6 : Below V4.heap.size V4 V6 := hbr.trans (n6.mono hbr.size)
      have l6 := hide ((unhide HC4).below b6).range
      have k0 : V6.cell? ⟨w.heap.size + 1, 0, none⟩ = some (.slice a n c) := ((unhide HM1).below b6).cell 0 _ rfl
      have k1 : V6.cell? ⟨w.heap.size + 1, 1, none⟩ = some (.slice a' n' c') := ((unhide HM1).below b6).cell 1 _ rfl
      rw [hV6] at l6 k0 k1
      go_wp2_with (first
        | refine wpList_load_mid rfl 71 _ rfl sb 0 rfl C.toList _ (unhide l6) Try.underlying71 rfl (unhide hiL) ?_)
      rw [← hV6]
      have bw6 : Below w.heap.size w V6 := b4.trans (b6.mono b4.size)
      clear hV6 l6 k0 k1 d0 d1 d2 d3 d4
      refine (unhide SHk V6 bw6).mono ?_
      rintro e w7 ⟨rfl, hb7⟩
      have b7 : Below V4.heap.size V4 w7 := b6.trans (hb7.mono b6.size)
      have bw7 : Below w.heap.size w w7 := b4.trans (b7.mono b4.size)
      clear hb7 b6 n6
      cases o with
      | true =>
        have hR : R = false := by rw [unhide HR2]; rfl
        subst hR
        go_wp2_with fail
        go_ret
        exact ⟨rfl, bw7⟩
      | false =>
        have HR3 : Hid (R = slacksOk Y G (Q.drop (k + 1))) := unhide HR2
        clear HR2
        go_wp2_with fail
        exact ⟨⟨k + 1, by go_num, by omega, HR3, b7⟩, by simp [intOf]; omega⟩
    · obtain rfl : k = n0 := by omega
      have hR := (unhide HR).trans (unhide HEND)
      subst hR
      go_wp2_with fail
      go_ret
      exact ⟨rfl, bw⟩

set_option maxRecDepth 100000 in
set_option maxHeartbeats 4000000 in
theorem twice_any (v : Value) (B : Nat) (s : Int) (Y : List Int) (G : List GrpI) (hYs : (Y.length : Int) = s) (h9 : s ≤ 9) (hY : ∀ y ∈ Y, 0 ≤ y ∧ y ≤ 1000000000) (hq : ∀ q ∈ G, grpHead s q = true) (hG8 : G.length ≤ 8) (w : World) (hB : B ≤ w.heap.size) (hv : PrAt w v B Y G) :
    Calls Try.prog 41 #[v] w fun r w' => r = .returned (.int .i64 (sumI Y G)) ∧ Below w.heap.size w w' := by
  have hR : sumI Y G = gSum (ySum 0 Y) G := rfl
  generalize sumI Y G = R at hR ⊢
  obtain ⟨a, n, c, a', n', c', rfl, hYA, hGA, _⟩ := hv
  have HSY : Hid (∀ S k (h : k < Y.length), ySum S (Y.drop k) = ySum (S + Y[k]) (Y.drop (k + 1))) := fun S k h => by rw [drop_step Y k h]; rfl
  have HEY : Hid (∀ S, ySum S (Y.drop n) = S) := fun S => by rw [← hYA.1, List.drop_length]; rfl
  have HSG : Hid (∀ S k (h : k < G.length), gSum S (G.drop k) = gSum (S + G[k].Z * ((G[k].M.length / 2 : Nat) : Int)) (G.drop (k + 1))) := fun S k h => by rw [drop_step G k h]; rfl
  have HEG : Hid (∀ S, gSum S (G.drop n') = S) := fun S => by rw [← hGA.1, List.drop_length]; rfl
  have HY := hide hY
  have HQ := hide hq
  have HYL := hide hYA.1
  have HGL := hide hGA.1
  have HCY := hide hYA.2
  have HCG := hide hGA.2
  have H0 : Hid (ySum 0 Y = ySum 0 (Y.drop 0)) := rfl
  have HR := hide hR
  generalize ySum 0 Y = T at H0 HR
  have hn9 : n ≤ 9 := by have := hYA.1; omega
  have hn8 : n' ≤ 8 := by have := hGA.1; omega
  clear hY hq hYA hGA hR
  have p0 : (w.alloc (Obj.cells #[Value.slice a n c, Value.slice a' n' c'] 38)).cell? ⟨w.heap.size, 0, none⟩ = some (.slice a n c) := (Blk.new0 (t := 38)).cell 0 _ rfl
  go_enter Try.func41, Try.ntmps41
  go_wp2_with fail
  obtain ⟨V, hV⟩ : ∃ W, W = w.alloc (Obj.cells #[Value.slice a n c, Value.slice a' n' c'] 38) := ⟨_, rfl⟩
  rw [← hV]
  have bV : Below w.heap.size w V := by rw [hV]; exact below_new _ _
  have m0 : Blk V w.heap.size #[Value.slice a n c, Value.slice a' n' c'] 38 := by rw [hV]; exact Blk.new0
  clear hV p0
  have z0 := m0.lt
  have HM0 := hide m0
  clear m0
  go_loopw [3, 11] (fun t i wr => ∃ (k : Nat) (S : Int), i = .int .i64 (k : Int) ∧ t = .int .i64 S ∧ k ≤ n ∧ 0 ≤ S ∧ S ≤ 1000000000 * (k : Int) ∧ Hid (T = ySum S (Y.drop k)) ∧ V = wr) (fun _ i _ => n - (intOf i).toNat)
  case atStart => exact ⟨0, 0, rfl, rfl, Nat.zero_le _, by omega, by omega, unhide H0, rfl⟩
  case round =>
    obtain ⟨k, S, rfl, rfl, hk, hS0, hS1, HS, rfl⟩ := hrel
    by_cases hlt : k < n
    · have hkL : k < Y.length := by have := unhide HYL; omega
      obtain ⟨b, off, rfl, hbB, c0⟩ := unhide HCY k hkL
      rw [← bV.cell (p := ⟨b, off + k, none⟩) (by simp; omega)] at c0
      have hy := unhide HY _ (List.getElem_mem hkL)
      have HS2 := hide ((unhide HS).trans (unhide HSY S k hkL))
      generalize Y[k] = y at c0 hy HS2
      have w1 : IntKind.i64.wrap (S + y) = S + y := wrap_in _ (by omega)
      go_wp2_with fail
      exact ⟨⟨k + 1, S + y, by go_num, rfl, by omega, by omega, by omega, unhide HS2, trivial⟩, by simp [intOf]; omega⟩
    · obtain rfl : k = n := by omega
      have hTS := (unhide HS).trans (unhide HEY S)
      have HR2 : Hid (R = gSum S (G.drop 0)) := by show _ = _; rw [unhide HR, hTS]; rfl
      have p1 : V.cell? ⟨w.heap.size, 1, none⟩ = some (.slice a' n' c') := (unhide HM0).cell 1 _ rfl
      clear hTS HS HR H0
      go_wp2_with fail
      clear p1
      go_loopw [3, 22] (fun t i wr => ∃ (j : Nat) (U : Int), i = .int .i64 (j : Int) ∧ t = .int .i64 U ∧ j ≤ n' ∧ 0 ≤ U ∧ U ≤ 9000000000 + 4000000000 * (j : Int) ∧ Hid (R = gSum U (G.drop j)) ∧ Below V.heap.size V wr) (fun _ i _ => n' - (intOf i).toNat)
      case atStart => exact ⟨0, S, rfl, rfl, Nat.zero_le _, by omega, by omega, unhide HR2, Below.refl _ _⟩
      case round =>
        obtain ⟨j, U, rfl, rfl, hj, hU0, hU1, HU, hbr⟩ := hrel
        have hzr := hbr.size
        have bw : Below w.heap.size w wr := bV.trans (hbr.mono bV.size)
        by_cases hlt : j < n'
        · have hjL : j < G.length := by have := unhide HGL; omega
          obtain ⟨b, off, a2, c2, rfl, hbB, d0, d1, _⟩ := unhide HCG j hjL
          rw [← bw.cell (p := ⟨b, off + j * 2, none⟩) (by simp; omega)] at d0
          rw [← bw.cell (p := ⟨b, off + j * 2 + 1, none⟩) (by simp; omega)] at d1
          have hh := half_bounds (unhide HQ _ (List.getElem_mem hjL)) h9
          obtain ⟨hM3, hM2, hM9, hZ1, hZ2⟩ := (grpHead_iff s _).1 (unhide HQ _ (List.getElem_mem hjL))
          have HU2 := hide ((unhide HU).trans (unhide HSG U j hjL))
          generalize G[j] = q at d0 d1 hh hM3 hM2 hM9 hZ1 hZ2 HU2
          have hjn : (j : Int) < (n' : Int) := by omega
          have wl : IntKind.i64.wrap ((q.M.length : Int) - 1) = ((q.M.length - 1 : Nat) : Int) := by rw [wrap_in _ (by omega)]; omega
          have wh : (((q.M.length - 1 : Nat) : Int)) / 2 = ((q.M.length / 2 : Nat) : Int) := by omega
          obtain ⟨pz, hpz⟩ : ∃ pz, pz = q.Z * ((q.M.length / 2 : Nat) : Int) := ⟨_, rfl⟩
          rw [← hpz] at hh HU2
          have HWH : Hid (wrap64 (U + wrap64 (q.Z * (((q.M.length : Nat) : Int) / 2))) = U + pz) := by
            show _ = _
            rw [show ((q.M.length : Nat) : Int) / 2 = ((q.M.length / 2 : Nat) : Int) by omega, ← hpz, wrap64_in pz (by omega), wrap64_in _ (by omega)]
          clear hpz
          go_wp2_with fail
          exact ⟨⟨j + 1, U + pz, by go_num, (by rw [unhide HWH]), by omega, by omega, by omega, unhide HU2, hbr.alloc hbr.size _⟩, by simp [intOf]; omega⟩
        · obtain rfl : j = n' := by omega
          have hRS := (unhide HU).trans (unhide HEG U)
          subst hRS
          go_wp2_with fail
          go_ret
          exact ⟨rfl, bw⟩
end Gr
end Go.Proofs.Ytdaihbgabamaiaa

/-
  Rows of Sums (3 numbers each) in memory, and the contracts of what the laws do with them. Written by program (tools/introws.py).
-/
namespace Go.Proofs.Ytdaihbgabamaiaa
namespace Gr
open Go.ChangeShapes Go.WideShapes Go.ChangeAt Go.RowKit

structure SumsI where
  W1 : Int
  W2 : Int
  W3 : Int
deriving DecidableEq

def SumsI.v (x : SumsI) : Value := .agg #[.int .i64 x.W1, .int .i64 x.W2, .int .i64 x.W3]
def SumsI.zero : SumsI := ⟨0, 0, 0⟩

/-- A row that can be read, below block B. -/
def sumsAt (w : World) (a : Option Addr) (len B : Nat) (Q : List SumsI) : Prop :=
  Q.length = len ∧ ∀ j (h : j < Q.length), ∃ b off, a = some ⟨b, off, none⟩ ∧ b < B ∧ w.cell? ⟨b, off + j * 3, none⟩ = some (.int .i64 Q[j].W1) ∧ w.cell? ⟨b, off + j * 3 + 1, none⟩ = some (.int .i64 Q[j].W2) ∧ w.cell? ⟨b, off + j * 3 + 2, none⟩ = some (.int .i64 Q[j].W3)

theorem sumsAt.below {w w' : World} {a : Option Addr} {len B C : Nat} {Q : List SumsI} (h : sumsAt w a len B Q) (hb : Below C w w') (hC : B ≤ C) : sumsAt w' a len B Q := by
  refine ⟨h.1, fun j hj => ?_⟩
  obtain ⟨b, off, e, hbB, c0, c1, c2⟩ := h.2 j hj
  exact ⟨b, off, e, hbB, (by rw [hb.cell (p := ⟨b, off + j * 3, none⟩) (by simp; omega)]; exact c0), (by rw [hb.cell (p := ⟨b, off + j * 3 + 1, none⟩) (by simp; omega)]; exact c1), (by rw [hb.cell (p := ⟨b, off + j * 3 + 2, none⟩) (by simp; omega)]; exact c2)⟩

theorem sumsAt.mono {w : World} {a : Option Addr} {len B C : Nat} {Q : List SumsI} (h : sumsAt w a len B Q) (hC : B ≤ C) : sumsAt w a len C Q := by
  refine ⟨h.1, fun j hj => ?_⟩
  obtain ⟨b, off, e, hbB, hc⟩ := h.2 j hj
  exact ⟨b, off, e, by omega, hc⟩

def sumsV (Q : List SumsI) : List Value := Q.flatMap fun q => [.int .i64 q.W1, .int .i64 q.W2, .int .i64 q.W3]

theorem sumsV_length (Q : List SumsI) : (sumsV Q).length = Q.length * 3 := by
  induction Q with
  | nil => rfl
  | cons q Q ih => simp [sumsV] at ih ⊢; omega

theorem sumsV_at (Q : List SumsI) (k : Nat) (h : k < Q.length) : (sumsV Q)[k * 3]? = some (.int .i64 Q[k].W1) ∧ (sumsV Q)[k * 3 + 1]? = some (.int .i64 Q[k].W2) ∧ (sumsV Q)[k * 3 + 2]? = some (.int .i64 Q[k].W3) := by
  induction Q generalizing k with
  | nil => simp at h
  | cons q Q ih =>
    cases k with
    | zero => simp [sumsV]
    | succ k =>
      have := ih k (by simpa using h)
      have e : (k + 1) * 3 = k * 3 + 3 := by omega
      simpa [sumsV, e] using this

theorem sumsV_set (Q : List SumsI) (k : Nat) (h : k < Q.length) (x : SumsI) : (((sumsV Q).set (k * 3) (.int .i64 x.W1)).set (k * 3 + 1) (.int .i64 x.W2)).set (k * 3 + 2) (.int .i64 x.W3) = sumsV (Q.set k x) := by
  induction Q generalizing k with
  | nil => simp at h
  | cons q Q ih =>
    cases k with
    | zero => simp [sumsV]
    | succ k =>
      have := ih k (by simpa using h)
      have e : (k + 1) * 3 = k * 3 + 3 := by omega
      simpa [sumsV, e] using this

theorem sumsV_snoc (Q : List SumsI) (x : SumsI) : sumsV (Q ++ [x]) = sumsV Q ++ [.int .i64 x.W1, .int .i64 x.W2, .int .i64 x.W3] := by
  unfold sumsV; rw [List.flatMap_append]; rfl

theorem made_sums (n : Nat) (M : Array Value) (hM : M = madeCells (Value.agg #[.int .i64 0, .int .i64 0, .int .i64 0]).cells (n * 3)) : M.toList = sumsV (List.replicate n SumsI.zero) ∧ M.size = n * 3 := by
  have hs : M.size = n * 3 := by rw [hM, size_madeCells]
  refine ⟨?_, hs⟩
  apply List.ext_getElem?
  intro j
  by_cases hj : j < n * 3
  · have e : M.toList[j]? = some (.int .i64 0) := by
      rw [hM]
      have h2 : j % 3 = 0 ∨ j % 3 = 1 ∨ j % 3 = 2 := by omega
      rcases h2 with h2 | h2 | h2 <;> simp [madeCells, Value.cells, hj, h2]
    rw [e]
    have hp := sumsV_at (List.replicate n SumsI.zero) (j / 3) (by simp; omega)
    have h2 : j % 3 = 0 ∨ j % 3 = 1 ∨ j % 3 = 2 := by omega
    rcases h2 with h2 | h2 | h2
    · have ej : j / 3 * 3 = j := by omega
      rw [ej] at hp
      rw [hp.1]
      simp [SumsI.zero]
    · have ej : j / 3 * 3 + 1 = j := by omega
      rw [ej] at hp
      rw [hp.2.1]
      simp [SumsI.zero]
    · have ej : j / 3 * 3 + 2 = j := by omega
      rw [ej] at hp
      rw [hp.2.2]
      simp [SumsI.zero]
  · rw [List.getElem?_eq_none (by simp; omega), List.getElem?_eq_none (by rw [sumsV_length]; simp; omega)]

end Gr
end Go.Proofs.Ytdaihbgabamaiaa

/-
  Rows of Sums: what is marked is held. Written by program (tools/introws.py).
-/
namespace Go.Proofs.Ytdaihbgabamaiaa
namespace Gr
open Go.ChangeShapes Go.WideShapes Go.ChangeAt Go.RowKit

/-- The marks of n rows from k on. -/
def marksSums (k n : Nat) : List SumsI := (List.range n).map fun i => ⟨((k + i * 3 : Nat) : Int), ((k + i * 3 + 1 : Nat) : Int), ((k + i * 3 + 2 : Nat) : Int)⟩

theorem marksSums_length (k n : Nat) : (marksSums k n).length = n := by simp [marksSums]
theorem marksSums_at (k n i : Nat) (h : i < (marksSums k n).length) : (marksSums k n)[i] = ⟨((k + i * 3 : Nat) : Int), ((k + i * 3 + 1 : Nat) : Int), ((k + i * 3 + 2 : Nat) : Int)⟩ := by simp [marksSums]

end Gr
end Go.Proofs.Ytdaihbgabamaiaa

/-
  Rows of Sums: a row that came in, read. Written by program (tools/introws.py).
-/
namespace Go.Proofs.Ytdaihbgabamaiaa
namespace Gr
open Go.ChangeShapes Go.WideShapes Go.ChangeAt Go.RowKit

end Gr
end Go.Proofs.Ytdaihbgabamaiaa

/-
  The kind of Sums, in the form that a law's walk asks for. Written by program (tools/kinds.py).
-/
namespace Go.Proofs.Ytdaihbgabamaiaa
namespace Gr
open Go.ChangeShapes Go.WideShapes Go.ChangeAt Go.RowKit

def SuAt (_w : World) (v : Value) (_B : Nat) (x : SumsI) : Prop := v = x.v
def SuOwn (_w : World) (_B : Nat) (v : Value) (x : SumsI) : Prop := v = x.v

theorem SuAt.shape {w : World} {v : Value} {B : Nat} {x : SumsI} (h : SuAt w v B x) : v = x.v := h
theorem SuAt.below {w w' : World} {v : Value} {B C : Nat} {x : SumsI} (h : SuAt w v B x) (_hb : Below C w w') (_hC : B ≤ C) : SuAt w' v B x := h
theorem SuAt.mono {w : World} {v : Value} {B C : Nat} {x : SumsI} (h : SuAt w v B x) (_hC : B ≤ C) : SuAt w v C x := h
theorem SuOwn.at {w : World} {B : Nat} {v : Value} {x : SumsI} (h : SuOwn w B v x) : SuAt w v w.heap.size x := h
theorem SuOwn.below {w w' : World} {B : Nat} {v : Value} {x : SumsI} (h : SuOwn w B v x) (_hb : Below w.heap.size w w') : SuOwn w' B v x := h

end Gr
end Go.Proofs.Ytdaihbgabamaiaa

/-
  The contract of spec.Better.
-/
namespace Go.Proofs.Ytdaihbgabamaiaa
namespace Gr
open Go.RowKit

def better (a b : SumsI) : Bool := if a.W1 ≠ b.W1 then decide (b.W1 < a.W1) else if a.W2 ≠ b.W2 then decide (b.W2 < a.W2) else decide (b.W3 < a.W3)

end Gr
end Go.Proofs.Ytdaihbgabamaiaa

/-
  Sums of pairings, the best of all pairings and how many there are: as mathematics.
-/
namespace Go.Proofs.Ytdaihbgabamaiaa
namespace Gr
open Go.RowKit

/-- Sums and the worths of an edge. -/
def addS (s : SumsI) (e : EdgeI) : SumsI := ⟨s.W1 + e.W1, s.W2 + e.W2, s.W3 + e.W3⟩

/-- The i-th edge. -/
def edgeN (Q : List EdgeI) (i : Int) : EdgeI := Q.getD i.toNat ⟨0, 0, 0, 0, 0⟩

def sumsFrom (Q : List EdgeI) : SumsI → List CoupleI → SumsI
  | s, [] => s
  | s, x :: r => sumsFrom Q (addS s (edgeN Q (atFrom x.A x.B 0 Q))) r

/-- The sums of a pairing. -/
def sums (Q : List EdgeI) (M : List CoupleI) : SumsI := sumsFrom Q ⟨0, 0, 0⟩ M

/-- Sums of at most n right edges. -/
def SB (s : SumsI) (n : Int) : Prop := (0 ≤ s.W1 ∧ s.W1 ≤ 50 * n) ∧ (0 ≤ s.W2 ∧ s.W2 ≤ 50 * n) ∧ (0 ≤ s.W3 ∧ s.W3 ≤ 50 * n)

theorem SB.mono {s : SumsI} {n m : Int} (h : SB s n) (hm : n ≤ m) : SB s m := by
  unfold SB at *
  omega

theorem worth_range {x : Int} (h : worthOk x = true) : 0 ≤ x ∧ x ≤ 50 := by
  unfold worthOk at h
  simpa using h

theorem SB.add {s : SumsI} {n : Int} {g : Int} {e : EdgeI} (h : SB s n) (he : edgeOk g e = true) : SB (addS s e) (n + 1) := by
  obtain ⟨_, _, _, h1, h2, h3⟩ := (edgeOk_iff g e).1 he
  have := worth_range h1
  have := worth_range h2
  have := worth_range h3
  unfold SB addS at *
  simp only
  omega

theorem SB.zero (n : Int) (h : 0 ≤ n) : SB ⟨0, 0, 0⟩ n := by
  unfold SB
  simp only
  omega

theorem at_range (x y : Int) : ∀ (Q : List EdgeI) (k : Nat), 0 ≤ atFrom x y k Q → ∃ i, ∃ h : i < Q.length, atFrom x y k Q = ((k + i : Nat) : Int) ∧ hit x y Q[i] = true
  | [], _, h => by unfold atFrom at h; omega
  | q :: r, k, h => by
    unfold atFrom at h ⊢
    by_cases hq : hit x y q = true
    · rw [if_pos hq]
      exact ⟨0, by simp, rfl, hq⟩
    · rw [if_neg hq] at h ⊢
      obtain ⟨i, hi, e, hh⟩ := at_range x y r (k + 1) h
      exact ⟨i + 1, by simp; omega, by rw [e]; omega, by simpa using hh⟩

theorem edgeN_at {x y : Int} {Q : List EdgeI} (h : 0 ≤ atFrom x y 0 Q) : ∃ i, ∃ h' : i < Q.length, atFrom x y 0 Q = (i : Int) ∧ edgeN Q (atFrom x y 0 Q) = Q[i] ∧ hit x y Q[i] = true := by
  obtain ⟨i, hi, e, hh⟩ := at_range x y Q 0 h
  rw [Nat.zero_add] at e
  refine ⟨i, hi, e, ?_, hh⟩
  unfold edgeN
  rw [e, Int.toNat_natCast, List.getD_eq_getElem?_getD, List.getElem?_eq_getElem hi]
  rfl

theorem edgeN_ok {s x y : Int} {Q : List EdgeI} (hg : graphOk s Q = true) (h : 0 ≤ atFrom x y 0 Q) : edgeOk s (edgeN Q (atFrom x y 0 Q)) = true := by
  obtain ⟨i, hi, _, e, _⟩ := edgeN_at h
  rw [e]
  exact (graph_sound hg).2.2.1 _ (List.getElem_mem hi)

/-- One vertex b looked at as the fellow of f. -/
def bstep (Q : List EdgeI) (f : Int) (U : List Int) (rec : List Int → SumsI × Int) (acc : SumsI × Int) (b : Int) : SumsI × Int :=
  if atFrom f b 0 Q < 0 ∨ inK U b = true then acc
  else (if better (addS (rec (U ++ [b])).1 (edgeN Q (atFrom f b 0 Q))) acc.1 = true then addS (rec (U ++ [b])).1 (edgeN Q (atFrom f b 0 Q)) else acc.1, acc.2 + (rec (U ++ [b])).2)

/-- m vertices from b on. -/
def bloop (Q : List EdgeI) (f : Int) (U : List Int) (rec : List Int → SumsI × Int) : Nat → Int → SumsI × Int → SumsI × Int
  | 0, _, acc => acc
  | m + 1, b, acc => bloop Q f U rec m (b + 1) (bstep Q f U rec acc b)

/-- The best sums of all pairings of the last n vertices that are not used, and how many there are. -/
def best (Q : List EdgeI) (s : Int) : Nat → List Int → SumsI × Int
  | 0, _ => (⟨0, 0, 0⟩, 1)
  | n + 1, U => if inK U (s - ((n + 1 : Nat) : Int)) = true then best Q s n U else bloop Q (s - ((n + 1 : Nat) : Int)) U (fun V => best Q s n V) n (s - (n : Int)) (best Q s n U)

theorem best_skip (Q : List EdgeI) (s : Int) (n : Nat) (U : List Int) (h : inK U (s - ((n + 1 : Nat) : Int)) = true) : best Q s (n + 1) U = best Q s n U := by
  rw [best, if_pos h]

theorem best_loop (Q : List EdgeI) (s : Int) (n : Nat) (U : List Int) (h : inK U (s - ((n + 1 : Nat) : Int)) = false) : best Q s (n + 1) U = bloop Q (s - ((n + 1 : Nat) : Int)) U (fun V => best Q s n V) n (s - (n : Int)) (best Q s n U) := by
  rw [best, if_neg (by rw [h]; simp)]

theorem bstep_bounds {Q : List EdgeI} {s f : Int} {U : List Int} {rec : List Int → SumsI × Int} {k : Int} {F : Int} (hg : graphOk s Q = true) (hk : ∀ V, SB (rec V).1 k) (hF : ∀ V, 1 ≤ (rec V).2 ∧ (rec V).2 ≤ F) {acc : SumsI × Int} (h1 : SB acc.1 (k + 1)) (b : Int) :
    SB (bstep Q f U rec acc b).1 (k + 1) ∧ acc.2 ≤ (bstep Q f U rec acc b).2 ∧ (bstep Q f U rec acc b).2 ≤ acc.2 + F := by
  have hFF := hF (U ++ [b])
  unfold bstep
  split
  · exact ⟨h1, Int.le_refl _, by omega⟩
  · rename_i h
    have h0 : 0 ≤ atFrom f b 0 Q := by omega
    refine ⟨?_, by simp only; omega, by simp only; omega⟩
    simp only
    split
    · exact (hk (U ++ [b])).add (edgeN_ok hg h0)
    · exact h1

theorem bloop_bounds {Q : List EdgeI} {s f : Int} {U : List Int} {rec : List Int → SumsI × Int} {k : Int} {F : Int} (hg : graphOk s Q = true) (hk : ∀ V, SB (rec V).1 k) (hF : ∀ V, 1 ≤ (rec V).2 ∧ (rec V).2 ≤ F) :
    ∀ (m : Nat) (b : Int) (acc : SumsI × Int), SB acc.1 (k + 1) → SB (bloop Q f U rec m b acc).1 (k + 1) ∧ acc.2 ≤ (bloop Q f U rec m b acc).2 ∧ (bloop Q f U rec m b acc).2 ≤ acc.2 + (m : Int) * F
  | 0, b, acc, h => by
    refine ⟨h, Int.le_refl _, ?_⟩
    show acc.2 ≤ acc.2 + ((0 : Nat) : Int) * F
    simp
  | m + 1, b, acc, h => by
    obtain ⟨i1, i2, i3⟩ := bstep_bounds (f := f) (U := U) hg hk hF h b
    obtain ⟨j1, j2, j3⟩ := bloop_bounds (f := f) (U := U) hg hk hF m (b + 1) _ i1
    refine ⟨j1, Int.le_trans i2 j2, ?_⟩
    have e : ((m + 1 : Nat) : Int) * F = (m : Int) * F + F := by
      rw [Int.natCast_add, Int.add_mul]
      simp
    rw [e]
    show (bloop Q f U rec m (b + 1) (bstep Q f U rec acc b)).2 ≤ _
    omega

theorem best_bounds {Q : List EdgeI} {s : Int} (hg : graphOk s Q = true) : ∀ (n : Nat) (U : List Int), n ≤ 9 → SB (best Q s n U).1 (n : Int) ∧ 1 ≤ (best Q s n U).2 ∧ (best Q s n U).2 ≤ 10 ^ n
  | 0, U, _ => by
    refine ⟨SB.zero _ (by omega), Int.le_refl _, ?_⟩
    show (1 : Int) ≤ 10 ^ 0
    simp
  | n + 1, U, hn => by
    have ih := fun V => best_bounds hg n V (by omega)
    have hp : (1 : Int) ≤ 10 ^ n := Int.le_trans (ih []).2.1 (ih []).2.2
    have hp2 : (10 : Int) ^ (n + 1) = 10 ^ n * 10 := Int.pow_succ _ _
    cases hu : inK U (s - ((n + 1 : Nat) : Int)) with
    | true =>
      rw [best_skip Q s n U hu, hp2]
      obtain ⟨h1, h2, h3⟩ := ih U
      exact ⟨h1.mono (by omega), h2, by omega⟩
    | false =>
      rw [best_loop Q s n U hu, hp2]
      obtain ⟨h1, h2, h3⟩ := bloop_bounds (f := s - ((n + 1 : Nat) : Int)) (U := U) (rec := fun V => best Q s n V) (k := (n : Int)) (F := 10 ^ n) hg (fun V => (ih V).1) (fun V => (ih V).2) n (s - (n : Int)) (best Q s n U) ((ih U).1.mono (by omega))
      refine ⟨by rw [Int.natCast_add]; exact h1, Int.le_trans (ih U).2.1 h2, Int.le_trans h3 ?_⟩
      have h9 : (n : Int) * 10 ^ n ≤ 9 * 10 ^ n := Int.mul_le_mul_of_nonneg_right (by omega) (by omega)
      have := (ih U).2.2
      omega

theorem pow_big : ∀ n : Nat, n ≤ 9 → (10 : Int) ^ n ≤ 1000000000 := by decide
end Gr
end Go.Proofs.Ytdaihbgabamaiaa

/-
  Sums of a pairing, step by step, and as one number.
-/
namespace Go.Proofs.Ytdaihbgabamaiaa
namespace Gr
open Go.RowKit

theorem sumsFrom_step (Q : List EdgeI) (M : List CoupleI) (s : SumsI) (k : Nat) (h : k < M.length) : sumsFrom Q s (M.drop k) = sumsFrom Q (addS s (edgeN Q (atFrom M[k].A M[k].B 0 Q))) (M.drop (k + 1)) := by
  rw [← List.getElem_cons_drop h]
  rfl

theorem mFrom_at (Q : List EdgeI) : ∀ (M : List CoupleI) (p : Option CoupleI) (U : List Int), mFrom Q p U M = true → ∀ x ∈ M, 0 ≤ atFrom x.A x.B 0 Q
  | [], _, _, _ => by simp
  | y :: r, p, U, h => by
    unfold mFrom at h
    simp only [Bool.and_eq_true, decide_eq_true_eq] at h
    intro x hx
    rcases List.mem_cons.1 hx with rfl | hx
    · exact h.2.2.1
    · exact mFrom_at Q r _ _ h.2.2.2.2.2 x hx

theorem match_sound {s : Int} {Q : List EdgeI} {M : List CoupleI} (h : matchOk s Q M = true) : graphOk s Q = true ∧ M.length ≤ 9 ∧ mFrom Q none [] M = true := by
  unfold matchOk at h
  simpa using h

/-- Sums as one number. -/
def wsum (t : SumsI) : Int := 90000 * t.W1 + 300 * t.W2 + t.W3

theorem wsum_add {t : SumsI} {n s : Int} {e : EdgeI} (h : SB t n) (hn : 0 ≤ n ∧ n ≤ 9) (he : edgeOk s e = true) : wsum (addS t e) = wsum t + scal e ∧ 0 ≤ scal e ∧ scal e ≤ 4515050 ∧ 0 ≤ wsum t ∧ wsum t ≤ 45150500 := by
  obtain ⟨_, _, _, h1, h2, h3⟩ := (edgeOk_iff s e).1 he
  have e1 := worth_range h1
  have e2 := worth_range h2
  have e3 := worth_range h3
  have hs : scal e = 90000 * e.W1 + 300 * e.W2 + e.W3 := by
    unfold scal
    rw [wrap_mod]
    omega
  unfold SB at h
  rw [hs]
  unfold wsum addS
  simp only
  omega

end Gr
end Go.Proofs.Ytdaihbgabamaiaa

/-
  The contracts of spec.Bound, spec.l11Worth and spec.Certifies.
-/
namespace Go.Proofs.Ytdaihbgabamaiaa
namespace Gr
open Go.RowKit

theorem proof_sound {s : Int} {Q : List EdgeI} {Y : List Int} {G : List GrpI} (h : proofOk s Q Y G = true) : graphOk s Q = true ∧ (Y.length : Int) = s ∧ s ≤ 9 ∧ G.length ≤ 8 ∧ (∀ y ∈ Y, 0 ≤ y ∧ y ≤ 1000000000) ∧ (∀ q ∈ G, grpHead s q = true) := by
  unfold proofOk at h
  simp only [Bool.and_eq_true, decide_eq_true_eq] at h
  obtain ⟨h1, h2, h3, h4, h5, _⟩ := h
  exact ⟨h1, h2, (graph_sound h1).2.1, h3, yOk_at Y h4, grpsOk_at s G [] h5⟩

theorem sum_bounds {s : Int} {Q : List EdgeI} {Y : List Int} {G : List GrpI} (h : proofOk s Q Y G = true) : 0 ≤ sumI Y G ∧ sumI Y G ≤ 41000000000 := by
  obtain ⟨_, h1, h9, h8, hY, hG⟩ := proof_sound h
  have a1 := ySum_bounds Y 0 hY
  have a2 := gSum_bounds h9 G (ySum 0 Y) hG
  unfold sumI
  omega

set_option maxRecDepth 100000 in
set_option maxHeartbeats 1000000 in
theorem specBound_gen (B : Nat) (v : Value) (s : Int) (Q : List EdgeI) (u : Value) (Y : List Int) (G : List GrpI) (h1 : Q.length ≤ 1048576) (h2 : psize Y G ≤ 1048576) (w : World) (hB : B ≤ w.heap.size) (hv : GrAt w v B s Q) (hu : PrAt w u B Y G) :
    Calls Try.prog 14 #[v, u] w fun e w' => e = .returned (.int .i64 (boundR s Q Y G)) ∧ Below w.heap.size w w' := by
  have PK := hide (fun w1 (hb : Below w.heap.size w w1) => specProof_gen B v s Q u Y G h1 h2 w1 (by have := hb.size; omega) (hv.below hb hB) (hu.below hb hB))
  have SM := hide (fun (h : proofOk s Q Y G = true) w1 (hb : Below w.heap.size w w1) => specSum_any u B s Y G (proof_sound h).2.1 (proof_sound h).2.2.1 (proof_sound h).2.2.2.2.1 (proof_sound h).2.2.2.2.2 (proof_sound h).2.2.2.1 w1 (by have := hb.size; omega) (hu.below hb hB))
  have HBD : Hid (proofOk s Q Y G = true → 0 ≤ sumI Y G ∧ sumI Y G ≤ 41000000000) := fun h => sum_bounds h
  have hV : boundR s Q Y G = if proofOk s Q Y G = true then sumI Y G / 2 else 0 := rfl
  generalize boundR s Q Y G = V at hV ⊢
  generalize sumI Y G = S at SM HBD hV
  generalize proofOk s Q Y G = ok at PK SM HBD hV
  obtain ⟨a0, n0, c0, rfl, _⟩ := hv
  obtain ⟨a, n, c, a', n', c', rfl, _⟩ := hu
  clear h1 h2
  go_enter Try.func14, Try.ntmps14
  go_wp2_with fail
  obtain ⟨W1, hW1⟩ : ∃ W, W = (w.alloc (Obj.cells #[Value.int .i64 s, Value.slice a0 n0 c0] 34)).alloc (Obj.cells #[Value.slice a n c, Value.slice a' n' c'] 38) := ⟨_, rfl⟩
  rw [← hW1]
  have b1 : Below w.heap.size w W1 := by rw [hW1]; exact (below_new _ _).alloc (by simp) _
  have m1 : Blk W1 (w.heap.size + 1) #[Value.slice a n c, Value.slice a' n' c'] 38 := by rw [hW1]; exact Blk.new1
  clear hW1
  go_fit (unhide PK W1 b1)
  rintro e w2 ⟨rfl, hb2⟩
  have b2 := b1.trans (hb2.mono b1.size)
  have m2 := m1.below hb2
  cases ok with
  | false =>
    rw [if_neg (by simp)] at hV
    subst hV
    go_wp2_with fail
    go_ret
    exact ⟨rfl, b2⟩
  | true =>
    rw [if_pos rfl] at hV
    obtain ⟨hs0, hs1⟩ := unhide HBD rfl
    have SM2 := hide (unhide SM rfl w2 b2)
    have c0' : w2.cell? ⟨w.heap.size + 1, 0, none⟩ = some (.slice a n c) := m2.cell 0 _ rfl
    have c1' : w2.cell? ⟨w.heap.size + 1, 1, none⟩ = some (.slice a' n' c') := m2.cell 1 _ rfl
    have HV := hide hV
    clear m1 m2 hb2 hV
    go_wp2_with fail
    go_fit (unhide SM2)
    rintro e w3 ⟨rfl, hb3⟩
    have b3 := b2.trans (hb3.mono b2.size)
    clear hb3 c0' c1'
    go_wp2_with fail
    go_ret
    refine ⟨?_, b3⟩
    have := unhide HV
    subst this
    first
      | rfl
      | (rw [wrap64_in _ (by omega)]; rfl)
      | (show Ending.returned (Value.int IntKind.i64 _) = Ending.returned (Value.int IntKind.i64 _); congr 2; first | (rw [wrap64_in _ (by omega)]; done) | omega)

set_option maxRecDepth 100000 in
set_option maxHeartbeats 2000000 in
theorem specWorth_any (B : Nat) (v : Value) (s : Int) (Q : List EdgeI) (u : Value) (M : List CoupleI) (hok : matchOk s Q M = true) (h1 : Q.length ≤ 1048576) (w : World) (hB : B ≤ w.heap.size) (hv : GrAt w v B s Q) (hu : CoAt w u B M) :
    Calls Try.prog 43 #[v, u] w fun e w' => e = .returned (.int .i64 (wsum (sums Q M))) ∧ Below w.heap.size w w' := by
  have AT := hide (fun x y w1 (hb : Below w.heap.size w w1) => specAt_any v B s x y Q h1 w1 (by have := hb.size; omega) (hv.below hb hB))
  obtain ⟨a0, n0, c0, rfl, hE⟩ := hv
  obtain ⟨hL0, hc0⟩ := hE
  obtain ⟨a, c, rfl, hM⟩ := hu
  obtain ⟨_, hc⟩ := hM
  obtain ⟨hg, h9, hm⟩ := match_sound hok
  have HED : Hid (∀ k (h : k < M.length), ∃ i, ∃ h' : i < Q.length, atFrom M[k].A M[k].B 0 Q = (i : Int) ∧ edgeN Q (atFrom M[k].A M[k].B 0 Q) = Q[i] ∧ edgeOk s Q[i] = true) := fun k h => by
    obtain ⟨i, hi, e1, e2, _⟩ := edgeN_at (mFrom_at Q M none [] hm _ (List.getElem_mem h))
    exact ⟨i, hi, e1, e2, (graph_sound hg).2.2.1 _ (List.getElem_mem hi)⟩
  have HST := hide (fun s k h => sumsFrom_step Q M s k h)
  have HEND : Hid (∀ s, sumsFrom Q s (M.drop M.length) = s) := fun s => by rw [List.drop_length]; rfl
  have H0 : Hid (sums Q M = sumsFrom Q ⟨0, 0, 0⟩ (M.drop 0)) := rfl
  generalize sums Q M = T at H0 ⊢
  have HC0 := hide hc0
  have HL0 := hide hL0
  have HC := hide hc
  obtain ⟨n, hn⟩ : ∃ n, M.length = n := ⟨_, rfl⟩
  rw [hn] at HEND h9
  rw [hn]
  have HN := hide hn
  have HN0 : Hid (n0 ≤ 1048576) := by show _ ≤ _; omega
  clear hc0 hL0 hc hok hm hg h1 hn
  go_enter Try.func43, Try.ntmps43
  go_wp2_with fail
  obtain ⟨V1, hV1⟩ : ∃ W, W = w.alloc (Obj.cells #[Value.int .i64 s, Value.slice a0 n0 c0] 34) := ⟨_, rfl⟩
  rw [← hV1]
  have b1 : Below w.heap.size w V1 := by rw [hV1]; exact below_new _ _
  have x1 : GBox V1 w.heap.size s (.slice a0 n0 c0) := by rw [hV1]; exact GBox.new _ _ _
  have hx1l := x1.lt
  have HX1 := hide x1
  clear hV1 x1
  go_loopw [5, 6] (fun nn i wr => ∃ (j : Nat) (t : SumsI) (N : Int), i = .int .i64 (j : Int) ∧ nn = .int .i64 N ∧ Hid (N = wsum t) ∧ j ≤ n ∧ Hid (T = sumsFrom Q t (M.drop j)) ∧ Hid (SB t (j : Int)) ∧ Below V1.heap.size V1 wr) (fun _ i _ => n - (intOf i).toNat)
  case atStart => exact ⟨0, ⟨0, 0, 0⟩, 0, rfl, rfl, rfl, Nat.zero_le _, unhide H0, SB.zero _ (by omega), Below.refl _ _⟩
  case round =>
    obtain ⟨j, t, N, rfl, rfl, HNE, hj, HR, HSB, hb⟩ := hrel
    have b4 : Below w.heap.size w wr := b1.trans (hb.mono b1.size)
    by_cases hlt : j < n
    · have hjL : j < M.length := by have := unhide HN; omega
      obtain ⟨b, off, rfl, hbB, c0', c1'⟩ := unhide HC j hjL
      obtain ⟨i, hiQ, e1, e2, heok⟩ := unhide HED j hjL
      obtain ⟨b', off', rfl, hbB', d0, d1, d2, d3, d4⟩ := unhide HC0 i hiQ
      have hr := (unhide HR).trans (unhide HST t j hjL)
      have AT1 := hide (unhide AT M[j].A M[j].B)
      have hsn := (unhide HSB).add heok
      have hws := wsum_add (unhide HSB) (by omega) heok
      rw [e1] at AT1
      rw [e2] at hr
      generalize M[j] = mm at c0' c1' AT1
      have SC := hide (fun w => specScalar_any Q[i] w)
      generalize Q[i] = q at d0 d1 d2 d3 d4 hr hsn SC hws
      rw [← unhide HNE] at hws
      obtain ⟨hws0, hws1, hws2, hws3, hws4⟩ := hws
      generalize scal q = sc at SC hws0 hws1 hws2
      obtain ⟨m0, m1⟩ := mm
      obtain ⟨y0, y1, y2, y3, y4⟩ := q
      unfold EdgeI.v at SC
      simp only at c0' c1' AT1 d0 d1 d2 d3 d4 SC
      have HSN := hide hsn
      have HRN := hide hr
      have hx1 : (j : Int) < (n : Int) := by omega
      have hi1 : (i : Int) < (n0 : Int) := by have := unhide HL0; omega
      obtain ⟨p0, p1⟩ := ((unhide HX1).below hb).cells
      have hgl : w.heap.size < wr.heap.size := by have := hb.size; omega
      have hbl : b < wr.heap.size := by have := b4.size; omega
      have hbl' : b' < wr.heap.size := by have := b4.size; omega
      have k0 : ∀ d : Grown wr.heap.size wr, d.w.cell? ⟨w.heap.size, 0, none⟩ = some (.int .i64 s) := fun d => d.cell hgl p0
      have k1 : ∀ d : Grown wr.heap.size wr, d.w.cell? ⟨w.heap.size, 1, none⟩ = some (.slice (some ⟨b', off', none⟩) n0 c0) := fun d => d.cell hgl p1
      have k2 : ∀ d : Grown wr.heap.size wr, d.w.cell? ⟨b, off + j * 2, none⟩ = some (.int .i64 m0) := fun d => d.cell hbl ((b4.cell (p := ⟨b, off + j * 2, none⟩) (by simp; omega)).trans c0')
      have k3 : ∀ d : Grown wr.heap.size wr, d.w.cell? ⟨b, off + j * 2 + 1, none⟩ = some (.int .i64 m1) := fun d => d.cell hbl ((b4.cell (p := ⟨b, off + j * 2 + 1, none⟩) (by simp; omega)).trans c1')
      have D0 : ∀ d : Grown wr.heap.size wr, d.w.cell? ⟨b', off' + i * 5, none⟩ = some (.int .i64 y0) := fun d => d.cell hbl' ((b4.cell (p := ⟨b', off' + i * 5, none⟩) (by simp; omega)).trans d0)
      have D1 : ∀ d : Grown wr.heap.size wr, d.w.cell? ⟨b', off' + i * 5 + 1, none⟩ = some (.int .i64 y1) := fun d => d.cell hbl' ((b4.cell (p := ⟨b', off' + i * 5 + 1, none⟩) (by simp; omega)).trans d1)
      have D2 : ∀ d : Grown wr.heap.size wr, d.w.cell? ⟨b', off' + i * 5 + 2, none⟩ = some (.int .i64 y2) := fun d => d.cell hbl' ((b4.cell (p := ⟨b', off' + i * 5 + 2, none⟩) (by simp; omega)).trans d2)
      have D3 : ∀ d : Grown wr.heap.size wr, d.w.cell? ⟨b', off' + i * 5 + 3, none⟩ = some (.int .i64 y3) := fun d => d.cell hbl' ((b4.cell (p := ⟨b', off' + i * 5 + 3, none⟩) (by simp; omega)).trans d3)
      have D4 : ∀ d : Grown wr.heap.size wr, d.w.cell? ⟨b', off' + i * 5 + 4, none⟩ = some (.int .i64 y4) := fun d => d.cell hbl' ((b4.cell (p := ⟨b', off' + i * 5 + 4, none⟩) (by simp; omega)).trans d4)
      have A2 : Hid (∀ d : Grown wr.heap.size wr, Calls Try.prog 62 #[.agg #[.int .i64 s, .slice (some ⟨b', off', none⟩) n0 c0], .int .i64 m0, .int .i64 m1] d.w fun e w' => e = .returned (.int .i64 (i : Int)) ∧ Below d.w.heap.size d.w w') := fun d => unhide AT1 d.w (b4.trans (d.below.mono b4.size))
      have wn : IntKind.i64.wrap (N + sc) = N + sc := wrap_in _ (by omega)
      have HWS : Hid (N + sc = wsum (addS t ⟨y0, y1, y2, y3, y4⟩)) := hws0.symm
      have HB := hide hb
      clear hr HR hsn p0 p1 c0' c1' d0 d1 d2 d3 d4 hb HNE AT1 hws0
      go_upto_region 5 with fail
      refine wp_region_grown wr.heap.size (by kernel_rfl) (by kernel_rfl) ?_
      repeat (go_big_quiet_step (first
        | (go_at_call 62; exact Calls.grown (Nat.le_refl _) (unhide A2 _))
        | (go_at_call 51; exact Calls.grown (Nat.le_refl _) (unhide SC _))))
      refine wpQuiet_nil ?_
      rintro w5 ⟨d5, rfl⟩
      clear k0 k1 k2 k3 D0 D1 D2 D3 D4
      go_wp2_with fail
      exact ⟨⟨j + 1, _, _, by go_num, rfl, unhide HWS, by omega, unhide HRN, unhide HSN, (unhide HB).trans (d5.below.mono (unhide HB).size)⟩, by simp [intOf]; omega⟩
    · obtain rfl : j = n := by omega
      have hT := (unhide HR).trans (unhide HEND t)
      subst hT
      have hN := unhide HNE
      subst hN
      go_wp2_with fail
      go_ret
      exact ⟨rfl, b4⟩
end Gr
end Go.Proofs.Ytdaihbgabamaiaa
