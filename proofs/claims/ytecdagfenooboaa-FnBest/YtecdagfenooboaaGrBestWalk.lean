/-
  The walk of FnBest, over the contracts of what it calls.
-/
import Derived.Test.YtecdagfenooboaaGrBest2
import Derived.Test.YtecdagfenooboaaGrBestMath
import Derived.Test.YtecdagfenooboaaGrWorth
import Derived.Test.YtecdagfenooboaaGrPlaces
namespace Go.Proofs.Ytecdagfenooboaa
namespace Gr
open Go.RowKit

theorem sums_bounds {s : Int} {Q : List EdgeI} (hg : graphOk s Q = true) : ∀ (M : List CoupleI) (t : SumsI) (n : Int), SB t n → (∀ x ∈ M, 0 ≤ atFrom x.A x.B 0 Q) → SB (sumsFrom Q t M) (n + (M.length : Int))
  | [], t, n, h, _ => by
    show SB t (n + ((0 : Nat) : Int))
    exact h.mono (by omega)
  | x :: r, t, n, h, hx => by
    have h1 := sums_bounds hg r _ _ (h.add (edgeN_ok hg (hx x List.mem_cons_self))) (fun y hy => hx y (List.mem_cons_of_mem _ hy))
    have e : (((x :: r).length : Nat) : Int) = (r.length : Int) + 1 := by simp
    rw [e]
    exact h1.mono (by omega)

theorem fnBest_big (a : Option Addr) (len cap : Nat) (hl : ¬ len ≤ 1048576) (w : World) :
    Calls Try.prog 8 #[.slice a len cap] w fun e w' => e = .returned (.bool true) ∧ Below w.heap.size w w' := by
  have H := hide (big_is a len cap w)
  have e : decide ((1048576 : Int) < (len : Int)) = true := by simp; omega
  rw [e] at H
  clear e
  go_enter Try.func8, Try.ntmps8
  go_wp2_with fail
  refine (unhide H).mono ?_
  rintro e w1 ⟨rfl, rfl⟩
  go_wp2
  go_ret
  exact ⟨rfl, Below.refl _ _⟩

set_option maxRecDepth 100000 in
set_option maxHeartbeats 2000000 in
theorem fnBest_of
    (SO : ∀ (B : Nat) (v : Value) (s : Int) (Q : List EdgeI) (u : Value) (M : List CoupleI), Q.length ≤ 1048576 → M.length ≤ 1048576 → ∀ (w : World), B ≤ w.heap.size → GrAt w v B s Q → CoAt w u B M → Calls Try.prog 18 #[v, u] w fun e w' => (∃ d, e = .returned (.tuple #[d, .bool (matchOk s Q M)]) ∧ SuOwn w' w.heap.size d (sumsR s Q M)) ∧ Below w.heap.size w w')
    (MK : ∀ (B : Nat) (v : Value) (s : Int) (Q : List EdgeI) (u : Value) (M : List CoupleI), Q.length ≤ 1048576 → M.length ≤ 1048576 → ∀ (w : World), B ≤ w.heap.size → GrAt w v B s Q → CoAt w u B M → Calls Try.prog 14 #[v, u] w fun e w' => e = .returned (.bool (matchOk s Q M)) ∧ Below w.heap.size w w')
    (BS : ∀ (B : Nat) (v : Value) (s : Int) (Q : List EdgeI), Q.length ≤ 1048576 → ∀ (w : World), B ≤ w.heap.size → GrAt w v B s Q → Calls Try.prog 24 #[v] w fun e w' => (∃ d, e = .returned (.tuple #[d, .bool (graphOk s Q)]) ∧ SuOwn w' w.heap.size d (bestR s Q)) ∧ Below w.heap.size w w')
    (CM : ∀ (B : Nat) (v : Value) (s : Int) (Q : List EdgeI), Q.length ≤ 1048576 → ∀ (w : World), B ≤ w.heap.size → GrAt w v B s Q → Calls Try.prog 26 #[v] w fun e w' => e = .returned (.int .i64 (countR s Q)) ∧ Below w.heap.size w w')
    (BT : ∀ (a b : SumsI) (w : World), Calls Try.prog 22 #[a.v, b.v] w fun e w' => e = .returned (.bool (better a b)) ∧ Below w.heap.size w w')
    (a : Option Addr) (len cap : Nat) (hl : len ≤ 1048576) (w : World)
    (DR : Calls Try.prog 28 #[.slice a len cap] w fun e w' => (∃ d u s Q M, e = .returned (.tuple #[d, u]) ∧ GrOwn w' w.heap.size d s Q ∧ CoOwn w' w.heap.size u M ∧ matchOk s Q M = true ∧ Q.length ≤ 90) ∧ Below w.heap.size w w') :
    Calls Try.prog 8 #[.slice a len cap] w fun e w' => e = .returned (.bool true) ∧ Below w.heap.size w w' := by
  have H := hide (big_is a len cap w)
  have e : decide ((1048576 : Int) < (len : Int)) = false := by simp; omega
  rw [e] at H
  have HDR := hide DR
  have HSO := hide SO
  have HMK := hide MK
  have HBS := hide BS
  have HCM := hide CM
  have HBT := hide BT
  clear e DR SO MK BS CM BT
  go_enter Try.func8, Try.ntmps8
  go_wp2_with fail
  go_fit (unhide H)
  rintro e w1 ⟨rfl, hw1⟩
  have hw1' := hw1.symm
  subst hw1'
  clear hw1
  go_wp2_with fail
  go_fit (unhide HDR)
  rintro e w2 ⟨⟨d, u, s, Q, M, rfl, ho2, hm2, hok, hQ9⟩, hb2⟩
  obtain ⟨v1, rfl, hr2⟩ := ho2
  obtain ⟨P, C, rfl, _⟩ := edgesAt.of_own hr2
  obtain ⟨Pm, Cm, rfl, _⟩ := couplesAt.of_own hm2
  have hsnd := match_sound hok
  have hbest := best_of_all hok
  have hgr := graph_sound hsnd.1
  have hM9 := hsnd.2.1
  have eS : sumsR s Q M = sums Q M := by unfold sumsR; rw [if_pos hok]
  have eB : bestR s Q = (best Q s s.toNat []).1 := by unfold bestR; rw [if_pos hsnd.1]
  have eC : countR s Q = (best Q s s.toNat []).2 := by unfold countR; rw [if_pos hsnd.1]
  rw [← eB, ← eC, ← eS] at hbest
  obtain ⟨hbt, hcn⟩ := hbest
  have hbo := better_other hbt
  have HWO := hide (fun B w1 hB hv hu => worthM_any B (.agg #[.int .i64 s, .slice P Q.length C]) s Q (.slice Pm M.length Cm) M hok (by omega) w1 hB hv hu)
  rw [← eS] at HWO
  have hgo : graphOk s Q = true := hsnd.1
  have hgA : GrAt w2 (.agg #[.int .i64 s, .slice P Q.length C]) w2.heap.size s Q := GrOwn.at (B := w.heap.size) ⟨_, rfl, hr2⟩
  have hcA : CoAt w2 (.slice Pm M.length Cm) w2.heap.size M := CoOwn.at (B := w.heap.size) hm2
  have GA := hide (fun W (hb : Below w2.heap.size w2 W) => And.intro (hgA.below hb (Nat.le_refl _)) (hcA.below hb (Nat.le_refl _)))
  have SOx := hide (fun W (hb : Below w2.heap.size w2 W) => unhide HSO w2.heap.size _ s Q _ M (by omega) (by omega) W hb.size (unhide GA W hb).1 (unhide GA W hb).2)
  have MKx := hide (fun W (hb : Below w2.heap.size w2 W) => unhide HMK w2.heap.size _ s Q _ M (by omega) (by omega) W hb.size (unhide GA W hb).1 (unhide GA W hb).2)
  have BSx := hide (fun W (hb : Below w2.heap.size w2 W) => unhide HBS w2.heap.size _ s Q (by omega) W hb.size (unhide GA W hb).1)
  have SBx := hide (fun W (hb : Below w2.heap.size w2 W) => specBestSums_gen w2.heap.size _ s Q (by omega) W hb.size (unhide GA W hb).1)
  have CMx := hide (fun W (hb : Below w2.heap.size w2 W) => unhide HCM w2.heap.size _ s Q (by omega) W hb.size (unhide GA W hb).1)
  have SCx := hide (fun W (hb : Below w2.heap.size w2 W) => specCount_gen w2.heap.size _ s Q (by omega) W hb.size (unhide GA W hb).1)
  have WOx := hide (fun W (hb : Below w2.heap.size w2 W) => unhide HWO w2.heap.size W hb.size (unhide GA W hb).1 (unhide GA W hb).2)
  have hsb : SB (bestR s Q) 9 ∧ SB (sumsR s Q M) 9 := by
    refine ⟨?_, ?_⟩
    · rw [eB]
      exact (best_bounds hsnd.1 s.toNat [] (by omega)).1.mono (by omega)
    · rw [eS]
      exact (sums_bounds hsnd.1 M ⟨0, 0, 0⟩ 0 (SB.zero _ (by omega)) (mFrom_at Q M none [] hsnd.2.2)).mono (by omega)
  have BT1 := hide (unhide HBT (sumsR s Q M) (bestR s Q))
  have BT2 := hide (unhide HBT (bestR s Q) (sumsR s Q M))
  rw [hok] at SOx MKx
  rw [hgo] at BSx SBx
  rw [hbt] at BT1
  rw [hbo] at BT2
  generalize sumsR s Q M = X at SOx WOx BT1 BT2 hsb
  generalize bestR s Q = Y at BSx SBx BT1 BT2 hsb
  generalize countR s Q = N at CMx SCx hcn
  generalize hql : Q.length = ql at SOx MKx BSx SBx CMx SCx WOx ⊢
  generalize hml : M.length = ml at SOx MKx WOx hcn ⊢
  clear HSO HMK HBS HCM HBT HWO GA hgA hcA hr2 hm2 hgr hsnd eS eB eC hbt hbo hok hgo H HDR hQ9 hM9
  unfold SumsI.v at BT1 BT2
  obtain ⟨X1, X2, X3⟩ := X
  obtain ⟨Y1, Y2, Y3⟩ := Y
  simp only at BT1 BT2 hsb
  unfold SB at hsb
  simp only at hsb
  unfold wsum at WOx
  simp only at WOx
  obtain ⟨V3, hV3⟩ : ∃ W, W = w2.alloc (Obj.cells #[Value.int .i64 s, Value.slice P ql C] 31) := ⟨_, rfl⟩
  have b3 : Below w2.heap.size w2 V3 := by rw [hV3]; exact below_new _ _
  have u3 : GBox V3 w2.heap.size s (.slice P ql C) := by rw [hV3]; exact GBox.new _ _ _
  go_wp2_with fail
  rw [← hV3]
  clear hV3
  go_fit (unhide SOx V3 b3)
  rintro e w4 ⟨⟨d, rfl, hd⟩, hb4⟩
  unfold SuOwn SumsI.v at hd
  simp only at hd
  subst hd
  have b4 := b3.trans (hb4.mono b3.size)
  have u4 := u3.below hb4
  obtain ⟨p0, p1⟩ := u4.cells
  have hu4 := u4.lt
  clear hb4 u3 SOx
  obtain ⟨V5, hV5⟩ : ∃ W, W = w4.alloc (Obj.cells #[Value.int .i64 X1, Value.int .i64 X2, Value.int .i64 X3] 39) := ⟨_, rfl⟩
  have b5 : Below w2.heap.size w2 V5 := by rw [hV5]; exact b4.alloc b4.size _
  have u5 : GBox V5 w2.heap.size s (.slice P ql C) := by rw [hV5]; exact u4.below (below_new _ _)
  have s5 : SBox V5 w4.heap.size ⟨X1, X2, X3⟩ := by rw [hV5]; exact SBox.new _ ⟨X1, X2, X3⟩
  go_wp2_with fail
  rw [← hV5]
  clear hV5
  go_fit (unhide BSx V5 b5)
  rintro e w6 ⟨⟨d, rfl, hd⟩, hb6⟩
  unfold SuOwn SumsI.v at hd
  simp only at hd
  subst hd
  have b6 := b5.trans (hb6.mono b5.size)
  have u6 := u5.below hb6
  have s6 := s5.below hb6
  obtain ⟨q0, q1⟩ := u6.cells
  clear hb6 u5 s5 BSx p0 p1 u4
  obtain ⟨V7, hV7⟩ : ∃ W, W = w6.alloc (Obj.cells #[Value.int .i64 Y1, Value.int .i64 Y2, Value.int .i64 Y3] 39) := ⟨_, rfl⟩
  have b7 : Below w2.heap.size w2 V7 := by rw [hV7]; exact b6.alloc b6.size _
  have u7 : GBox V7 w2.heap.size s (.slice P ql C) := by rw [hV7]; exact u6.below (below_new _ _)
  have s7 : SBox V7 w4.heap.size ⟨X1, X2, X3⟩ := by rw [hV7]; exact s6.below (below_new _ _)
  have t7 : SBox V7 w6.heap.size ⟨Y1, Y2, Y3⟩ := by rw [hV7]; exact SBox.new _ ⟨Y1, Y2, Y3⟩
  have hu6 := u6.lt
  go_wp2_with fail
  rw [← hV7]
  clear hV7
  go_fit (unhide SBx V7 b7)
  rintro e w8 ⟨⟨d, rfl, hd⟩, hb8⟩
  unfold SuOwn SumsI.v at hd
  simp only at hd
  subst hd
  have b8 := b7.trans (hb8.mono b7.size)
  have u8 := u7.below hb8
  have s8 := s7.below hb8
  have t8 := t7.below hb8
  clear hb8 u7 s7 t7 SBx q0 q1 u6 s6
  obtain ⟨V9, hV9⟩ : ∃ W, W = w8.alloc (Obj.cells #[Value.int .i64 Y1, Value.int .i64 Y2, Value.int .i64 Y3] 39) := ⟨_, rfl⟩
  have b9 : Below w2.heap.size w2 V9 := by rw [hV9]; exact b8.alloc b8.size _
  have u9 : GBox V9 w2.heap.size s (.slice P ql C) := by rw [hV9]; exact u8.below (below_new _ _)
  have s9 : SBox V9 w4.heap.size ⟨X1, X2, X3⟩ := by rw [hV9]; exact s8.below (below_new _ _)
  have t9 : SBox V9 w6.heap.size ⟨Y1, Y2, Y3⟩ := by rw [hV9]; exact t8.below (below_new _ _)
  obtain ⟨r0, r1⟩ := u8.cells
  obtain ⟨x0, x1, x2⟩ := s8.cells
  obtain ⟨y0, y1, y2⟩ := t8.cells
  simp only at x0 x1 x2 y0 y1 y2
  have hu8 := u8.lt
  have hs8 := s8.lt
  have ht8 := t8.lt
  go_wp2_with fail
  rw [← hV9]
  clear hV9
  go_fit (unhide BT1 V9)
  rintro e w10 ⟨rfl, hb10⟩
  have b10 := b9.trans (hb10.mono b9.size)
  have u10 := u9.below hb10
  have s10 := s9.below hb10
  have t10 := t9.below hb10
  clear hb10 u9 s9 t9 r0 r1 x0 x1 x2 y0 y1 y2 u8 s8 t8 BT1
  obtain ⟨r0, r1⟩ := u10.cells
  go_wp2_with fail
  go_fit (unhide MKx w10 b10)
  rintro e w11 ⟨rfl, hb11⟩
  have b11 := b10.trans (hb11.mono b10.size)
  have u11 := u10.below hb11
  have s11 := s10.below hb11
  have t11 := t10.below hb11
  clear hb11 u10 s10 t10 r0 r1 MKx
  obtain ⟨r0, r1⟩ := u11.cells
  obtain ⟨x0, x1, x2⟩ := s11.cells
  obtain ⟨y0, y1, y2⟩ := t11.cells
  simp only at x0 x1 x2 y0 y1 y2
  have hu := u11.lt
  have hs := s11.lt
  have ht := t11.lt
  have HG : Hid (∀ d : Grown w11.heap.size w11, Below w2.heap.size w2 d.w) := fun d => b11.trans (d.below.mono b11.size)
  have k0 : ∀ d : Grown w11.heap.size w11, d.w.cell? ⟨w2.heap.size, 0, none⟩ = some (.int .i64 s) := fun d => d.cell hu r0
  have k1 : ∀ d : Grown w11.heap.size w11, d.w.cell? ⟨w2.heap.size, 1, none⟩ = some (.slice P ql C) := fun d => d.cell hu r1
  have k2 : ∀ d : Grown w11.heap.size w11, d.w.cell? ⟨w4.heap.size, 0, none⟩ = some (.int .i64 X1) := fun d => d.cell hs x0
  have k3 : ∀ d : Grown w11.heap.size w11, d.w.cell? ⟨w4.heap.size, 1, none⟩ = some (.int .i64 X2) := fun d => d.cell hs x1
  have k4 : ∀ d : Grown w11.heap.size w11, d.w.cell? ⟨w4.heap.size, 2, none⟩ = some (.int .i64 X3) := fun d => d.cell hs x2
  have k5 : ∀ d : Grown w11.heap.size w11, d.w.cell? ⟨w6.heap.size, 0, none⟩ = some (.int .i64 Y1) := fun d => d.cell ht y0
  have k6 : ∀ d : Grown w11.heap.size w11, d.w.cell? ⟨w6.heap.size, 1, none⟩ = some (.int .i64 Y2) := fun d => d.cell ht y1
  have k7 : ∀ d : Grown w11.heap.size w11, d.w.cell? ⟨w6.heap.size, 2, none⟩ = some (.int .i64 Y3) := fun d => d.cell ht y2
  have HBW := hide (hb2.trans (b11.mono hb2.size))
  have a1 : IntKind.i64.wrap (90000 * X1) = 90000 * X1 := wrap_in _ (by omega)
  have a2 : IntKind.i64.wrap (300 * X2) = 300 * X2 := wrap_in _ (by omega)
  have a3 : IntKind.i64.wrap (90000 * X1 + 300 * X2) = 90000 * X1 + 300 * X2 := wrap_in _ (by omega)
  have a4 : IntKind.i64.wrap (90000 * X1 + 300 * X2 + X3) = 90000 * X1 + 300 * X2 + X3 := wrap_in _ (by omega)
  clear r0 r1 x0 x1 x2 y0 y1 y2 u11 s11 t11 hb2 b9 b8 b7 b6 b5 b4 b3 hsb
  go_upto_region 9 with fail
  have hn1 : ¬ N ≤ (ml : Int) := by omega
  simp only [SumsI.mk.injEq] at BT2
  by_cases e1 : Y1 = X1
  · subst e1
    by_cases e2 : Y2 = X2
    · subst e2
      by_cases e3 : Y3 = X3
      · subst e3
        have eD : decide (Y1 = Y1 ∧ Y2 = Y2 ∧ Y3 = Y3) = true := by simp
        rw [eD] at BT2
        refine wp_region_grown w11.heap.size (by kernel_rfl) (by kernel_rfl) ?_
        repeat (go_big_quiet_step (first | (go_at_call 29; exact Calls.grown (Nat.le_refl _) (unhide WOx _ (unhide HG _))) | (go_at_call 22; exact Calls.grown (Nat.le_refl _) (unhide BT2 _)) | (go_at_call 26; exact Calls.grown (Nat.le_refl _) (unhide CMx _ (unhide HG _))) | (go_at_call 25; exact Calls.grown (Nat.le_refl _) (unhide SCx _ (unhide HG _)))))
        refine wpQuiet_nil ?_
        rintro w12 ⟨d, rfl⟩
        go_wp2
        go_ret
        exact ⟨rfl, (unhide HBW).trans (d.below.mono (unhide HBW).size)⟩
      · have q3 : (Y3 == X3) = false := by simpa using e3
        have eD : decide (Y1 = Y1 ∧ Y2 = Y2 ∧ Y3 = X3) = false := by simp [e3]
        rw [eD] at BT2
        refine wp_region_grown w11.heap.size (by kernel_rfl) (by kernel_rfl) ?_
        repeat (go_big_quiet_step (first | (go_at_call 29; exact Calls.grown (Nat.le_refl _) (unhide WOx _ (unhide HG _))) | (go_at_call 22; exact Calls.grown (Nat.le_refl _) (unhide BT2 _)) | (go_at_call 26; exact Calls.grown (Nat.le_refl _) (unhide CMx _ (unhide HG _))) | (go_at_call 25; exact Calls.grown (Nat.le_refl _) (unhide SCx _ (unhide HG _)))))
        refine wpQuiet_nil ?_
        rintro w12 ⟨d, rfl⟩
        go_wp2
        go_ret
        exact ⟨rfl, (unhide HBW).trans (d.below.mono (unhide HBW).size)⟩
    · have q2 : (Y2 == X2) = false := by simpa using e2
      have eD : decide (Y1 = Y1 ∧ Y2 = X2 ∧ Y3 = X3) = false := by simp [e2]
      rw [eD] at BT2
      refine wp_region_grown w11.heap.size (by kernel_rfl) (by kernel_rfl) ?_
      repeat (go_big_quiet_step (first | (go_at_call 29; exact Calls.grown (Nat.le_refl _) (unhide WOx _ (unhide HG _))) | (go_at_call 22; exact Calls.grown (Nat.le_refl _) (unhide BT2 _)) | (go_at_call 26; exact Calls.grown (Nat.le_refl _) (unhide CMx _ (unhide HG _))) | (go_at_call 25; exact Calls.grown (Nat.le_refl _) (unhide SCx _ (unhide HG _)))))
      refine wpQuiet_nil ?_
      rintro w12 ⟨d, rfl⟩
      go_wp2
      go_ret
      exact ⟨rfl, (unhide HBW).trans (d.below.mono (unhide HBW).size)⟩
  · have q1 : (Y1 == X1) = false := by simpa using e1
    have eD : decide (Y1 = X1 ∧ Y2 = X2 ∧ Y3 = X3) = false := by simp [e1]
    rw [eD] at BT2
    refine wp_region_grown w11.heap.size (by kernel_rfl) (by kernel_rfl) ?_
    repeat (go_big_quiet_step (first | (go_at_call 29; exact Calls.grown (Nat.le_refl _) (unhide WOx _ (unhide HG _))) | (go_at_call 22; exact Calls.grown (Nat.le_refl _) (unhide BT2 _)) | (go_at_call 26; exact Calls.grown (Nat.le_refl _) (unhide CMx _ (unhide HG _))) | (go_at_call 25; exact Calls.grown (Nat.le_refl _) (unhide SCx _ (unhide HG _)))))
    refine wpQuiet_nil ?_
    rintro w12 ⟨d, rfl⟩
    go_wp2
    go_ret
    exact ⟨rfl, (unhide HBW).trans (d.below.mono (unhide HBW).size)⟩

end Gr
end Go.Proofs.Ytecdagfenooboaa
