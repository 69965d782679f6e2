/-
 GrDrawM.
-/
import Derived.Test.YtkjclkelnheheaaJ15
import Derived.Test.YtkjclkelnheheaaJ10
import Derived.Test.YtkjclkelnheheaaJ2
import Derived.Test.YtkjclkelnheheaaJ7
import Derived.Deep.DeepCutAuto
namespace Go.Proofs.Ytkjclkelnheheaa
namespace Gr
open Go.RowKit
theorem enterOnce (vs : Array Value) (w : World) : (callFunc 20 vs).run Try.prog w = .ok (.enter 20 vs) w := by kernel_rfl
def MW (a : Option Addr) (len cap g B : Nat) (w V3 : World) (j : Nat) (v5 v6 : Value) (wr : World) : Prop :=
  CC a len cap g B wr ∧ Kept (fun k => k = g ∨ w.heap.size + 1 ≤ k) V3 wr ∧ ∃ (M : List CoupleI) (U : List Int), M.length ≤ j ∧ U.length ≤ 2 * j ∧ wr.ownsRow (w.heap.size + 1) 85 2 v5 M.length (couplesV M) ∧ wr.ownsRow (w.heap.size + 1) 3 1 v6 U.length (intsV U)
theorem kept_mix {w V wr : World} {g : Nat} (hb : Below w.heap.size w V) (hk : Kept (fun k => k = g ∨ w.heap.size + 1 ≤ k) V wr) : Kept (fun k => k = g) w wr :=
  ⟨hk.1.trans hb.os, hk.2.1.trans hb.tape, hk.2.2.1.trans hb.output, Nat.le_trans hb.size hk.2.2.2.1, fun i hi hn => (hk.2.2.2.2 i (Nat.lt_of_lt_of_le hi hb.size) (fun h => by rcases h with h | h; exact hn h; omega)).trans (hb.block i hi)⟩
set_option maxRecDepth 100000 in
set_option maxHeartbeats 2000000 in
theorem l09Match_any (a : Option Addr) (len cap g B : Nat) (hl : len ≤ 1048576) (hB : B ≤ g) (v : Value) (N : Nat) (s : Int) (Q : List EdgeI) (hQ : Q.length ≤ 90) (w : World) (hcc : CC a len cap g B w) (hgN : g < N) (hv : GrOwn w N v s Q) :
    Calls Try.prog 34 #[.pointer (some ⟨g, 0, none⟩), v] w fun e w' => (∃ u M, e = .returned u ∧ M.length ≤ 91 ∧ CoOwn w' w.heap.size u M) ∧ CC a len cap g B w' ∧ Kept (fun k => k = g) w w' := by
  have BE := hide (fun n (h0 : 0 < n) w1 (h : CC a len cap g B w1) => below_cc a len cap g B n hl hB h0 w1 h)
  have ON := hide (fun n (h0 : 0 < n) w1 (h : CC a len cap g B w1) => once_cc a len cap g B n hl hB h0 w1 h)
  obtain ⟨i0, hi, hz0, hz1, hz2⟩ := info_parts info3
  obtain ⟨i2, hi2, hy0, hy1, hy2⟩ := info_parts infoCouple
  obtain ⟨v1, rfl, hr⟩ := hv
  obtain ⟨P, C, rfl, hE⟩ := edgesAt.of_own hr
  have hbk : ∀ k, (Value.slice P Q.length C).ownBlock = some k → N ≤ k ∧ k < w.heap.size := hr.lt
  have HRW := hide hr
  have hgl := hcc.lt
  clear hE hr
  go_enter Try.func34, Try.ntmps34
  go_wp2_with fail
  obtain ⟨V1, hV1⟩ : ∃ W, W = w.alloc (Obj.cells #[Value.int .i64 s, Value.slice P Q.length C] 26) := ⟨_, rfl⟩
  obtain ⟨V2, hV2⟩ : ∃ W, W = V1.alloc (Obj.cells #[] 85) := ⟨_, rfl⟩
  obtain ⟨V3, hV3⟩ : ∃ W, W = V2.alloc (Obj.cells #[] 3) := ⟨_, rfl⟩
  rw [← hV1, ← hV2, ← hV3]
  have z1 : V1.heap.size = w.heap.size + 1 := by rw [hV1]; simp
  have z2 : V2.heap.size = w.heap.size + 1 + 1 := by rw [hV2]; simp [z1]
  have z3 : V3.heap.size = w.heap.size + 1 + 1 + 1 := by rw [hV3]; simp [z2]
  have b1 : Below w.heap.size w V1 := by rw [hV1]; exact below_new _ _
  have b2 : Below w.heap.size w V2 := by rw [hV2]; exact b1.alloc b1.size _
  have b3 : Below w.heap.size w V3 := by rw [hV3]; exact b2.alloc b2.size _
  have x1 : GBox V1 w.heap.size s (.slice P Q.length C) := by rw [hV1]; exact GBox.new _ _ _
  have x2 : GBox V2 w.heap.size s (.slice P Q.length C) := by rw [hV2]; exact x1.below (below_new _ _)
  have x3 : GBox V3 w.heap.size s (.slice P Q.length C) := by rw [hV3]; exact x2.below (below_new _ _)
  have o5 : V2.ownsRow (w.heap.size + 1) 85 2 (.slice (some ⟨w.heap.size + 1, 0, none⟩) 0 0) 0 (couplesV []) := by
    rw [hV2, ← z1]
    exact World.ownsRow_made V1 #[] 0 (by omega) (Nat.zero_le _) rfl
  have o5' : V3.ownsRow (w.heap.size + 1) 85 2 (.slice (some ⟨w.heap.size + 1, 0, none⟩) 0 0) 0 (couplesV []) := by rw [hV3]; exact o5.alloc _
  have o6 : V3.ownsRow (w.heap.size + 1) 3 1 (.slice (some ⟨w.heap.size + 1 + 1, 0, none⟩) 0 0) 0 (intsV []) := by
    rw [hV3, ← z2]
    exact World.ownsRow_made V2 #[] 0 (by omega) (Nat.zero_le _) rfl
  have cc3 : CC a len cap g B V3 := hcc.below b3 hB
  have HX3 := hide x3
  have r3 := own_below (unhide HRW) b3
  have HR3 := hide r3
  have HMW : Hid (MW a len cap g B w V3 0 (.slice (some ⟨w.heap.size + 1, 0, none⟩) 0 0) (.slice (some ⟨w.heap.size + 1 + 1, 0, none⟩) 0 0) V3) := ⟨cc3, Kept.refl _ _, [], [], Nat.le_refl _, Nat.le_refl _, o5', o6⟩
  clear hV1 hV2 hV3 z1 z2 b1 b2 x1 x2 o5 o5' o6 x3 r3 cc3 hcc
  go_loopw [5, 6, 7] (fun v5 v6 i wr => ∃ (j : Nat), i = .int .i64 (j : Int) ∧ j ≤ Q.length ∧ MW a len cap g B w V3 j v5 v6 wr) (fun _ _ i _ => Q.length - (intOf i).toNat)
  case atStart => exact ⟨0, rfl, Nat.zero_le _, unhide HMW⟩
  case round =>
    obtain ⟨j, rfl, hj, hcc, hk, M, U, hM, hU, o5, o6⟩ := hrel
    have x4 := (unhide HX3).kept hk (by omega)
    have hz4 := hk.2.2.2.1
    have hrw := hk.own (unhide HR3) (fun k hk' e => by have := hbk k hk'; omega)
    obtain ⟨_, _, e', hE⟩ := edgesAt.of_own hrw
    simp at e'
    obtain ⟨rfl, rfl⟩ := e'
    obtain ⟨p0, p1⟩ := x4.cells
    have hx4 := x4.lt
    by_cases hlt : j < Q.length
    · obtain ⟨b, off, rfl, hbB, c0, c1, c2, c3, c4⟩ := hE.2 j hlt
      obtain ⟨A5, C5, rfl⟩ := own_slice o5
      obtain ⟨A6, C6, rfl⟩ := own_slice o6
      obtain ⟨_, _, e5, hI6⟩ := intsAt_of_own o6
      simp at e5
      obtain ⟨rfl, rfl⟩ := e5
      obtain ⟨_, _, e5, hI5⟩ := couplesAt.of_own o5
      simp at e5
      obtain ⟨rfl, rfl⟩ := e5
      have hx0 : (0 : Int) ≤ (j : Int) := by omega
      have hx1 : (j : Int) < (Q.length : Int) := by omega
      generalize Q[j] = q at c0 c1 c2 c3 c4
      obtain ⟨y0, y1, y2, y3, y4⟩ := q
      simp only at c0 c1 c2 c3 c4
      go_upto_region 7 with fail
      obtain ⟨V4, hV4⟩ : ∃ W, W = wr.alloc (Obj.cells #[Value.int .i64 y0, Value.int .i64 y1, Value.int .i64 y2, Value.int .i64 y3, Value.int .i64 y4] 68) := ⟨_, rfl⟩
      rw [← hV4]
      have hb4 : Below wr.heap.size wr V4 := by rw [hV4]; exact below_new _ _
      have hz5 : V4.heap.size = wr.heap.size + 1 := by rw [hV4]; simp
      have eb : Blk V4 wr.heap.size #[Value.int .i64 y0, Value.int .i64 y1, Value.int .i64 y2, Value.int .i64 y3, Value.int .i64 y4] 68 := by rw [hV4]; exact Blk.new0
      have cc4 := hcc.below hb4 hB
      have CCD : CC a len cap g B V4.drew := cc4
      have ONx := hide (unhide ON 3 (by omega) V4.drew CCD)
      clear hV4
      have HO5 := hide (own_below o5 hb4)
      have HO6 := hide (own_below o6 hb4)
      have HB5 : Hid (∀ k, (Value.slice A5 M.length C5).ownBlock = some k → w.heap.size + 1 ≤ k ∧ k < wr.heap.size) := o5.lt
      have HB6 : Hid (∀ k, (Value.slice A6 U.length C6).ownBlock = some k → w.heap.size + 1 ≤ k ∧ k < wr.heap.size) := o6.lt
      have HX4 := hide (x4.below hb4)
      have HK4 := hide (hk.trans (Kept.of_below (S := fun k => k = g ∨ w.heap.size + 1 ≤ k) hb4))
      clear o5 o6 hI5 hI6 x4 hE hrw p0 p1 c0 c1 c2 c3 c4 hcc cc4 CCD hk
      go_cut [55] (fun c wx => (∃ r, c = .bool r) ∧ CC a len cap g B wx ∧ Kept (fun k => k = g) V4 wx)
      case first =>
        refine wp_region_any (by kernel_rfl) ?_
        refine wpAny_ready (rs := [0]) (fuel := 32) (by kernel_rfl) (by simp) ?_
        refine AllReady.cons (i := 0) rfl (fun K hK => ?_) AllReady.nil
        go_simp
        refine hK _ _ ?_
        clear hK K
        refine wpAny_ready (rs := [1]) (fuel := 31) (by kernel_rfl) (by simp) ?_
        refine AllReady.cons (i := 1) rfl (fun K hK => ?_) AllReady.nil
        refine step_call (by rfl) 20 _ _ (by rfl) #[.pointer (some ⟨g, 0, none⟩), .int .i64 3] (by first | rfl | (simp [Act.eval]; done)) enterOnce _ (unhide ONx) ?_
        rintro e w5 ⟨⟨kb, rfl⟩, cc5, hk5⟩
        refine ⟨_, rfl, ?_⟩
        refine hK _ _ ?_
        clear hK K
        (try simp only [Act.put, List.setIfInBounds_toArray])
        refine wpAny_ready (rs := [2]) (fuel := 30) (by kernel_rfl) (by simp) ?_
        refine AllReady.cons (i := 2) rfl (fun K hK => ?_) AllReady.nil
        go_simp
        refine hK _ _ ?_
        clear hK K
        have hk5' : Kept (fun k => k = g) V4 w5 := (Kept.refl _ V4).drew.trans hk5
        have hz6 := hk5'.2.2.2.1
        have e5 : Blk w5 wr.heap.size #[Value.int .i64 y0, Value.int .i64 y1, Value.int .i64 y2, Value.int .i64 y3, Value.int .i64 y4] 68 := (hk5'.2.2.2.2 wr.heap.size (by omega) (by omega)).trans eb
        have k0 : ∀ d : Grown w5.heap.size w5, d.w.cell? ⟨wr.heap.size, 0, none⟩ = some (.int .i64 y0) := fun d => d.cell (by omega) (e5.cell 0 _ rfl)
        have k1 : ∀ d : Grown w5.heap.size w5, d.w.cell? ⟨wr.heap.size, 1, none⟩ = some (.int .i64 y1) := fun d => d.cell (by omega) (e5.cell 1 _ rfl)
        have q6 := hk5'.own (unhide HO6) (fun k hk' e => by have := unhide HB6 k hk'; omega)
        have q5 := hk5'.own (unhide HO5) (fun k hk' e => by have := unhide HB5 k hk'; omega)
        have IN := hide (fun x (d : Grown w5.heap.size w5) => l03In_any A6 U.length C6 w5.heap.size U x (by omega) d.w ((by obtain ⟨a', c', e', h'⟩ := intsAt_of_own q6; simp at e'; obtain ⟨rfl, rfl⟩ := e'; exact h' : IntsAt w5 A6 U.length w5.heap.size U).below d.below (Nat.le_refl _)))
        have HC5 : Hid (couplesAt w5 A5 M.length w5.heap.size M) := by obtain ⟨a', c', e', h'⟩ := couplesAt.of_own q5; simp at e'; obtain ⟨rfl, rfl⟩ := e'; exact h'
        have HEN : Hid (∀ d : Grown w5.heap.size w5, CC a len cap g B d.w ∧ Kept (fun k => k = g) V4 d.w) := fun d => ⟨cc5.below d.below hB, hk5'.trans (Kept.of_below d.below)⟩
        have I0 := hide (unhide IN y0)
        have I1 := hide (unhide IN y1)
        generalize inK U y0 = b0 at I0
        generalize inK U y1 = b1 at I1
        clear IN q5 q6 hk5 cc5
        refine wpAny_grown w5.heap.size 3 _ rfl (by kernel_rfl) (by kernel_rfl) (by kernel_rfl) ?_
        (try simp only [List.drop_succ_cons, List.drop_zero])
        cases kb with
        | false =>
          repeat (go_big_quiet_step (first
            | (go_at_call_of 44 (Value.int IntKind.i64 y0); exact Calls.grown_same (unhide I0 _))
            | (go_at_call_of 44 (Value.int IntKind.i64 y1); exact Calls.grown_same (unhide I1 _))))
          refine wpQuiet_nil ?_
          rintro w6 ⟨d6, rfl⟩
          go_wp2_with fail
          go_meet
          case rel => exact ⟨⟨_, rfl⟩, unhide HEN d6⟩
        | true =>
          cases b0 with
          | true =>
            repeat (go_big_quiet_step (first
              | (go_at_call_of 44 (Value.int IntKind.i64 y0); exact Calls.grown_same (unhide I0 _))
              | (go_at_call_of 44 (Value.int IntKind.i64 y1); exact Calls.grown_same (unhide I1 _))))
            refine wpQuiet_nil ?_
            rintro w6 ⟨d6, rfl⟩
            go_wp2_with fail
            go_meet
            case rel => exact ⟨⟨_, rfl⟩, unhide HEN d6⟩
          | false =>
            cases b1 with
            | true =>
              repeat (go_big_quiet_step (first
                | (go_at_call_of 44 (Value.int IntKind.i64 y0); exact Calls.grown_same (unhide I0 _))
                | (go_at_call_of 44 (Value.int IntKind.i64 y1); exact Calls.grown_same (unhide I1 _))))
              refine wpQuiet_nil ?_
              rintro w6 ⟨d6, rfl⟩
              go_wp2_with fail
              go_meet
              case rel => exact ⟨⟨_, rfl⟩, unhide HEN d6⟩
            | false =>
              by_cases hm0 : M.length = 0
              · have hm1 : ((M.length : Int) == 0) = true := by rw [hm0]; rfl
                repeat (go_big_quiet_step (first
                  | (go_at_call_of 44 (Value.int IntKind.i64 y0); exact Calls.grown_same (unhide I0 _))
                  | (go_at_call_of 44 (Value.int IntKind.i64 y1); exact Calls.grown_same (unhide I1 _))))
                refine wpQuiet_nil ?_
                rintro w6 ⟨d6, rfl⟩
                go_wp2_with fail
                go_meet
                case rel => exact ⟨⟨_, rfl⟩, unhide HEN d6⟩
              · obtain ⟨ml, hml⟩ : ∃ ml, M.length = ml + 1 := ⟨M.length - 1, by omega⟩
                obtain ⟨bm, om, em, hbm, cm, _⟩ := (unhide HC5).2 ml (by omega)
                subst em
                generalize M[ml].A = z0 at cm
                have k2 : ∀ d : Grown w5.heap.size w5, d.w.cell? ⟨bm, om + ml * 2, none⟩ = some (.int .i64 z0) := fun d => d.cell hbm cm
                have hm1 : (((ml + 1 : Nat) : Int) == 0) = false := by rw [beq_eq_false_iff_ne]; omega
                have hm2 : (((ml : Int) + 1) == 0) = false := by rw [beq_eq_false_iff_ne]; omega
                have hm3 : (0 : Int) ≤ (ml : Int) := by omega
                have hm4 : IntKind.i64.wrap ((ml : Int) + 1 - 1) = (ml : Int) := by rw [show (ml : Int) + 1 - 1 = (ml : Int) by omega]; exact wrap_in _ (by omega)
                rw [hml]
                repeat (go_big_quiet_step (first
                  | (go_at_call_of 44 (Value.int IntKind.i64 y0); exact Calls.grown_same (unhide I0 _))
                  | (go_at_call_of 44 (Value.int IntKind.i64 y1); exact Calls.grown_same (unhide I1 _))))
                refine wpQuiet_nil ?_
                rintro w6 ⟨d6, rfl⟩
                go_wp2_with fail
                rw [← hml]
                go_meet
                case rel => exact ⟨⟨_, rfl⟩, unhide HEN d6⟩
      case rest =>
        obtain ⟨⟨r, rfl⟩, cc6, hk6⟩ := hcut
        have hz7 := hk6.2.2.2.1
        have x6 := (unhide HX4).kept hk6 (by omega)
        have e6 : Blk wc wr.heap.size #[Value.int .i64 y0, Value.int .i64 y1, Value.int .i64 y2, Value.int .i64 y3, Value.int .i64 y4] 68 := (hk6.2.2.2.2 wr.heap.size (by omega) (by omega)).trans eb
        have k0 := e6.cell 0 _ rfl
        have k1 := e6.cell 1 _ rfl
        have o5 := hk6.own (unhide HO5) (fun k hk' e => by have := unhide HB5 k hk'; omega)
        have o6 := hk6.own (unhide HO6) (fun k hk' e => by have := unhide HB6 k hk'; omega)
        have hkk := (unhide HK4).trans (hk6.weak (T := fun k => k = g ∨ w.heap.size + 1 ≤ k) (fun i hi => .inl hi))
        obtain ⟨p0, p1⟩ := x6.cells
        have hx6l := x6.lt
        cases r with
        | false =>
          have HMW2 : Hid (MW a len cap g B w V3 (j + 1) (.slice A5 M.length C5) (.slice A6 U.length C6) wc) := ⟨cc6, hkk, M, U, by omega, by omega, o5, o6⟩
          clear o5 o6 hkk cc6
          go_wp2
          go_roundw
          case rel => exact ⟨j + 1, by go_num, by omega, unhide HMW2⟩
          case measure => simp [intOf]; omega
        | true =>
          have hne : (85 : TypeId) ≠ 3 := by decide
          have hM90 : M.length ≤ 90 := by omega
          have hU90 : U.length ≤ 180 := by omega
          go_wp2_with (at_builtin; refine wpList_append_own _ rfl _ _ 39 rfl (w.heap.size + 1) 85 i2 (.agg #[.int .i64 0, .int .i64 0]) 2 16 Try.underlying39 hi2 hy0 hy1 hy2 rfl (by decide) _ _ _ rfl (o5.alloc _) ⟨wc.heap.size, 0, none⟩ 1 1 [.int .i64 y0, .int .i64 y1] rfl rfl (World.news_of_block (heap_alloc_new _ _)) (two_int _ _) ?_ ?_ ?_ ?_)
          · unfold maxLen; omega
          · omega
          · first | omega | (simp; omega)
          intro v5 w7 o5' hgr7 _
          have hbl5 : ∀ k, (Value.slice A5 M.length C5).ownBlock = some k → w.heap.size + 1 ≤ k ∧ k < wr.heap.size := unhide HB5
          have kA : Kept (fun k => w.heap.size + 1 ≤ k) wc (wc.alloc (Obj.cells #[Value.int .i64 y0, Value.int .i64 y1] 85)) := Kept.of_below (below_new _ _)
          have kG : Kept (fun k => w.heap.size + 1 ≤ k) wc w7 := kA.trans ((Kept.of_grown hgr7).weak (fun i hi => (hbl5 i hi).1))
          have hz8 := kG.2.2.2.1
          have cc7 := cc6.kept kG hB (fun k hk' => by omega)
          have x7 := x6.kept kG (by omega)
          have e7 : Blk w7 wr.heap.size #[Value.int .i64 y0, Value.int .i64 y1, Value.int .i64 y2, Value.int .i64 y3, Value.int .i64 y4] 68 := Blk.grown (Blk.alloc e6) hgr7 (fun e => by have := hbl5 _ e.symm; omega)
          have o6' := (Kept.of_grown hgr7).own (o6.alloc _) (fun k hk' e => own_apart o5 o6 hne k e hk')
          have m0 := e7.cell 0 _ rfl
          have m1 := e7.cell 1 _ rfl
          have hkk7 := hkk.trans (kG.weak (T := fun k => k = g ∨ w.heap.size + 1 ≤ k) (fun i hi => .inr hi))
          have hcv : couplesV M ++ [.int .i64 y0, .int .i64 y1] = couplesV (M ++ [⟨y0, y1⟩]) := (couplesV_snoc M ⟨y0, y1⟩).symm
          have hcl : M.length + 1 = (M ++ [(⟨y0, y1⟩ : CoupleI)]).length := by simp
          rw [hcv, hcl] at o5'
          obtain ⟨p0', p1'⟩ := x7.cells
          clear kA o5 o6 k0 k1 p0 p1 hgr7 cc6 x6 e6 hkk kG hcv hcl
          go_wp2_with (at_builtin; refine wpList_append_own _ rfl _ _ 27 rfl (w.heap.size + 1) 3 i0 (.int .i64 0) 1 8 Try.underlying27 hi hz0 hz1 hz2 rfl (by decide) _ _ _ rfl (o6'.alloc _) ⟨w7.heap.size, 0, none⟩ 2 2 [.int .i64 y0, .int .i64 y1] rfl rfl (World.news_of_block (heap_alloc_new _ _)) (two_int _ _) ?_ ?_ ?_ ?_)
          · unfold maxLen; omega
          · omega
          · first | omega | (simp; omega)
          intro v6 w8 o6q hgr8 _
          have hbl6 : ∀ k, (Value.slice A6 U.length C6).ownBlock = some k → w.heap.size + 1 ≤ k ∧ k < wr.heap.size := unhide HB6
          have kB : Kept (fun k => w.heap.size + 1 ≤ k) w7 w8 := (Kept.of_below (S := fun k => w.heap.size + 1 ≤ k) (below_new w7 (Obj.cells #[Value.int .i64 y0, Value.int .i64 y1] 3))).trans ((Kept.of_grown hgr8).weak (fun i hi => (hbl6 i hi).1))
          have cc8 := cc7.kept kB hB (fun k hk' => by omega)
          have o5q := (Kept.of_grown hgr8).own (o5'.alloc _) (fun k hk' e => own_apart o6' o5' (fun h => hne h.symm) k e hk')
          have hkk8 := hkk7.trans (kB.weak (T := fun k => k = g ∨ w.heap.size + 1 ≤ k) (fun i hi => .inr hi))
          have hul : U.length + 2 = (U ++ [y0, y1]).length := by simp
          rw [← intsV_two, hul] at o6q
          have HMW2 : Hid (MW a len cap g B w V3 (j + 1) v5 v6 w8) := ⟨cc8, hkk8, M ++ [⟨y0, y1⟩], U ++ [y0, y1], by simp; omega, by simp; omega, o5q, o6q⟩
          clear o5' o6' o5q o6q hkk8 cc8 kB cc7 x7 e7 hkk7 hul hgr8 m0 m1 p0' p1'
          go_wp2
          go_roundw
          case rel => exact ⟨j + 1, by go_num, by omega, unhide HMW2⟩
          case measure => simp [intOf]; omega
    · have HO5 := hide o5
      have HKK := hide hk
      have ON15 := hide (unhide ON 15 (by omega) wr hcc)
      obtain ⟨A5, C5, rfl⟩ := own_slice o5
      clear o5 o6 hk
      go_wp2_with fail
      refine (unhide ON15).mono ?_
      rintro e w9 ⟨⟨kb, rfl⟩, cc9, hk9⟩
      have hkw := kept_mix b3 (unhide HKK)
      have hkw9 := hkw.trans hk9
      have o9 := hk9.own (unhide HO5) (fun k hk' e => by have := (unhide HO5).lt k hk'; omega)
      have hzw := hkw9.2.2.2.1
      cases kb with
      | false =>
        have HPO : Hid (CoOwn w9 w.heap.size (.slice A5 M.length C5) M) := own_lower (Nat.le_succ _) o9
        clear o9
        go_wp2
        go_ret
        exact ⟨⟨_, M, rfl, by omega, unhide HPO⟩, cc9, hkw9⟩
      | true =>
        have HO9 := hide o9
        clear o9
        have BE9 := hide (unhide BE 9 (by omega) w9 cc9)
        go_wp2_with fail
        refine (unhide BE9).mono ?_
        rintro e w10 ⟨⟨xa, rfl, _, _⟩, cc10, hk10⟩
        have BE10 := hide (unhide BE 10 (by omega) w10 cc10)
        have o10 := hk10.own (unhide HO9) (fun k hk' e => by have := (unhide HO9).lt k hk'; omega)
        have HO10 := hide o10
        clear o10
        go_wp2_with fail
        refine (unhide BE10).mono ?_
        rintro e w11 ⟨⟨xb, rfl, _, _⟩, cc11, hk11⟩
        have o11 := hk11.own (unhide HO10) (fun k hk' e => by have := (unhide HO10).lt k hk'; omega)
        have hkw11 := (hkw9.trans hk10).trans hk11
        have hz11 := hkw11.2.2.2.1
        have hM90 : M.length ≤ 90 := by omega
        have hlt11 := o11.lt
        have hz91 := (hk10.trans hk11).2.2.2.1
        have hz19 := hk9.2.2.2.1
        go_wp2_with (at_builtin; refine wpList_append_own _ rfl _ _ 39 rfl (w.heap.size + 1) 85 i2 (.agg #[.int .i64 0, .int .i64 0]) 2 16 Try.underlying39 hi2 hy0 hy1 hy2 rfl (by decide) _ _ _ rfl (o11.alloc _) ⟨w11.heap.size, 0, none⟩ 1 1 [.int .i64 xa, .int .i64 xb] rfl rfl (World.news_of_block (heap_alloc_new _ _)) (two_int _ _) ?_ ?_ ?_ ?_)
        · unfold maxLen; omega
        · omega
        · first | omega | (simp; omega)
        intro v5 w12 o12 hgr12 _
        have kG : Kept (fun k => w.heap.size + 1 ≤ k) w11 w12 := (Kept.of_below (S := fun k => w.heap.size + 1 ≤ k) (below_new w11 (Obj.cells #[Value.int .i64 xa, Value.int .i64 xb] 85))).trans ((Kept.of_grown hgr12).weak (fun i hi => (hlt11 i hi).1))
        have cc12 := cc11.kept kG hB (fun k hk' => by omega)
        have hcv : couplesV M ++ [.int .i64 xa, .int .i64 xb] = couplesV (M ++ [⟨xa, xb⟩]) := (couplesV_snoc M ⟨xa, xb⟩).symm
        have hcl : M.length + 1 = (M ++ [(⟨xa, xb⟩ : CoupleI)]).length := by simp
        rw [hcv, hcl] at o12
        have HPO : Hid (CoOwn w12 w.heap.size v5 (M ++ [⟨xa, xb⟩])) := own_lower (Nat.le_succ _) o12
        have hkw12 : Kept (fun k => k = g) w w12 := ⟨kG.1.trans hkw11.1, kG.2.1.trans hkw11.2.1, kG.2.2.1.trans hkw11.2.2.1, Nat.le_trans hkw11.2.2.2.1 kG.2.2.2.1, fun i hi' hn => (kG.2.2.2.2 i (by omega) (by omega)).trans (hkw11.2.2.2.2 i hi' hn)⟩
        clear o11 o12 hgr12 kG hcv hcl
        go_wp2
        go_ret
        exact ⟨⟨v5, M ++ [⟨xa, xb⟩], rfl, by simp; omega, unhide HPO⟩, cc12, hkw12⟩
theorem match_nil {s : Int} {Q : List EdgeI} (h : graphOk s Q = true) : matchOk s Q [] = true := by
  unfold matchOk
  rw [h]
  rfl
set_option maxRecDepth 100000 in
set_option maxHeartbeats 2000000 in
theorem drawMatch_any (a : Option Addr) (len cap : Nat) (hl : len ≤ 1048576) (w : World) (hd : Code a len w.heap.size w) :
    Calls Try.prog 11 #[.slice a len cap] w fun e w' => (∃ d u s Q M, e = .returned (.tuple #[d, u]) ∧ GrOwn w' w.heap.size d s Q ∧ CoOwn w' w.heap.size u M ∧ matchOk s Q M = true ∧ Q.length ≤ 90) ∧ Below w.heap.size w w' := by
  have HD := hide hd
  clear hd
  go_enter Try.func11, Try.ntmps11
  go_wp2_with fail
  obtain ⟨V1, hV1⟩ : ∃ W, W = w.alloc (Obj.cells #[Value.int .i64 0, Value.slice none 0 0] 26) := ⟨_, rfl⟩
  rw [← hV1]
  have b1 : Below w.heap.size w V1 := by rw [hV1]; exact below_new _ _
  have y1 : GBox V1 w.heap.size 0 (.slice none 0 0) := by rw [hV1]; exact GBox.new _ _ _
  clear hV1
  have hy1 := y1.lt
  have hd1 : Code a len V1.heap.size V1 := fun j hj => by
    obtain ⟨b, off, z, e, hb, hc, hz⟩ := unhide HD j hj
    exact ⟨b, off, z, e, by omega, by rw [b1.cell (p := ⟨b, off + j, none⟩) (by simpa using hb)]; exact hc, hz⟩
  refine (new_any a len cap hl V1 hd1).mono ?_
  rintro e w2 ⟨rfl, hcu, hb2⟩
  have hco : Code a len V1.heap.size w2 := fun j hj => by
    obtain ⟨b, off, z, e, hb, hc, hz⟩ := hd1 j hj
    exact ⟨b, off, z, e, hb, by rw [hb2.cell (p := ⟨b, off + j, none⟩) (by simpa using hb)]; exact hc, hz⟩
  have cc2 : CC a len cap V1.heap.size V1.heap.size w2 := ⟨hcu, hco⟩
  have hg2 := cc2.lt
  have HG := hide (l08Graph_any a len cap V1.heap.size V1.heap.size hl (Nat.le_refl _) w2 cc2)
  have y2 := y1.below hb2
  have b2 : Below w.heap.size w w2 := b1.trans (hb2.mono b1.size)
  have hs2 := hb2.size
  clear hcu hco hd1 b1 y1 hb2 cc2 HD
  go_wp2_with fail
  refine (unhide HG).mono ?_
  rintro e w3 ⟨⟨v, rfl, s, Q, ho, hok, hQ⟩, cc3, hk3⟩
  have y3 := y2.kept hk3 (by omega)
  have b3 : Below w.heap.size w w3 := b2.trans (hk3.below b2.size (fun i hi => by omega))
  obtain ⟨v1, rfl, hr⟩ := ho
  obtain ⟨P, C, rfl, _⟩ := edgesAt.of_own hr
  have hz3 := hk3.2.2.2.1
  obtain ⟨V4, hV4⟩ : ∃ W, W = w3.alloc (Obj.cells #[Value.int .i64 s, Value.slice P Q.length C] 26) := ⟨_, rfl⟩
  have hb4 : Below w3.heap.size w3 V4 := by rw [hV4]; exact below_new _ _
  have x4 : GBox V4 w3.heap.size s (.slice P Q.length C) := by rw [hV4]; exact GBox.new _ _ _
  have hz4 : V4.heap.size = w3.heap.size + 1 := by rw [hV4]; simp
  have y4 := y3.below hb4
  have cc4 := cc3.below hb4 (Nat.le_refl _)
  have hr4 := own_below hr hb4
  have b4 : Below w.heap.size w V4 := b3.trans (hb4.mono b3.size)
  have LM := hide (l09Match_any a len cap V1.heap.size V1.heap.size hl (Nat.le_refl _) (.agg #[.int .i64 s, .slice P Q.length C]) w2.heap.size s Q hQ V4 cc4 (by omega) ⟨_, rfl, hr4⟩)
  go_wp2_with fail
  rw [← hV4]
  clear hV4 hb4 cc3 cc4 HG hk3 hr y3 y2 b2
  refine (unhide LM).mono ?_
  rintro e w5 ⟨⟨u, M, rfl, hM, ou⟩, _, hk5⟩
  have x5 := x4.kept hk5 (by omega)
  have y5 := y4.kept hk5 (by omega)
  have r5 := hk5.own hr4 (fun k hk' e => by have := hr4.lt k hk'; omega)
  have b5 : Below w.heap.size w w5 := b4.trans (hk5.below b4.size (fun i hi => by omega))
  have hz5 := hk5.2.2.2.1
  obtain ⟨Am, Cm, rfl, hIm⟩ := couplesAt.of_own ou
  have MO := hide (specMatch_gen w5.heap.size (.agg #[.int .i64 s, .slice P Q.length C]) s Q (.slice Am M.length Cm) M (by omega) (by omega) w5 (Nat.le_refl _) (GrOwn.at (B := w2.heap.size) ⟨_, rfl, r5⟩) ⟨_, _, rfl, hIm⟩)
  obtain ⟨p0, p1⟩ := x5.cells
  clear x4 y4 hr4 b4 LM hk5 hIm
  have HMN : Hid (matchOk s Q [] = true) := match_nil hok
  cases hmo : matchOk s Q M with
  | false =>
    rw [hmo] at MO
    go_wp2_with fail
    refine (unhide MO).mono ?_
    rintro e w6 ⟨rfl, hb6⟩
    have x6 := x5.below hb6
    have y6 := y5.below hb6
    have r6 := own_below r5 hb6
    have b6 := b5.trans (hb6.mono b5.size)
    have hz6 := hb6.size
    obtain ⟨q0, q1⟩ := x6.cells
    obtain ⟨t0, t1⟩ := y6.cells
    have tf := y6.froz
    have HY := hide y6
    have HR := hide r6
    have hyl := y6.lt
    have hn1 : ¬ w.heap.size = w6.heap.size := by omega
    clear x5 y5 r5 hb6 x6 y6 r6 p0 p1 MO b5
    go_wp2
    (try simp only [Exit.inBlock, Exit.then])
    have hk9 : Kept (fun i => i = w.heap.size) w6 ((w6.setCell ⟨w.heap.size, 0, none⟩ (.int .i64 s)).setCell ⟨w.heap.size, 1, none⟩ (.slice P Q.length C)) :=
      (Kept.set (S := fun i => i = w.heap.size) _ _ _ _ rfl).trans (Kept.set (S := fun i => i = w.heap.size) _ _ _ _ rfl)
    have hsz : w6.heap.size = ((w6.setCell ⟨w.heap.size, 0, none⟩ (.int .i64 s)).setCell ⟨w.heap.size, 1, none⟩ (.slice P Q.length C)).heap.size := by simp [World.setCell]
    have hbk : Blk (((w6.setCell ⟨w.heap.size, 0, none⟩ (.int .i64 s)).setCell ⟨w.heap.size, 1, none⟩ (.slice P Q.length C)).alloc (Obj.cells #[] 85)) w6.heap.size #[] 85 := Blk.new hsz
    have b9 := b6.trans (hk9.below b6.size (fun i hi => by omega))
    refine bodyPost_ret (results_graph Try.results11 _ _ w.heap.size _ _ rfl (((unhide HY).two s (.slice P Q.length C)).below (below_new _ _))) rfl ?_
    refine ⟨⟨_, _, s, Q, [], rfl, ⟨_, rfl, own_lower (by omega) (own_below (hk9.own (unhide HR) (fun k hk e => by have := ((unhide HR).lt k hk).1; omega)) (below_new _ _))⟩, ?_, unhide HMN, hQ⟩, b9.alloc b9.size _⟩
    exact ⟨by simp [couplesV], .inr ⟨w6.heap.size, 0, #[], rfl, by omega, hbk, Nat.zero_le _, by decide, rfl, by simp [couplesV]⟩⟩
  | true =>
    rw [hmo] at MO
    have HMO := hide hmo
    go_wp2_with fail
    refine (unhide MO).mono ?_
    rintro e w6 ⟨rfl, hb6⟩
    have x6 := x5.below hb6
    have y6 := y5.below hb6
    have r6 := own_below r5 hb6
    have o6 := own_below ou hb6
    have b6 := b5.trans (hb6.mono b5.size)
    have hz6 := hb6.size
    obtain ⟨q0, q1⟩ := x6.cells
    obtain ⟨t0, t1⟩ := y6.cells
    have tf := y6.froz
    have HY := hide y6
    have HR := hide r6
    have HO := hide o6
    have hyl := y6.lt
    clear x5 y5 r5 hb6 x6 y6 r6 p0 p1 MO b5 hmo o6 ou
    go_wp2
    (try simp only [Exit.inBlock, Exit.then])
    have hk9 : Kept (fun i => i = w.heap.size) w6 ((w6.setCell ⟨w.heap.size, 0, none⟩ (.int .i64 s)).setCell ⟨w.heap.size, 1, none⟩ (.slice P Q.length C)) :=
      (Kept.set (S := fun i => i = w.heap.size) _ _ _ _ rfl).trans (Kept.set (S := fun i => i = w.heap.size) _ _ _ _ rfl)
    refine bodyPost_ret (results_graph Try.results11 _ _ w.heap.size _ _ rfl ((unhide HY).two s (.slice P Q.length C))) rfl ?_
    exact ⟨⟨_, _, s, Q, M, rfl, ⟨_, rfl, own_lower (by omega) (hk9.own (unhide HR) (fun k hk e => by have := ((unhide HR).lt k hk).1; omega))⟩, own_lower (by omega) (hk9.own (unhide HO) (fun k hk e => by have := ((unhide HO).lt k hk).1; omega)), unhide HMO, hQ⟩, b6.trans (hk9.below b6.size (fun i hi => by omega))⟩
end Gr
end Go.Proofs.Ytkjclkelnheheaa
