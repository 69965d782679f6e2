/-
  Texts of this claim, one behind the other: GrDrawM, GrBestC, GrBest2.
-/
import Derived.Test.YtooglfbhlncjlaaJ16
import Derived.Test.YtooglfbhlncjlaaJ10
import Derived.Test.YtooglfbhlncjlaaJ2
import Derived.Test.YtooglfbhlncjlaaJ7
import Derived.Deep.DeepCutAuto
import Derived.Deep.RegionHeld3
import Derived.Deep.DeepFit

/-
  The contracts of spec.l09Match (some couples, new) and spec.DrawRightMatch (a right graph and a pairing of it).
-/
namespace Go.Proofs.Ytooglfbhlncjlaa
namespace Gr
open Go.RowKit

theorem enterOnce (vs : Array Value) (w : World) : (callFunc 20 vs).run Try.prog w = .ok (.enter 20 vs) w := by kernel_rfl

/-- What stands while couples are drawn. -/
def MW (a : Option Addr) (len cap g B : Nat) (w V3 : World) (j : Nat) (v5 v6 : Value) (wr : World) : Prop :=
  CC a len cap g B wr ∧ Kept (fun k => k = g ∨ w.heap.size + 1 ≤ k) V3 wr ∧ ∃ (M : List CoupleI) (U : List Int), M.length ≤ j ∧ U.length ≤ 2 * j ∧ wr.ownsRow (w.heap.size + 1) 85 2 v5 M.length (couplesV M) ∧ wr.ownsRow (w.heap.size + 1) 3 1 v6 U.length (intsV U)

theorem kept_mix {w V wr : World} {g : Nat} (hb : Below w.heap.size w V) (hk : Kept (fun k => k = g ∨ w.heap.size + 1 ≤ k) V wr) : Kept (fun k => k = g) w wr :=
  ⟨hk.1.trans hb.os, hk.2.1.trans hb.tape, hk.2.2.1.trans hb.output, Nat.le_trans hb.size hk.2.2.2.1, fun i hi hn => (hk.2.2.2.2 i (Nat.lt_of_lt_of_le hi hb.size) (fun h => by rcases h with h | h; exact hn h; omega)).trans (hb.block i hi)⟩

set_option maxRecDepth 100000 in
set_option maxHeartbeats 2000000 in
theorem l09Match_any (a : Option Addr) (len cap g B : Nat) (hl : len ≤ 1048576) (hB : B ≤ g) (v : Value) (N : Nat) (s : Int) (Q : List EdgeI) (hQ : Q.length ≤ 90) (w : World) (hcc : CC a len cap g B w) (hgN : g < N) (hv : GrOwn w N v s Q) :
    Calls Try.prog 34 #[.pointer (some ⟨g, 0, none⟩), v] w fun e w' => (∃ u M, e = .returned u ∧ M.length ≤ 91 ∧ CoOwn w' w.heap.size u M) ∧ CC a len cap g B w' ∧ Kept (fun k => k = g) w w' := by
  have BE := hide (fun n (h0 : 0 < n) w1 (h : CC a len cap g B w1) => below_cc a len cap g B n hl hB h0 w1 h)
  have ON := hide (fun n (h0 : 0 < n) w1 (h : CC a len cap g B w1) => once_cc a len cap g B n hl hB h0 w1 h)
  obtain ⟨i0, hi, hz0, hz1, hz2⟩ := info_parts info3
  obtain ⟨i2, hi2, hy0, hy1, hy2⟩ := info_parts infoCouple
  obtain ⟨v1, rfl, hr⟩ := hv
  obtain ⟨P, C, rfl, hE⟩ := edgesAt.of_own hr
  have hbk : ∀ k, (Value.slice P Q.length C).ownBlock = some k → N ≤ k ∧ k < w.heap.size := hr.lt
  have HRW := hide hr
  have hgl := hcc.lt
  clear hE hr
  go_enter Try.func34, Try.ntmps34
  go_wp2_with fail
  obtain ⟨V1, hV1⟩ : ∃ W, W = w.alloc (Obj.cells #[Value.int .i64 s, Value.slice P Q.length C] 26) := ⟨_, rfl⟩
  obtain ⟨V2, hV2⟩ : ∃ W, W = V1.alloc (Obj.cells #[] 85) := ⟨_, rfl⟩
  obtain ⟨V3, hV3⟩ : ∃ W, W = V2.alloc (Obj.cells #[] 3) := ⟨_, rfl⟩
  rw [← hV1, ← hV2, ← hV3]
  have z1 : V1.heap.size = w.heap.size + 1 := by rw [hV1]; simp
  have z2 : V2.heap.size = w.heap.size + 1 + 1 := by rw [hV2]; simp [z1]
  have z3 : V3.heap.size = w.heap.size + 1 + 1 + 1 := by rw [hV3]; simp [z2]
  have b1 : Below w.heap.size w V1 := by rw [hV1]; exact below_new _ _
  have b2 : Below w.heap.size w V2 := by rw [hV2]; exact b1.alloc b1.size _
  have b3 : Below w.heap.size w V3 := by rw [hV3]; exact b2.alloc b2.size _
  have x1 : GBox V1 w.heap.size s (.slice P Q.length C) := by rw [hV1]; exact GBox.new _ _ _
  have x2 : GBox V2 w.heap.size s (.slice P Q.length C) := by rw [hV2]; exact x1.below (below_new _ _)
  have x3 : GBox V3 w.heap.size s (.slice P Q.length C) := by rw [hV3]; exact x2.below (below_new _ _)
  have o5 : V2.ownsRow (w.heap.size + 1) 85 2 (.slice (some ⟨w.heap.size + 1, 0, none⟩) 0 0) 0 (couplesV []) := by
    rw [hV2, ← z1]
    exact World.ownsRow_made V1 #[] 0 (by omega) (Nat.zero_le _) rfl
  have o5' : V3.ownsRow (w.heap.size + 1) 85 2 (.slice (some ⟨w.heap.size + 1, 0, none⟩) 0 0) 0 (couplesV []) := by rw [hV3]; exact o5.alloc _
  have o6 : V3.ownsRow (w.heap.size + 1) 3 1 (.slice (some ⟨w.heap.size + 1 + 1, 0, none⟩) 0 0) 0 (intsV []) := by
    rw [hV3, ← z2]
    exact World.ownsRow_made V2 #[] 0 (by omega) (Nat.zero_le _) rfl
  have cc3 : CC a len cap g B V3 := hcc.below b3 hB
  have HX3 := hide x3
  have r3 := own_below (unhide HRW) b3
  have HR3 := hide r3
  have HMW : Hid (MW a len cap g B w V3 0 (.slice (some ⟨w.heap.size + 1, 0, none⟩) 0 0) (.slice (some ⟨w.heap.size + 1 + 1, 0, none⟩) 0 0) V3) := ⟨cc3, Kept.refl _ _, [], [], Nat.le_refl _, Nat.le_refl _, o5', o6⟩
  clear hV1 hV2 hV3 z1 z2 b1 b2 x1 x2 o5 o5' o6 x3 r3 cc3 hcc
  go_loopw [5, 6, 7] (fun v5 v6 i wr => ∃ (j : Nat), i = .int .i64 (j : Int) ∧ j ≤ Q.length ∧ MW a len cap g B w V3 j v5 v6 wr) (fun _ _ i _ => Q.length - (intOf i).toNat)
  case atStart => exact ⟨0, rfl, Nat.zero_le _, unhide HMW⟩
  case round =>
    obtain ⟨j, rfl, hj, hcc, hk, M, U, hM, hU, o5, o6⟩ := hrel
    have x4 := (unhide HX3).kept hk (by omega)
    have hz4 := hk.2.2.2.1
    have hrw := hk.own (unhide HR3) (fun k hk' e => by have := hbk k hk'; omega)
    obtain ⟨_, _, e', hE⟩ := edgesAt.of_own hrw
    simp at e'
    obtain ⟨rfl, rfl⟩ := e'
    obtain ⟨p0, p1⟩ := x4.cells
    have hx4 := x4.lt
    by_cases hlt : j < Q.length
    · obtain ⟨b, off, rfl, hbB, c0, c1, c2, c3, c4⟩ := hE.2 j hlt
      obtain ⟨A5, C5, rfl⟩ := own_slice o5
      obtain ⟨A6, C6, rfl⟩ := own_slice o6
      obtain ⟨_, _, e5, hI6⟩ := intsAt_of_own o6
      simp at e5
      obtain ⟨rfl, rfl⟩ := e5
      obtain ⟨_, _, e5, hI5⟩ := couplesAt.of_own o5
      simp at e5
      obtain ⟨rfl, rfl⟩ := e5
      have hx0 : (0 : Int) ≤ (j : Int) := by omega
      have hx1 : (j : Int) < (Q.length : Int) := by omega
      generalize Q[j] = q at c0 c1 c2 c3 c4
      obtain ⟨y0, y1, y2, y3, y4⟩ := q
      simp only at c0 c1 c2 c3 c4
      go_upto_region 7 with fail
      obtain ⟨V4, hV4⟩ : ∃ W, W = wr.alloc (Obj.cells #[Value.int .i64 y0, Value.int .i64 y1, Value.int .i64 y2, Value.int .i64 y3, Value.int .i64 y4] 68) := ⟨_, rfl⟩
      rw [← hV4]
      have hb4 : Below wr.heap.size wr V4 := by rw [hV4]; exact below_new _ _
      have hz5 : V4.heap.size = wr.heap.size + 1 := by rw [hV4]; simp
      have eb : Blk V4 wr.heap.size #[Value.int .i64 y0, Value.int .i64 y1, Value.int .i64 y2, Value.int .i64 y3, Value.int .i64 y4] 68 := by rw [hV4]; exact Blk.new0
      have cc4 := hcc.below hb4 hB
      have CCD : CC a len cap g B V4.drew := cc4
      have ONx := hide (unhide ON 3 (by omega) V4.drew CCD)
      clear hV4
      have HO5 := hide (own_below o5 hb4)
      have HO6 := hide (own_below o6 hb4)
      have HB5 : Hid (∀ k, (Value.slice A5 M.length C5).ownBlock = some k → w.heap.size + 1 ≤ k ∧ k < wr.heap.size) := o5.lt
      have HB6 : Hid (∀ k, (Value.slice A6 U.length C6).ownBlock = some k → w.heap.size + 1 ≤ k ∧ k < wr.heap.size) := o6.lt
      have HX4 := hide (x4.below hb4)
      have HK4 := hide (hk.trans (Kept.of_below (S := fun k => k = g ∨ w.heap.size + 1 ≤ k) hb4))
      clear o5 o6 hI5 hI6 x4 hE hrw p0 p1 c0 c1 c2 c3 c4 hcc cc4 CCD hk
      go_cut [55] (fun c wx => (∃ r, c = .bool r) ∧ CC a len cap g B wx ∧ Kept (fun k => k = g) V4 wx)
      case first =>
        refine wp_region_any (by kernel_rfl) ?_
        refine wpAny_ready (rs := [0]) (fuel := 32) (by kernel_rfl) (by simp) ?_
        refine AllReady.cons (i := 0) rfl (fun K hK => ?_) AllReady.nil
        go_simp
        refine hK _ _ ?_
        clear hK K
        refine wpAny_ready (rs := [1]) (fuel := 31) (by kernel_rfl) (by simp) ?_
        refine AllReady.cons (i := 1) rfl (fun K hK => ?_) AllReady.nil
        refine step_call (by rfl) 20 _ _ (by rfl) #[.pointer (some ⟨g, 0, none⟩), .int .i64 3] (by first | rfl | (simp [Act.eval]; done)) enterOnce _ (unhide ONx) ?_
        rintro e w5 ⟨⟨kb, rfl⟩, cc5, hk5⟩
        refine ⟨_, rfl, ?_⟩
        refine hK _ _ ?_
        clear hK K
        (try simp only [Act.put, List.setIfInBounds_toArray])
        refine wpAny_ready (rs := [2]) (fuel := 30) (by kernel_rfl) (by simp) ?_
        refine AllReady.cons (i := 2) rfl (fun K hK => ?_) AllReady.nil
        go_simp
        refine hK _ _ ?_
        clear hK K
        have hk5' : Kept (fun k => k = g) V4 w5 := (Kept.refl _ V4).drew.trans hk5
        have hz6 := hk5'.2.2.2.1
        have e5 : Blk w5 wr.heap.size #[Value.int .i64 y0, Value.int .i64 y1, Value.int .i64 y2, Value.int .i64 y3, Value.int .i64 y4] 68 := (hk5'.2.2.2.2 wr.heap.size (by omega) (by omega)).trans eb
        have k0 : ∀ d : Grown w5.heap.size w5, d.w.cell? ⟨wr.heap.size, 0, none⟩ = some (.int .i64 y0) := fun d => d.cell (by omega) (e5.cell 0 _ rfl)
        have k1 : ∀ d : Grown w5.heap.size w5, d.w.cell? ⟨wr.heap.size, 1, none⟩ = some (.int .i64 y1) := fun d => d.cell (by omega) (e5.cell 1 _ rfl)
        have q6 := hk5'.own (unhide HO6) (fun k hk' e => by have := unhide HB6 k hk'; omega)
        have q5 := hk5'.own (unhide HO5) (fun k hk' e => by have := unhide HB5 k hk'; omega)
        have IN := hide (fun x (d : Grown w5.heap.size w5) => l03In_any A6 U.length C6 w5.heap.size U x (by omega) d.w ((by obtain ⟨a', c', e', h'⟩ := intsAt_of_own q6; simp at e'; obtain ⟨rfl, rfl⟩ := e'; exact h' : IntsAt w5 A6 U.length w5.heap.size U).below d.below (Nat.le_refl _)))
        have HC5 : Hid (couplesAt w5 A5 M.length w5.heap.size M) := by obtain ⟨a', c', e', h'⟩ := couplesAt.of_own q5; simp at e'; obtain ⟨rfl, rfl⟩ := e'; exact h'
        have HEN : Hid (∀ d : Grown w5.heap.size w5, CC a len cap g B d.w ∧ Kept (fun k => k = g) V4 d.w) := fun d => ⟨cc5.below d.below hB, hk5'.trans (Kept.of_below d.below)⟩
        have I0 := hide (unhide IN y0)
        have I1 := hide (unhide IN y1)
        generalize inK U y0 = b0 at I0
        generalize inK U y1 = b1 at I1
        clear IN q5 q6 hk5 cc5
        refine wpAny_grown w5.heap.size 3 _ rfl (by kernel_rfl) (by kernel_rfl) (by kernel_rfl) ?_
        (try simp only [List.drop_succ_cons, List.drop_zero])
        cases kb with
        | false =>
          repeat (go_big_quiet_step (first
            | (go_at_call_of 44 (Value.int IntKind.i64 y0); exact Calls.grown_same (unhide I0 _))
            | (go_at_call_of 44 (Value.int IntKind.i64 y1); exact Calls.grown_same (unhide I1 _))))
          refine wpQuiet_nil ?_
          rintro w6 ⟨d6, rfl⟩
          go_wp2_with fail
          go_meet
          case rel => exact ⟨⟨_, rfl⟩, unhide HEN d6⟩
        | true =>
          cases b0 with
          | true =>
            repeat (go_big_quiet_step (first
              | (go_at_call_of 44 (Value.int IntKind.i64 y0); exact Calls.grown_same (unhide I0 _))
              | (go_at_call_of 44 (Value.int IntKind.i64 y1); exact Calls.grown_same (unhide I1 _))))
            refine wpQuiet_nil ?_
            rintro w6 ⟨d6, rfl⟩
            go_wp2_with fail
            go_meet
            case rel => exact ⟨⟨_, rfl⟩, unhide HEN d6⟩
          | false =>
            cases b1 with
            | true =>
              repeat (go_big_quiet_step (first
                | (go_at_call_of 44 (Value.int IntKind.i64 y0); exact Calls.grown_same (unhide I0 _))
                | (go_at_call_of 44 (Value.int IntKind.i64 y1); exact Calls.grown_same (unhide I1 _))))
              refine wpQuiet_nil ?_
              rintro w6 ⟨d6, rfl⟩
              go_wp2_with fail
              go_meet
              case rel => exact ⟨⟨_, rfl⟩, unhide HEN d6⟩
            | false =>
              by_cases hm0 : M.length = 0
              · have hm1 : ((M.length : Int) == 0) = true := by rw [hm0]; rfl
                repeat (go_big_quiet_step (first
                  | (go_at_call_of 44 (Value.int IntKind.i64 y0); exact Calls.grown_same (unhide I0 _))
                  | (go_at_call_of 44 (Value.int IntKind.i64 y1); exact Calls.grown_same (unhide I1 _))))
                refine wpQuiet_nil ?_
                rintro w6 ⟨d6, rfl⟩
                go_wp2_with fail
                go_meet
                case rel => exact ⟨⟨_, rfl⟩, unhide HEN d6⟩
              · obtain ⟨ml, hml⟩ : ∃ ml, M.length = ml + 1 := ⟨M.length - 1, by omega⟩
                obtain ⟨bm, om, em, hbm, cm, _⟩ := (unhide HC5).2 ml (by omega)
                subst em
                generalize M[ml].A = z0 at cm
                have k2 : ∀ d : Grown w5.heap.size w5, d.w.cell? ⟨bm, om + ml * 2, none⟩ = some (.int .i64 z0) := fun d => d.cell hbm cm
                have hm1 : (((ml + 1 : Nat) : Int) == 0) = false := by rw [beq_eq_false_iff_ne]; omega
                have hm2 : (((ml : Int) + 1) == 0) = false := by rw [beq_eq_false_iff_ne]; omega
                have hm3 : (0 : Int) ≤ (ml : Int) := by omega
                have hm4 : IntKind.i64.wrap ((ml : Int) + 1 - 1) = (ml : Int) := by rw [show (ml : Int) + 1 - 1 = (ml : Int) by omega]; exact wrap_in _ (by omega)
                rw [hml]
                repeat (go_big_quiet_step (first
                  | (go_at_call_of 44 (Value.int IntKind.i64 y0); exact Calls.grown_same (unhide I0 _))
                  | (go_at_call_of 44 (Value.int IntKind.i64 y1); exact Calls.grown_same (unhide I1 _))))
                refine wpQuiet_nil ?_
                rintro w6 ⟨d6, rfl⟩
                go_wp2_with fail
                rw [← hml]
                go_meet
                case rel => exact ⟨⟨_, rfl⟩, unhide HEN d6⟩
      case rest =>
        obtain ⟨⟨r, rfl⟩, cc6, hk6⟩ := hcut
        have hz7 := hk6.2.2.2.1
        have x6 := (unhide HX4).kept hk6 (by omega)
        have e6 : Blk wc wr.heap.size #[Value.int .i64 y0, Value.int .i64 y1, Value.int .i64 y2, Value.int .i64 y3, Value.int .i64 y4] 68 := (hk6.2.2.2.2 wr.heap.size (by omega) (by omega)).trans eb
        have k0 := e6.cell 0 _ rfl
        have k1 := e6.cell 1 _ rfl
        have o5 := hk6.own (unhide HO5) (fun k hk' e => by have := unhide HB5 k hk'; omega)
        have o6 := hk6.own (unhide HO6) (fun k hk' e => by have := unhide HB6 k hk'; omega)
        have hkk := (unhide HK4).trans (hk6.weak (T := fun k => k = g ∨ w.heap.size + 1 ≤ k) (fun i hi => .inl hi))
        obtain ⟨p0, p1⟩ := x6.cells
        have hx6l := x6.lt
        cases r with
        | false =>
          have HMW2 : Hid (MW a len cap g B w V3 (j + 1) (.slice A5 M.length C5) (.slice A6 U.length C6) wc) := ⟨cc6, hkk, M, U, by omega, by omega, o5, o6⟩
          clear o5 o6 hkk cc6
          go_wp2
          go_roundw
          case rel => exact ⟨j + 1, by go_num, by omega, unhide HMW2⟩
          case measure => simp [intOf]; omega
        | true =>
          have hne : (85 : TypeId) ≠ 3 := by decide
          have hM90 : M.length ≤ 90 := by omega
          have hU90 : U.length ≤ 180 := by omega
          go_wp2_with (at_builtin; refine wpList_append_own _ rfl _ _ 39 rfl (w.heap.size + 1) 85 i2 (.agg #[.int .i64 0, .int .i64 0]) 2 16 Try.underlying39 hi2 hy0 hy1 hy2 rfl (by decide) _ _ _ rfl (o5.alloc _) ⟨wc.heap.size, 0, none⟩ 1 1 [.int .i64 y0, .int .i64 y1] rfl rfl (World.news_of_block (heap_alloc_new _ _)) (two_int _ _) ?_ ?_ ?_ ?_)
          · unfold maxLen; omega
          · omega
          · first | omega | (simp; omega)
          intro v5 w7 o5' hgr7 _
          have hbl5 : ∀ k, (Value.slice A5 M.length C5).ownBlock = some k → w.heap.size + 1 ≤ k ∧ k < wr.heap.size := unhide HB5
          have kA : Kept (fun k => w.heap.size + 1 ≤ k) wc (wc.alloc (Obj.cells #[Value.int .i64 y0, Value.int .i64 y1] 85)) := Kept.of_below (below_new _ _)
          have kG : Kept (fun k => w.heap.size + 1 ≤ k) wc w7 := kA.trans ((Kept.of_grown hgr7).weak (fun i hi => (hbl5 i hi).1))
          have hz8 := kG.2.2.2.1
          have cc7 := cc6.kept kG hB (fun k hk' => by omega)
          have x7 := x6.kept kG (by omega)
          have e7 : Blk w7 wr.heap.size #[Value.int .i64 y0, Value.int .i64 y1, Value.int .i64 y2, Value.int .i64 y3, Value.int .i64 y4] 68 := Blk.grown (Blk.alloc e6) hgr7 (fun e => by have := hbl5 _ e.symm; omega)
          have o6' := (Kept.of_grown hgr7).own (o6.alloc _) (fun k hk' e => own_apart o5 o6 hne k e hk')
          have m0 := e7.cell 0 _ rfl
          have m1 := e7.cell 1 _ rfl
          have hkk7 := hkk.trans (kG.weak (T := fun k => k = g ∨ w.heap.size + 1 ≤ k) (fun i hi => .inr hi))
          have hcv : couplesV M ++ [.int .i64 y0, .int .i64 y1] = couplesV (M ++ [⟨y0, y1⟩]) := (couplesV_snoc M ⟨y0, y1⟩).symm
          have hcl : M.length + 1 = (M ++ [(⟨y0, y1⟩ : CoupleI)]).length := by simp
          rw [hcv, hcl] at o5'
          obtain ⟨p0', p1'⟩ := x7.cells
          clear kA o5 o6 k0 k1 p0 p1 hgr7 cc6 x6 e6 hkk kG hcv hcl
          go_wp2_with (at_builtin; refine wpList_append_own _ rfl _ _ 27 rfl (w.heap.size + 1) 3 i0 (.int .i64 0) 1 8 Try.underlying27 hi hz0 hz1 hz2 rfl (by decide) _ _ _ rfl (o6'.alloc _) ⟨w7.heap.size, 0, none⟩ 2 2 [.int .i64 y0, .int .i64 y1] rfl rfl (World.news_of_block (heap_alloc_new _ _)) (two_int _ _) ?_ ?_ ?_ ?_)
          · unfold maxLen; omega
          · omega
          · first | omega | (simp; omega)
          intro v6 w8 o6q hgr8 _
          have hbl6 : ∀ k, (Value.slice A6 U.length C6).ownBlock = some k → w.heap.size + 1 ≤ k ∧ k < wr.heap.size := unhide HB6
          have kB : Kept (fun k => w.heap.size + 1 ≤ k) w7 w8 := (Kept.of_below (S := fun k => w.heap.size + 1 ≤ k) (below_new w7 (Obj.cells #[Value.int .i64 y0, Value.int .i64 y1] 3))).trans ((Kept.of_grown hgr8).weak (fun i hi => (hbl6 i hi).1))
          have cc8 := cc7.kept kB hB (fun k hk' => by omega)
          have o5q := (Kept.of_grown hgr8).own (o5'.alloc _) (fun k hk' e => own_apart o6' o5' (fun h => hne h.symm) k e hk')
          have hkk8 := hkk7.trans (kB.weak (T := fun k => k = g ∨ w.heap.size + 1 ≤ k) (fun i hi => .inr hi))
          have hul : U.length + 2 = (U ++ [y0, y1]).length := by simp
          rw [← intsV_two, hul] at o6q
          have HMW2 : Hid (MW a len cap g B w V3 (j + 1) v5 v6 w8) := ⟨cc8, hkk8, M ++ [⟨y0, y1⟩], U ++ [y0, y1], by simp; omega, by simp; omega, o5q, o6q⟩
          clear o5' o6' o5q o6q hkk8 cc8 kB cc7 x7 e7 hkk7 hul hgr8 m0 m1 p0' p1'
          go_wp2
          go_roundw
          case rel => exact ⟨j + 1, by go_num, by omega, unhide HMW2⟩
          case measure => simp [intOf]; omega
    · have HO5 := hide o5
      have HKK := hide hk
      have ON15 := hide (unhide ON 15 (by omega) wr hcc)
      obtain ⟨A5, C5, rfl⟩ := own_slice o5
      clear o5 o6 hk
      go_wp2_with fail
      refine (unhide ON15).mono ?_
      rintro e w9 ⟨⟨kb, rfl⟩, cc9, hk9⟩
      have hkw := kept_mix b3 (unhide HKK)
      have hkw9 := hkw.trans hk9
      have o9 := hk9.own (unhide HO5) (fun k hk' e => by have := (unhide HO5).lt k hk'; omega)
      have hzw := hkw9.2.2.2.1
      cases kb with
      | false =>
        have HPO : Hid (CoOwn w9 w.heap.size (.slice A5 M.length C5) M) := own_lower (Nat.le_succ _) o9
        clear o9
        go_wp2
        go_ret
        exact ⟨⟨_, M, rfl, by omega, unhide HPO⟩, cc9, hkw9⟩
      | true =>
        have HO9 := hide o9
        clear o9
        have BE9 := hide (unhide BE 9 (by omega) w9 cc9)
        go_wp2_with fail
        refine (unhide BE9).mono ?_
        rintro e w10 ⟨⟨xa, rfl, _, _⟩, cc10, hk10⟩
        have BE10 := hide (unhide BE 10 (by omega) w10 cc10)
        have o10 := hk10.own (unhide HO9) (fun k hk' e => by have := (unhide HO9).lt k hk'; omega)
        have HO10 := hide o10
        clear o10
        go_wp2_with fail
        refine (unhide BE10).mono ?_
        rintro e w11 ⟨⟨xb, rfl, _, _⟩, cc11, hk11⟩
        have o11 := hk11.own (unhide HO10) (fun k hk' e => by have := (unhide HO10).lt k hk'; omega)
        have hkw11 := (hkw9.trans hk10).trans hk11
        have hz11 := hkw11.2.2.2.1
        have hM90 : M.length ≤ 90 := by omega
        have hlt11 := o11.lt
        have hz91 := (hk10.trans hk11).2.2.2.1
        have hz19 := hk9.2.2.2.1
        go_wp2_with (at_builtin; refine wpList_append_own _ rfl _ _ 39 rfl (w.heap.size + 1) 85 i2 (.agg #[.int .i64 0, .int .i64 0]) 2 16 Try.underlying39 hi2 hy0 hy1 hy2 rfl (by decide) _ _ _ rfl (o11.alloc _) ⟨w11.heap.size, 0, none⟩ 1 1 [.int .i64 xa, .int .i64 xb] rfl rfl (World.news_of_block (heap_alloc_new _ _)) (two_int _ _) ?_ ?_ ?_ ?_)
        · unfold maxLen; omega
        · omega
        · first | omega | (simp; omega)
        intro v5 w12 o12 hgr12 _
        have kG : Kept (fun k => w.heap.size + 1 ≤ k) w11 w12 := (Kept.of_below (S := fun k => w.heap.size + 1 ≤ k) (below_new w11 (Obj.cells #[Value.int .i64 xa, Value.int .i64 xb] 85))).trans ((Kept.of_grown hgr12).weak (fun i hi => (hlt11 i hi).1))
        have cc12 := cc11.kept kG hB (fun k hk' => by omega)
        have hcv : couplesV M ++ [.int .i64 xa, .int .i64 xb] = couplesV (M ++ [⟨xa, xb⟩]) := (couplesV_snoc M ⟨xa, xb⟩).symm
        have hcl : M.length + 1 = (M ++ [(⟨xa, xb⟩ : CoupleI)]).length := by simp
        rw [hcv, hcl] at o12
        have HPO : Hid (CoOwn w12 w.heap.size v5 (M ++ [⟨xa, xb⟩])) := own_lower (Nat.le_succ _) o12
        have hkw12 : Kept (fun k => k = g) w w12 := ⟨kG.1.trans hkw11.1, kG.2.1.trans hkw11.2.1, kG.2.2.1.trans hkw11.2.2.1, Nat.le_trans hkw11.2.2.2.1 kG.2.2.2.1, fun i hi' hn => (kG.2.2.2.2 i (by omega) (by omega)).trans (hkw11.2.2.2.2 i hi' hn)⟩
        clear o11 o12 hgr12 kG hcv hcl
        go_wp2
        go_ret
        exact ⟨⟨v5, M ++ [⟨xa, xb⟩], rfl, by simp; omega, unhide HPO⟩, cc12, hkw12⟩

theorem match_nil {s : Int} {Q : List EdgeI} (h : graphOk s Q = true) : matchOk s Q [] = true := by
  unfold matchOk
  rw [h]
  rfl

set_option maxRecDepth 100000 in
set_option maxHeartbeats 2000000 in
theorem drawMatch_any (a : Option Addr) (len cap : Nat) (hl : len ≤ 1048576) (w : World) (hd : Code a len w.heap.size w) :
    Calls Try.prog 11 #[.slice a len cap] w fun e w' => (∃ d u s Q M, e = .returned (.tuple #[d, u]) ∧ GrOwn w' w.heap.size d s Q ∧ CoOwn w' w.heap.size u M ∧ matchOk s Q M = true ∧ Q.length ≤ 90) ∧ Below w.heap.size w w' := by
  have HD := hide hd
  clear hd
  go_enter Try.func11, Try.ntmps11
  go_wp2_with fail
  obtain ⟨V1, hV1⟩ : ∃ W, W = w.alloc (Obj.cells #[Value.int .i64 0, Value.slice none 0 0] 26) := ⟨_, rfl⟩
  rw [← hV1]
  have b1 : Below w.heap.size w V1 := by rw [hV1]; exact below_new _ _
  have y1 : GBox V1 w.heap.size 0 (.slice none 0 0) := by rw [hV1]; exact GBox.new _ _ _
  clear hV1
  have hy1 := y1.lt
  have hd1 : Code a len V1.heap.size V1 := fun j hj => by
    obtain ⟨b, off, z, e, hb, hc, hz⟩ := unhide HD j hj
    exact ⟨b, off, z, e, by omega, by rw [b1.cell (p := ⟨b, off + j, none⟩) (by simpa using hb)]; exact hc, hz⟩
  refine (new_any a len cap hl V1 hd1).mono ?_
  rintro e w2 ⟨rfl, hcu, hb2⟩
  have hco : Code a len V1.heap.size w2 := fun j hj => by
    obtain ⟨b, off, z, e, hb, hc, hz⟩ := hd1 j hj
    exact ⟨b, off, z, e, hb, by rw [hb2.cell (p := ⟨b, off + j, none⟩) (by simpa using hb)]; exact hc, hz⟩
  have cc2 : CC a len cap V1.heap.size V1.heap.size w2 := ⟨hcu, hco⟩
  have hg2 := cc2.lt
  have HG := hide (l08Graph_any a len cap V1.heap.size V1.heap.size hl (Nat.le_refl _) w2 cc2)
  have y2 := y1.below hb2
  have b2 : Below w.heap.size w w2 := b1.trans (hb2.mono b1.size)
  have hs2 := hb2.size
  clear hcu hco hd1 b1 y1 hb2 cc2 HD
  go_wp2_with fail
  refine (unhide HG).mono ?_
  rintro e w3 ⟨⟨v, rfl, s, Q, ho, hok, hQ⟩, cc3, hk3⟩
  have y3 := y2.kept hk3 (by omega)
  have b3 : Below w.heap.size w w3 := b2.trans (hk3.below b2.size (fun i hi => by omega))
  obtain ⟨v1, rfl, hr⟩ := ho
  obtain ⟨P, C, rfl, _⟩ := edgesAt.of_own hr
  have hz3 := hk3.2.2.2.1
  obtain ⟨V4, hV4⟩ : ∃ W, W = w3.alloc (Obj.cells #[Value.int .i64 s, Value.slice P Q.length C] 26) := ⟨_, rfl⟩
  have hb4 : Below w3.heap.size w3 V4 := by rw [hV4]; exact below_new _ _
  have x4 : GBox V4 w3.heap.size s (.slice P Q.length C) := by rw [hV4]; exact GBox.new _ _ _
  have hz4 : V4.heap.size = w3.heap.size + 1 := by rw [hV4]; simp
  have y4 := y3.below hb4
  have cc4 := cc3.below hb4 (Nat.le_refl _)
  have hr4 := own_below hr hb4
  have b4 : Below w.heap.size w V4 := b3.trans (hb4.mono b3.size)
  have LM := hide (l09Match_any a len cap V1.heap.size V1.heap.size hl (Nat.le_refl _) (.agg #[.int .i64 s, .slice P Q.length C]) w2.heap.size s Q hQ V4 cc4 (by omega) ⟨_, rfl, hr4⟩)
  go_wp2_with fail
  rw [← hV4]
  clear hV4 hb4 cc3 cc4 HG hk3 hr y3 y2 b2
  refine (unhide LM).mono ?_
  rintro e w5 ⟨⟨u, M, rfl, hM, ou⟩, _, hk5⟩
  have x5 := x4.kept hk5 (by omega)
  have y5 := y4.kept hk5 (by omega)
  have r5 := hk5.own hr4 (fun k hk' e => by have := hr4.lt k hk'; omega)
  have b5 : Below w.heap.size w w5 := b4.trans (hk5.below b4.size (fun i hi => by omega))
  have hz5 := hk5.2.2.2.1
  obtain ⟨Am, Cm, rfl, hIm⟩ := couplesAt.of_own ou
  have MO := hide (specMatch_gen w5.heap.size (.agg #[.int .i64 s, .slice P Q.length C]) s Q (.slice Am M.length Cm) M (by omega) (by omega) w5 (Nat.le_refl _) (GrOwn.at (B := w2.heap.size) ⟨_, rfl, r5⟩) ⟨_, _, rfl, hIm⟩)
  obtain ⟨p0, p1⟩ := x5.cells
  clear x4 y4 hr4 b4 LM hk5 hIm
  have HMN : Hid (matchOk s Q [] = true) := match_nil hok
  cases hmo : matchOk s Q M with
  | false =>
    rw [hmo] at MO
    go_wp2_with fail
    refine (unhide MO).mono ?_
    rintro e w6 ⟨rfl, hb6⟩
    have x6 := x5.below hb6
    have y6 := y5.below hb6
    have r6 := own_below r5 hb6
    have b6 := b5.trans (hb6.mono b5.size)
    have hz6 := hb6.size
    obtain ⟨q0, q1⟩ := x6.cells
    obtain ⟨t0, t1⟩ := y6.cells
    have tf := y6.froz
    have HY := hide y6
    have HR := hide r6
    have hyl := y6.lt
    have hn1 : ¬ w.heap.size = w6.heap.size := by omega
    clear x5 y5 r5 hb6 x6 y6 r6 p0 p1 MO b5
    go_wp2
    (try simp only [Exit.inBlock, Exit.then])
    have hk9 : Kept (fun i => i = w.heap.size) w6 ((w6.setCell ⟨w.heap.size, 0, none⟩ (.int .i64 s)).setCell ⟨w.heap.size, 1, none⟩ (.slice P Q.length C)) :=
      (Kept.set (S := fun i => i = w.heap.size) _ _ _ _ rfl).trans (Kept.set (S := fun i => i = w.heap.size) _ _ _ _ rfl)
    have hsz : w6.heap.size = ((w6.setCell ⟨w.heap.size, 0, none⟩ (.int .i64 s)).setCell ⟨w.heap.size, 1, none⟩ (.slice P Q.length C)).heap.size := by simp [World.setCell]
    have hbk : Blk (((w6.setCell ⟨w.heap.size, 0, none⟩ (.int .i64 s)).setCell ⟨w.heap.size, 1, none⟩ (.slice P Q.length C)).alloc (Obj.cells #[] 85)) w6.heap.size #[] 85 := Blk.new hsz
    have b9 := b6.trans (hk9.below b6.size (fun i hi => by omega))
    refine bodyPost_ret (results_graph Try.results11 _ _ w.heap.size _ _ rfl (((unhide HY).two s (.slice P Q.length C)).below (below_new _ _))) rfl ?_
    refine ⟨⟨_, _, s, Q, [], rfl, ⟨_, rfl, own_lower (by omega) (own_below (hk9.own (unhide HR) (fun k hk e => by have := ((unhide HR).lt k hk).1; omega)) (below_new _ _))⟩, ?_, unhide HMN, hQ⟩, b9.alloc b9.size _⟩
    exact ⟨by simp [couplesV], .inr ⟨w6.heap.size, 0, #[], rfl, by omega, hbk, Nat.zero_le _, by decide, rfl, by simp [couplesV]⟩⟩
  | true =>
    rw [hmo] at MO
    have HMO := hide hmo
    go_wp2_with fail
    refine (unhide MO).mono ?_
    rintro e w6 ⟨rfl, hb6⟩
    have x6 := x5.below hb6
    have y6 := y5.below hb6
    have r6 := own_below r5 hb6
    have o6 := own_below ou hb6
    have b6 := b5.trans (hb6.mono b5.size)
    have hz6 := hb6.size
    obtain ⟨q0, q1⟩ := x6.cells
    obtain ⟨t0, t1⟩ := y6.cells
    have tf := y6.froz
    have HY := hide y6
    have HR := hide r6
    have HO := hide o6
    have hyl := y6.lt
    clear x5 y5 r5 hb6 x6 y6 r6 p0 p1 MO b5 hmo o6 ou
    go_wp2
    (try simp only [Exit.inBlock, Exit.then])
    have hk9 : Kept (fun i => i = w.heap.size) w6 ((w6.setCell ⟨w.heap.size, 0, none⟩ (.int .i64 s)).setCell ⟨w.heap.size, 1, none⟩ (.slice P Q.length C)) :=
      (Kept.set (S := fun i => i = w.heap.size) _ _ _ _ rfl).trans (Kept.set (S := fun i => i = w.heap.size) _ _ _ _ rfl)
    refine bodyPost_ret (results_graph Try.results11 _ _ w.heap.size _ _ rfl ((unhide HY).two s (.slice P Q.length C))) rfl ?_
    exact ⟨⟨_, _, s, Q, M, rfl, ⟨_, rfl, own_lower (by omega) (hk9.own (unhide HR) (fun k hk e => by have := ((unhide HR).lt k hk).1; omega))⟩, own_lower (by omega) (hk9.own (unhide HO) (fun k hk e => by have := ((unhide HO).lt k hk).1; omega)), unhide HMO, hQ⟩, b6.trans (hk9.below b6.size (fun i hi => by omega))⟩

end Gr
end Go.Proofs.Ytooglfbhlncjlaa

/-
  The contract of spec.l09Best.
-/
namespace Go.Proofs.Ytooglfbhlncjlaa
namespace Gr
open Go.RowKit

/-- What a call of l09Best for the last n vertices tells. -/
def BestC (v : Value) (B : Nat) (s : Int) (Q : List EdgeI) (n : Nat) : Prop :=
  ∀ (U : List Int) (ad : Addr) (c B' : Nat) (F : Int) (w : World), F = s - (n : Int) → n ≤ 9 → U.length + n ≤ 9 → B ≤ w.heap.size → B' ≤ w.heap.size → GrAt w v B s Q → IntsAt w (some ad) U.length B' U →
    Calls Try.prog 33 #[v, .int .i64 F, .slice (some ad) U.length c] w fun e w' => e = .returned (.tuple #[(best Q s n U).1.v, .int .i64 (best Q s n U).2]) ∧ Below w.heap.size w w'

theorem bloop_step (Q : List EdgeI) (f : Int) (U : List Int) (rec : List Int → SumsI × Int) (m : Nat) (b : Int) (acc : SumsI × Int) : bloop Q f U rec (m + 1) b acc = bloop Q f U rec m (b + 1) (bstep Q f U rec acc b) := rfl

theorem bstep_out (Q : List EdgeI) (f : Int) (U : List Int) (rec : List Int → SumsI × Int) (b : Int) (acc : SumsI × Int) (h : atFrom f b 0 Q < 0 ∨ inK U b = true) : bstep Q f U rec acc b = acc := by
  unfold bstep
  rw [if_pos h]

theorem bstep_in (Q : List EdgeI) (f : Int) (U : List Int) (rec : List Int → SumsI × Int) (b : Int) (acc : SumsI × Int) (h : ¬ (atFrom f b 0 Q < 0 ∨ inK U b = true)) : bstep Q f U rec acc b = (if better (addS (rec (U ++ [b])).1 (edgeN Q (atFrom f b 0 Q))) acc.1 = true then addS (rec (U ++ [b])).1 (edgeN Q (atFrom f b 0 Q)) else acc.1, acc.2 + (rec (U ++ [b])).2) := by
  unfold bstep
  rw [if_neg h]

theorem ints_cells {w : World} {ad : Addr} {B : Nat} {U : List Int} (h : IntsAt w (some ad) U.length B U) : ∀ j u, (intsV U)[j]? = some u → w.cell? (ad.add j) = some u := fun j u hu => by
  have hj : j < U.length := by
    have := (List.getElem?_eq_some_iff.1 hu).1
    simpa [intsV] using this
  obtain ⟨b, off, e, _, hc⟩ := h.2 j hj
  obtain rfl := Option.some.inj e
  have e2 : u = .int .i64 U[j] := by
    unfold intsV at hu
    rw [List.getElem?_map, List.getElem?_eq_getElem hj] at hu
    exact (Option.some.inj hu).symm
  rw [e2, ← hc]
  unfold Addr.add
  split <;> simp_all

theorem ints_mono {w : World} {a : Option Addr} {len B C : Nat} {K : List Int} (h : IntsAt w a len B K) (hC : B ≤ C) : IntsAt w a len C K := by
  refine ⟨h.1, fun j hj => ?_⟩
  obtain ⟨b, off, e, hb, hc⟩ := h.2 j hj
  exact ⟨b, off, e, by omega, hc⟩

theorem intsV_one (U : List Int) : ∀ u ∈ intsV U, u.oneCell' = true := fun u hu => by
  unfold intsV at hu
  obtain ⟨x, _, rfl⟩ := List.mem_map.1 hu
  rfl

theorem intsV_len (U : List Int) : (intsV U).length = U.length * 1 := by simp [intsV]

set_option maxRecDepth 100000 in
set_option maxHeartbeats 8000000 in
theorem best_step (v : Value) (B : Nat) (s : Int) (Q : List EdgeI) (hg : graphOk s Q = true) (h1 : Q.length ≤ 1048576) (n : Nat) (ih : ∀ m, m < n → BestC v B s Q m) : BestC v B s Q n := by
  intro U ad c B' F w hF hn9 hUn hB hB' hv hU
  have AT := hide (fun x y w1 (hb : Below w.heap.size w w1) => specAt_any v B s x y Q h1 w1 (by have := hb.size; omega) (hv.below hb hB))
  have IN := hide (fun x w1 (hb : Below w.heap.size w w1) => l03In_any (some ad) U.length c B' U x (by omega) w1 (hU.below hb hB'))
  have IH := hide (fun m (hm : m < n) => ih m hm)
  have HV := hide hv
  have HU := hide hU
  obtain ⟨i0, hi, hz0, hz1, hz2⟩ := info_parts info3
  obtain ⟨a0, n0, c0, rfl, hE⟩ := hv
  obtain ⟨hL0, hc0⟩ := hE
  have HC0 := hide hc0
  have HL0 := hide hL0
  have hs := graph_sound hg
  obtain ⟨hs0, hs9, hed, _⟩ := hs
  have HED := hide hed
  have HBB := hide (fun m U (hm : m ≤ 9) => best_bounds hg m U hm)
  have HSK := hide (fun m (h : inK U (s - ((m + 1 : Nat) : Int)) = true) => best_skip Q s m U h)
  have HLP := hide (fun m (h : inK U (s - ((m + 1 : Nat) : Int)) = false) => best_loop Q s m U h)
  have HZ : Hid (best Q s 0 U = (⟨0, 0, 0⟩, 1)) := rfl
  obtain ⟨T, hT⟩ : ∃ T, T = best Q s n U := ⟨_, rfl⟩
  have HT0 : Hid (T = best Q s n U) := hT
  rw [← hT]
  clear hT ih hU hc0 hL0 hed
  go_enter Try.func33, Try.ntmps33
  go_wp2_with fail
  obtain ⟨V1, hV1⟩ : ∃ W, W = w.alloc (Obj.cells #[Value.int .i64 s, Value.slice a0 n0 c0] 26) := ⟨_, rfl⟩
  obtain ⟨V2, hV2⟩ : ∃ W, W = V1.alloc (Obj.cells #[Value.int .i64 0, Value.int .i64 0, Value.int .i64 0] 36) := ⟨_, rfl⟩
  rw [← hV1, ← hV2]
  have z1 : V1.heap.size = w.heap.size + 1 := by rw [hV1]; simp
  have z2 : V2.heap.size = w.heap.size + 1 + 1 := by rw [hV2]; simp [z1]
  have b1 : Below w.heap.size w V1 := by rw [hV1]; exact below_new _ _
  have b2 : Below w.heap.size w V2 := by rw [hV2]; exact b1.alloc b1.size _
  have x1 : GBox V1 w.heap.size s (.slice a0 n0 c0) := by rw [hV1]; exact GBox.new _ _ _
  have x2 : GBox V2 w.heap.size s (.slice a0 n0 c0) := by rw [hV2]; exact x1.below (below_new _ _)
  have r2 : SBox V2 (w.heap.size + 1) ⟨0, 0, 0⟩ := by rw [hV2, ← z1]; exact SBox.new _ ⟨0, 0, 0⟩
  clear hV1 hV2 b1 x1 z1
  obtain ⟨p0, p1⟩ := x2.cells
  go_loopw [1] (fun i wr => ∃ (k : Nat) (f : Int), i = .int .i64 f ∧ f = s - (k : Int) ∧ k ≤ n ∧ Hid (T = best Q s k U) ∧ wr = V2) (fun i _ => (s - intOf i).toNat)
  case atStart => exact ⟨n, F, rfl, hF, Nat.le_refl _, unhide HT0, rfl⟩
  case round =>
    obtain ⟨k, f, rfl, hf, hk, HR, rfl⟩ := hrel
    cases k with
    | zero =>
      have hfs : ¬ f < s := by omega
      have hr := (unhide HR).trans (unhide HZ)
      subst hr
      obtain ⟨u0, u1, u2⟩ := r2.cells
      have uf := r2.froz
      have HR2 := hide r2
      clear r2 x2 HR
      go_wp2
      (try simp only [Exit.inBlock, Exit.then])
      refine bodyPost_ret (results_sums2 Try.results33 _ _ (w.heap.size + 1) _ rfl ((unhide HR2).three 0 0 0)) rfl ?_
      exact ⟨rfl, b2.trans ((kept3 _ (w.heap.size + 1) _ _ _).below b2.size (fun i hi => by omega))⟩
    | succ k =>
      have hfs : f < s := by omega
      have hf0 : -9 ≤ f := by omega
      have HF := hide hf
      clear hf
      have INf := hide (unhide IN f)
      cases hin : inK U f with
      | true =>
        rw [hin] at INf
        have HR' : Hid (T = best Q s k U) := (unhide HR).trans (unhide HSK k (by rw [← unhide HF]; exact hin))
        clear hin HR
        go_wp2_with fail
        go_fit (unhide INf _ b2)
        rintro e wk ⟨rfl, rfl⟩
        go_wp2
        go_roundw
        case rel => exact ⟨k, f + 1, by go_num, (by have := unhide HF; omega), by omega, unhide HR', by first | rfl | trivial⟩
        case measure => simp [intOf]; omega
      | false =>
        rw [hin] at INf
        have hr := (unhide HR).trans (unhide HLP k (by rw [← unhide HF]; exact hin))
        rw [← unhide HF] at hr
        have BK := hide (fun U' ad' c' w1 (hl : U'.length + k ≤ 9) (hb : Below w.heap.size w w1) hI => unhide IH k (by omega) U' ad' c' w1.heap.size (f + 1) w1 (by have := unhide HF; omega) (by omega) hl (by have := hb.size; omega) (Nat.le_refl _) ((unhide HV).below hb hB) hI)
        obtain ⟨rec, hrec⟩ : ∃ r : List Int → SumsI × Int, r = fun V => best Q s k V := ⟨_, rfl⟩
        rw [← hrec] at hr
        have hrU : best Q s k U = rec U := by rw [hrec]
        rw [hrU] at hr
        have HBK : Hid (∀ V, SB (rec V).1 (k : Int) ∧ 1 ≤ (rec V).2 ∧ (rec V).2 ≤ 1000000000) := fun V => by
          have h := unhide HBB k V (by omega)
          rw [hrec]
          exact ⟨h.1, h.2.1, Int.le_trans h.2.2 (pow_big k (by omega))⟩
        have hrV : ∀ V, best Q s k V = rec V := fun V => by rw [hrec]
        simp only [hrV] at BK
        have HU2 := hide (ints_mono ((unhide HU).below b2 hB') (show B' ≤ wr.heap.size by have := b2.size; omega))
        have HR' := hide hr
        clear hr hrec hrU hrV HR hin IH HBB HSK HLP
        have e29 : decide (s ≤ f) = false := decide_eq_false (by omega)
        go_wp2_with fail
        go_fit (unhide INf _ b2)
        rintro e wk ⟨rfl, rfl⟩
        go_wp2_with fail
        go_fit (unhide BK U ad c _ (by omega) b2 (unhide HU2))
        rintro e w5 ⟨rfl, hb5⟩
        have x5 := x2.below hb5
        have r5 := r2.below hb5
        have b5 : Below w.heap.size w w5 := b2.trans (hb5.mono b2.size)
        have hr5l := r5.lt
        have HX5 := hide x5
        have HR5 := hide r5
        have hbU := unhide HBK U
        unfold SumsI.v
        generalize rec U = t0 at HR' hbU ⊢
        obtain ⟨t0, tc⟩ := t0
        simp only at hbU ⊢
        obtain ⟨hb1, hb2, hb3⟩ := hbU
        have HS6 : Hid (SBox (w5.alloc (Obj.cells #[Value.int .i64 t0.W1, Value.int .i64 t0.W2, Value.int .i64 t0.W3] 36)) w5.heap.size t0) := SBox.new _ _
        clear x2 r2 p0 p1 hb5 x5 r5 INf
        go_wp2_with fail
        go_loopw [9, 10] (fun cnt i wr => ∃ (m : Nat) (bb : Int) (acc : SumsI) (ct : Int), i = .int .i64 bb ∧ cnt = .int .i64 ct ∧ Hid (bb = s - (m : Int)) ∧ m ≤ k ∧ Hid (T = bloop Q f U rec m bb (acc, ct)) ∧ Hid (SB acc ((k : Int) + 1)) ∧ 1 ≤ ct ∧ ct ≤ (10 - (m : Int)) * 1000000000 ∧ SBox wr w5.heap.size acc ∧ Below w5.heap.size w5 wr) (fun _ i _ => (s - intOf i).toNat)
        case atStart => exact ⟨k, f + 1, t0, tc, rfl, rfl, (by show _ = _; have := unhide HF; omega), Nat.le_refl _, (by show _ = _; have e := unhide HF; rw [show f + 1 = s - (k : Int) by omega]; exact unhide HR'), hb1.mono (by omega), hb2, (by omega), unhide HS6, below_new _ _⟩
        case round =>
          clear HR' hb1 hb2 hb3 HS6
          obtain ⟨m, bb, acc, ct, rfl, rfl, HBE, hmk, HR, HSA, hc1, hc2, hbx, hb6⟩ := hrel
          have x6 := (unhide HX5).below hb6
          have r6 := (unhide HR5).below hb6
          have b6 : Below w.heap.size w wr := b5.trans (hb6.mono b5.size)
          obtain ⟨p0, p1⟩ := x6.cells
          have hz6 := hb6.size
          have hx6l := x6.lt
          cases m with
          | zero =>
            have hbs : ¬ bb < s := by have := unhide HBE; omega
            have hr := unhide HR
            have hr' : T = (acc, ct) := hr
            subst hr'
            obtain ⟨u0, u1, u2⟩ := r6.cells
            have uf := r6.froz
            obtain ⟨q0, q1, q2⟩ := hbx.cells
            have HR6 := hide r6
            clear r6 x6 HR hr
            go_wp2
            (try simp only [Exit.inBlock, Exit.then])
            refine bodyPost_ret (results_sums2 Try.results33 _ _ (w.heap.size + 1) _ rfl ((unhide HR6).three acc.W1 acc.W2 acc.W3)) rfl ?_
            exact ⟨rfl, b6.trans ((kept3 _ (w.heap.size + 1) _ _ _).below b6.size (fun i hi => by omega))⟩
          | succ m =>
            have hbs : bb < s := by have := unhide HBE; omega
            have hbf : f < bb := by have := unhide HBE; have := unhide HF; omega
            have ATb := hide (unhide AT f bb)
            have INb := hide (unhide IN bb)
            have hr := unhide HR
            rw [bloop_step] at hr
            have HBX := hide hbx
            have hbxl := hbx.lt
            have HOUT := hide (fun h => bstep_out Q f U rec bb (acc, ct) h)
            have HINS := hide (fun h => bstep_in Q f U rec bb (acc, ct) h)
            have HEDG := hide (fun (h : 0 ≤ atFrom f bb 0 Q) => edgeN_at h)
            generalize atFrom f bb 0 Q = at1 at ATb HOUT HINS HEDG
            clear hbx x6 r6 HR
            by_cases ha : at1 < 0
            · rw [unhide HOUT (.inl ha)] at hr
              have HRN := hide hr
              clear hr HOUT HINS HEDG INb
              go_wp2_with fail
              go_fit (unhide ATb wr b6)
              rintro e w7 ⟨rfl, hb7⟩
              obtain ⟨p0', p1'⟩ := ((unhide HX5).below (hb6.trans (hb7.mono hb6.size))).cells
              have HB7 := hide (hb6.trans (hb7.mono hb6.size))
              have HS7 := hide ((unhide HBX).below hb7)
              clear hb7 p0 p1
              go_wp2
              go_roundw
              case rel => exact ⟨m, bb + 1, acc, ct, by go_num, rfl, (by show _ = _; have := unhide HBE; omega), by omega, unhide HRN, HSA, hc1, by omega, unhide HS7, unhide HB7⟩
              case measure => simp [intOf]; omega
            · have ea : decide (at1 < 0) = false := decide_eq_false ha
              cases hin : inK U bb with
              | true =>
                rw [unhide HOUT (.inr hin)] at hr
                rw [hin] at INb
                have HRN := hide hr
                clear hr HOUT HINS HEDG hin
                go_wp2_with fail
                go_fit (unhide ATb wr b6)
                rintro e w7 ⟨rfl, hb7⟩
                have b7 : Below w.heap.size w w7 := b6.trans (hb7.mono b6.size)
                obtain ⟨p0', p1'⟩ := ((unhide HX5).below (hb6.trans (hb7.mono hb6.size))).cells
                have HB7 := hide (hb6.trans (hb7.mono hb6.size))
                have HS7 := hide ((unhide HBX).below hb7)
                clear hb7 p0 p1
                go_wp2_with fail
                go_fit (unhide INb w7 b7)
                rintro e w8 ⟨rfl, rfl⟩
                go_wp2
                go_roundw
                case rel => exact ⟨m, bb + 1, acc, ct, by go_num, rfl, (by show _ = _; have := unhide HBE; omega), by omega, unhide HRN, HSA, hc1, by omega, unhide HS7, unhide HB7⟩
                case measure => simp [intOf]; omega
              | false =>
                rw [unhide HINS (by rw [hin]; simp; omega)] at hr
                rw [hin] at INb
                obtain ⟨i, hiQ, ei, eE, _⟩ := unhide HEDG (by omega)
                have heok := unhide HED _ (List.getElem_mem hiQ)
                rw [eE] at hr
                have b6' := b6
                go_wp2_with fail
                go_fit (unhide ATb wr b6)
                rintro e w7 ⟨rfl, hb7⟩
                have b7 : Below w.heap.size w w7 := b6.trans (hb7.mono b6.size)
                have x7 := (unhide HX5).below (hb6.trans (hb7.mono hb6.size))
                have HB7 := hide (hb6.trans (hb7.mono hb6.size))
                have HS7 := hide ((unhide HBX).below hb7)
                have hz7 := hb7.size
                obtain ⟨p0', p1'⟩ := x7.cells
                have hx7l := x7.lt
                clear hb7 p0 p1 HBX
                go_wp2_with fail
                go_fit (unhide INb w7 b7)
                rintro e w8 ⟨rfl, hw8⟩
                have hw9 := hw8.symm
                subst hw9
                clear hw8
                have HX7 := hide x7
                have BK2 : Hid (∀ (g c' : Nat) (W : World), W.ownsRow w7.heap.size 3 1 (.slice (some ⟨g, 0, none⟩) (U.length + 1) c') (U.length + 1) (intsV U ++ [.int .i64 bb]) → Fresh w7 W → Calls Try.prog 33 #[.agg #[.int .i64 s, .slice a0 n0 c0], .int .i64 (f + 1), .slice (some ⟨g, 0, none⟩) (U.length + 1) c'] W fun e w' => e = .returned (.tuple #[(rec (U ++ [bb])).1.v, .int .i64 (rec (U ++ [bb])).2]) ∧ Below W.heap.size W w') := fun g c' W ho hF => by
                  have e1 : intsV U ++ [.int .i64 bb] = intsV (U ++ [bb]) := by simp [intsV]
                  have e2 : U.length + 1 = (U ++ [bb]).length := by simp
                  rw [e1, e2] at ho
                  rw [e2]
                  obtain ⟨a', cc, e3, hI⟩ := intsAt_of_own ho
                  simp at e3
                  obtain ⟨rfl, rfl⟩ := e3
                  exact unhide BK (U ++ [bb]) ⟨g, 0, none⟩ c' W (by simp; omega) (b7.trans (Below.mono hF b7.size)) hI
                unfold SumsI.v at BK2
                have hRB := unhide HBK (U ++ [bb])
                generalize rec (U ++ [bb]) = R at BK2 hRB hr
                obtain ⟨⟨R1, R2, R3⟩, Rc⟩ := R
                simp only at BK2 hRB hr
                have HSF : Hid (∀ W, Fresh w7 W → W.cell? ⟨w.heap.size, 0, none⟩ = some (.int .i64 s) ∧ W.cell? ⟨w.heap.size, 1, none⟩ = some (.slice a0 n0 c0)) := fun W hF => ⟨(Below.cell hF (p := ⟨w.heap.size, 0, none⟩) hx7l).trans p0', (Below.cell hF (p := ⟨w.heap.size, 1, none⟩) hx7l).trans p1'⟩
                have HUI : Hid (∀ W, Fresh w7 W → IntsAt W (some ad) U.length B' U) := fun W hF => (unhide HU).below (b7.trans (Below.mono hF b7.size)) hB'
                have hF0 : Fresh w7 w7 := Fresh.refl _
                have hjm : U.length + 1 ≤ maxLen := by unfold maxLen; omega
                have hjm0 : 0 + U.length ≤ maxLen := by unfold maxLen; omega
                have hwf : IntKind.i64.wrap (f + 1) = f + 1 := wrap_in _ (by omega)
                have h393 : (36 : TypeId) ≠ 3 := by decide
                have HRQ := hide hr
                clear hr HOUT HINS HEDG
                go_upto_region 11 with fail
                go_cut [12, 13] (fun p12 c13 wx => ∃ g, p12 = .pointer (some ⟨g, 0, none⟩) ∧ w7.heap.size ≤ g ∧ SBox wx g ⟨R1, R2, R3⟩ ∧ c13 = .int .i64 Rc ∧ Below w7.heap.size w7 wx)
                case first =>
                  go_region_held3 (fun u => u.cell? ⟨w.heap.size, 0, none⟩ = some (.int .i64 s) ∧ u.cell? ⟨w.heap.size, 1, none⟩ = some (.slice a0 n0 c0))
                    (first | (with_reducible refine unhide HSF _ ?_; (repeat (first | (with_reducible refine Fresh.drew ?_) | (with_reducible refine Fresh.alloc ?_) | (with_reducible refine Fresh.set ?_ (by omega)))); with_reducible assumption) | go_keep)
                    (first
                      | (refine step_append_any (by rfl) _ _ _ (by rfl) w7.heap.size 3 i0 _ 1 8 Try.underlying27 hi hz0 hz1 hz2 rfl (by decide) _ 0 [] (by rfl) (own_empty (by ((repeat (first | (with_reducible assumption) | (with_reducible refine Blk.drew ?_) | (with_reducible exact Blk.new0) | (with_reducible exact Blk.new1) | (with_reducible exact Blk.new2) | (with_reducible refine Blk.alloc ?_) | (with_reducible refine hT67 _ _ _ h393 ?_) | ((with_reducible refine hT64 _ _ _ (own_ne ?_) ?_); omega))); done)) (by omega)) ad U.length c (intsV U) (by rfl) (intsV_len U) (ints_cells (unhide HUI _ (by ((repeat (first | (with_reducible refine Fresh.drew ?_) | (with_reducible refine Fresh.alloc ?_))); with_reducible assumption)))) (intsV_one U) hjm0 (by omega) (Fresh.size (by ((repeat (first | (with_reducible refine Fresh.drew ?_) | (with_reducible refine Fresh.alloc ?_))); with_reducible assumption))) ?_; intro v64 w64 hown64 hgr64; rw [Nat.zero_add, List.nil_append] at hown64; have hF64 : Fresh w7 w64 := Fresh.grown (by ((repeat (first | (with_reducible refine Fresh.drew ?_) | (with_reducible refine Fresh.alloc ?_))); with_reducible assumption)) hgr64 (by intro k hk; simp [Value.ownBlock] at hk; omega); have hz64 := hF64.size; have hT64 := fun (g : Nat) (C : Array Value) (t : TypeId) (hne : some g ≠ _) (h : Blk _ g C t) => Blk.grown h hgr64 hne)
                      | (refine step_append_lies _ (by rfl) _ _ _ (by rfl) w7.heap.size 3 i0 _ 1 8 Try.underlying27 hi hz0 hz1 hz2 rfl (by decide) v64 U.length (intsV U) (by rfl) (by ((repeat (first | (with_reducible refine World.ownsRow.drew ?_) | (with_reducible refine World.ownsRow.alloc ?_ _))); with_reducible assumption)) ⟨_, 0, none⟩ 1 1 [.int .i64 bb] (by rfl) (by rfl) (World.news_of_block (cs := #[.int .i64 bb]) (t := 3) (fr := (0, 0)) (show _ from (by ((repeat (first | (with_reducible assumption) | (with_reducible refine Blk.drew ?_) | (with_reducible exact Blk.new0) | (with_reducible exact Blk.new1) | (with_reducible exact Blk.new2) | (with_reducible refine Blk.alloc ?_) | (with_reducible refine hT67 _ _ _ h393 ?_) | ((with_reducible refine hT64 _ _ _ (own_ne ?_) ?_); omega))); done) : Blk _ _ #[.int .i64 bb] 3))) (by simp [Value.oneCell']) (by omega) hjm (by omega) (Fresh.size (by ((repeat (first | (with_reducible refine Fresh.drew ?_) | (with_reducible refine Fresh.alloc ?_))); with_reducible assumption))) _ rfl ?_; intro g67 c67 w67 hown67 hgr67 hat67 hlt67; have hF67 : Fresh w7 w67 := Fresh.grown (by ((repeat (first | (with_reducible refine Fresh.drew ?_) | (with_reducible refine Fresh.alloc ?_))); with_reducible assumption)) hgr67 (fun k hk => (hown64.lt k hk).1); have hz67 := hF67.size; have hT67 := fun (g : Nat) (C : Array Value) (t : TypeId) (ht : t ≠ 3) (h : Blk _ g C t) => Blk.grown h hgr67 (Blk.apart h (by ((repeat (first | (with_reducible refine World.ownsRow.drew ?_) | (with_reducible refine World.ownsRow.alloc ?_ _))); with_reducible assumption)) ht))
                      | (go_at_call 33; go_fit (unhide BK2 g67 c67 _ (by ((repeat (first | (with_reducible refine World.ownsRow.drew ?_) | (with_reducible refine World.ownsRow.alloc ?_ _))); with_reducible assumption)) (by ((repeat (first | (with_reducible refine Fresh.drew ?_) | (with_reducible refine Fresh.alloc ?_))); with_reducible assumption))); rintro e w68 ⟨rfl, hb68⟩; have hF68 : Fresh w7 w68 := Fresh.below (by ((repeat (first | (with_reducible refine Fresh.drew ?_) | (with_reducible refine Fresh.alloc ?_))); with_reducible assumption)) hb68; have hz68 := hF68.size; first | (refine (fun (hB12 : Blk w68 w7.heap.size #[Value.int .i64 0, Value.int .i64 0, Value.int .i64 0] 36) => ?_) (Blk.below ?_ hb68); rotate_left; (repeat (first | (with_reducible assumption) | (with_reducible refine Blk.drew ?_) | (with_reducible exact Blk.new0) | (with_reducible exact Blk.new1) | (with_reducible exact Blk.new2) | (with_reducible refine Blk.alloc ?_) | (with_reducible refine hT67 _ _ _ h393 ?_) | ((with_reducible refine hT64 _ _ _ (own_ne ?_) ?_); omega))); have e0 := hB12.cell 0 _ rfl; have e1 := hB12.cell 1 _ rfl; have e2 := hB12.cell 2 _ rfl; have f0 := hB12.froz 0; have f1 := hB12.froz 1; have f2 := hB12.froz 2) | (refine (fun (hB12 : Blk w68 (w7.heap.size + 1) #[Value.int .i64 0, Value.int .i64 0, Value.int .i64 0] 36) => ?_) (Blk.below ?_ hb68); rotate_left; (repeat (first | (with_reducible assumption) | (with_reducible refine Blk.drew ?_) | (with_reducible exact Blk.new0) | (with_reducible exact Blk.new1) | (with_reducible exact Blk.new2) | (with_reducible refine Blk.alloc ?_) | (with_reducible refine hT67 _ _ _ h393 ?_) | ((with_reducible refine hT64 _ _ _ (own_ne ?_) ?_); omega))); have e0 := hB12.cell 0 _ rfl; have e1 := hB12.cell 1 _ rfl; have e2 := hB12.cell 2 _ rfl; have f0 := hB12.froz 0; have f1 := hB12.froz 1; have f2 := hB12.froz 2) | (refine (fun (hB12 : Blk w68 (w7.heap.size + 1 + 1) #[Value.int .i64 0, Value.int .i64 0, Value.int .i64 0] 36) => ?_) (Blk.below ?_ hb68); rotate_left; (repeat (first | (with_reducible assumption) | (with_reducible refine Blk.drew ?_) | (with_reducible exact Blk.new0) | (with_reducible exact Blk.new1) | (with_reducible exact Blk.new2) | (with_reducible refine Blk.alloc ?_) | (with_reducible refine hT67 _ _ _ h393 ?_) | ((with_reducible refine hT64 _ _ _ (own_ne ?_) ?_); omega))); have e0 := hB12.cell 0 _ rfl; have e1 := hB12.cell 1 _ rfl; have e2 := hB12.cell 2 _ rfl; have f0 := hB12.froz 0; have f1 := hB12.froz 1; have f2 := hB12.froz 2) | (refine (fun (hB12 : Blk w68 w64.heap.size #[Value.int .i64 0, Value.int .i64 0, Value.int .i64 0] 36) => ?_) (Blk.below ?_ hb68); rotate_left; (repeat (first | (with_reducible assumption) | (with_reducible refine Blk.drew ?_) | (with_reducible exact Blk.new0) | (with_reducible exact Blk.new1) | (with_reducible exact Blk.new2) | (with_reducible refine Blk.alloc ?_) | (with_reducible refine hT67 _ _ _ h393 ?_) | ((with_reducible refine hT64 _ _ _ (own_ne ?_) ?_); omega))); have e0 := hB12.cell 0 _ rfl; have e1 := hB12.cell 1 _ rfl; have e2 := hB12.cell 2 _ rfl; have f0 := hB12.froz 0; have f1 := hB12.froz 1; have f2 := hB12.froz 2) | (refine (fun (hB12 : Blk w68 (w64.heap.size + 1) #[Value.int .i64 0, Value.int .i64 0, Value.int .i64 0] 36) => ?_) (Blk.below ?_ hb68); rotate_left; (repeat (first | (with_reducible assumption) | (with_reducible refine Blk.drew ?_) | (with_reducible exact Blk.new0) | (with_reducible exact Blk.new1) | (with_reducible exact Blk.new2) | (with_reducible refine Blk.alloc ?_) | (with_reducible refine hT67 _ _ _ h393 ?_) | ((with_reducible refine hT64 _ _ _ (own_ne ?_) ?_); omega))); have e0 := hB12.cell 0 _ rfl; have e1 := hB12.cell 1 _ rfl; have e2 := hB12.cell 2 _ rfl; have f0 := hB12.froz 0; have f1 := hB12.froz 1; have f2 := hB12.froz 2) | (refine (fun (hB12 : Blk w68 w67.heap.size #[Value.int .i64 0, Value.int .i64 0, Value.int .i64 0] 36) => ?_) (Blk.below ?_ hb68); rotate_left; (repeat (first | (with_reducible assumption) | (with_reducible refine Blk.drew ?_) | (with_reducible exact Blk.new0) | (with_reducible exact Blk.new1) | (with_reducible exact Blk.new2) | (with_reducible refine Blk.alloc ?_) | (with_reducible refine hT67 _ _ _ h393 ?_) | ((with_reducible refine hT64 _ _ _ (own_ne ?_) ?_); omega))); have e0 := hB12.cell 0 _ rfl; have e1 := hB12.cell 1 _ rfl; have e2 := hB12.cell 2 _ rfl; have f0 := hB12.froz 0; have f1 := hB12.froz 1; have f2 := hB12.froz 2) | skip))
                  all_goals
                    go_wp2_with fail
                    go_meet
                    case rel =>
                      first
                        | exact ⟨_, rfl, by omega, SBox.three (s := ⟨0, 0, 0⟩) hB12 R1 R2 R3, rfl, Fresh.set (Fresh.set (Fresh.set hF68 (by omega)) (by omega)) (by omega)⟩
                        | exact ⟨_, rfl, by omega, SBox.new w68 ⟨R1, R2, R3⟩, rfl, Fresh.alloc hF68⟩
                case rest =>
                  obtain ⟨g, rfl, hgg, hsg, rfl, hbg⟩ := hcut
                  have hb9 : Below w5.heap.size w5 wc := (unhide HB7).trans (hbg.mono (unhide HB7).size)
                  have b9 : Below w.heap.size w wc := b5.trans (hb9.mono b5.size)
                  have x9 := (unhide HX7).below hbg
                  obtain ⟨p0, p1⟩ := x9.cells
                  obtain ⟨b', off', rfl, hbB', d0, d1, d2, d3, d4⟩ := unhide HC0 i hiQ
                  rw [← b9.cell (p := ⟨b', off' + i * 5, none⟩) (by simp; omega)] at d0
                  rw [← b9.cell (p := ⟨b', off' + i * 5 + 1, none⟩) (by simp; omega)] at d1
                  rw [← b9.cell (p := ⟨b', off' + i * 5 + 2, none⟩) (by simp; omega)] at d2
                  rw [← b9.cell (p := ⟨b', off' + i * 5 + 3, none⟩) (by simp; omega)] at d3
                  rw [← b9.cell (p := ⟨b', off' + i * 5 + 4, none⟩) (by simp; omega)] at d4
                  have hRB' := hRB
                  obtain ⟨hRB1, hRB2, hRB3⟩ := hRB'
                  have HSN := hide (hRB1.add heok)
                  unfold SB at hRB1
                  simp only at hRB1
                  obtain ⟨_, _, _, hw1, hw2, hw3⟩ := (edgeOk_iff s _).1 heok
                  have hq1 := worth_range hw1
                  have hq2 := worth_range hw2
                  have hq3 := worth_range hw3
                  have hrq := unhide HRQ
                  generalize Q[i] = q at d0 d1 d2 d3 d4 hrq HSN hq1 hq2 hq3
                  obtain ⟨y0, y1, y2, y3, y4⟩ := q
                  simp only at d0 d1 d2 d3 d4 hq1 hq2 hq3
                  unfold addS at hrq HSN
                  simp only at hrq HSN
                  have hi0 : (0 : Int) ≤ (i : Int) := by omega
                  have hi1 : (i : Int) < (n0 : Int) := by have := unhide HL0; omega
                  have hk9 : (k : Int) ≤ 9 := by omega
                  obtain ⟨u0, u1, u2⟩ := hsg.cells
                  simp only at u0 u1 u2
                  have f0 := hsg.froz 0
                  have f1 := hsg.froz 1
                  have f2 := hsg.froz 2
                  have hgl := hsg.lt
                  have hs9 := (unhide HS7).below hbg
                  have BTR := hide (fun w => specBetter_any ⟨R1 + y2, R2 + y3, R3 + y4⟩ acc w)
                  generalize hbt : better ⟨R1 + y2, R2 + y3, R3 + y4⟩ acc = bt at BTR hrq
                  unfold SumsI.v at BTR
                  have hge : ¬ w5.heap.size = g := by have := (unhide HB7).size; omega
                  have hge' : ¬ g = w5.heap.size := fun e => hge e.symm
                  have HG2 := hide ((hsg.three (R1 + y2) (R2 + y3) (R3 + y4)).below (below_new _ (Obj.cells #[Value.int .i64 y0, Value.int .i64 y1, Value.int .i64 y2, Value.int .i64 y3, Value.int .i64 y4] 68)))
                  have hk10 := kept3 wc g (.int .i64 (R1 + y2)) (.int .i64 (R2 + y3)) (.int .i64 (R3 + y4))
                  have HA2 := hide ((hs9.kept hk10 hge).below (below_new _ (Obj.cells #[Value.int .i64 y0, Value.int .i64 y1, Value.int .i64 y2, Value.int .i64 y3, Value.int .i64 y4] 68)))
                  have hb10 := hb9.trans (hk10.below hb9.size (fun i hi => by have := (unhide HB7).size; omega))
                  have HB10 := hide (hb10.alloc hb10.size (Obj.cells #[Value.int .i64 y0, Value.int .i64 y1, Value.int .i64 y2, Value.int .i64 y3, Value.int .i64 y4] 68))
                  obtain ⟨v0, v1, v2⟩ := hs9.cells
                  have hs9l := hs9.lt
                  have HSA' := hide (unhide HSA)
                  obtain ⟨a1, a2, a3⟩ := acc
                  simp only at BTR hrq v0 v1 v2
                  have hcc : IntKind.i64.wrap (ct + Rc) = ct + Rc := wrap_in _ (by omega)
                  subst ei
                  clear hk10 hb10 hs9 hsg hb9 b9 x9 HSA
                  go_wp2_with fail
                  obtain ⟨Wb, hWb⟩ : ∃ W, W = ((((wc.setCell ⟨g, 0, none⟩ (.int .i64 (R1 + y2))).setCell ⟨g, 1, none⟩ (.int .i64 (R2 + y3))).setCell ⟨g, 2, none⟩ (.int .i64 (R3 + y4))).alloc (Obj.cells #[Value.int .i64 y0, Value.int .i64 y1, Value.int .i64 y2, Value.int .i64 y3, Value.int .i64 y4] 68)) := ⟨_, rfl⟩
                  rw [← hWb] at HG2 HA2 HB10
                  rw [← hWb]
                  clear hWb
                  go_fit (unhide BTR Wb)
                  rintro e w11 ⟨rfl, hb11⟩
                  have g11 := (unhide HG2).below hb11
                  have a11 := (unhide HA2).below hb11
                  have HB11 := hide ((unhide HB10).trans (hb11.mono (unhide HB10).size))
                  obtain ⟨u0', u1', u2'⟩ := g11.cells
                  obtain ⟨v0', v1', v2'⟩ := a11.cells
                  simp only at u0' u1' u2' v0' v1' v2'
                  have vf := a11.froz
                  have HA11 := hide a11
                  obtain ⟨p0', p1'⟩ := ((unhide HX5).below (unhide HB11)).cells
                  clear HG2 HA2 HB10 hb11 g11 a11 u0 u1 u2 v0 v1 v2 f0 f1 f2 p0 p1 d0 d1 d2 d3 d4 BTR
                  cases bt with
                  | false =>
                    simp only [Bool.false_eq_true, if_false] at hrq
                    have HRN := hide hrq
                    clear hrq
                    go_wp2
                    go_roundw
                    case rel => exact ⟨m, bb + 1, ⟨a1, a2, a3⟩, ct + Rc, by go_num, by go_num, (by show _ = _; have := unhide HBE; omega), by omega, unhide HRN, unhide HSA', by omega, by omega, unhide HA11, unhide HB11⟩
                    case measure => simp [intOf]; omega
                  | true =>
                    simp only [if_true] at hrq
                    have HRN := hide hrq
                    have HA12 := hide ((unhide HA11).three (R1 + y2) (R2 + y3) (R3 + y4))
                    have HB12 := hide ((unhide HB11).trans ((kept3 w11 w5.heap.size (.int .i64 (R1 + y2)) (.int .i64 (R2 + y3)) (.int .i64 (R3 + y4))).below (unhide HB11).size (fun i hi => by omega)))
                    clear hrq
                    go_wp2
                    go_roundw
                    case rel => exact ⟨m, bb + 1, ⟨R1 + y2, R2 + y3, R3 + y4⟩, ct + Rc, by go_num, by go_num, (by show _ = _; have := unhide HBE; omega), by omega, unhide HRN, unhide HSN, by omega, by omega, unhide HA12, unhide HB12⟩
                    case measure => simp [intOf]; omega

theorem specBest_any (v : Value) (B : Nat) (s : Int) (Q : List EdgeI) (hg : graphOk s Q = true) (h1 : Q.length ≤ 1048576) (n : Nat) : BestC v B s Q n := by
  induction n using Nat.strongRecOn with
  | ind n ih => exact best_step v B s Q hg h1 n ih

end Gr
end Go.Proofs.Ytooglfbhlncjlaa

/-
  The contracts of spec.BestSums and spec.CountMatches.
-/
namespace Go.Proofs.Ytooglfbhlncjlaa
namespace Gr
open Go.RowKit

/-- What BestSums tells. -/
def bestR (s : Int) (Q : List EdgeI) : SumsI := if graphOk s Q = true then (best Q s s.toNat []).1 else ⟨0, 0, 0⟩
/-- What CountMatches tells. -/
def countR (s : Int) (Q : List EdgeI) : Int := if graphOk s Q = true then (best Q s s.toNat []).2 else -1

theorem best_from {v : Value} {B : Nat} {s : Int} {Q : List EdgeI} (hg : graphOk s Q = true) (h1 : Q.length ≤ 1048576) (w : World) (hB : B ≤ w.heap.size) (hv : GrAt w v B s Q) :
    Calls Try.prog 33 #[v, .int .i64 0, .slice (some ⟨w.heap.size, 0, none⟩) 0 0] (w.alloc (Obj.cells #[] 3)) fun e w' => e = .returned (.tuple #[(best Q s s.toNat []).1.v, .int .i64 (best Q s s.toNat []).2]) ∧ Below w.heap.size w w' := by
  obtain ⟨h0, h9, _, _⟩ := graph_sound hg
  have hb := below_new w (Obj.cells #[] 3)
  refine (specBest_any v B s Q hg h1 s.toNat [] ⟨w.heap.size, 0, none⟩ 0 0 0 (w.alloc (Obj.cells #[] 3)) (by omega) (by omega) (by simp; omega) (by have := hb.size; omega) (Nat.zero_le _) (hv.below hb hB) ⟨rfl, fun j h => by simp at h⟩).mono ?_
  rintro e w' ⟨rfl, hb'⟩
  exact ⟨rfl, hb.trans (hb'.mono hb.size)⟩

set_option maxRecDepth 100000 in
set_option maxHeartbeats 1000000 in
theorem specBestSums_gen (B : Nat) (v : Value) (s : Int) (Q : List EdgeI) (h1 : Q.length ≤ 1048576) (w : World) (hB : B ≤ w.heap.size) (hv : GrAt w v B s Q) :
    Calls Try.prog 10 #[v] w fun e w' => (∃ d, e = .returned (.tuple #[d, .bool (graphOk s Q)]) ∧ SuOwn w' w.heap.size d (bestR s Q)) ∧ Below w.heap.size w w' := by
  have OK := hide (fun w1 (hb : Below w.heap.size w w1) => specGraph_any v B s Q h1 w1 (by have := hb.size; omega) (hv.below hb hB))
  have BS := hide (fun (hg : graphOk s Q = true) w1 (hb : Below w.heap.size w w1) => best_from hg h1 w1 (by have := hb.size; omega) (hv.below hb hB))
  obtain ⟨a0, n0, c0, rfl, _⟩ := hv
  have hV : bestR s Q = if graphOk s Q = true then (best Q s s.toNat []).1 else ⟨0, 0, 0⟩ := rfl
  generalize bestR s Q = V at hV ⊢
  generalize best Q s s.toNat [] = T at BS hV
  generalize graphOk s Q = ok at OK BS hV ⊢
  obtain ⟨T, ct⟩ := T
  simp only at hV BS
  unfold SumsI.v at BS
  clear h1
  go_enter Try.func10, Try.ntmps10
  go_wp2_with fail
  obtain ⟨V1, hV1⟩ : ∃ W, W = w.alloc (Obj.cells #[Value.int .i64 s, Value.slice a0 n0 c0] 26) := ⟨_, rfl⟩
  obtain ⟨V2, hV2⟩ : ∃ W, W = V1.alloc (Obj.cells #[Value.int .i64 0, Value.int .i64 0, Value.int .i64 0] 36) := ⟨_, rfl⟩
  rw [← hV1, ← hV2]
  have z1 : V1.heap.size = w.heap.size + 1 := by rw [hV1]; simp
  have b1 : Below w.heap.size w V1 := by rw [hV1]; exact below_new _ _
  have b2 : Below w.heap.size w V2 := by rw [hV2]; exact b1.alloc b1.size _
  have x1 : GBox V1 w.heap.size s (.slice a0 n0 c0) := by rw [hV1]; exact GBox.new _ _ _
  have x2 : GBox V2 w.heap.size s (.slice a0 n0 c0) := by rw [hV2]; exact x1.below (below_new _ _)
  have r2 : SBox V2 (w.heap.size + 1) ⟨0, 0, 0⟩ := by rw [hV2, ← z1]; exact SBox.new _ ⟨0, 0, 0⟩
  clear hV1 hV2 b1 x1 z1
  go_fit (unhide OK V2 b2)
  rintro e w3 ⟨rfl, hb3⟩
  have x3 := x2.below hb3
  have r3 := r2.below hb3
  have b3 := b2.trans (hb3.mono b2.size)
  obtain ⟨p0, p1⟩ := x3.cells
  clear hb3 x2 r2 b2
  cases ok with
  | false =>
    rw [if_neg (by simp)] at hV
    subst hV
    obtain ⟨u0, u1, u2⟩ := r3.cells
    have uf := r3.froz
    have HR := hide r3
    clear r3 x3
    go_wp2
    (try simp only [Exit.inBlock, Exit.then])
    refine bodyPost_ret (results_sums2 Try.results10 _ _ (w.heap.size + 1) _ rfl ((unhide HR).three 0 0 0)) rfl ?_
    exact ⟨⟨_, rfl, rfl⟩, b3.trans ((kept3 w3 (w.heap.size + 1) _ _ _).below b3.size (fun i hi => by omega))⟩
  | true =>
    rw [if_pos rfl] at hV
    subst hV
    have hr3l := r3.lt
    go_wp2_with fail
    go_fit (unhide BS (by first | rfl | trivial) w3 b3)
    rintro e w4 ⟨rfl, hb4⟩
    have r4 := r3.below hb4
    have b4 := b3.trans (hb4.mono b3.size)
    have hz4 := hb4.size
    obtain ⟨u0, u1, u2⟩ := r4.cells
    have uf := r4.froz
    have hr4l := r4.lt
    have hne : ¬ w4.heap.size = w.heap.size + 1 := by omega
    have hne' : ¬ w.heap.size + 1 = w4.heap.size := by omega
    have HR := hide r4
    have HB4 := hide b4
    clear r4 r3 x3 hb4 p0 p1 b4
    go_wp2
    (try simp only [Exit.inBlock, Exit.then])
    have hb6 := (unhide HB4).trans ((kept3 w4 (w.heap.size + 1) (.int .i64 V.W1) (.int .i64 V.W2) (.int .i64 V.W3)).below (unhide HB4).size (fun i hi => by omega))
    refine bodyPost_ret (results_sums2 Try.results10 _ _ (w.heap.size + 1) _ rfl (((unhide HR).three V.W1 V.W2 V.W3).below (below_new _ _))) rfl ?_
    exact ⟨⟨_, rfl, rfl⟩, hb6.alloc hb6.size _⟩

end Gr
end Go.Proofs.Ytooglfbhlncjlaa
