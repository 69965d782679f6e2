/-
  The contracts of cmp.Compare, cmp.Or (over int), impl.Better and impl.sumsWith.
-/
import Derived.Test.YtejfknkcakeakaaGrBetter
import Derived.Test.YtejfknkcakeakaaGrBest0
import Derived.Test.YtejfknkcakeakaaGrBlk
import Derived.Test.YtejfknkcakeakaaGrSumsOf
import Derived.Test.YtejfknkcakeakaaGrPre
import Derived.Deep.RegionHeld3
namespace Go.Proofs.Ytejfknkcakeakaa
namespace Gr
open Go.RowKit

/-- How two numbers compare. -/
def cmpI (x y : Int) : Int := if x < y then -1 else if y < x then 1 else 0

set_option maxRecDepth 100000 in
theorem isNaN_any (x : Int) (w : World) : Calls Try.prog 90 #[.int .i64 x] w fun e w' => e = .returned (.bool false) ∧ w' = w := by
  go_enter Try.func90, Try.ntmps90
  go_wp2
  go_ret
  exact ⟨rfl, rfl⟩

set_option maxRecDepth 100000 in
theorem compare_any (x y : Int) (w : World) : Calls Try.prog 88 #[.int .i64 x, .int .i64 y] w fun e w' => e = .returned (.int .i64 (cmpI x y)) ∧ w' = w := by
  have N0 := hide (fun w => isNaN_any x w)
  have N1 := hide (fun w => isNaN_any y w)
  have hV : cmpI x y = if x < y then -1 else if y < x then 1 else 0 := rfl
  generalize cmpI x y = V at hV ⊢
  by_cases t0 : x < y
  · rw [if_pos t0] at hV
    subst hV
    go_enter Try.func88, Try.ntmps88
    go_wp2_with fail
    refine (unhide N0 _).mono ?_
    rintro e wk ⟨rfl, rfl⟩
    go_wp2_with fail
    refine (unhide N1 _).mono ?_
    rintro e wk ⟨rfl, rfl⟩
    go_wp2
    go_ret
    exact ⟨rfl, rfl⟩
  · rw [if_neg t0] at hV
    by_cases t1 : y < x
    · rw [if_pos t1] at hV
      subst hV
      go_enter Try.func88, Try.ntmps88
      go_wp2_with fail
      refine (unhide N0 _).mono ?_
      rintro e wk ⟨rfl, rfl⟩
      go_wp2_with fail
      refine (unhide N1 _).mono ?_
      rintro e wk ⟨rfl, rfl⟩
      go_wp2
      go_ret
      exact ⟨rfl, rfl⟩
    · rw [if_neg t1] at hV
      subst hV
      go_enter Try.func88, Try.ntmps88
      go_wp2_with fail
      refine (unhide N0 _).mono ?_
      rintro e wk ⟨rfl, rfl⟩
      go_wp2_with fail
      refine (unhide N1 _).mono ?_
      rintro e wk ⟨rfl, rfl⟩
      go_wp2
      go_ret
      exact ⟨rfl, rfl⟩

/-- The first that is not 0. -/
def orI (a b c : Int) : Int := if a ≠ 0 then a else if b ≠ 0 then b else c

set_option maxRecDepth 100000 in
set_option maxHeartbeats 1000000 in
theorem or_any (a b c : Int) (g : Nat) (w : World) (h0 : w.cell? ⟨g, 0, none⟩ = some (.int .i64 a)) (h1 : w.cell? ⟨g, 1, none⟩ = some (.int .i64 b)) (h2 : w.cell? ⟨g, 2, none⟩ = some (.int .i64 c)) :
    Calls Try.prog 87 #[.slice (some ⟨g, 0, none⟩) 3 3] w fun e w' => e = .returned (.int .i64 (orI a b c)) ∧ w' = w := by
  have hV : orI a b c = if a ≠ 0 then a else if b ≠ 0 then b else c := rfl
  generalize orI a b c = V at hV ⊢
  by_cases t0 : a = 0
  · rw [if_neg (by simp [t0])] at hV
    by_cases t1 : b = 0
    · rw [if_neg (by simp [t1])] at hV
      by_cases t2 : c = 0
      · subst t0 t1 t2 hV
        go_enter Try.func87, Try.ntmps87
        go_wp2
        refine wp_loop_rounds 4 ?_
        rw [rounds_succ]; go_wp2
        rw [rounds_succ]; go_wp2
        rw [rounds_succ]; go_wp2
        rw [rounds_succ]; go_wp2
        go_ret
        exact ⟨rfl, rfl⟩
      · subst t0 t1 hV
        go_enter Try.func87, Try.ntmps87
        go_wp2
        refine wp_loop_rounds 3 ?_
        rw [rounds_succ]; go_wp2
        rw [rounds_succ]; go_wp2
        rw [rounds_succ]; go_wp2
        go_ret
        exact ⟨rfl, rfl⟩
    · rw [if_pos t1] at hV
      subst t0 hV
      go_enter Try.func87, Try.ntmps87
      go_wp2
      refine wp_loop_rounds 2 ?_
      rw [rounds_succ]; go_wp2
      rw [rounds_succ]; go_wp2
      go_ret
      exact ⟨rfl, rfl⟩
  · rw [if_pos t0] at hV
    subst hV
    go_enter Try.func87, Try.ntmps87
    go_wp2
    refine wp_loop_rounds 1 ?_
    rw [rounds_succ]; go_wp2
    go_ret
    exact ⟨rfl, rfl⟩

theorem enterOr (vs : Array Value) (w : World) : (callFunc 87 vs).run Try.prog w = .ok (.enter 87 vs) w := by kernel_rfl

theorem or_better (a b : SumsI) : decide (0 < orI (cmpI a.W1 b.W1) (cmpI a.W2 b.W2) (cmpI a.W3 b.W3)) = better a b := by
  rw [Bool.eq_iff_iff, decide_eq_true_iff]
  unfold orI cmpI better
  rcases Int.lt_trichotomy a.W1 b.W1 with h1 | h1 | h1
  · simp [h1, Int.ne_of_lt h1, Int.le_of_lt h1]
  · rcases Int.lt_trichotomy a.W2 b.W2 with h2 | h2 | h2
    · simp [h1, h2, Int.ne_of_lt h2, Int.le_of_lt h2]
    · rcases Int.lt_trichotomy a.W3 b.W3 with h3 | h3 | h3
      · simp [h1, h2, h3, Int.le_of_lt h3]
      · simp [h1, h2, h3]
      · have : ¬ a.W3 < b.W3 := by omega
        simp [h1, h2, h3, this]
    · have : ¬ a.W2 < b.W2 := by omega
      simp [h1, h2, this, Int.ne_of_gt h2]
  · have : ¬ a.W1 < b.W1 := by omega
    simp [h1, this, Int.ne_of_gt h1]

set_option maxRecDepth 100000 in
set_option maxHeartbeats 1000000 in
theorem sumsWith_any (s : SumsI) (e : EdgeI) (w : World) (h1 : 0 ≤ s.W1 ∧ s.W1 ≤ 100000000) (h2 : 0 ≤ s.W2 ∧ s.W2 ≤ 100000000) (h3 : 0 ≤ s.W3 ∧ s.W3 ≤ 100000000) (k1 : 0 ≤ e.W1 ∧ e.W1 ≤ 50) (k2 : 0 ≤ e.W2 ∧ e.W2 ≤ 50) (k3 : 0 ≤ e.W3 ∧ e.W3 ≤ 50) :
    Calls Try.prog 86 #[s.v, e.v] w fun r w' => r = .returned (addS s e).v ∧ Below w.heap.size w w' := by
  obtain ⟨s1, s2, s3⟩ := s
  obtain ⟨e1, e2, e3, e4, e5⟩ := e
  simp only at h1 h2 h3 k1 k2 k3
  unfold addS SumsI.v EdgeI.v
  simp only
  have a1 : IntKind.i64.wrap (s1 + e3) = s1 + e3 := wrap_in _ (by omega)
  have a2 : IntKind.i64.wrap (s2 + e4) = s2 + e4 := wrap_in _ (by omega)
  have a3 : IntKind.i64.wrap (s3 + e5) = s3 + e5 := wrap_in _ (by omega)
  go_enter Try.func86, Try.ntmps86
  go_wp2
  refine bodyPost_ret (results_sums1 Try.results86 _ _ (w.heap.size + 1 + 1) ⟨s1 + e3, s2 + e4, s3 + e5⟩ rfl Blk.new2) rfl ?_
  exact ⟨rfl, ((below_new _ _).alloc (by simp) _).alloc (by simp; omega) _⟩

set_option maxRecDepth 100000 in
set_option maxHeartbeats 2000000 in
theorem implBetter_any (x y : SumsI) (w : World) :
    Calls Try.prog 81 #[x.v, y.v] w fun e w' => e = .returned (.bool (better x y)) ∧ Below w.heap.size w w' := by
  have hV := or_better x y
  generalize better x y = V at hV ⊢
  unfold SumsI.v
  obtain ⟨x1, x2, x3⟩ := x
  obtain ⟨y1, y2, y3⟩ := y
  simp only at hV ⊢
  have C1 := hide (fun w => compare_any x1 y1 w)
  have C2 := hide (fun w => compare_any x2 y2 w)
  have C3 := hide (fun w => compare_any x3 y3 w)
  generalize cmpI x1 y1 = c1 at C1 hV
  generalize cmpI x2 y2 = c2 at C2 hV
  generalize cmpI x3 y3 = c3 at C3 hV
  have OR := hide (fun g w h => or_any c1 c2 c3 g w (Blk.cell (C := #[.int .i64 c1, .int .i64 c2, .int .i64 c3]) (t := 3) h 0 _ rfl) (h.cell 1 _ rfl) (h.cell 2 _ rfl))
  generalize orI c1 c2 c3 = o at OR hV
  subst hV
  go_enter Try.func81, Try.ntmps81
  go_wp2_with fail
  obtain ⟨V1, hV1⟩ : ∃ W, W = (w.alloc (Obj.cells #[Value.int .i64 x1, Value.int .i64 x2, Value.int .i64 x3] 78)).alloc (Obj.cells #[Value.int .i64 y1, Value.int .i64 y2, Value.int .i64 y3] 78) := ⟨_, rfl⟩
  rw [← hV1]
  have u0 : Blk V1 w.heap.size #[Value.int .i64 x1, Value.int .i64 x2, Value.int .i64 x3] 78 := by rw [hV1]; exact Blk.new0.alloc
  have u1 : Blk V1 (w.heap.size + 1) #[Value.int .i64 y1, Value.int .i64 y2, Value.int .i64 y3] 78 := by rw [hV1]; exact Blk.new1
  have b1 : Below w.heap.size w V1 := by rw [hV1]; exact (below_new _ _).alloc (by simp) _
  have hz := u0.lt
  have hz' := u1.lt
  clear hV1
  have p0 := u0.cell 0 _ rfl
  have p1 := u0.cell 1 _ rfl
  have p2 := u0.cell 2 _ rfl
  have q0 := u1.cell 0 _ rfl
  have q1 := u1.cell 1 _ rfl
  have q2 := u1.cell 2 _ rfl
  clear u0 u1
  have g0 : ∀ d : Grown V1.heap.size V1, d.w.cell? ⟨w.heap.size, 0, none⟩ = some (.int .i64 x1) := fun d => d.cell hz p0
  have g1 : ∀ d : Grown V1.heap.size V1, d.w.cell? ⟨w.heap.size, 1, none⟩ = some (.int .i64 x2) := fun d => d.cell hz p1
  have g2 : ∀ d : Grown V1.heap.size V1, d.w.cell? ⟨w.heap.size, 2, none⟩ = some (.int .i64 x3) := fun d => d.cell hz p2
  have k0 : ∀ d : Grown V1.heap.size V1, d.w.cell? ⟨w.heap.size + 1, 0, none⟩ = some (.int .i64 y1) := fun d => d.cell hz' q0
  have k1 : ∀ d : Grown V1.heap.size V1, d.w.cell? ⟨w.heap.size + 1, 1, none⟩ = some (.int .i64 y2) := fun d => d.cell hz' q1
  have k2 : ∀ d : Grown V1.heap.size V1, d.w.cell? ⟨w.heap.size + 1, 2, none⟩ = some (.int .i64 y3) := fun d => d.cell hz' q2
  clear p0 p1 p2 q0 q1 q2
  refine wp_region_pre V1.heap.size 15 4 #[true, true, true, true, true, true, true, true, true, true, true, true, true, true, true, false, false, false, false] (by kernel_rfl) (by kernel_rfl) (by kernel_rfl) (by kernel_rfl) (by kernel_rfl) (by kernel_rfl) ?_
  (try simp only [List.take_succ_cons, List.take_zero])
  repeat (go_big_quiet_step (first
    | (go_at_call_of 88 (Value.int IntKind.i64 x1); exact Calls.grown_same (unhide C1 _))
    | (go_at_call_of 88 (Value.int IntKind.i64 x2); exact Calls.grown_same (unhide C2 _))
    | (go_at_call_of 88 (Value.int IntKind.i64 x3); exact Calls.grown_same (unhide C3 _))))
  refine wpQuiet_nil ?_
  rintro w5 ⟨d5, rfl⟩
  obtain ⟨W5, hb5⟩ := d5
  have b5 := b1.trans (hb5.mono b1.size)
  dsimp only
  clear g0 g1 g2 k0 k1 k2 hb5 b1
  refine wpAny_ready (rs := [15]) (fuel := 3) (by kernel_rfl) (by simp) ?_
  refine AllReady.cons (i := 15) rfl (fun K hK => ?_) AllReady.nil
  go_simp
  refine hK _ _ ?_
  clear hK K
  refine wpAny_ready (rs := [16]) (fuel := 2) (by kernel_rfl) (by simp) ?_
  refine AllReady.cons (i := 16) rfl (fun K hK => ?_) AllReady.nil
  refine step_call (by rfl) 87 _ _ (by rfl) #[.slice (some ⟨W5.heap.size, 0, none⟩) 3 3] (by first | rfl | (simp [Act.eval]; done)) enterOr _ (unhide OR W5.heap.size _ Blk.new0) ?_
  rintro e w6 ⟨rfl, rfl⟩
  refine ⟨_, rfl, ?_⟩
  refine hK _ _ ?_
  clear hK K
  (try simp only [Act.put, List.setIfInBounds_toArray])
  refine wpAny_ready (rs := [17]) (fuel := 1) (by kernel_rfl) (by simp) ?_
  refine AllReady.cons (i := 17) rfl (fun K hK => ?_) AllReady.nil
  go_simp
  refine hK _ _ ?_
  clear hK K
  refine wpAny_ready (rs := [18]) (fuel := 0) (by kernel_rfl) (by simp) ?_
  refine AllReady.cons (i := 18) rfl (fun K hK => ?_) AllReady.nil
  go_simp
  refine hK _ _ ?_
  clear hK K
  refine ⟨by kernel_rfl, ?_⟩
  go_wp2
  go_ret
  exact ⟨rfl, b5.trans ((below_new _ _).mono b5.size)⟩

theorem implBetter_gen (B : Nat) (v : Value) (x : SumsI) (u : Value) (y : SumsI) (w : World) (_hB : B ≤ w.heap.size) (hv : SuAt w v B x) (hu : SuAt w u B y) :
    Calls Try.prog 81 #[v, u] w fun e w' => e = .returned (.bool (better x y)) ∧ Below w.heap.size w w' := by
  unfold SuAt at hv hu
  subst hv hu
  exact implBetter_any x y w
end Gr
end Go.Proofs.Ytejfknkcakeakaa
