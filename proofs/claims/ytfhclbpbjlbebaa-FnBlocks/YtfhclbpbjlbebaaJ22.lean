/-
  Texts of this claim, one behind the other: GrImplE, GrBestC, GrBest2.
-/
import Derived.Test.YtfhclbpbjlbebaaJ3
import Derived.Test.YtfhclbpbjlbebaaJ13
import Derived.Test.YtfhclbpbjlbebaaJ8
import Derived.Test.YtfhclbpbjlbebaaJ21
import Derived.Test.YtfhclbpbjlbebaaJ2
import Derived.Deep.RegionHeld3
import Derived.Deep.DeepCutAuto
import Derived.Deep.DeepFit

/-
  The contracts of cmp.Compare, cmp.Or (over int), impl.Better and impl.sumsWith.
-/
namespace Go.Proofs.Ytfhclbpbjlbebaa
namespace Gr
open Go.RowKit

/-- How two numbers compare. -/
def cmpI (x y : Int) : Int := if x < y then -1 else if y < x then 1 else 0

set_option maxRecDepth 100000 in
theorem isNaN_any (x : Int) (w : World) : Calls Try.prog 83 #[.int .i64 x] w fun e w' => e = .returned (.bool false) ∧ w' = w := by
  go_enter Try.func83, Try.ntmps83
  go_wp2
  go_ret
  exact ⟨rfl, rfl⟩

set_option maxRecDepth 100000 in
theorem compare_any (x y : Int) (w : World) : Calls Try.prog 75 #[.int .i64 x, .int .i64 y] w fun e w' => e = .returned (.int .i64 (cmpI x y)) ∧ w' = w := by
  have N0 := hide (fun w => isNaN_any x w)
  have N1 := hide (fun w => isNaN_any y w)
  have hV : cmpI x y = if x < y then -1 else if y < x then 1 else 0 := rfl
  generalize cmpI x y = V at hV ⊢
  by_cases t0 : x < y
  · rw [if_pos t0] at hV
    subst hV
    go_enter Try.func75, Try.ntmps75
    go_wp2_with fail
    refine (unhide N0 _).mono ?_
    rintro e wk ⟨rfl, rfl⟩
    go_wp2_with fail
    refine (unhide N1 _).mono ?_
    rintro e wk ⟨rfl, rfl⟩
    go_wp2
    go_ret
    exact ⟨rfl, rfl⟩
  · rw [if_neg t0] at hV
    by_cases t1 : y < x
    · rw [if_pos t1] at hV
      subst hV
      go_enter Try.func75, Try.ntmps75
      go_wp2_with fail
      refine (unhide N0 _).mono ?_
      rintro e wk ⟨rfl, rfl⟩
      go_wp2_with fail
      refine (unhide N1 _).mono ?_
      rintro e wk ⟨rfl, rfl⟩
      go_wp2
      go_ret
      exact ⟨rfl, rfl⟩
    · rw [if_neg t1] at hV
      subst hV
      go_enter Try.func75, Try.ntmps75
      go_wp2_with fail
      refine (unhide N0 _).mono ?_
      rintro e wk ⟨rfl, rfl⟩
      go_wp2_with fail
      refine (unhide N1 _).mono ?_
      rintro e wk ⟨rfl, rfl⟩
      go_wp2
      go_ret
      exact ⟨rfl, rfl⟩

/-- The first that is not 0. -/
def orI (a b c : Int) : Int := if a ≠ 0 then a else if b ≠ 0 then b else c

set_option maxRecDepth 100000 in
set_option maxHeartbeats 1000000 in
theorem or_any (a b c : Int) (g : Nat) (w : World) (h0 : w.cell? ⟨g, 0, none⟩ = some (.int .i64 a)) (h1 : w.cell? ⟨g, 1, none⟩ = some (.int .i64 b)) (h2 : w.cell? ⟨g, 2, none⟩ = some (.int .i64 c)) :
    Calls Try.prog 74 #[.slice (some ⟨g, 0, none⟩) 3 3] w fun e w' => e = .returned (.int .i64 (orI a b c)) ∧ w' = w := by
  have hV : orI a b c = if a ≠ 0 then a else if b ≠ 0 then b else c := rfl
  generalize orI a b c = V at hV ⊢
  by_cases t0 : a = 0
  · rw [if_neg (by simp [t0])] at hV
    by_cases t1 : b = 0
    · rw [if_neg (by simp [t1])] at hV
      by_cases t2 : c = 0
      · subst t0 t1 t2 hV
        go_enter Try.func74, Try.ntmps74
        go_wp2
        refine wp_loop_rounds 4 ?_
        rw [rounds_succ]; go_wp2
        rw [rounds_succ]; go_wp2
        rw [rounds_succ]; go_wp2
        rw [rounds_succ]; go_wp2
        go_ret
        exact ⟨rfl, rfl⟩
      · subst t0 t1 hV
        go_enter Try.func74, Try.ntmps74
        go_wp2
        refine wp_loop_rounds 3 ?_
        rw [rounds_succ]; go_wp2
        rw [rounds_succ]; go_wp2
        rw [rounds_succ]; go_wp2
        go_ret
        exact ⟨rfl, rfl⟩
    · rw [if_pos t1] at hV
      subst t0 hV
      go_enter Try.func74, Try.ntmps74
      go_wp2
      refine wp_loop_rounds 2 ?_
      rw [rounds_succ]; go_wp2
      rw [rounds_succ]; go_wp2
      go_ret
      exact ⟨rfl, rfl⟩
  · rw [if_pos t0] at hV
    subst hV
    go_enter Try.func74, Try.ntmps74
    go_wp2
    refine wp_loop_rounds 1 ?_
    rw [rounds_succ]; go_wp2
    go_ret
    exact ⟨rfl, rfl⟩

theorem enterOr (vs : Array Value) (w : World) : (callFunc 74 vs).run Try.prog w = .ok (.enter 74 vs) w := by kernel_rfl

theorem or_better (a b : SumsI) : decide (0 < orI (cmpI a.W1 b.W1) (cmpI a.W2 b.W2) (cmpI a.W3 b.W3)) = better a b := by
  rw [Bool.eq_iff_iff, decide_eq_true_iff]
  unfold orI cmpI better
  rcases Int.lt_trichotomy a.W1 b.W1 with h1 | h1 | h1
  · simp [h1, Int.ne_of_lt h1, Int.le_of_lt h1]
  · rcases Int.lt_trichotomy a.W2 b.W2 with h2 | h2 | h2
    · simp [h1, h2, Int.ne_of_lt h2, Int.le_of_lt h2]
    · rcases Int.lt_trichotomy a.W3 b.W3 with h3 | h3 | h3
      · simp [h1, h2, h3, Int.le_of_lt h3]
      · simp [h1, h2, h3]
      · have : ¬ a.W3 < b.W3 := by omega
        simp [h1, h2, h3, this]
    · have : ¬ a.W2 < b.W2 := by omega
      simp [h1, h2, this, Int.ne_of_gt h2]
  · have : ¬ a.W1 < b.W1 := by omega
    simp [h1, this, Int.ne_of_gt h1]

set_option maxRecDepth 100000 in
set_option maxHeartbeats 1000000 in
theorem sumsWith_any (s : SumsI) (e : EdgeI) (w : World) (h1 : 0 ≤ s.W1 ∧ s.W1 ≤ 100000000) (h2 : 0 ≤ s.W2 ∧ s.W2 ≤ 100000000) (h3 : 0 ≤ s.W3 ∧ s.W3 ≤ 100000000) (k1 : 0 ≤ e.W1 ∧ e.W1 ≤ 50) (k2 : 0 ≤ e.W2 ∧ e.W2 ≤ 50) (k3 : 0 ≤ e.W3 ∧ e.W3 ≤ 50) :
    Calls Try.prog 73 #[s.v, e.v] w fun r w' => r = .returned (addS s e).v ∧ Below w.heap.size w w' := by
  obtain ⟨s1, s2, s3⟩ := s
  obtain ⟨e1, e2, e3, e4, e5⟩ := e
  simp only at h1 h2 h3 k1 k2 k3
  unfold addS SumsI.v EdgeI.v
  simp only
  have a1 : IntKind.i64.wrap (s1 + e3) = s1 + e3 := wrap_in _ (by omega)
  have a2 : IntKind.i64.wrap (s2 + e4) = s2 + e4 := wrap_in _ (by omega)
  have a3 : IntKind.i64.wrap (s3 + e5) = s3 + e5 := wrap_in _ (by omega)
  go_enter Try.func73, Try.ntmps73
  go_wp2
  refine bodyPost_ret (results_sums1 Try.results73 _ _ (w.heap.size + 1 + 1) ⟨s1 + e3, s2 + e4, s3 + e5⟩ rfl Blk.new2) rfl ?_
  exact ⟨rfl, ((below_new _ _).alloc (by simp) _).alloc (by simp; omega) _⟩

set_option maxRecDepth 100000 in
set_option maxHeartbeats 2000000 in
theorem implBetter_any (x y : SumsI) (w : World) :
    Calls Try.prog 55 #[x.v, y.v] w fun e w' => e = .returned (.bool (better x y)) ∧ Below w.heap.size w w' := by
  have hV := or_better x y
  generalize better x y = V at hV ⊢
  unfold SumsI.v
  obtain ⟨x1, x2, x3⟩ := x
  obtain ⟨y1, y2, y3⟩ := y
  simp only at hV ⊢
  have C1 := hide (fun w => compare_any x1 y1 w)
  have C2 := hide (fun w => compare_any x2 y2 w)
  have C3 := hide (fun w => compare_any x3 y3 w)
  generalize cmpI x1 y1 = c1 at C1 hV
  generalize cmpI x2 y2 = c2 at C2 hV
  generalize cmpI x3 y3 = c3 at C3 hV
  have OR := hide (fun g w h => or_any c1 c2 c3 g w (Blk.cell (C := #[.int .i64 c1, .int .i64 c2, .int .i64 c3]) (t := 3) h 0 _ rfl) (h.cell 1 _ rfl) (h.cell 2 _ rfl))
  generalize orI c1 c2 c3 = o at OR hV
  subst hV
  go_enter Try.func55, Try.ntmps55
  go_wp2_with fail
  obtain ⟨V1, hV1⟩ : ∃ W, W = (w.alloc (Obj.cells #[Value.int .i64 x1, Value.int .i64 x2, Value.int .i64 x3] 66)).alloc (Obj.cells #[Value.int .i64 y1, Value.int .i64 y2, Value.int .i64 y3] 66) := ⟨_, rfl⟩
  rw [← hV1]
  have u0 : Blk V1 w.heap.size #[Value.int .i64 x1, Value.int .i64 x2, Value.int .i64 x3] 66 := by rw [hV1]; exact Blk.new0.alloc
  have u1 : Blk V1 (w.heap.size + 1) #[Value.int .i64 y1, Value.int .i64 y2, Value.int .i64 y3] 66 := by rw [hV1]; exact Blk.new1
  have b1 : Below w.heap.size w V1 := by rw [hV1]; exact (below_new _ _).alloc (by simp) _
  have hz := u0.lt
  have hz' := u1.lt
  clear hV1
  have p0 := u0.cell 0 _ rfl
  have p1 := u0.cell 1 _ rfl
  have p2 := u0.cell 2 _ rfl
  have q0 := u1.cell 0 _ rfl
  have q1 := u1.cell 1 _ rfl
  have q2 := u1.cell 2 _ rfl
  clear u0 u1
  have g0 : ∀ d : Grown V1.heap.size V1, d.w.cell? ⟨w.heap.size, 0, none⟩ = some (.int .i64 x1) := fun d => d.cell hz p0
  have g1 : ∀ d : Grown V1.heap.size V1, d.w.cell? ⟨w.heap.size, 1, none⟩ = some (.int .i64 x2) := fun d => d.cell hz p1
  have g2 : ∀ d : Grown V1.heap.size V1, d.w.cell? ⟨w.heap.size, 2, none⟩ = some (.int .i64 x3) := fun d => d.cell hz p2
  have k0 : ∀ d : Grown V1.heap.size V1, d.w.cell? ⟨w.heap.size + 1, 0, none⟩ = some (.int .i64 y1) := fun d => d.cell hz' q0
  have k1 : ∀ d : Grown V1.heap.size V1, d.w.cell? ⟨w.heap.size + 1, 1, none⟩ = some (.int .i64 y2) := fun d => d.cell hz' q1
  have k2 : ∀ d : Grown V1.heap.size V1, d.w.cell? ⟨w.heap.size + 1, 2, none⟩ = some (.int .i64 y3) := fun d => d.cell hz' q2
  clear p0 p1 p2 q0 q1 q2
  refine wp_region_pre V1.heap.size 15 4 #[true, true, true, true, true, true, true, true, true, true, true, true, true, true, true, false, false, false, false] (by kernel_rfl) (by kernel_rfl) (by kernel_rfl) (by kernel_rfl) (by kernel_rfl) (by kernel_rfl) ?_
  (try simp only [List.take_succ_cons, List.take_zero])
  repeat (go_big_quiet_step (first
    | (go_at_call_of 75 (Value.int IntKind.i64 x1); exact Calls.grown_same (unhide C1 _))
    | (go_at_call_of 75 (Value.int IntKind.i64 x2); exact Calls.grown_same (unhide C2 _))
    | (go_at_call_of 75 (Value.int IntKind.i64 x3); exact Calls.grown_same (unhide C3 _))))
  refine wpQuiet_nil ?_
  rintro w5 ⟨d5, rfl⟩
  obtain ⟨W5, hb5⟩ := d5
  have b5 := b1.trans (hb5.mono b1.size)
  dsimp only
  clear g0 g1 g2 k0 k1 k2 hb5 b1
  refine wpAny_ready (rs := [15]) (fuel := 3) (by kernel_rfl) (by simp) ?_
  refine AllReady.cons (i := 15) rfl (fun K hK => ?_) AllReady.nil
  go_simp
  refine hK _ _ ?_
  clear hK K
  refine wpAny_ready (rs := [16]) (fuel := 2) (by kernel_rfl) (by simp) ?_
  refine AllReady.cons (i := 16) rfl (fun K hK => ?_) AllReady.nil
  refine step_call (by rfl) 74 _ _ (by rfl) #[.slice (some ⟨W5.heap.size, 0, none⟩) 3 3] (by first | rfl | (simp [Act.eval]; done)) enterOr _ (unhide OR W5.heap.size _ Blk.new0) ?_
  rintro e w6 ⟨rfl, rfl⟩
  refine ⟨_, rfl, ?_⟩
  refine hK _ _ ?_
  clear hK K
  (try simp only [Act.put, List.setIfInBounds_toArray])
  refine wpAny_ready (rs := [17]) (fuel := 1) (by kernel_rfl) (by simp) ?_
  refine AllReady.cons (i := 17) rfl (fun K hK => ?_) AllReady.nil
  go_simp
  refine hK _ _ ?_
  clear hK K
  refine wpAny_ready (rs := [18]) (fuel := 0) (by kernel_rfl) (by simp) ?_
  refine AllReady.cons (i := 18) rfl (fun K hK => ?_) AllReady.nil
  go_simp
  refine hK _ _ ?_
  clear hK K
  refine ⟨by kernel_rfl, ?_⟩
  go_wp2
  go_ret
  exact ⟨rfl, b5.trans ((below_new _ _).mono b5.size)⟩

theorem implBetter_gen (B : Nat) (v : Value) (x : SumsI) (u : Value) (y : SumsI) (w : World) (_hB : B ≤ w.heap.size) (hv : SuAt w v B x) (hu : SuAt w u B y) :
    Calls Try.prog 55 #[v, u] w fun e w' => e = .returned (.bool (better x y)) ∧ Below w.heap.size w w' := by
  unfold SuAt at hv hu
  subst hv hu
  exact implBetter_any x y w
end Gr
end Go.Proofs.Ytfhclbpbjlbebaa

/-
  The contract of spec.l09Best.
-/
namespace Go.Proofs.Ytfhclbpbjlbebaa
namespace Gr
open Go.RowKit

/-- What a call of l09Best for the last n vertices tells. -/
def BestC (v : Value) (B : Nat) (s : Int) (Q : List EdgeI) (n : Nat) : Prop :=
  ∀ (U : List Int) (ad : Addr) (c B' : Nat) (F : Int) (w : World), F = s - (n : Int) → n ≤ 9 → U.length + n ≤ 9 → B ≤ w.heap.size → B' ≤ w.heap.size → GrAt w v B s Q → IntsAt w (some ad) U.length B' U →
    Calls Try.prog 34 #[v, .int .i64 F, .slice (some ad) U.length c] w fun e w' => e = .returned (.tuple #[(best Q s n U).1.v, .int .i64 (best Q s n U).2]) ∧ Below w.heap.size w w'

theorem bloop_step (Q : List EdgeI) (f : Int) (U : List Int) (rec : List Int → SumsI × Int) (m : Nat) (b : Int) (acc : SumsI × Int) : bloop Q f U rec (m + 1) b acc = bloop Q f U rec m (b + 1) (bstep Q f U rec acc b) := rfl

theorem bstep_out (Q : List EdgeI) (f : Int) (U : List Int) (rec : List Int → SumsI × Int) (b : Int) (acc : SumsI × Int) (h : atFrom f b 0 Q < 0 ∨ inK U b = true) : bstep Q f U rec acc b = acc := by
  unfold bstep
  rw [if_pos h]

theorem bstep_in (Q : List EdgeI) (f : Int) (U : List Int) (rec : List Int → SumsI × Int) (b : Int) (acc : SumsI × Int) (h : ¬ (atFrom f b 0 Q < 0 ∨ inK U b = true)) : bstep Q f U rec acc b = (if better (addS (rec (U ++ [b])).1 (edgeN Q (atFrom f b 0 Q))) acc.1 = true then addS (rec (U ++ [b])).1 (edgeN Q (atFrom f b 0 Q)) else acc.1, acc.2 + (rec (U ++ [b])).2) := by
  unfold bstep
  rw [if_neg h]

theorem ints_cells {w : World} {ad : Addr} {B : Nat} {U : List Int} (h : IntsAt w (some ad) U.length B U) : ∀ j u, (intsV U)[j]? = some u → w.cell? (ad.add j) = some u := fun j u hu => by
  have hj : j < U.length := by
    have := (List.getElem?_eq_some_iff.1 hu).1
    simpa [intsV] using this
  obtain ⟨b, off, e, _, hc⟩ := h.2 j hj
  obtain rfl := Option.some.inj e
  have e2 : u = .int .i64 U[j] := by
    unfold intsV at hu
    rw [List.getElem?_map, List.getElem?_eq_getElem hj] at hu
    exact (Option.some.inj hu).symm
  rw [e2, ← hc]
  unfold Addr.add
  split <;> simp_all

theorem ints_mono {w : World} {a : Option Addr} {len B C : Nat} {K : List Int} (h : IntsAt w a len B K) (hC : B ≤ C) : IntsAt w a len C K := by
  refine ⟨h.1, fun j hj => ?_⟩
  obtain ⟨b, off, e, hb, hc⟩ := h.2 j hj
  exact ⟨b, off, e, by omega, hc⟩

theorem intsV_one (U : List Int) : ∀ u ∈ intsV U, u.oneCell' = true := fun u hu => by
  unfold intsV at hu
  obtain ⟨x, _, rfl⟩ := List.mem_map.1 hu
  rfl

theorem intsV_len (U : List Int) : (intsV U).length = U.length * 1 := by simp [intsV]

set_option maxRecDepth 100000 in
set_option maxHeartbeats 8000000 in
theorem best_step (v : Value) (B : Nat) (s : Int) (Q : List EdgeI) (hg : graphOk s Q = true) (h1 : Q.length ≤ 1048576) (n : Nat) (ih : ∀ m, m < n → BestC v B s Q m) : BestC v B s Q n := by
  intro U ad c B' F w hF hn9 hUn hB hB' hv hU
  have AT := hide (fun x y w1 (hb : Below w.heap.size w w1) => specAt_any v B s x y Q h1 w1 (by have := hb.size; omega) (hv.below hb hB))
  have IN := hide (fun x w1 (hb : Below w.heap.size w w1) => l03In_any (some ad) U.length c B' U x (by omega) w1 (hU.below hb hB'))
  have IH := hide (fun m (hm : m < n) => ih m hm)
  have HV := hide hv
  have HU := hide hU
  obtain ⟨i0, hi, hz0, hz1, hz2⟩ := info_parts info3
  obtain ⟨a0, n0, c0, rfl, hE⟩ := hv
  obtain ⟨hL0, hc0⟩ := hE
  have HC0 := hide hc0
  have HL0 := hide hL0
  have hs := graph_sound hg
  obtain ⟨hs0, hs9, hed, _⟩ := hs
  have HED := hide hed
  have HBB := hide (fun m U (hm : m ≤ 9) => best_bounds hg m U hm)
  have HSK := hide (fun m (h : inK U (s - ((m + 1 : Nat) : Int)) = true) => best_skip Q s m U h)
  have HLP := hide (fun m (h : inK U (s - ((m + 1 : Nat) : Int)) = false) => best_loop Q s m U h)
  have HZ : Hid (best Q s 0 U = (⟨0, 0, 0⟩, 1)) := rfl
  obtain ⟨T, hT⟩ : ∃ T, T = best Q s n U := ⟨_, rfl⟩
  have HT0 : Hid (T = best Q s n U) := hT
  rw [← hT]
  clear hT ih hU hc0 hL0 hed
  go_enter Try.func34, Try.ntmps34
  go_wp2_with fail
  obtain ⟨V1, hV1⟩ : ∃ W, W = w.alloc (Obj.cells #[Value.int .i64 s, Value.slice a0 n0 c0] 26) := ⟨_, rfl⟩
  obtain ⟨V2, hV2⟩ : ∃ W, W = V1.alloc (Obj.cells #[Value.int .i64 0, Value.int .i64 0, Value.int .i64 0] 66) := ⟨_, rfl⟩
  rw [← hV1, ← hV2]
  have z1 : V1.heap.size = w.heap.size + 1 := by rw [hV1]; simp
  have z2 : V2.heap.size = w.heap.size + 1 + 1 := by rw [hV2]; simp [z1]
  have b1 : Below w.heap.size w V1 := by rw [hV1]; exact below_new _ _
  have b2 : Below w.heap.size w V2 := by rw [hV2]; exact b1.alloc b1.size _
  have x1 : GBox V1 w.heap.size s (.slice a0 n0 c0) := by rw [hV1]; exact GBox.new _ _ _
  have x2 : GBox V2 w.heap.size s (.slice a0 n0 c0) := by rw [hV2]; exact x1.below (below_new _ _)
  have r2 : SBox V2 (w.heap.size + 1) ⟨0, 0, 0⟩ := by rw [hV2, ← z1]; exact SBox.new _ ⟨0, 0, 0⟩
  clear hV1 hV2 b1 x1 z1
  obtain ⟨p0, p1⟩ := x2.cells
  go_loopw [1] (fun i wr => ∃ (k : Nat) (f : Int), i = .int .i64 f ∧ f = s - (k : Int) ∧ k ≤ n ∧ Hid (T = best Q s k U) ∧ wr = V2) (fun i _ => (s - intOf i).toNat)
  case atStart => exact ⟨n, F, rfl, hF, Nat.le_refl _, unhide HT0, rfl⟩
  case round =>
    obtain ⟨k, f, rfl, hf, hk, HR, rfl⟩ := hrel
    cases k with
    | zero =>
      have hfs : ¬ f < s := by omega
      have hr := (unhide HR).trans (unhide HZ)
      subst hr
      obtain ⟨u0, u1, u2⟩ := r2.cells
      have uf := r2.froz
      have HR2 := hide r2
      clear r2 x2 HR
      go_wp2
      (try simp only [Exit.inBlock, Exit.then])
      refine bodyPost_ret (results_sums2 Try.results34 _ _ (w.heap.size + 1) _ rfl ((unhide HR2).three 0 0 0)) rfl ?_
      exact ⟨rfl, b2.trans ((kept3 _ (w.heap.size + 1) _ _ _).below b2.size (fun i hi => by omega))⟩
    | succ k =>
      have hfs : f < s := by omega
      have hf0 : -9 ≤ f := by omega
      have HF := hide hf
      clear hf
      have INf := hide (unhide IN f)
      cases hin : inK U f with
      | true =>
        rw [hin] at INf
        have HR' : Hid (T = best Q s k U) := (unhide HR).trans (unhide HSK k (by rw [← unhide HF]; exact hin))
        clear hin HR
        go_wp2_with fail
        go_fit (unhide INf _ b2)
        rintro e wk ⟨rfl, rfl⟩
        go_wp2
        go_roundw
        case rel => exact ⟨k, f + 1, by go_num, (by have := unhide HF; omega), by omega, unhide HR', by first | rfl | trivial⟩
        case measure => simp [intOf]; omega
      | false =>
        rw [hin] at INf
        have hr := (unhide HR).trans (unhide HLP k (by rw [← unhide HF]; exact hin))
        rw [← unhide HF] at hr
        have BK := hide (fun U' ad' c' w1 (hl : U'.length + k ≤ 9) (hb : Below w.heap.size w w1) hI => unhide IH k (by omega) U' ad' c' w1.heap.size (f + 1) w1 (by have := unhide HF; omega) (by omega) hl (by have := hb.size; omega) (Nat.le_refl _) ((unhide HV).below hb hB) hI)
        obtain ⟨rec, hrec⟩ : ∃ r : List Int → SumsI × Int, r = fun V => best Q s k V := ⟨_, rfl⟩
        rw [← hrec] at hr
        have hrU : best Q s k U = rec U := by rw [hrec]
        rw [hrU] at hr
        have HBK : Hid (∀ V, SB (rec V).1 (k : Int) ∧ 1 ≤ (rec V).2 ∧ (rec V).2 ≤ 1000000000) := fun V => by
          have h := unhide HBB k V (by omega)
          rw [hrec]
          exact ⟨h.1, h.2.1, Int.le_trans h.2.2 (pow_big k (by omega))⟩
        have hrV : ∀ V, best Q s k V = rec V := fun V => by rw [hrec]
        simp only [hrV] at BK
        have HU2 := hide (ints_mono ((unhide HU).below b2 hB') (show B' ≤ wr.heap.size by have := b2.size; omega))
        have HR' := hide hr
        clear hr hrec hrU hrV HR hin IH HBB HSK HLP
        have e29 : decide (s ≤ f) = false := decide_eq_false (by omega)
        go_wp2_with fail
        go_fit (unhide INf _ b2)
        rintro e wk ⟨rfl, rfl⟩
        go_wp2_with fail
        go_fit (unhide BK U ad c _ (by omega) b2 (unhide HU2))
        rintro e w5 ⟨rfl, hb5⟩
        have x5 := x2.below hb5
        have r5 := r2.below hb5
        have b5 : Below w.heap.size w w5 := b2.trans (hb5.mono b2.size)
        have hr5l := r5.lt
        have HX5 := hide x5
        have HR5 := hide r5
        have hbU := unhide HBK U
        unfold SumsI.v
        generalize rec U = t0 at HR' hbU ⊢
        obtain ⟨t0, tc⟩ := t0
        simp only at hbU ⊢
        obtain ⟨hb1, hb2, hb3⟩ := hbU
        have HS6 : Hid (SBox (w5.alloc (Obj.cells #[Value.int .i64 t0.W1, Value.int .i64 t0.W2, Value.int .i64 t0.W3] 66)) w5.heap.size t0) := SBox.new _ _
        clear x2 r2 p0 p1 hb5 x5 r5 INf
        go_wp2_with fail
        go_loopw [9, 10] (fun cnt i wr => ∃ (m : Nat) (bb : Int) (acc : SumsI) (ct : Int), i = .int .i64 bb ∧ cnt = .int .i64 ct ∧ Hid (bb = s - (m : Int)) ∧ m ≤ k ∧ Hid (T = bloop Q f U rec m bb (acc, ct)) ∧ Hid (SB acc ((k : Int) + 1)) ∧ 1 ≤ ct ∧ ct ≤ (10 - (m : Int)) * 1000000000 ∧ SBox wr w5.heap.size acc ∧ Below w5.heap.size w5 wr) (fun _ i _ => (s - intOf i).toNat)
        case atStart => exact ⟨k, f + 1, t0, tc, rfl, rfl, (by show _ = _; have := unhide HF; omega), Nat.le_refl _, (by show _ = _; have e := unhide HF; rw [show f + 1 = s - (k : Int) by omega]; exact unhide HR'), hb1.mono (by omega), hb2, (by omega), unhide HS6, below_new _ _⟩
        case round =>
          clear HR' hb1 hb2 hb3 HS6
          obtain ⟨m, bb, acc, ct, rfl, rfl, HBE, hmk, HR, HSA, hc1, hc2, hbx, hb6⟩ := hrel
          have x6 := (unhide HX5).below hb6
          have r6 := (unhide HR5).below hb6
          have b6 : Below w.heap.size w wr := b5.trans (hb6.mono b5.size)
          obtain ⟨p0, p1⟩ := x6.cells
          have hz6 := hb6.size
          have hx6l := x6.lt
          cases m with
          | zero =>
            have hbs : ¬ bb < s := by have := unhide HBE; omega
            have hr := unhide HR
            have hr' : T = (acc, ct) := hr
            subst hr'
            obtain ⟨u0, u1, u2⟩ := r6.cells
            have uf := r6.froz
            obtain ⟨q0, q1, q2⟩ := hbx.cells
            have HR6 := hide r6
            clear r6 x6 HR hr
            go_wp2
            (try simp only [Exit.inBlock, Exit.then])
            refine bodyPost_ret (results_sums2 Try.results34 _ _ (w.heap.size + 1) _ rfl ((unhide HR6).three acc.W1 acc.W2 acc.W3)) rfl ?_
            exact ⟨rfl, b6.trans ((kept3 _ (w.heap.size + 1) _ _ _).below b6.size (fun i hi => by omega))⟩
          | succ m =>
            have hbs : bb < s := by have := unhide HBE; omega
            have hbf : f < bb := by have := unhide HBE; have := unhide HF; omega
            have ATb := hide (unhide AT f bb)
            have INb := hide (unhide IN bb)
            have hr := unhide HR
            rw [bloop_step] at hr
            have HBX := hide hbx
            have hbxl := hbx.lt
            have HOUT := hide (fun h => bstep_out Q f U rec bb (acc, ct) h)
            have HINS := hide (fun h => bstep_in Q f U rec bb (acc, ct) h)
            have HEDG := hide (fun (h : 0 ≤ atFrom f bb 0 Q) => edgeN_at h)
            generalize atFrom f bb 0 Q = at1 at ATb HOUT HINS HEDG
            clear hbx x6 r6 HR
            by_cases ha : at1 < 0
            · rw [unhide HOUT (.inl ha)] at hr
              have HRN := hide hr
              clear hr HOUT HINS HEDG INb
              go_wp2_with fail
              go_fit (unhide ATb wr b6)
              rintro e w7 ⟨rfl, hb7⟩
              obtain ⟨p0', p1'⟩ := ((unhide HX5).below (hb6.trans (hb7.mono hb6.size))).cells
              have HB7 := hide (hb6.trans (hb7.mono hb6.size))
              have HS7 := hide ((unhide HBX).below hb7)
              clear hb7 p0 p1
              go_wp2
              go_roundw
              case rel => exact ⟨m, bb + 1, acc, ct, by go_num, rfl, (by show _ = _; have := unhide HBE; omega), by omega, unhide HRN, HSA, hc1, by omega, unhide HS7, unhide HB7⟩
              case measure => simp [intOf]; omega
            · have ea : decide (at1 < 0) = false := decide_eq_false ha
              cases hin : inK U bb with
              | true =>
                rw [unhide HOUT (.inr hin)] at hr
                rw [hin] at INb
                have HRN := hide hr
                clear hr HOUT HINS HEDG hin
                go_wp2_with fail
                go_fit (unhide ATb wr b6)
                rintro e w7 ⟨rfl, hb7⟩
                have b7 : Below w.heap.size w w7 := b6.trans (hb7.mono b6.size)
                obtain ⟨p0', p1'⟩ := ((unhide HX5).below (hb6.trans (hb7.mono hb6.size))).cells
                have HB7 := hide (hb6.trans (hb7.mono hb6.size))
                have HS7 := hide ((unhide HBX).below hb7)
                clear hb7 p0 p1
                go_wp2_with fail
                go_fit (unhide INb w7 b7)
                rintro e w8 ⟨rfl, rfl⟩
                go_wp2
                go_roundw
                case rel => exact ⟨m, bb + 1, acc, ct, by go_num, rfl, (by show _ = _; have := unhide HBE; omega), by omega, unhide HRN, HSA, hc1, by omega, unhide HS7, unhide HB7⟩
                case measure => simp [intOf]; omega
              | false =>
                rw [unhide HINS (by rw [hin]; simp; omega)] at hr
                rw [hin] at INb
                obtain ⟨i, hiQ, ei, eE, _⟩ := unhide HEDG (by omega)
                have heok := unhide HED _ (List.getElem_mem hiQ)
                rw [eE] at hr
                have b6' := b6
                go_wp2_with fail
                go_fit (unhide ATb wr b6)
                rintro e w7 ⟨rfl, hb7⟩
                have b7 : Below w.heap.size w w7 := b6.trans (hb7.mono b6.size)
                have x7 := (unhide HX5).below (hb6.trans (hb7.mono hb6.size))
                have HB7 := hide (hb6.trans (hb7.mono hb6.size))
                have HS7 := hide ((unhide HBX).below hb7)
                have hz7 := hb7.size
                obtain ⟨p0', p1'⟩ := x7.cells
                have hx7l := x7.lt
                clear hb7 p0 p1 HBX
                go_wp2_with fail
                go_fit (unhide INb w7 b7)
                rintro e w8 ⟨rfl, hw8⟩
                have hw9 := hw8.symm
                subst hw9
                clear hw8
                have HX7 := hide x7
                have BK2 : Hid (∀ (g c' : Nat) (W : World), W.ownsRow w7.heap.size 3 1 (.slice (some ⟨g, 0, none⟩) (U.length + 1) c') (U.length + 1) (intsV U ++ [.int .i64 bb]) → Fresh w7 W → Calls Try.prog 34 #[.agg #[.int .i64 s, .slice a0 n0 c0], .int .i64 (f + 1), .slice (some ⟨g, 0, none⟩) (U.length + 1) c'] W fun e w' => e = .returned (.tuple #[(rec (U ++ [bb])).1.v, .int .i64 (rec (U ++ [bb])).2]) ∧ Below W.heap.size W w') := fun g c' W ho hF => by
                  have e1 : intsV U ++ [.int .i64 bb] = intsV (U ++ [bb]) := by simp [intsV]
                  have e2 : U.length + 1 = (U ++ [bb]).length := by simp
                  rw [e1, e2] at ho
                  rw [e2]
                  obtain ⟨a', cc, e3, hI⟩ := intsAt_of_own ho
                  simp at e3
                  obtain ⟨rfl, rfl⟩ := e3
                  exact unhide BK (U ++ [bb]) ⟨g, 0, none⟩ c' W (by simp; omega) (b7.trans (Below.mono hF b7.size)) hI
                unfold SumsI.v at BK2
                have hRB := unhide HBK (U ++ [bb])
                generalize rec (U ++ [bb]) = R at BK2 hRB hr
                obtain ⟨⟨R1, R2, R3⟩, Rc⟩ := R
                simp only at BK2 hRB hr
                have HSF : Hid (∀ W, Fresh w7 W → W.cell? ⟨w.heap.size, 0, none⟩ = some (.int .i64 s) ∧ W.cell? ⟨w.heap.size, 1, none⟩ = some (.slice a0 n0 c0)) := fun W hF => ⟨(Below.cell hF (p := ⟨w.heap.size, 0, none⟩) hx7l).trans p0', (Below.cell hF (p := ⟨w.heap.size, 1, none⟩) hx7l).trans p1'⟩
                have HUI : Hid (∀ W, Fresh w7 W → IntsAt W (some ad) U.length B' U) := fun W hF => (unhide HU).below (b7.trans (Below.mono hF b7.size)) hB'
                have hF0 : Fresh w7 w7 := Fresh.refl _
                have hjm : U.length + 1 ≤ maxLen := by unfold maxLen; omega
                have hjm0 : 0 + U.length ≤ maxLen := by unfold maxLen; omega
                have hwf : IntKind.i64.wrap (f + 1) = f + 1 := wrap_in _ (by omega)
                have h393 : (66 : TypeId) ≠ 3 := by decide
                have HRQ := hide hr
                clear hr HOUT HINS HEDG
                go_upto_region 11 with fail
                go_cut [12, 13] (fun p12 c13 wx => ∃ g, p12 = .pointer (some ⟨g, 0, none⟩) ∧ w7.heap.size ≤ g ∧ SBox wx g ⟨R1, R2, R3⟩ ∧ c13 = .int .i64 Rc ∧ Below w7.heap.size w7 wx)
                case first =>
                  go_region_held3 (fun u => u.cell? ⟨w.heap.size, 0, none⟩ = some (.int .i64 s) ∧ u.cell? ⟨w.heap.size, 1, none⟩ = some (.slice a0 n0 c0))
                    (first | (with_reducible refine unhide HSF _ ?_; (repeat (first | (with_reducible refine Fresh.drew ?_) | (with_reducible refine Fresh.alloc ?_) | (with_reducible refine Fresh.set ?_ (by omega)))); with_reducible assumption) | go_keep)
                    (first
                      | (refine step_append_any (by rfl) _ _ _ (by rfl) w7.heap.size 3 i0 _ 1 8 Try.underlying28 hi hz0 hz1 hz2 rfl (by decide) _ 0 [] (by rfl) (own_empty (by ((repeat (first | (with_reducible assumption) | (with_reducible refine Blk.drew ?_) | (with_reducible exact Blk.new0) | (with_reducible exact Blk.new1) | (with_reducible exact Blk.new2) | (with_reducible refine Blk.alloc ?_) | (with_reducible refine hT67 _ _ _ h393 ?_) | ((with_reducible refine hT64 _ _ _ (own_ne ?_) ?_); omega))); done)) (by omega)) ad U.length c (intsV U) (by rfl) (intsV_len U) (ints_cells (unhide HUI _ (by ((repeat (first | (with_reducible refine Fresh.drew ?_) | (with_reducible refine Fresh.alloc ?_))); with_reducible assumption)))) (intsV_one U) hjm0 (by omega) (Fresh.size (by ((repeat (first | (with_reducible refine Fresh.drew ?_) | (with_reducible refine Fresh.alloc ?_))); with_reducible assumption))) ?_; intro v64 w64 hown64 hgr64; rw [Nat.zero_add, List.nil_append] at hown64; have hF64 : Fresh w7 w64 := Fresh.grown (by ((repeat (first | (with_reducible refine Fresh.drew ?_) | (with_reducible refine Fresh.alloc ?_))); with_reducible assumption)) hgr64 (by intro k hk; simp [Value.ownBlock] at hk; omega); have hz64 := hF64.size; have hT64 := fun (g : Nat) (C : Array Value) (t : TypeId) (hne : some g ≠ _) (h : Blk _ g C t) => Blk.grown h hgr64 hne)
                      | (refine step_append_lies _ (by rfl) _ _ _ (by rfl) w7.heap.size 3 i0 _ 1 8 Try.underlying28 hi hz0 hz1 hz2 rfl (by decide) v64 U.length (intsV U) (by rfl) (by ((repeat (first | (with_reducible refine World.ownsRow.drew ?_) | (with_reducible refine World.ownsRow.alloc ?_ _))); with_reducible assumption)) ⟨_, 0, none⟩ 1 1 [.int .i64 bb] (by rfl) (by rfl) (World.news_of_block (cs := #[.int .i64 bb]) (t := 3) (fr := (0, 0)) (show _ from (by ((repeat (first | (with_reducible assumption) | (with_reducible refine Blk.drew ?_) | (with_reducible exact Blk.new0) | (with_reducible exact Blk.new1) | (with_reducible exact Blk.new2) | (with_reducible refine Blk.alloc ?_) | (with_reducible refine hT67 _ _ _ h393 ?_) | ((with_reducible refine hT64 _ _ _ (own_ne ?_) ?_); omega))); done) : Blk _ _ #[.int .i64 bb] 3))) (by simp [Value.oneCell']) (by omega) hjm (by omega) (Fresh.size (by ((repeat (first | (with_reducible refine Fresh.drew ?_) | (with_reducible refine Fresh.alloc ?_))); with_reducible assumption))) _ rfl ?_; intro g67 c67 w67 hown67 hgr67 hat67 hlt67; have hF67 : Fresh w7 w67 := Fresh.grown (by ((repeat (first | (with_reducible refine Fresh.drew ?_) | (with_reducible refine Fresh.alloc ?_))); with_reducible assumption)) hgr67 (fun k hk => (hown64.lt k hk).1); have hz67 := hF67.size; have hT67 := fun (g : Nat) (C : Array Value) (t : TypeId) (ht : t ≠ 3) (h : Blk _ g C t) => Blk.grown h hgr67 (Blk.apart h (by ((repeat (first | (with_reducible refine World.ownsRow.drew ?_) | (with_reducible refine World.ownsRow.alloc ?_ _))); with_reducible assumption)) ht))
                      | (go_at_call 34; go_fit (unhide BK2 g67 c67 _ (by ((repeat (first | (with_reducible refine World.ownsRow.drew ?_) | (with_reducible refine World.ownsRow.alloc ?_ _))); with_reducible assumption)) (by ((repeat (first | (with_reducible refine Fresh.drew ?_) | (with_reducible refine Fresh.alloc ?_))); with_reducible assumption))); rintro e w68 ⟨rfl, hb68⟩; have hF68 : Fresh w7 w68 := Fresh.below (by ((repeat (first | (with_reducible refine Fresh.drew ?_) | (with_reducible refine Fresh.alloc ?_))); with_reducible assumption)) hb68; have hz68 := hF68.size; first | (refine (fun (hB12 : Blk w68 w7.heap.size #[Value.int .i64 0, Value.int .i64 0, Value.int .i64 0] 66) => ?_) (Blk.below ?_ hb68); rotate_left; (repeat (first | (with_reducible assumption) | (with_reducible refine Blk.drew ?_) | (with_reducible exact Blk.new0) | (with_reducible exact Blk.new1) | (with_reducible exact Blk.new2) | (with_reducible refine Blk.alloc ?_) | (with_reducible refine hT67 _ _ _ h393 ?_) | ((with_reducible refine hT64 _ _ _ (own_ne ?_) ?_); omega))); have e0 := hB12.cell 0 _ rfl; have e1 := hB12.cell 1 _ rfl; have e2 := hB12.cell 2 _ rfl; have f0 := hB12.froz 0; have f1 := hB12.froz 1; have f2 := hB12.froz 2) | (refine (fun (hB12 : Blk w68 (w7.heap.size + 1) #[Value.int .i64 0, Value.int .i64 0, Value.int .i64 0] 66) => ?_) (Blk.below ?_ hb68); rotate_left; (repeat (first | (with_reducible assumption) | (with_reducible refine Blk.drew ?_) | (with_reducible exact Blk.new0) | (with_reducible exact Blk.new1) | (with_reducible exact Blk.new2) | (with_reducible refine Blk.alloc ?_) | (with_reducible refine hT67 _ _ _ h393 ?_) | ((with_reducible refine hT64 _ _ _ (own_ne ?_) ?_); omega))); have e0 := hB12.cell 0 _ rfl; have e1 := hB12.cell 1 _ rfl; have e2 := hB12.cell 2 _ rfl; have f0 := hB12.froz 0; have f1 := hB12.froz 1; have f2 := hB12.froz 2) | (refine (fun (hB12 : Blk w68 (w7.heap.size + 1 + 1) #[Value.int .i64 0, Value.int .i64 0, Value.int .i64 0] 66) => ?_) (Blk.below ?_ hb68); rotate_left; (repeat (first | (with_reducible assumption) | (with_reducible refine Blk.drew ?_) | (with_reducible exact Blk.new0) | (with_reducible exact Blk.new1) | (with_reducible exact Blk.new2) | (with_reducible refine Blk.alloc ?_) | (with_reducible refine hT67 _ _ _ h393 ?_) | ((with_reducible refine hT64 _ _ _ (own_ne ?_) ?_); omega))); have e0 := hB12.cell 0 _ rfl; have e1 := hB12.cell 1 _ rfl; have e2 := hB12.cell 2 _ rfl; have f0 := hB12.froz 0; have f1 := hB12.froz 1; have f2 := hB12.froz 2) | (refine (fun (hB12 : Blk w68 w64.heap.size #[Value.int .i64 0, Value.int .i64 0, Value.int .i64 0] 66) => ?_) (Blk.below ?_ hb68); rotate_left; (repeat (first | (with_reducible assumption) | (with_reducible refine Blk.drew ?_) | (with_reducible exact Blk.new0) | (with_reducible exact Blk.new1) | (with_reducible exact Blk.new2) | (with_reducible refine Blk.alloc ?_) | (with_reducible refine hT67 _ _ _ h393 ?_) | ((with_reducible refine hT64 _ _ _ (own_ne ?_) ?_); omega))); have e0 := hB12.cell 0 _ rfl; have e1 := hB12.cell 1 _ rfl; have e2 := hB12.cell 2 _ rfl; have f0 := hB12.froz 0; have f1 := hB12.froz 1; have f2 := hB12.froz 2) | (refine (fun (hB12 : Blk w68 (w64.heap.size + 1) #[Value.int .i64 0, Value.int .i64 0, Value.int .i64 0] 66) => ?_) (Blk.below ?_ hb68); rotate_left; (repeat (first | (with_reducible assumption) | (with_reducible refine Blk.drew ?_) | (with_reducible exact Blk.new0) | (with_reducible exact Blk.new1) | (with_reducible exact Blk.new2) | (with_reducible refine Blk.alloc ?_) | (with_reducible refine hT67 _ _ _ h393 ?_) | ((with_reducible refine hT64 _ _ _ (own_ne ?_) ?_); omega))); have e0 := hB12.cell 0 _ rfl; have e1 := hB12.cell 1 _ rfl; have e2 := hB12.cell 2 _ rfl; have f0 := hB12.froz 0; have f1 := hB12.froz 1; have f2 := hB12.froz 2) | (refine (fun (hB12 : Blk w68 w67.heap.size #[Value.int .i64 0, Value.int .i64 0, Value.int .i64 0] 66) => ?_) (Blk.below ?_ hb68); rotate_left; (repeat (first | (with_reducible assumption) | (with_reducible refine Blk.drew ?_) | (with_reducible exact Blk.new0) | (with_reducible exact Blk.new1) | (with_reducible exact Blk.new2) | (with_reducible refine Blk.alloc ?_) | (with_reducible refine hT67 _ _ _ h393 ?_) | ((with_reducible refine hT64 _ _ _ (own_ne ?_) ?_); omega))); have e0 := hB12.cell 0 _ rfl; have e1 := hB12.cell 1 _ rfl; have e2 := hB12.cell 2 _ rfl; have f0 := hB12.froz 0; have f1 := hB12.froz 1; have f2 := hB12.froz 2) | skip))
                  all_goals
                    go_wp2_with fail
                    go_meet
                    case rel =>
                      first
                        | exact ⟨_, rfl, by omega, SBox.three (s := ⟨0, 0, 0⟩) hB12 R1 R2 R3, rfl, Fresh.set (Fresh.set (Fresh.set hF68 (by omega)) (by omega)) (by omega)⟩
                        | exact ⟨_, rfl, by omega, SBox.new w68 ⟨R1, R2, R3⟩, rfl, Fresh.alloc hF68⟩
                case rest =>
                  obtain ⟨g, rfl, hgg, hsg, rfl, hbg⟩ := hcut
                  have hb9 : Below w5.heap.size w5 wc := (unhide HB7).trans (hbg.mono (unhide HB7).size)
                  have b9 : Below w.heap.size w wc := b5.trans (hb9.mono b5.size)
                  have x9 := (unhide HX7).below hbg
                  obtain ⟨p0, p1⟩ := x9.cells
                  obtain ⟨b', off', rfl, hbB', d0, d1, d2, d3, d4⟩ := unhide HC0 i hiQ
                  rw [← b9.cell (p := ⟨b', off' + i * 5, none⟩) (by simp; omega)] at d0
                  rw [← b9.cell (p := ⟨b', off' + i * 5 + 1, none⟩) (by simp; omega)] at d1
                  rw [← b9.cell (p := ⟨b', off' + i * 5 + 2, none⟩) (by simp; omega)] at d2
                  rw [← b9.cell (p := ⟨b', off' + i * 5 + 3, none⟩) (by simp; omega)] at d3
                  rw [← b9.cell (p := ⟨b', off' + i * 5 + 4, none⟩) (by simp; omega)] at d4
                  have hRB' := hRB
                  obtain ⟨hRB1, hRB2, hRB3⟩ := hRB'
                  have HSN := hide (hRB1.add heok)
                  unfold SB at hRB1
                  simp only at hRB1
                  obtain ⟨_, _, _, hw1, hw2, hw3⟩ := (edgeOk_iff s _).1 heok
                  have hq1 := worth_range hw1
                  have hq2 := worth_range hw2
                  have hq3 := worth_range hw3
                  have hrq := unhide HRQ
                  generalize Q[i] = q at d0 d1 d2 d3 d4 hrq HSN hq1 hq2 hq3
                  obtain ⟨y0, y1, y2, y3, y4⟩ := q
                  simp only at d0 d1 d2 d3 d4 hq1 hq2 hq3
                  unfold addS at hrq HSN
                  simp only at hrq HSN
                  have hi0 : (0 : Int) ≤ (i : Int) := by omega
                  have hi1 : (i : Int) < (n0 : Int) := by have := unhide HL0; omega
                  have hk9 : (k : Int) ≤ 9 := by omega
                  obtain ⟨u0, u1, u2⟩ := hsg.cells
                  simp only at u0 u1 u2
                  have f0 := hsg.froz 0
                  have f1 := hsg.froz 1
                  have f2 := hsg.froz 2
                  have hgl := hsg.lt
                  have hs9 := (unhide HS7).below hbg
                  have BTR := hide (fun w => specBetter_any ⟨R1 + y2, R2 + y3, R3 + y4⟩ acc w)
                  generalize hbt : better ⟨R1 + y2, R2 + y3, R3 + y4⟩ acc = bt at BTR hrq
                  unfold SumsI.v at BTR
                  have hge : ¬ w5.heap.size = g := by have := (unhide HB7).size; omega
                  have hge' : ¬ g = w5.heap.size := fun e => hge e.symm
                  have HG2 := hide ((hsg.three (R1 + y2) (R2 + y3) (R3 + y4)).below (below_new _ (Obj.cells #[Value.int .i64 y0, Value.int .i64 y1, Value.int .i64 y2, Value.int .i64 y3, Value.int .i64 y4] 64)))
                  have hk10 := kept3 wc g (.int .i64 (R1 + y2)) (.int .i64 (R2 + y3)) (.int .i64 (R3 + y4))
                  have HA2 := hide ((hs9.kept hk10 hge).below (below_new _ (Obj.cells #[Value.int .i64 y0, Value.int .i64 y1, Value.int .i64 y2, Value.int .i64 y3, Value.int .i64 y4] 64)))
                  have hb10 := hb9.trans (hk10.below hb9.size (fun i hi => by have := (unhide HB7).size; omega))
                  have HB10 := hide (hb10.alloc hb10.size (Obj.cells #[Value.int .i64 y0, Value.int .i64 y1, Value.int .i64 y2, Value.int .i64 y3, Value.int .i64 y4] 64))
                  obtain ⟨v0, v1, v2⟩ := hs9.cells
                  have hs9l := hs9.lt
                  have HSA' := hide (unhide HSA)
                  obtain ⟨a1, a2, a3⟩ := acc
                  simp only at BTR hrq v0 v1 v2
                  have hcc : IntKind.i64.wrap (ct + Rc) = ct + Rc := wrap_in _ (by omega)
                  subst ei
                  clear hk10 hb10 hs9 hsg hb9 b9 x9 HSA
                  go_wp2_with fail
                  obtain ⟨Wb, hWb⟩ : ∃ W, W = ((((wc.setCell ⟨g, 0, none⟩ (.int .i64 (R1 + y2))).setCell ⟨g, 1, none⟩ (.int .i64 (R2 + y3))).setCell ⟨g, 2, none⟩ (.int .i64 (R3 + y4))).alloc (Obj.cells #[Value.int .i64 y0, Value.int .i64 y1, Value.int .i64 y2, Value.int .i64 y3, Value.int .i64 y4] 64)) := ⟨_, rfl⟩
                  rw [← hWb] at HG2 HA2 HB10
                  rw [← hWb]
                  clear hWb
                  go_fit (unhide BTR Wb)
                  rintro e w11 ⟨rfl, hb11⟩
                  have g11 := (unhide HG2).below hb11
                  have a11 := (unhide HA2).below hb11
                  have HB11 := hide ((unhide HB10).trans (hb11.mono (unhide HB10).size))
                  obtain ⟨u0', u1', u2'⟩ := g11.cells
                  obtain ⟨v0', v1', v2'⟩ := a11.cells
                  simp only at u0' u1' u2' v0' v1' v2'
                  have vf := a11.froz
                  have HA11 := hide a11
                  obtain ⟨p0', p1'⟩ := ((unhide HX5).below (unhide HB11)).cells
                  clear HG2 HA2 HB10 hb11 g11 a11 u0 u1 u2 v0 v1 v2 f0 f1 f2 p0 p1 d0 d1 d2 d3 d4 BTR
                  cases bt with
                  | false =>
                    simp only [Bool.false_eq_true, if_false] at hrq
                    have HRN := hide hrq
                    clear hrq
                    go_wp2
                    go_roundw
                    case rel => exact ⟨m, bb + 1, ⟨a1, a2, a3⟩, ct + Rc, by go_num, by go_num, (by show _ = _; have := unhide HBE; omega), by omega, unhide HRN, unhide HSA', by omega, by omega, unhide HA11, unhide HB11⟩
                    case measure => simp [intOf]; omega
                  | true =>
                    simp only [if_true] at hrq
                    have HRN := hide hrq
                    have HA12 := hide ((unhide HA11).three (R1 + y2) (R2 + y3) (R3 + y4))
                    have HB12 := hide ((unhide HB11).trans ((kept3 w11 w5.heap.size (.int .i64 (R1 + y2)) (.int .i64 (R2 + y3)) (.int .i64 (R3 + y4))).below (unhide HB11).size (fun i hi => by omega)))
                    clear hrq
                    go_wp2
                    go_roundw
                    case rel => exact ⟨m, bb + 1, ⟨R1 + y2, R2 + y3, R3 + y4⟩, ct + Rc, by go_num, by go_num, (by show _ = _; have := unhide HBE; omega), by omega, unhide HRN, unhide HSN, by omega, by omega, unhide HA12, unhide HB12⟩
                    case measure => simp [intOf]; omega

theorem specBest_any (v : Value) (B : Nat) (s : Int) (Q : List EdgeI) (hg : graphOk s Q = true) (h1 : Q.length ≤ 1048576) (n : Nat) : BestC v B s Q n := by
  induction n using Nat.strongRecOn with
  | ind n ih => exact best_step v B s Q hg h1 n ih

end Gr
end Go.Proofs.Ytfhclbpbjlbebaa

/-
  The contracts of spec.BestSums and spec.CountMatches.
-/
namespace Go.Proofs.Ytfhclbpbjlbebaa
namespace Gr
open Go.RowKit

/-- What BestSums tells. -/
def bestR (s : Int) (Q : List EdgeI) : SumsI := if graphOk s Q = true then (best Q s s.toNat []).1 else ⟨0, 0, 0⟩
/-- What CountMatches tells. -/
def countR (s : Int) (Q : List EdgeI) : Int := if graphOk s Q = true then (best Q s s.toNat []).2 else -1

theorem best_from {v : Value} {B : Nat} {s : Int} {Q : List EdgeI} (hg : graphOk s Q = true) (h1 : Q.length ≤ 1048576) (w : World) (hB : B ≤ w.heap.size) (hv : GrAt w v B s Q) :
    Calls Try.prog 34 #[v, .int .i64 0, .slice (some ⟨w.heap.size, 0, none⟩) 0 0] (w.alloc (Obj.cells #[] 3)) fun e w' => e = .returned (.tuple #[(best Q s s.toNat []).1.v, .int .i64 (best Q s s.toNat []).2]) ∧ Below w.heap.size w w' := by
  obtain ⟨h0, h9, _, _⟩ := graph_sound hg
  have hb := below_new w (Obj.cells #[] 3)
  refine (specBest_any v B s Q hg h1 s.toNat [] ⟨w.heap.size, 0, none⟩ 0 0 0 (w.alloc (Obj.cells #[] 3)) (by omega) (by omega) (by simp; omega) (by have := hb.size; omega) (Nat.zero_le _) (hv.below hb hB) ⟨rfl, fun j h => by simp at h⟩).mono ?_
  rintro e w' ⟨rfl, hb'⟩
  exact ⟨rfl, hb.trans (hb'.mono hb.size)⟩

end Gr
end Go.Proofs.Ytfhclbpbjlbebaa
