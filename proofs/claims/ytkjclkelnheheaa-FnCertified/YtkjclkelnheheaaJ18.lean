/-
 GrFlags, GrImplG.
-/
import Derived.Test.YtkjclkelnheheaaJ10
import Derived.Test.YtkjclkelnheheaaJ7
import Derived.Test.YtkjclkelnheheaaJ12
import Derived.Test.YtkjclkelnheheaaJ3
import Derived.Test.YtkjclkelnheheaaJ2
namespace Go.Proofs.Ytkjclkelnheheaa
namespace Gr
open Go.RowKit
def flags (U : List Int) : Array Value := ((List.range 9).map fun (j : Nat) => Value.bool (inK U (j : Int))).toArray
theorem flags_at (U : List Int) (k : Nat) (h : k < 9) : (flags U)[k]? = some (.bool (inK U (k : Int))) := by
  unfold flags
  simp [h]
theorem flags_size (U : List Int) : (flags U).size = 9 := by unfold flags; simp
theorem flags_nil : flags [] = #[.bool false, .bool false, .bool false, .bool false, .bool false, .bool false, .bool false, .bool false, .bool false] := rfl
theorem flags_ext {C : Array Value} {U : List Int} (h : C.size = 9) (hk : ∀ k : Nat, k < 9 → C[k]? = some (.bool (inK U (k : Int)))) : C = flags U := by
  apply Array.ext_getElem?
  intro i
  rcases Nat.lt_or_ge i 9 with h' | h'
  · rw [hk i h', flags_at U i h']
  · rw [Array.getElem?_eq_none (by omega), Array.getElem?_eq_none (by rw [flags_size]; omega)]
theorem inK_pair (U : List Int) (x y z : Int) : inK (U ++ [x, y]) z = (inK U z || (decide (z = x) || decide (z = y))) := by
  rw [inK_app]
  congr 1
  unfold inK
  rw [Bool.eq_iff_iff]
  simp
theorem flags_two (U : List Int) (x y : Nat) (_hx : x < 9) (_hy : y < 9) : ((flags U).setIfInBounds x (.bool true)).setIfInBounds y (.bool true) = flags (U ++ [(x : Int), (y : Int)]) := by
  refine flags_ext (by simp [flags_size]) (fun k hk => ?_)
  rw [inK_pair]
  by_cases h2 : y = k
  · subst h2
    rw [Array.getElem?_setIfInBounds_self]
    simp [flags_size, hk]
  · rw [Array.getElem?_setIfInBounds_ne h2]
    by_cases h1 : x = k
    · subst h1
      rw [Array.getElem?_setIfInBounds_self]
      simp [flags_size, hk]
    · rw [Array.getElem?_setIfInBounds_ne h1, flags_at U k hk]
      have e1 : ¬ ((k : Int) = (x : Int)) := by omega
      have e2 : ¬ ((k : Int) = (y : Int)) := by omega
      simp [e1, e2]
theorem Kept.edges {S : Nat → Prop} {w w' : World} {a : Option Addr} {n B : Nat} {Q : List EdgeI} (hk : Kept S w w') (h : edgesAt w a n B Q) (hB : B ≤ w.heap.size) (hS : ∀ i, S i → B ≤ i) : edgesAt w' a n B Q :=
  h.below (hk.below hB hS) (Nat.le_refl _)
def nextC (Q : List EdgeI) (p : Option CoupleI) (x : CoupleI) : Bool := decide (x.A < x.B) && (decide (0 ≤ atFrom x.A x.B 0 Q) && aheadC p x)
theorem at_least (x y : Int) (Q : List EdgeI) : atFrom x y 0 Q = -1 ∨ 0 ≤ atFrom x y 0 Q := by
  by_cases h : ∃ e ∈ Q, hit x y e = true
  · obtain ⟨i, _, _, _, e⟩ := at_some x y Q 0 h
    omega
  · exact Or.inl (at_none x y Q 0 (fun e he hh => h ⟨e, he, hh⟩))
theorem asc_length : ∀ (M : List CoupleI) (lo : Int), (∀ x ∈ M, lo ≤ x.A ∧ x.A < 9) → M.Pairwise (fun x y => x.A < y.A) → lo ≤ 9 → (M.length : Int) ≤ 9 - lo
  | [], lo, _, _, h => by simp; omega
  | x :: r, lo, h, hp, h9 => by
    obtain ⟨h1, h2⟩ := List.pairwise_cons.1 hp
    have hx := h x List.mem_cons_self
    have := asc_length r (x.A + 1) (fun y hy => ⟨by have := h1 y hy; omega, (h y (List.mem_cons_of_mem _ hy)).2⟩) h2 (by omega)
    rw [List.length_cons]
    omega
theorem match_nolen (s : Int) (Q : List EdgeI) (M : List CoupleI) : matchOk s Q M = (graphOk s Q && mFrom Q none [] M) := by
  unfold matchOk
  cases hg : graphOk s Q with
  | false => rfl
  | true =>
    cases hm : mFrom Q none [] M with
    | false => simp
    | true =>
      obtain ⟨i1, i2, _⟩ := match_pm hg M none [] hm
      obtain ⟨_, h9, _, _⟩ := graph_sound hg
      have := asc_length M 0 (fun x hx => by have := i1 x hx; omega) (i2.imp (fun h => h.1)) (by omega)
      have h : M.length ≤ 9 := by omega
      simp [h]
theorem next_range {s : Int} {Q : List EdgeI} (hg : graphOk s Q = true) {p : Option CoupleI} {x : CoupleI} (h : nextC Q p x = true) : 0 ≤ x.A ∧ x.A < x.B ∧ x.B < 9 := by
  unfold nextC at h
  simp only [Bool.and_eq_true, decide_eq_true_eq] at h
  obtain ⟨h1, h3, _⟩ := h
  obtain ⟨_, h9, hok, _⟩ := graph_sound hg
  obtain ⟨i, hi, _, _, hh⟩ := edgeN_at h3
  have hek := hok _ (List.getElem_mem hi)
  have he := (edgeOk_iff s _).1 hek
  have hh2 := ((hit_iff hek h1).1).1 hh
  omega
set_option maxRecDepth 100000 in
set_option maxHeartbeats 4000000 in
theorem isNext_any (B : Nat) (v : Value) (s : Int) (Q : List EdgeI) (a : Option Addr) (n c : Nat) (M : List CoupleI) (hg : graphOk s Q = true) (h1 : Q.length ≤ 1048576) (h2 : n ≤ 1048576) (j : Nat) (hj : j < M.length) (w : World) (hB : B ≤ w.heap.size) (hv : GrAt w v B s Q) (hM : couplesAt w a n B M) :
    Calls Try.prog 61 #[v, .slice a n c, .int .i64 (j : Int)] w fun e w' => e = .returned (.bool (nextC Q (prevC M j) M[j])) ∧ Below w.heap.size w w' := by
  have EA := hide (fun x y w1 (hb : Below w.heap.size w w1) => implEdgeAt_gen B v s Q x y h1 w1 (by have := hb.size; omega) (hv.below hb hB))
  have hEV : ∀ x y, edgeAtV s x y Q = atFrom x y 0 Q := fun x y => by unfold edgeAtV; rw [if_pos hg]
  simp only [hEV] at EA
  obtain ⟨a0, n0, c0, rfl, _⟩ := hv
  obtain ⟨hL, hc⟩ := hM
  obtain ⟨b, off, rfl, hbB, c1, c2⟩ := hc j hj
  have hr : nextC Q (prevC M j) M[j] = (decide (M[j].A < M[j].B) && (decide (0 ≤ atFrom M[j].A M[j].B 0 Q) && aheadC (prevC M j) M[j])) := rfl
  have HP : Hid (∀ k, j = k + 1 → ∃ q, prevC M j = some q ∧ w.cell? ⟨b, off + k * 2, none⟩ = some (.int .i64 q.A)) := fun k hk => by
    have hk1 : k < M.length := by omega
    obtain ⟨b', off', e', _, k0, _⟩ := hc k hk1
    simp at e'
    obtain ⟨rfl, rfl⟩ := e'
    refine ⟨M[k], ?_, k0⟩
    unfold prevC
    rw [if_neg (by omega), hk]
    simp [hk1]
  have HZ : Hid (j = 0 → prevC M j = none) := fun h => by unfold prevC; rw [if_pos h]
  have hjn : (j : Int) < (n : Int) := by omega
  clear hc
  generalize nextC Q (prevC M j) M[j] = R at hr ⊢
  generalize M[j] = x at hr c1 c2
  generalize prevC M j = p at hr HP HZ
  obtain ⟨x0, x1⟩ := x
  simp only at hr c1 c2
  have EA' := hide (fun w1 hb => unhide EA x0 x1 w1 hb)
  clear EA
  obtain ⟨r, hrr⟩ : ∃ r, r = atFrom x0 x1 0 Q := ⟨_, rfl⟩
  have hr01 : r = -1 ∨ 0 ≤ r := by rw [hrr]; exact at_least x0 x1 Q
  rw [← hrr] at hr EA'
  clear hrr hEV hg h1
  have hneb : ¬ b = w.heap.size := by omega
  have hbl : b < w.heap.size := by omega
  have hnb2 : ¬ b = w.heap.size + 1 := by omega
  have step : ∀ (V : World), V = (w.alloc (Obj.cells #[Value.int .i64 s, Value.slice a0 n0 c0] 26)).alloc (Obj.cells #[Value.int .i64 x0, Value.int .i64 x1] 85) → Below w.heap.size w V ∧ Blk V w.heap.size #[Value.int .i64 s, Value.slice a0 n0 c0] 26 ∧ Blk V (w.heap.size + 1) #[Value.int .i64 x0, Value.int .i64 x1] 85 := by
    rintro V rfl
    exact ⟨(below_new _ _).alloc (by simp) _, Blk.new0.alloc, Blk.new1⟩
  have HSTEP := hide step
  clear step
  by_cases t : x0 < x1
  · rw [decide_eq_true t, Bool.true_and] at hr
    rcases hr01 with hr1 | hr1
    · rw [decide_eq_false (by omega), Bool.false_and] at hr
      subst hr
      rw [hr1] at EA'
      go_enter Try.func61, Try.ntmps61
      go_wp2_with fail
      obtain ⟨V, hV⟩ : ∃ W, W = (w.alloc (Obj.cells #[Value.int .i64 s, Value.slice a0 n0 c0] 26)).alloc (Obj.cells #[Value.int .i64 x0, Value.int .i64 x1] 85) := ⟨_, rfl⟩
      rw [← hV]
      obtain ⟨bV, m0, m1⟩ := unhide HSTEP V hV
      clear hV HSTEP
      have hz0 := m0.lt
      have hz1 := m1.lt
      have k0 : ∀ d : Grown V.heap.size V, d.w.cell? ⟨w.heap.size, 0, none⟩ = some (.int .i64 s) := fun d => d.cell hz0 (m0.cell 0 _ rfl)
      have k1 : ∀ d : Grown V.heap.size V, d.w.cell? ⟨w.heap.size, 1, none⟩ = some (.slice a0 n0 c0) := fun d => d.cell hz0 (m0.cell 1 _ rfl)
      have k2 : ∀ d : Grown V.heap.size V, d.w.cell? ⟨w.heap.size + 1, 0, none⟩ = some (.int .i64 x0) := fun d => d.cell hz1 (m1.cell 0 _ rfl)
      have k3 : ∀ d : Grown V.heap.size V, d.w.cell? ⟨w.heap.size + 1, 1, none⟩ = some (.int .i64 x1) := fun d => d.cell hz1 (m1.cell 1 _ rfl)
      have E2 : Hid (∀ d : Grown V.heap.size V, Calls Try.prog 63 #[.agg #[.int .i64 s, .slice a0 n0 c0], .int .i64 x0, .int .i64 x1] d.w fun e w' => e = .returned (.int .i64 (-1)) ∧ Below d.w.heap.size d.w w') := fun d => unhide EA' d.w (bV.trans (d.below.mono bV.size))
      clear m0 m1 EA'
      refine wp_region_grown V.heap.size (by kernel_rfl) (by kernel_rfl) ?_
      repeat (go_big_quiet_step (first | (go_at_call 63; exact Calls.grown (Nat.le_refl _) (unhide E2 _))))
      refine wpQuiet_nil ?_
      rintro w5 ⟨d5, rfl⟩
      go_wp2_with fail
      go_ret
      exact ⟨rfl, bV.trans (d5.below.mono bV.size)⟩
    · rw [decide_eq_true hr1, Bool.true_and] at hr
      have hrn : ¬ r = -1 := by omega
      have hrb : (r != -1) = true := by simp; omega
      rcases Nat.eq_zero_or_pos j with hj0 | hj0
      · have hp := unhide HZ hj0
        subst hp
        have HJ0 := hide hj0
        clear hj0
        simp only [aheadC] at hr
        subst hr
        go_enter Try.func61, Try.ntmps61
        go_wp2_with fail
        obtain ⟨V, hV⟩ : ∃ W, W = (w.alloc (Obj.cells #[Value.int .i64 s, Value.slice a0 n0 c0] 26)).alloc (Obj.cells #[Value.int .i64 x0, Value.int .i64 x1] 85) := ⟨_, rfl⟩
        rw [← hV]
        obtain ⟨bV, m0, m1⟩ := unhide HSTEP V hV
        clear hV HSTEP
        have hz0 := m0.lt
        have hz1 := m1.lt
        have k0 : ∀ d : Grown V.heap.size V, d.w.cell? ⟨w.heap.size, 0, none⟩ = some (.int .i64 s) := fun d => d.cell hz0 (m0.cell 0 _ rfl)
        have k1 : ∀ d : Grown V.heap.size V, d.w.cell? ⟨w.heap.size, 1, none⟩ = some (.slice a0 n0 c0) := fun d => d.cell hz0 (m0.cell 1 _ rfl)
        have k2 : ∀ d : Grown V.heap.size V, d.w.cell? ⟨w.heap.size + 1, 0, none⟩ = some (.int .i64 x0) := fun d => d.cell hz1 (m1.cell 0 _ rfl)
        have k3 : ∀ d : Grown V.heap.size V, d.w.cell? ⟨w.heap.size + 1, 1, none⟩ = some (.int .i64 x1) := fun d => d.cell hz1 (m1.cell 1 _ rfl)
        have E2 : Hid (∀ d : Grown V.heap.size V, Calls Try.prog 63 #[.agg #[.int .i64 s, .slice a0 n0 c0], .int .i64 x0, .int .i64 x1] d.w fun e w' => e = .returned (.int .i64 r) ∧ Below d.w.heap.size d.w w') := fun d => unhide EA' d.w (bV.trans (d.below.mono bV.size))
        have hj0' : (j : Int) = 0 := by have := unhide HJ0; omega
        have hj0b : ((j : Int) == 0) = true := by simp; omega
        clear m0 m1 EA'
        refine wp_region_grown V.heap.size (by kernel_rfl) (by kernel_rfl) ?_
        repeat (go_big_quiet_step (first | (go_at_call 63; exact Calls.grown (Nat.le_refl _) (unhide E2 _))))
        refine wpQuiet_nil ?_
        rintro w5 ⟨d5, rfl⟩
        go_wp2_with fail
        go_ret
        exact ⟨rfl, bV.trans (d5.below.mono bV.size)⟩
      · obtain ⟨k, hk⟩ : ∃ k, j = k + 1 := ⟨j - 1, by omega⟩
        obtain ⟨q, hp, hq⟩ := unhide HP k hk
        subst hp
        simp only [aheadC] at hr
        subst hr
        have hwk : IntKind.i64.wrap ((j : Int) - 1) = (k : Int) := by rw [wrap_in _ (by omega)]; omega
        have hk0 : ¬ (j : Int) = 0 := by omega
        have hk0b : ((j : Int) == 0) = false := by simp; omega
        have hkn : (k : Int) < (n : Int) := by omega
        clear hk
        go_enter Try.func61, Try.ntmps61
        go_wp2_with fail
        obtain ⟨V, hV⟩ : ∃ W, W = (w.alloc (Obj.cells #[Value.int .i64 s, Value.slice a0 n0 c0] 26)).alloc (Obj.cells #[Value.int .i64 x0, Value.int .i64 x1] 85) := ⟨_, rfl⟩
        rw [← hV]
        obtain ⟨bV, m0, m1⟩ := unhide HSTEP V hV
        clear hV HSTEP
        have hz0 := m0.lt
        have hz1 := m1.lt
        have k0 : ∀ d : Grown V.heap.size V, d.w.cell? ⟨w.heap.size, 0, none⟩ = some (.int .i64 s) := fun d => d.cell hz0 (m0.cell 0 _ rfl)
        have k1 : ∀ d : Grown V.heap.size V, d.w.cell? ⟨w.heap.size, 1, none⟩ = some (.slice a0 n0 c0) := fun d => d.cell hz0 (m0.cell 1 _ rfl)
        have k2 : ∀ d : Grown V.heap.size V, d.w.cell? ⟨w.heap.size + 1, 0, none⟩ = some (.int .i64 x0) := fun d => d.cell hz1 (m1.cell 0 _ rfl)
        have k3 : ∀ d : Grown V.heap.size V, d.w.cell? ⟨w.heap.size + 1, 1, none⟩ = some (.int .i64 x1) := fun d => d.cell hz1 (m1.cell 1 _ rfl)
        have E2 : Hid (∀ d : Grown V.heap.size V, Calls Try.prog 63 #[.agg #[.int .i64 s, .slice a0 n0 c0], .int .i64 x0, .int .i64 x1] d.w fun e w' => e = .returned (.int .i64 r) ∧ Below d.w.heap.size d.w w') := fun d => unhide EA' d.w (bV.trans (d.below.mono bV.size))
        have k4 : ∀ d : Grown V.heap.size V, d.w.cell? ⟨b, off + k * 2, none⟩ = some (.int .i64 q.A) := fun d => d.cell (by omega) ((bV.cell (p := ⟨b, off + k * 2, none⟩) (by simp; omega)).trans hq)
        clear m0 m1 EA'
        refine wp_region_grown V.heap.size (by kernel_rfl) (by kernel_rfl) ?_
        repeat (go_big_quiet_step (first | (go_at_call 63; exact Calls.grown (Nat.le_refl _) (unhide E2 _))))
        refine wpQuiet_nil ?_
        rintro w5 ⟨d5, rfl⟩
        go_wp2_with fail
        go_ret
        exact ⟨rfl, bV.trans (d5.below.mono bV.size)⟩
  · rw [decide_eq_false t, Bool.false_and] at hr
    subst hr
    have t' : x1 ≤ x0 := by omega
    have t'' : decide (x0 < x1) = false := decide_eq_false t
    go_enter Try.func61, Try.ntmps61
    go_wp2_with fail
    obtain ⟨V, hV⟩ : ∃ W, W = (w.alloc (Obj.cells #[Value.int .i64 s, Value.slice a0 n0 c0] 26)).alloc (Obj.cells #[Value.int .i64 x0, Value.int .i64 x1] 85) := ⟨_, rfl⟩
    rw [← hV]
    obtain ⟨bV, m0, m1⟩ := unhide HSTEP V hV
    clear hV HSTEP
    have hz0 := m0.lt
    have hz1 := m1.lt
    have k0 : ∀ d : Grown V.heap.size V, d.w.cell? ⟨w.heap.size, 0, none⟩ = some (.int .i64 s) := fun d => d.cell hz0 (m0.cell 0 _ rfl)
    have k1 : ∀ d : Grown V.heap.size V, d.w.cell? ⟨w.heap.size, 1, none⟩ = some (.slice a0 n0 c0) := fun d => d.cell hz0 (m0.cell 1 _ rfl)
    have k2 : ∀ d : Grown V.heap.size V, d.w.cell? ⟨w.heap.size + 1, 0, none⟩ = some (.int .i64 x0) := fun d => d.cell hz1 (m1.cell 0 _ rfl)
    have k3 : ∀ d : Grown V.heap.size V, d.w.cell? ⟨w.heap.size + 1, 1, none⟩ = some (.int .i64 x1) := fun d => d.cell hz1 (m1.cell 1 _ rfl)
    have E2 : Hid (∀ d : Grown V.heap.size V, Calls Try.prog 63 #[.agg #[.int .i64 s, .slice a0 n0 c0], .int .i64 x0, .int .i64 x1] d.w fun e w' => e = .returned (.int .i64 r) ∧ Below d.w.heap.size d.w w') := fun d => unhide EA' d.w (bV.trans (d.below.mono bV.size))
    clear m0 m1 EA'
    refine wp_region_grown V.heap.size (by kernel_rfl) (by kernel_rfl) ?_
    repeat (go_big_quiet_step (first | (go_at_call 63; exact Calls.grown (Nat.le_refl _) (unhide E2 _))))
    refine wpQuiet_nil ?_
    rintro w5 ⟨d5, rfl⟩
    go_wp2_with fail
    go_ret
    exact ⟨rfl, bV.trans (d5.below.mono bV.size)⟩
end Gr
end Go.Proofs.Ytkjclkelnheheaa
