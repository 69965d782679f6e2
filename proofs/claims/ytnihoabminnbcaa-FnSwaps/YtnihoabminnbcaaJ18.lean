/-
 Lk0, Lk1, GrImplG, LkLaw.
-/
import Derived.Test.YtnihoabminnbcaaJ17
import Derived.Test.YtnihoabminnbcaaJ8
import Derived.Test.YtnihoabminnbcaaJ15
import Derived.Test.YtnihoabminnbcaaJ3
import Derived.Test.YtnihoabminnbcaaJ2
namespace Go.Proofs.Ytnihoabminnbcaa
namespace Lk
open Go.RowKit
open Gr (EdgeI GrAt GBox atFrom specAt_any below_new InOwn InAt own_below own_lower intsV intsAt_of_own info3 graphOk specGraph_any Kept)
/-- Is u beside v? -/
def nb (Q : List EdgeI) (v : Int) (u : Nat) : Bool := ((u : Int) != v) && decide (0 ≤ atFrom (u : Int) v 0 Q)
/-- The neighbours of v below k. -/
def nextTo (Q : List EdgeI) (v : Int) (k : Nat) : List Int := ((List.range k).filter (nb Q v)).map fun j => ((j : Nat) : Int)
theorem nextTo_in {Q : List EdgeI} {v : Int} {k : Nat} (h : nb Q v k = true) : nextTo Q v (k + 1) = nextTo Q v k ++ [(k : Int)] := by
  unfold nextTo
  rw [List.range_succ, List.filter_append]
  simp [h]
theorem nextTo_out {Q : List EdgeI} {v : Int} {k : Nat} (h : nb Q v k = false) : nextTo Q v (k + 1) = nextTo Q v k := by
  unfold nextTo
  rw [List.range_succ, List.filter_append]
  simp [h]
theorem nextTo_length (Q : List EdgeI) (v : Int) (k : Nat) : (nextTo Q v k).length ≤ k := by
  unfold nextTo
  rw [List.length_map]
  have := List.length_filter_le (nb Q v) (List.range k)
  simpa using this
theorem intsV_snocL (K : List Int) (x : Int) : intsV (K ++ [x]) = intsV K ++ [Value.int .i64 x] := by simp [intsV]
theorem one_intL (x : Int) : ∀ u, u ∈ [Value.int .i64 x] → u.oneCell' = true := by
  intro u hu; simp at hu; subst hu; rfl
set_option maxRecDepth 100000 in
set_option maxHeartbeats 2000000 in
theorem next_any (v : Value) (B n : Nat) (x : Int) (Q : List EdgeI) (h1 : Q.length ≤ 1048576) (hn : n ≤ 1048576) (w : World) (hB : B ≤ w.heap.size) (hv : GrAt w v B (n : Int) Q) :
    Calls Try.prog 55 #[v, .int .i64 x] w fun e w' => (∃ d, e = .returned d ∧ InOwn w' w.heap.size d (nextTo Q x n)) ∧ Below w.heap.size w w' := by
  obtain ⟨i0, hi, hz0, hz1, hz2⟩ := info_parts info3
  have AT := hide (fun (k : Nat) w1 (hb : Below w.heap.size w w1) => specAt_any v B (n : Int) (k : Int) x Q h1 w1 (by have := hb.size; omega) (hv.below hb hB))
  obtain ⟨a, m, c, rfl, _⟩ := hv
  go_enter Try.func55, Try.ntmps55
  go_wp2_with fail
  obtain ⟨V1, hV1⟩ : ∃ W, W = w.alloc (Obj.cells #[Value.int .i64 (n : Int), Value.slice a m c] 26) := ⟨_, rfl⟩
  rw [← hV1]
  have x1 : GBox V1 w.heap.size (n : Int) (.slice a m c) := by rw [hV1]; exact GBox.new _ _ _
  have b1 : Below w.heap.size w V1 := by rw [hV1]; exact below_new _ _
  have HS1 : Hid (V1.heap.size = w.heap.size + 1) := by show _ = _; rw [hV1]; simp
  clear hV1
  have z1 := x1.lt
  have X1 := hide x1
  go_loopw [5, 6] (fun out i wr => ∃ k : Nat, i = .int .i64 (k : Int) ∧ k ≤ n ∧ Hid (InOwn wr V1.heap.size out (nextTo Q x k)) ∧ Below V1.heap.size V1 wr) (fun _ i _ => n - (intOf i).toNat)
  case atStart =>
    refine ⟨0, rfl, Nat.zero_le _, ?_, (Below.refl _ _).alloc (Nat.le_refl _) _⟩
    have h := World.ownsRow_made V1 (e := 3) #[] 0 (Nat.le_refl _) (Nat.zero_le _) (show (#[] : Array Value).size = 0 * 1 from rfl)
    rw [show (⟨V1.heap.size, 0, none⟩ : Addr) = ⟨w.heap.size + 1, 0, none⟩ by rw [unhide HS1]] at h
    exact h
  case round =>
    obtain ⟨k, rfl, hk, HO, hb⟩ := hrel
    have hbw := b1.trans (hb.mono b1.size)
    obtain ⟨p0, p1⟩ := ((unhide X1).below hb).cells
    obtain ⟨A, cp, rfl, _⟩ := intsAt_of_own (unhide HO)
    by_cases hlt : k < n
    · have hx1 : (k : Int) < (n : Int) := by omega
      by_cases hne : (k : Int) = x
      · have hq : nb Q x k = false := by unfold nb; simp [hne]
        have HF := hide (nextTo_out hq)
        have t0 : ((k : Int) != x) = false := by simp [hne]
        clear hne
        go_wp2_with fail
        exact ⟨⟨k + 1, by go_num, by omega, (by rw [unhide HF]; exact unhide HO), hb⟩, by simp [intOf]; omega⟩
      · have t0 : ((k : Int) != x) = true := by simp [hne]
        have AK := hide (unhide AT k wr hbw)
        have HQ : Hid (nb Q x k = decide (0 ≤ atFrom (k : Int) x 0 Q)) := by show _ = _; unfold nb; rw [t0]; rfl
        have HNE := hide hne
        clear hne
        generalize atFrom (k : Int) x 0 Q = r at AK HQ
        go_wp2_with fail
        refine (unhide AK).mono ?_
        rintro e w2 ⟨rfl, hb2⟩
        have HO2 := hide ((unhide HO).below hb2)
        have hbb := hb.trans (hb2.mono hb.size)
        clear hb2 p0 p1
        by_cases hr : 0 ≤ r
        · have HF := hide (nextTo_in (by rw [unhide HQ]; simp [hr]))
          have hfl := nextTo_length Q x k
          have hown := unhide HO2
          unfold InOwn at hown
          go_wp2_with (at_builtin; refine wpList_append_own _ rfl _ _ 30 rfl V1.heap.size 3 i0 (.int .i64 0) 1 8 Try.underlying30 hi hz0 hz1 hz2 rfl (by decide) _ _ _ rfl (hown.alloc _) ⟨w2.heap.size, 0, none⟩ 1 1 [.int .i64 (k : Int)] rfl rfl (cell_one_new _ _ _) (one_intL _) ?_ ?_ ?_ ?_)
          · unfold maxLen; omega
          · omega
          · have := hbb.size; first | omega | (simp; omega)
          intro v' w4 hown' hgrow _
          have hb4 := below_append hbb (Nat.le_refl _) hown hgrow
          rw [← intsV_snocL, ← unhide HF] at hown'
          have hfe : (nextTo Q x k).length + 1 = (nextTo Q x (k + 1)).length := by rw [unhide HF]; simp
          rw [hfe] at hown'
          have HO4 : Hid (InOwn w4 V1.heap.size v' (nextTo Q x (k + 1))) := hown'
          clear hown' hgrow hown HO HO2 hbb hfe hfl
          go_wp2_with fail
          exact ⟨⟨k + 1, by go_num, by omega, unhide HO4, hb4⟩, by simp [intOf]; omega⟩
        · have HF := hide (nextTo_out (by rw [unhide HQ]; simp [hr]))
          go_wp2_with fail
          exact ⟨⟨k + 1, by go_num, by omega, (by rw [unhide HF]; exact unhide HO2), hbb⟩, by simp [intOf]; omega⟩
    · obtain rfl : k = n := by omega
      go_wp2
      go_ret
      exact ⟨⟨_, rfl, (unhide HO).lower (by omega)⟩, hbw⟩
/-- What Neighbours tells. -/
def nbrs (s : Int) (Q : List EdgeI) (x : Int) : List Int := if graphOk s Q = true ∧ 0 ≤ x ∧ x ≤ s - 1 then nextTo Q x s.toNat else []
theorem nbrs_length (s : Int) (Q : List EdgeI) (x : Int) : (nbrs s Q x).length ≤ s.toNat := by
  unfold nbrs
  split
  · exact nextTo_length _ _ _
  · simp
end Lk
end Go.Proofs.Ytnihoabminnbcaa
namespace Go.Proofs.Ytnihoabminnbcaa
namespace Lk
open Go.RowKit
open Gr (EdgeI GrAt GBox atFrom below_new InOwn InAt own_below own_lower intsV graphOk specGraph_any l01In_is)
theorem ok_size {s : Int} {Q : List EdgeI} (h : graphOk s Q = true) : 0 ≤ s ∧ s ≤ 9 := by
  unfold graphOk at h
  simp at h
  omega
end Lk
end Go.Proofs.Ytnihoabminnbcaa
namespace Go.Proofs.Ytnihoabminnbcaa
namespace Gr
open Go.RowKit
/-- Whether a couple may stand behind another one. -/
def nextC (Q : List EdgeI) (p : Option CoupleI) (x : CoupleI) : Bool := decide (x.A < x.B) && (decide (0 ≤ atFrom x.A x.B 0 Q) && aheadC p x)
theorem at_least (x y : Int) (Q : List EdgeI) : atFrom x y 0 Q = -1 ∨ 0 ≤ atFrom x y 0 Q := by
  by_cases h : ∃ e ∈ Q, hit x y e = true
  · obtain ⟨i, _, _, _, e⟩ := at_some x y Q 0 h
    omega
  · exact Or.inl (at_none x y Q 0 (fun e he hh => h ⟨e, he, hh⟩))
theorem asc_length : ∀ (M : List CoupleI) (lo : Int), (∀ x ∈ M, lo ≤ x.A ∧ x.A < 9) → M.Pairwise (fun x y => x.A < y.A) → lo ≤ 9 → (M.length : Int) ≤ 9 - lo
  | [], lo, _, _, h => by simp; omega
  | x :: r, lo, h, hp, h9 => by
    obtain ⟨h1, h2⟩ := List.pairwise_cons.1 hp
    have hx := h x List.mem_cons_self
    have := asc_length r (x.A + 1) (fun y hy => ⟨by have := h1 y hy; omega, (h y (List.mem_cons_of_mem _ hy)).2⟩) h2 (by omega)
    rw [List.length_cons]
    omega
theorem match_nolen (s : Int) (Q : List EdgeI) (M : List CoupleI) : matchOk s Q M = (graphOk s Q && mFrom Q none [] M) := by
  unfold matchOk
  cases hg : graphOk s Q with
  | false => rfl
  | true =>
    cases hm : mFrom Q none [] M with
    | false => simp
    | true =>
      obtain ⟨i1, i2, _⟩ := match_pm hg M none [] hm
      obtain ⟨_, h9, _, _⟩ := graph_sound hg
      have := asc_length M 0 (fun x hx => by have := i1 x hx; omega) (i2.imp (fun h => h.1)) (by omega)
      have h : M.length ≤ 9 := by omega
      simp [h]
theorem next_range {s : Int} {Q : List EdgeI} (hg : graphOk s Q = true) {p : Option CoupleI} {x : CoupleI} (h : nextC Q p x = true) : 0 ≤ x.A ∧ x.A < x.B ∧ x.B < 9 := by
  unfold nextC at h
  simp only [Bool.and_eq_true, decide_eq_true_eq] at h
  obtain ⟨h1, h3, _⟩ := h
  obtain ⟨_, h9, hok, _⟩ := graph_sound hg
  obtain ⟨i, hi, _, _, hh⟩ := edgeN_at h3
  have hek := hok _ (List.getElem_mem hi)
  have he := (edgeOk_iff s _).1 hek
  have hh2 := ((hit_iff hek h1).1).1 hh
  omega
set_option maxRecDepth 100000 in
set_option maxHeartbeats 4000000 in
theorem isNext_any (B : Nat) (v : Value) (s : Int) (Q : List EdgeI) (a : Option Addr) (n c : Nat) (M : List CoupleI) (hg : graphOk s Q = true) (h1 : Q.length ≤ 1048576) (h2 : n ≤ 1048576) (j : Nat) (hj : j < M.length) (w : World) (hB : B ≤ w.heap.size) (hv : GrAt w v B s Q) (hM : couplesAt w a n B M) :
    Calls Try.prog 42 #[v, .slice a n c, .int .i64 (j : Int)] w fun e w' => e = .returned (.bool (nextC Q (prevC M j) M[j])) ∧ Below w.heap.size w w' := by
  have EA := hide (fun x y w1 (hb : Below w.heap.size w w1) => implEdgeAt_gen B v s Q x y h1 w1 (by have := hb.size; omega) (hv.below hb hB))
  have hEV : ∀ x y, edgeAtV s x y Q = atFrom x y 0 Q := fun x y => by unfold edgeAtV; rw [if_pos hg]
  simp only [hEV] at EA
  obtain ⟨a0, n0, c0, rfl, _⟩ := hv
  obtain ⟨hL, hc⟩ := hM
  obtain ⟨b, off, rfl, hbB, c1, c2⟩ := hc j hj
  have hr : nextC Q (prevC M j) M[j] = (decide (M[j].A < M[j].B) && (decide (0 ≤ atFrom M[j].A M[j].B 0 Q) && aheadC (prevC M j) M[j])) := rfl
  have HP : Hid (∀ k, j = k + 1 → ∃ q, prevC M j = some q ∧ w.cell? ⟨b, off + k * 2, none⟩ = some (.int .i64 q.A)) := fun k hk => by
    have hk1 : k < M.length := by omega
    obtain ⟨b', off', e', _, k0, _⟩ := hc k hk1
    simp at e'
    obtain ⟨rfl, rfl⟩ := e'
    refine ⟨M[k], ?_, k0⟩
    unfold prevC
    rw [if_neg (by omega), hk]
    simp [hk1]
  have HZ : Hid (j = 0 → prevC M j = none) := fun h => by unfold prevC; rw [if_pos h]
  have hjn : (j : Int) < (n : Int) := by omega
  clear hc
  generalize nextC Q (prevC M j) M[j] = R at hr ⊢
  generalize M[j] = x at hr c1 c2
  generalize prevC M j = p at hr HP HZ
  obtain ⟨x0, x1⟩ := x
  simp only at hr c1 c2
  have EA' := hide (fun w1 hb => unhide EA x0 x1 w1 hb)
  clear EA
  obtain ⟨r, hrr⟩ : ∃ r, r = atFrom x0 x1 0 Q := ⟨_, rfl⟩
  have hr01 : r = -1 ∨ 0 ≤ r := by rw [hrr]; exact at_least x0 x1 Q
  rw [← hrr] at hr EA'
  clear hrr hEV hg h1
  have hneb : ¬ b = w.heap.size := by omega
  have hbl : b < w.heap.size := by omega
  have hnb2 : ¬ b = w.heap.size + 1 := by omega
  have step : ∀ (V : World), V = (w.alloc (Obj.cells #[Value.int .i64 s, Value.slice a0 n0 c0] 26)).alloc (Obj.cells #[Value.int .i64 x0, Value.int .i64 x1] 58) → Below w.heap.size w V ∧ Blk V w.heap.size #[Value.int .i64 s, Value.slice a0 n0 c0] 26 ∧ Blk V (w.heap.size + 1) #[Value.int .i64 x0, Value.int .i64 x1] 58 := by
    rintro V rfl
    exact ⟨(below_new _ _).alloc (by simp) _, Blk.new0.alloc, Blk.new1⟩
  have HSTEP := hide step
  clear step
  by_cases t : x0 < x1
  · rw [decide_eq_true t, Bool.true_and] at hr
    rcases hr01 with hr1 | hr1
    · rw [decide_eq_false (by omega), Bool.false_and] at hr
      subst hr
      rw [hr1] at EA'
      go_enter Try.func42, Try.ntmps42
      go_wp2_with fail
      obtain ⟨V, hV⟩ : ∃ W, W = (w.alloc (Obj.cells #[Value.int .i64 s, Value.slice a0 n0 c0] 26)).alloc (Obj.cells #[Value.int .i64 x0, Value.int .i64 x1] 58) := ⟨_, rfl⟩
      rw [← hV]
      obtain ⟨bV, m0, m1⟩ := unhide HSTEP V hV
      clear hV HSTEP
      have hz0 := m0.lt
      have hz1 := m1.lt
      have k0 : ∀ d : Grown V.heap.size V, d.w.cell? ⟨w.heap.size, 0, none⟩ = some (.int .i64 s) := fun d => d.cell hz0 (m0.cell 0 _ rfl)
      have k1 : ∀ d : Grown V.heap.size V, d.w.cell? ⟨w.heap.size, 1, none⟩ = some (.slice a0 n0 c0) := fun d => d.cell hz0 (m0.cell 1 _ rfl)
      have k2 : ∀ d : Grown V.heap.size V, d.w.cell? ⟨w.heap.size + 1, 0, none⟩ = some (.int .i64 x0) := fun d => d.cell hz1 (m1.cell 0 _ rfl)
      have k3 : ∀ d : Grown V.heap.size V, d.w.cell? ⟨w.heap.size + 1, 1, none⟩ = some (.int .i64 x1) := fun d => d.cell hz1 (m1.cell 1 _ rfl)
      have E2 : Hid (∀ d : Grown V.heap.size V, Calls Try.prog 54 #[.agg #[.int .i64 s, .slice a0 n0 c0], .int .i64 x0, .int .i64 x1] d.w fun e w' => e = .returned (.int .i64 (-1)) ∧ Below d.w.heap.size d.w w') := fun d => unhide EA' d.w (bV.trans (d.below.mono bV.size))
      clear m0 m1 EA'
      refine wp_region_grown V.heap.size (by kernel_rfl) (by kernel_rfl) ?_
      repeat (go_big_quiet_step (first | (go_at_call 54; exact Calls.grown (Nat.le_refl _) (unhide E2 _))))
      refine wpQuiet_nil ?_
      rintro w5 ⟨d5, rfl⟩
      go_wp2_with fail
      go_ret
      exact ⟨rfl, bV.trans (d5.below.mono bV.size)⟩
    · rw [decide_eq_true hr1, Bool.true_and] at hr
      have hrn : ¬ r = -1 := by omega
      have hrb : (r != -1) = true := by simp; omega
      rcases Nat.eq_zero_or_pos j with hj0 | hj0
      · have hp := unhide HZ hj0
        subst hp
        have HJ0 := hide hj0
        clear hj0
        simp only [aheadC] at hr
        subst hr
        go_enter Try.func42, Try.ntmps42
        go_wp2_with fail
        obtain ⟨V, hV⟩ : ∃ W, W = (w.alloc (Obj.cells #[Value.int .i64 s, Value.slice a0 n0 c0] 26)).alloc (Obj.cells #[Value.int .i64 x0, Value.int .i64 x1] 58) := ⟨_, rfl⟩
        rw [← hV]
        obtain ⟨bV, m0, m1⟩ := unhide HSTEP V hV
        clear hV HSTEP
        have hz0 := m0.lt
        have hz1 := m1.lt
        have k0 : ∀ d : Grown V.heap.size V, d.w.cell? ⟨w.heap.size, 0, none⟩ = some (.int .i64 s) := fun d => d.cell hz0 (m0.cell 0 _ rfl)
        have k1 : ∀ d : Grown V.heap.size V, d.w.cell? ⟨w.heap.size, 1, none⟩ = some (.slice a0 n0 c0) := fun d => d.cell hz0 (m0.cell 1 _ rfl)
        have k2 : ∀ d : Grown V.heap.size V, d.w.cell? ⟨w.heap.size + 1, 0, none⟩ = some (.int .i64 x0) := fun d => d.cell hz1 (m1.cell 0 _ rfl)
        have k3 : ∀ d : Grown V.heap.size V, d.w.cell? ⟨w.heap.size + 1, 1, none⟩ = some (.int .i64 x1) := fun d => d.cell hz1 (m1.cell 1 _ rfl)
        have E2 : Hid (∀ d : Grown V.heap.size V, Calls Try.prog 54 #[.agg #[.int .i64 s, .slice a0 n0 c0], .int .i64 x0, .int .i64 x1] d.w fun e w' => e = .returned (.int .i64 r) ∧ Below d.w.heap.size d.w w') := fun d => unhide EA' d.w (bV.trans (d.below.mono bV.size))
        have hj0' : (j : Int) = 0 := by have := unhide HJ0; omega
        have hj0b : ((j : Int) == 0) = true := by simp; omega
        clear m0 m1 EA'
        refine wp_region_grown V.heap.size (by kernel_rfl) (by kernel_rfl) ?_
        repeat (go_big_quiet_step (first | (go_at_call 54; exact Calls.grown (Nat.le_refl _) (unhide E2 _))))
        refine wpQuiet_nil ?_
        rintro w5 ⟨d5, rfl⟩
        go_wp2_with fail
        go_ret
        exact ⟨rfl, bV.trans (d5.below.mono bV.size)⟩
      · obtain ⟨k, hk⟩ : ∃ k, j = k + 1 := ⟨j - 1, by omega⟩
        obtain ⟨q, hp, hq⟩ := unhide HP k hk
        subst hp
        simp only [aheadC] at hr
        subst hr
        have hwk : IntKind.i64.wrap ((j : Int) - 1) = (k : Int) := by rw [wrap_in _ (by omega)]; omega
        have hk0 : ¬ (j : Int) = 0 := by omega
        have hk0b : ((j : Int) == 0) = false := by simp; omega
        have hkn : (k : Int) < (n : Int) := by omega
        clear hk
        go_enter Try.func42, Try.ntmps42
        go_wp2_with fail
        obtain ⟨V, hV⟩ : ∃ W, W = (w.alloc (Obj.cells #[Value.int .i64 s, Value.slice a0 n0 c0] 26)).alloc (Obj.cells #[Value.int .i64 x0, Value.int .i64 x1] 58) := ⟨_, rfl⟩
        rw [← hV]
        obtain ⟨bV, m0, m1⟩ := unhide HSTEP V hV
        clear hV HSTEP
        have hz0 := m0.lt
        have hz1 := m1.lt
        have k0 : ∀ d : Grown V.heap.size V, d.w.cell? ⟨w.heap.size, 0, none⟩ = some (.int .i64 s) := fun d => d.cell hz0 (m0.cell 0 _ rfl)
        have k1 : ∀ d : Grown V.heap.size V, d.w.cell? ⟨w.heap.size, 1, none⟩ = some (.slice a0 n0 c0) := fun d => d.cell hz0 (m0.cell 1 _ rfl)
        have k2 : ∀ d : Grown V.heap.size V, d.w.cell? ⟨w.heap.size + 1, 0, none⟩ = some (.int .i64 x0) := fun d => d.cell hz1 (m1.cell 0 _ rfl)
        have k3 : ∀ d : Grown V.heap.size V, d.w.cell? ⟨w.heap.size + 1, 1, none⟩ = some (.int .i64 x1) := fun d => d.cell hz1 (m1.cell 1 _ rfl)
        have E2 : Hid (∀ d : Grown V.heap.size V, Calls Try.prog 54 #[.agg #[.int .i64 s, .slice a0 n0 c0], .int .i64 x0, .int .i64 x1] d.w fun e w' => e = .returned (.int .i64 r) ∧ Below d.w.heap.size d.w w') := fun d => unhide EA' d.w (bV.trans (d.below.mono bV.size))
        have k4 : ∀ d : Grown V.heap.size V, d.w.cell? ⟨b, off + k * 2, none⟩ = some (.int .i64 q.A) := fun d => d.cell (by omega) ((bV.cell (p := ⟨b, off + k * 2, none⟩) (by simp; omega)).trans hq)
        clear m0 m1 EA'
        refine wp_region_grown V.heap.size (by kernel_rfl) (by kernel_rfl) ?_
        repeat (go_big_quiet_step (first | (go_at_call 54; exact Calls.grown (Nat.le_refl _) (unhide E2 _))))
        refine wpQuiet_nil ?_
        rintro w5 ⟨d5, rfl⟩
        go_wp2_with fail
        go_ret
        exact ⟨rfl, bV.trans (d5.below.mono bV.size)⟩
  · rw [decide_eq_false t, Bool.false_and] at hr
    subst hr
    have t' : x1 ≤ x0 := by omega
    have t'' : decide (x0 < x1) = false := decide_eq_false t
    go_enter Try.func42, Try.ntmps42
    go_wp2_with fail
    obtain ⟨V, hV⟩ : ∃ W, W = (w.alloc (Obj.cells #[Value.int .i64 s, Value.slice a0 n0 c0] 26)).alloc (Obj.cells #[Value.int .i64 x0, Value.int .i64 x1] 58) := ⟨_, rfl⟩
    rw [← hV]
    obtain ⟨bV, m0, m1⟩ := unhide HSTEP V hV
    clear hV HSTEP
    have hz0 := m0.lt
    have hz1 := m1.lt
    have k0 : ∀ d : Grown V.heap.size V, d.w.cell? ⟨w.heap.size, 0, none⟩ = some (.int .i64 s) := fun d => d.cell hz0 (m0.cell 0 _ rfl)
    have k1 : ∀ d : Grown V.heap.size V, d.w.cell? ⟨w.heap.size, 1, none⟩ = some (.slice a0 n0 c0) := fun d => d.cell hz0 (m0.cell 1 _ rfl)
    have k2 : ∀ d : Grown V.heap.size V, d.w.cell? ⟨w.heap.size + 1, 0, none⟩ = some (.int .i64 x0) := fun d => d.cell hz1 (m1.cell 0 _ rfl)
    have k3 : ∀ d : Grown V.heap.size V, d.w.cell? ⟨w.heap.size + 1, 1, none⟩ = some (.int .i64 x1) := fun d => d.cell hz1 (m1.cell 1 _ rfl)
    have E2 : Hid (∀ d : Grown V.heap.size V, Calls Try.prog 54 #[.agg #[.int .i64 s, .slice a0 n0 c0], .int .i64 x0, .int .i64 x1] d.w fun e w' => e = .returned (.int .i64 r) ∧ Below d.w.heap.size d.w w') := fun d => unhide EA' d.w (bV.trans (d.below.mono bV.size))
    clear m0 m1 EA'
    refine wp_region_grown V.heap.size (by kernel_rfl) (by kernel_rfl) ?_
    repeat (go_big_quiet_step (first | (go_at_call 54; exact Calls.grown (Nat.le_refl _) (unhide E2 _))))
    refine wpQuiet_nil ?_
    rintro w5 ⟨d5, rfl⟩
    go_wp2_with fail
    go_ret
    exact ⟨rfl, bV.trans (d5.below.mono bV.size)⟩
end Gr
end Go.Proofs.Ytnihoabminnbcaa
namespace Go.Proofs.Ytnihoabminnbcaa
namespace Lk
open Go.RowKit
open Gr (EdgeI GrAt InOwn graphOk)
theorem nbrs_len (s : Int) (Q : List EdgeI) (x : Int) : (nbrs s Q x).length ≤ 9 := by
  unfold nbrs
  split
  · rename_i h
    have := ok_size h.1
    exact Nat.le_trans (nextTo_length _ _ _) (by omega)
  · simp
end Lk
end Go.Proofs.Ytnihoabminnbcaa
