/-
  Texts of this claim, one behind the other: Lg1, GrFlags, GrImplG.
-/
import Derived.Test.YtjblkijicfmkgaaGreatDoorJ8
import Derived.Test.YtjblkijicfmkgaaGreatDoorJ3
import Derived.Test.YtjblkijicfmkgaaGreatDoorJ14
import Derived.Handy
import Derived.Test.YtjblkijicfmkgaaGreatDoorJ13
import Derived.Test.YtjblkijicfmkgaaGreatDoorJ10
import Derived.Test.YtjblkijicfmkgaaGreatDoorJ2

/-
  The ledger, the program's small functions: slices.Contains over numbers, mateAmong, sumsTogether.
-/
namespace Go.Proofs.YtjblkijicfmkgaaGreatDoor
namespace Rg
open Go.RowKit

/-- The place of a number in a row, or -1. -/
def placeI (L : List Int) (x : Int) : Nat → Int → Int
  | 0, _ => -1
  | f + 1, i => if x = L.getD i.toNat 0 then i else placeI L x f (i + 1)

theorem inK_drop (K : List Int) (j : Nat) (h : j < K.length) (x : Int) : inK (K.drop j) x = (decide (x = K[j]) || inK (K.drop (j + 1)) x) := by
  unfold inK
  rw [List.drop_eq_getElem_cons h, Bool.eq_iff_iff]
  simp only [List.contains_iff_mem, List.mem_cons, Bool.or_eq_true, decide_eq_true_eq]

set_option maxRecDepth 100000 in
theorem index_any (a : Option Addr) (n c B : Nat) (K : List Int) (x : Int) (_hn : n ≤ 1048576) (w : World) (hK : IntsAt w a n B K) :
    Calls Tryz.prog 73 #[.slice a n c, .int .i64 x] w fun e w' => (∃ y : Int, e = .returned (.int .i64 y) ∧ decide (0 ≤ y) = inK K x) ∧ w' = w := by
  obtain ⟨hL, hc⟩ := hK
  have HC := hide hc
  have HL := hide hL
  have HST := hide (fun j h => inK_drop K j h x)
  have H0 : Hid (inK K x = inK (K.drop 0) x) := rfl
  have HE : Hid (inK (K.drop n) x = false) := by show _ = _; rw [← hL, List.drop_length]; rfl
  generalize inK K x = R at H0 ⊢
  clear hc hL
  go_enter Tryz.func73, Tryz.ntmps73
  go_wp2_with fail
  go_loop [5, 8] (fun _ iv => ∃ j : Nat, iv = .int .i64 (j : Int) ∧ j ≤ n ∧ Hid (R = inK (K.drop j) x)) (fun _ iv => n - (intOf iv).toNat)
  case atStart => exact ⟨0, rfl, Nat.zero_le _, unhide H0⟩
  case round =>
    obtain ⟨j, rfl, hj, HR⟩ := hrel
    by_cases hlt : j < n
    · have hjK : j < K.length := by have := unhide HL; omega
      obtain ⟨b, off, rfl, _, d0⟩ := unhide HC j hjK
      have HR2 := hide ((unhide HR).trans (unhide HST j hjK))
      generalize K[j] = y at d0 HR2
      have hj1 : (j : Int) < (n : Int) := by omega
      have hj0 : (0 : Int) ≤ (j : Int) := by omega
      by_cases hxy : x = y
      · have hR : R = true := by rw [unhide HR2, decide_eq_true hxy]; rfl
        subst hR
        clear HR HR2
        subst hxy
        go_wp2
        go_ret
        exact ⟨⟨_, rfl, by simp⟩, rfl⟩
      · have HR3 : Hid (R = inK (K.drop (j + 1)) x) := by show _ = _; rw [unhide HR2, decide_eq_false hxy]; rfl
        clear HR HR2
        go_wp2_with fail
        exact ⟨⟨j + 1, by go_num, by omega, unhide HR3⟩, by simp [intOf]; omega⟩
    · obtain rfl : j = n := by omega
      have hR : R = false := (unhide HR).trans (unhide HE)
      subst hR
      go_wp2
      go_ret
      exact ⟨⟨_, rfl, by simp⟩, rfl⟩

set_option maxRecDepth 100000 in
theorem contains_any (a : Option Addr) (n c B : Nat) (K : List Int) (x : Int) (hn : n ≤ 1048576) (w : World) (hK : IntsAt w a n B K) :
    Calls Tryz.prog 53 #[.slice a n c, .int .i64 x] w fun e w' => e = .returned (.bool (inK K x)) ∧ w' = w := by
  have IX := hide (index_any a n c B K x hn w hK)
  clear hK
  go_enter Tryz.func53, Tryz.ntmps53
  go_wp2_with fail
  refine (unhide IX).mono ?_
  rintro e w1 ⟨⟨y, rfl, hy⟩, rfl⟩
  have HY := hide hy
  clear hy
  go_wp2
  go_ret
  exact ⟨congrArg (fun b => Ending.returned (Value.bool b)) (unhide HY), rfl⟩

/-- What mateAmong tells. -/
def mateV (o : Option Int) : Value := .tuple #[.int .i64 (o.getD 0), .bool o.isSome]

set_option maxRecDepth 100000 in
theorem mate_any (a : Option Addr) (n c B : Nat) (M : List Gr.CoupleI) (x : Int) (_hn : n ≤ 1048576) (w : World) (hB : B ≤ w.heap.size) (hM : Gr.couplesAt w a n B M) :
    Calls Tryz.prog 44 #[.slice a n c, .int .i64 x] w fun e w' => e = .returned (mateV (mateM M x)) ∧ Below w.heap.size w w' := by
  obtain ⟨hL, hc⟩ := hM
  have HC := hide hc
  have HL := hide hL
  have HST := hide (fun j h => mateM_step M j h x)
  have H0 : Hid (mateM M x = mateM (M.drop 0) x) := rfl
  have HE : Hid (mateM (M.drop n) x = none) := by show _ = _; rw [← hL, List.drop_length]; rfl
  generalize mateM M x = R at H0 ⊢
  clear hc hL
  go_enter Tryz.func44, Tryz.ntmps44
  go_wp2_with fail
  go_loopw [10] (fun iv wr => ∃ j : Nat, iv = .int .i64 (j : Int) ∧ j ≤ n ∧ Hid (R = mateM (M.drop j) x) ∧ Below w.heap.size w wr) (fun iv _ => n - (intOf iv).toNat)
  case atStart => exact ⟨0, rfl, Nat.zero_le _, unhide H0, Below.refl _ _⟩
  case round =>
    obtain ⟨j, rfl, hj, HR, hb⟩ := hrel
    by_cases hlt : j < n
    · have hjM : j < M.length := by have := unhide HL; omega
      obtain ⟨b, off, rfl, hbB, d0, d1⟩ := unhide HC j hjM
      rw [← hb.cell (p := ⟨b, off + j * 2, none⟩) (by simp; omega)] at d0
      rw [← hb.cell (p := ⟨b, off + j * 2 + 1, none⟩) (by simp; omega)] at d1
      have HR2 := hide ((unhide HR).trans (unhide HST j hjM))
      generalize M[j] = y at d0 d1 HR2
      obtain ⟨ya, yb⟩ := y
      simp only at d0 d1 HR2
      have hj1 : (j : Int) < (n : Int) := by omega
      have hj0 : (0 : Int) ≤ (j : Int) := by omega
      have bw := hb.alloc hb.size (Obj.cells #[Value.int .i64 ya, Value.int .i64 yb] 93)
      by_cases hA : ya = x
      · have hR : R = some yb := by rw [unhide HR2, if_pos hA]
        subst hR
        have h1 : (x == ya) = true := by rw [hA]; simp
        clear HR HR2 hA
        go_wp2
        go_ret2
        exact ⟨rfl, bw⟩
      · have h1 : (x == ya) = false := by simp; exact fun e => hA e.symm
        by_cases hB2 : yb = x
        · have hR : R = some ya := by rw [unhide HR2, if_neg hA, if_pos hB2]
          subst hR
          have h2 : (x == yb) = true := by rw [hB2]; simp
          clear HR HR2 hA hB2
          go_wp2
          go_ret2
          exact ⟨rfl, bw⟩
        · have h2 : (x == yb) = false := by simp; exact fun e => hB2 e.symm
          have HR3 : Hid (R = mateM (M.drop (j + 1)) x) := by show _ = _; rw [unhide HR2, if_neg hA, if_neg hB2]
          clear HR HR2 hA hB2
          go_wp2_with fail
          exact ⟨⟨j + 1, by go_num, by omega, unhide HR3, bw⟩, by simp [intOf]; omega⟩
    · obtain rfl : j = n := by omega
      have hR : R = none := (unhide HR).trans (unhide HE)
      subst hR
      go_wp2
      go_ret2
      exact ⟨rfl, hb⟩

set_option maxRecDepth 100000 in
theorem together_any (x y : Gr.SumsI) (hx : Gr.SB x 1000) (hy : Gr.SB y 1000) (w : World) :
    Calls Tryz.prog 72 #[x.v, y.v] w fun e w' => e = .returned (plusS x y).v ∧ Below w.heap.size w w' := by
  unfold Gr.SB at hx hy
  unfold Gr.SumsI.v plusS
  obtain ⟨x1, x2, x3⟩ := x
  obtain ⟨y1, y2, y3⟩ := y
  simp only at hx hy ⊢
  go_enter Tryz.func72, Tryz.ntmps72
  go_wp2
  go_returns
  exact ⟨rfl, (((Below.refl _ _).alloc (Nat.le_refl _) _).alloc (by simp) _).alloc (by simp; omega) _⟩

end Rg
end Go.Proofs.YtjblkijicfmkgaaGreatDoor

/-
  Nine flags, one a vertex: which ones are used.
-/
namespace Go.Proofs.YtjblkijicfmkgaaGreatDoor
namespace Gr
open Go.RowKit

/-- The flags of the used ones. -/
def flags (U : List Int) : Array Value := ((List.range 9).map fun (j : Nat) => Value.bool (inK U (j : Int))).toArray

theorem flags_at (U : List Int) (k : Nat) (h : k < 9) : (flags U)[k]? = some (.bool (inK U (k : Int))) := by
  unfold flags
  simp [h]

theorem flags_size (U : List Int) : (flags U).size = 9 := by unfold flags; simp

theorem flags_nil : flags [] = #[.bool false, .bool false, .bool false, .bool false, .bool false, .bool false, .bool false, .bool false, .bool false] := rfl

theorem flags_ext {C : Array Value} {U : List Int} (h : C.size = 9) (hk : ∀ k : Nat, k < 9 → C[k]? = some (.bool (inK U (k : Int)))) : C = flags U := by
  apply Array.ext_getElem?
  intro i
  rcases Nat.lt_or_ge i 9 with h' | h'
  · rw [hk i h', flags_at U i h']
  · rw [Array.getElem?_eq_none (by omega), Array.getElem?_eq_none (by rw [flags_size]; omega)]

theorem inK_pair (U : List Int) (x y z : Int) : inK (U ++ [x, y]) z = (inK U z || (decide (z = x) || decide (z = y))) := by
  rw [inK_app]
  congr 1
  unfold inK
  rw [Bool.eq_iff_iff]
  simp

/-- Two flags set. -/
theorem flags_two (U : List Int) (x y : Nat) (_hx : x < 9) (_hy : y < 9) : ((flags U).setIfInBounds x (.bool true)).setIfInBounds y (.bool true) = flags (U ++ [(x : Int), (y : Int)]) := by
  refine flags_ext (by simp [flags_size]) (fun k hk => ?_)
  rw [inK_pair]
  by_cases h2 : y = k
  · subst h2
    rw [Array.getElem?_setIfInBounds_self]
    simp [flags_size, hk]
  · rw [Array.getElem?_setIfInBounds_ne h2]
    by_cases h1 : x = k
    · subst h1
      rw [Array.getElem?_setIfInBounds_self]
      simp [flags_size, hk]
    · rw [Array.getElem?_setIfInBounds_ne h1, flags_at U k hk]
      have e1 : ¬ ((k : Int) = (x : Int)) := by omega
      have e2 : ¬ ((k : Int) = (y : Int)) := by omega
      simp [e1, e2]

/-- .. and taken back. -/
theorem flags_back (U : List Int) (x y : Nat) (_hx : x < 9) (_hy : y < 9) (h1 : inK U (x : Int) = false) (h2 : inK U (y : Int) = false) :
    ((flags (U ++ [(x : Int), (y : Int)])).setIfInBounds x (.bool false)).setIfInBounds y (.bool false) = flags U := by
  refine flags_ext (by simp [flags_size]) (fun k hk => ?_)
  by_cases h2' : y = k
  · subst h2'
    rw [Array.getElem?_setIfInBounds_self, h2]
    simp [flags_size, hk]
  · rw [Array.getElem?_setIfInBounds_ne h2']
    by_cases h1' : x = k
    · subst h1'
      rw [Array.getElem?_setIfInBounds_self, h1]
      simp [flags_size, hk]
    · rw [Array.getElem?_setIfInBounds_ne h1', flags_at _ k hk, inK_pair]
      have e1 : ¬ ((k : Int) = (x : Int)) := by omega
      have e2 : ¬ ((k : Int) = (y : Int)) := by omega
      simp [e1, e2]

theorem Kept.edges {S : Nat → Prop} {w w' : World} {a : Option Addr} {n B : Nat} {Q : List EdgeI} (hk : Kept S w w') (h : edgesAt w a n B Q) (hB : B ≤ w.heap.size) (hS : ∀ i, S i → B ≤ i) : edgesAt w' a n B Q :=
  h.below (hk.below hB hS) (Nat.le_refl _)

end Gr
end Go.Proofs.YtjblkijicfmkgaaGreatDoor

/-
  The contracts of impl.isNextCouple and impl.MatchOk.
-/
namespace Go.Proofs.YtjblkijicfmkgaaGreatDoor
namespace Gr
open Go.RowKit

/-- Whether a couple may stand behind another one. -/
def nextC (Q : List EdgeI) (p : Option CoupleI) (x : CoupleI) : Bool := decide (x.A < x.B) && (decide (0 ≤ atFrom x.A x.B 0 Q) && aheadC p x)

theorem at_least (x y : Int) (Q : List EdgeI) : atFrom x y 0 Q = -1 ∨ 0 ≤ atFrom x y 0 Q := by
  by_cases h : ∃ e ∈ Q, hit x y e = true
  · obtain ⟨i, _, _, _, e⟩ := at_some x y Q 0 h
    omega
  · exact Or.inl (at_none x y Q 0 (fun e he hh => h ⟨e, he, hh⟩))

theorem asc_length : ∀ (M : List CoupleI) (lo : Int), (∀ x ∈ M, lo ≤ x.A ∧ x.A < 9) → M.Pairwise (fun x y => x.A < y.A) → lo ≤ 9 → (M.length : Int) ≤ 9 - lo
  | [], lo, _, _, h => by simp; omega
  | x :: r, lo, h, hp, h9 => by
    obtain ⟨h1, h2⟩ := List.pairwise_cons.1 hp
    have hx := h x List.mem_cons_self
    have := asc_length r (x.A + 1) (fun y hy => ⟨by have := h1 y hy; omega, (h y (List.mem_cons_of_mem _ hy)).2⟩) h2 (by omega)
    rw [List.length_cons]
    omega

theorem match_nolen (s : Int) (Q : List EdgeI) (M : List CoupleI) : matchOk s Q M = (graphOk s Q && mFrom Q none [] M) := by
  unfold matchOk
  cases hg : graphOk s Q with
  | false => rfl
  | true =>
    cases hm : mFrom Q none [] M with
    | false => simp
    | true =>
      obtain ⟨i1, i2, _⟩ := match_pm hg M none [] hm
      obtain ⟨_, h9, _, _⟩ := graph_sound hg
      have := asc_length M 0 (fun x hx => by have := i1 x hx; omega) (i2.imp (fun h => h.1)) (by omega)
      have h : M.length ≤ 9 := by omega
      simp [h]

theorem next_range {s : Int} {Q : List EdgeI} (hg : graphOk s Q = true) {p : Option CoupleI} {x : CoupleI} (h : nextC Q p x = true) : 0 ≤ x.A ∧ x.A < x.B ∧ x.B < 9 := by
  unfold nextC at h
  simp only [Bool.and_eq_true, decide_eq_true_eq] at h
  obtain ⟨h1, h3, _⟩ := h
  obtain ⟨_, h9, hok, _⟩ := graph_sound hg
  obtain ⟨i, hi, _, _, hh⟩ := edgeN_at h3
  have hek := hok _ (List.getElem_mem hi)
  have he := (edgeOk_iff s _).1 hek
  have hh2 := ((hit_iff hek h1).1).1 hh
  omega

set_option maxRecDepth 100000 in
set_option maxHeartbeats 4000000 in
theorem isNext_any (B : Nat) (v : Value) (s : Int) (Q : List EdgeI) (a : Option Addr) (n c : Nat) (M : List CoupleI) (hg : graphOk s Q = true) (h1 : Q.length ≤ 1048576) (h2 : n ≤ 1048576) (j : Nat) (hj : j < M.length) (w : World) (hB : B ≤ w.heap.size) (hv : GrAt w v B s Q) (hM : couplesAt w a n B M) :
    Calls Tryz.prog 109 #[v, .slice a n c, .int .i64 (j : Int)] w fun e w' => e = .returned (.bool (nextC Q (prevC M j) M[j])) ∧ Below w.heap.size w w' := by
  have EA := hide (fun x y w1 (hb : Below w.heap.size w w1) => implEdgeAt_gen B v s Q x y h1 w1 (by have := hb.size; omega) (hv.below hb hB))
  have hEV : ∀ x y, edgeAtV s x y Q = atFrom x y 0 Q := fun x y => by unfold edgeAtV; rw [if_pos hg]
  simp only [hEV] at EA
  obtain ⟨a0, n0, c0, rfl, _⟩ := hv
  obtain ⟨hL, hc⟩ := hM
  obtain ⟨b, off, rfl, hbB, c1, c2⟩ := hc j hj
  have hr : nextC Q (prevC M j) M[j] = (decide (M[j].A < M[j].B) && (decide (0 ≤ atFrom M[j].A M[j].B 0 Q) && aheadC (prevC M j) M[j])) := rfl
  have HP : Hid (∀ k, j = k + 1 → ∃ q, prevC M j = some q ∧ w.cell? ⟨b, off + k * 2, none⟩ = some (.int .i64 q.A)) := fun k hk => by
    have hk1 : k < M.length := by omega
    obtain ⟨b', off', e', _, k0, _⟩ := hc k hk1
    simp at e'
    obtain ⟨rfl, rfl⟩ := e'
    refine ⟨M[k], ?_, k0⟩
    unfold prevC
    rw [if_neg (by omega), hk]
    simp [hk1]
  have HZ : Hid (j = 0 → prevC M j = none) := fun h => by unfold prevC; rw [if_pos h]
  have hjn : (j : Int) < (n : Int) := by omega
  clear hc
  generalize nextC Q (prevC M j) M[j] = R at hr ⊢
  generalize M[j] = x at hr c1 c2
  generalize prevC M j = p at hr HP HZ
  obtain ⟨x0, x1⟩ := x
  simp only at hr c1 c2
  have EA' := hide (fun w1 hb => unhide EA x0 x1 w1 hb)
  clear EA
  obtain ⟨r, hrr⟩ : ∃ r, r = atFrom x0 x1 0 Q := ⟨_, rfl⟩
  have hr01 : r = -1 ∨ 0 ≤ r := by rw [hrr]; exact at_least x0 x1 Q
  rw [← hrr] at hr EA'
  clear hrr hEV hg h1
  have hneb : ¬ b = w.heap.size := by omega
  have hbl : b < w.heap.size := by omega
  have hnb2 : ¬ b = w.heap.size + 1 := by omega
  have step : ∀ (V : World), V = (w.alloc (Obj.cells #[Value.int .i64 s, Value.slice a0 n0 c0] 54)).alloc (Obj.cells #[Value.int .i64 x0, Value.int .i64 x1] 93) → Below w.heap.size w V ∧ Blk V w.heap.size #[Value.int .i64 s, Value.slice a0 n0 c0] 54 ∧ Blk V (w.heap.size + 1) #[Value.int .i64 x0, Value.int .i64 x1] 93 := by
    rintro V rfl
    exact ⟨(below_new _ _).alloc (by simp) _, Blk.new0.alloc, Blk.new1⟩
  have HSTEP := hide step
  clear step
  by_cases t : x0 < x1
  · rw [decide_eq_true t, Bool.true_and] at hr
    rcases hr01 with hr1 | hr1
    · rw [decide_eq_false (by omega), Bool.false_and] at hr
      subst hr
      rw [hr1] at EA'
      go_enter Tryz.func109, Tryz.ntmps109
      go_wp2_with fail
      obtain ⟨V, hV⟩ : ∃ W, W = (w.alloc (Obj.cells #[Value.int .i64 s, Value.slice a0 n0 c0] 54)).alloc (Obj.cells #[Value.int .i64 x0, Value.int .i64 x1] 93) := ⟨_, rfl⟩
      rw [← hV]
      obtain ⟨bV, m0, m1⟩ := unhide HSTEP V hV
      clear hV HSTEP
      have hz0 := m0.lt
      have hz1 := m1.lt
      have k0 : ∀ d : Grown V.heap.size V, d.w.cell? ⟨w.heap.size, 0, none⟩ = some (.int .i64 s) := fun d => d.cell hz0 (m0.cell 0 _ rfl)
      have k1 : ∀ d : Grown V.heap.size V, d.w.cell? ⟨w.heap.size, 1, none⟩ = some (.slice a0 n0 c0) := fun d => d.cell hz0 (m0.cell 1 _ rfl)
      have k2 : ∀ d : Grown V.heap.size V, d.w.cell? ⟨w.heap.size + 1, 0, none⟩ = some (.int .i64 x0) := fun d => d.cell hz1 (m1.cell 0 _ rfl)
      have k3 : ∀ d : Grown V.heap.size V, d.w.cell? ⟨w.heap.size + 1, 1, none⟩ = some (.int .i64 x1) := fun d => d.cell hz1 (m1.cell 1 _ rfl)
      have E2 : Hid (∀ d : Grown V.heap.size V, Calls Tryz.prog 93 #[.agg #[.int .i64 s, .slice a0 n0 c0], .int .i64 x0, .int .i64 x1] d.w fun e w' => e = .returned (.int .i64 (-1)) ∧ Below d.w.heap.size d.w w') := fun d => unhide EA' d.w (bV.trans (d.below.mono bV.size))
      clear m0 m1 EA'
      refine wp_region_grown V.heap.size (by kernel_rfl) (by kernel_rfl) ?_
      repeat (go_big_quiet_step (first | (go_at_call 93; exact Calls.grown (Nat.le_refl _) (unhide E2 _))))
      refine wpQuiet_nil ?_
      rintro w5 ⟨d5, rfl⟩
      go_wp2_with fail
      go_ret
      exact ⟨rfl, bV.trans (d5.below.mono bV.size)⟩
    · rw [decide_eq_true hr1, Bool.true_and] at hr
      have hrn : ¬ r = -1 := by omega
      have hrb : (r != -1) = true := by simp; omega
      rcases Nat.eq_zero_or_pos j with hj0 | hj0
      · have hp := unhide HZ hj0
        subst hp
        have HJ0 := hide hj0
        clear hj0
        simp only [aheadC] at hr
        subst hr
        go_enter Tryz.func109, Tryz.ntmps109
        go_wp2_with fail
        obtain ⟨V, hV⟩ : ∃ W, W = (w.alloc (Obj.cells #[Value.int .i64 s, Value.slice a0 n0 c0] 54)).alloc (Obj.cells #[Value.int .i64 x0, Value.int .i64 x1] 93) := ⟨_, rfl⟩
        rw [← hV]
        obtain ⟨bV, m0, m1⟩ := unhide HSTEP V hV
        clear hV HSTEP
        have hz0 := m0.lt
        have hz1 := m1.lt
        have k0 : ∀ d : Grown V.heap.size V, d.w.cell? ⟨w.heap.size, 0, none⟩ = some (.int .i64 s) := fun d => d.cell hz0 (m0.cell 0 _ rfl)
        have k1 : ∀ d : Grown V.heap.size V, d.w.cell? ⟨w.heap.size, 1, none⟩ = some (.slice a0 n0 c0) := fun d => d.cell hz0 (m0.cell 1 _ rfl)
        have k2 : ∀ d : Grown V.heap.size V, d.w.cell? ⟨w.heap.size + 1, 0, none⟩ = some (.int .i64 x0) := fun d => d.cell hz1 (m1.cell 0 _ rfl)
        have k3 : ∀ d : Grown V.heap.size V, d.w.cell? ⟨w.heap.size + 1, 1, none⟩ = some (.int .i64 x1) := fun d => d.cell hz1 (m1.cell 1 _ rfl)
        have E2 : Hid (∀ d : Grown V.heap.size V, Calls Tryz.prog 93 #[.agg #[.int .i64 s, .slice a0 n0 c0], .int .i64 x0, .int .i64 x1] d.w fun e w' => e = .returned (.int .i64 r) ∧ Below d.w.heap.size d.w w') := fun d => unhide EA' d.w (bV.trans (d.below.mono bV.size))
        have hj0' : (j : Int) = 0 := by have := unhide HJ0; omega
        have hj0b : ((j : Int) == 0) = true := by simp; omega
        clear m0 m1 EA'
        refine wp_region_grown V.heap.size (by kernel_rfl) (by kernel_rfl) ?_
        repeat (go_big_quiet_step (first | (go_at_call 93; exact Calls.grown (Nat.le_refl _) (unhide E2 _))))
        refine wpQuiet_nil ?_
        rintro w5 ⟨d5, rfl⟩
        go_wp2_with fail
        go_ret
        exact ⟨rfl, bV.trans (d5.below.mono bV.size)⟩
      · obtain ⟨k, hk⟩ : ∃ k, j = k + 1 := ⟨j - 1, by omega⟩
        obtain ⟨q, hp, hq⟩ := unhide HP k hk
        subst hp
        simp only [aheadC] at hr
        subst hr
        have hwk : IntKind.i64.wrap ((j : Int) - 1) = (k : Int) := by rw [wrap_in _ (by omega)]; omega
        have hk0 : ¬ (j : Int) = 0 := by omega
        have hk0b : ((j : Int) == 0) = false := by simp; omega
        have hkn : (k : Int) < (n : Int) := by omega
        clear hk
        go_enter Tryz.func109, Tryz.ntmps109
        go_wp2_with fail
        obtain ⟨V, hV⟩ : ∃ W, W = (w.alloc (Obj.cells #[Value.int .i64 s, Value.slice a0 n0 c0] 54)).alloc (Obj.cells #[Value.int .i64 x0, Value.int .i64 x1] 93) := ⟨_, rfl⟩
        rw [← hV]
        obtain ⟨bV, m0, m1⟩ := unhide HSTEP V hV
        clear hV HSTEP
        have hz0 := m0.lt
        have hz1 := m1.lt
        have k0 : ∀ d : Grown V.heap.size V, d.w.cell? ⟨w.heap.size, 0, none⟩ = some (.int .i64 s) := fun d => d.cell hz0 (m0.cell 0 _ rfl)
        have k1 : ∀ d : Grown V.heap.size V, d.w.cell? ⟨w.heap.size, 1, none⟩ = some (.slice a0 n0 c0) := fun d => d.cell hz0 (m0.cell 1 _ rfl)
        have k2 : ∀ d : Grown V.heap.size V, d.w.cell? ⟨w.heap.size + 1, 0, none⟩ = some (.int .i64 x0) := fun d => d.cell hz1 (m1.cell 0 _ rfl)
        have k3 : ∀ d : Grown V.heap.size V, d.w.cell? ⟨w.heap.size + 1, 1, none⟩ = some (.int .i64 x1) := fun d => d.cell hz1 (m1.cell 1 _ rfl)
        have E2 : Hid (∀ d : Grown V.heap.size V, Calls Tryz.prog 93 #[.agg #[.int .i64 s, .slice a0 n0 c0], .int .i64 x0, .int .i64 x1] d.w fun e w' => e = .returned (.int .i64 r) ∧ Below d.w.heap.size d.w w') := fun d => unhide EA' d.w (bV.trans (d.below.mono bV.size))
        have k4 : ∀ d : Grown V.heap.size V, d.w.cell? ⟨b, off + k * 2, none⟩ = some (.int .i64 q.A) := fun d => d.cell (by omega) ((bV.cell (p := ⟨b, off + k * 2, none⟩) (by simp; omega)).trans hq)
        clear m0 m1 EA'
        refine wp_region_grown V.heap.size (by kernel_rfl) (by kernel_rfl) ?_
        repeat (go_big_quiet_step (first | (go_at_call 93; exact Calls.grown (Nat.le_refl _) (unhide E2 _))))
        refine wpQuiet_nil ?_
        rintro w5 ⟨d5, rfl⟩
        go_wp2_with fail
        go_ret
        exact ⟨rfl, bV.trans (d5.below.mono bV.size)⟩
  · rw [decide_eq_false t, Bool.false_and] at hr
    subst hr
    have t' : x1 ≤ x0 := by omega
    have t'' : decide (x0 < x1) = false := decide_eq_false t
    go_enter Tryz.func109, Tryz.ntmps109
    go_wp2_with fail
    obtain ⟨V, hV⟩ : ∃ W, W = (w.alloc (Obj.cells #[Value.int .i64 s, Value.slice a0 n0 c0] 54)).alloc (Obj.cells #[Value.int .i64 x0, Value.int .i64 x1] 93) := ⟨_, rfl⟩
    rw [← hV]
    obtain ⟨bV, m0, m1⟩ := unhide HSTEP V hV
    clear hV HSTEP
    have hz0 := m0.lt
    have hz1 := m1.lt
    have k0 : ∀ d : Grown V.heap.size V, d.w.cell? ⟨w.heap.size, 0, none⟩ = some (.int .i64 s) := fun d => d.cell hz0 (m0.cell 0 _ rfl)
    have k1 : ∀ d : Grown V.heap.size V, d.w.cell? ⟨w.heap.size, 1, none⟩ = some (.slice a0 n0 c0) := fun d => d.cell hz0 (m0.cell 1 _ rfl)
    have k2 : ∀ d : Grown V.heap.size V, d.w.cell? ⟨w.heap.size + 1, 0, none⟩ = some (.int .i64 x0) := fun d => d.cell hz1 (m1.cell 0 _ rfl)
    have k3 : ∀ d : Grown V.heap.size V, d.w.cell? ⟨w.heap.size + 1, 1, none⟩ = some (.int .i64 x1) := fun d => d.cell hz1 (m1.cell 1 _ rfl)
    have E2 : Hid (∀ d : Grown V.heap.size V, Calls Tryz.prog 93 #[.agg #[.int .i64 s, .slice a0 n0 c0], .int .i64 x0, .int .i64 x1] d.w fun e w' => e = .returned (.int .i64 r) ∧ Below d.w.heap.size d.w w') := fun d => unhide EA' d.w (bV.trans (d.below.mono bV.size))
    clear m0 m1 EA'
    refine wp_region_grown V.heap.size (by kernel_rfl) (by kernel_rfl) ?_
    repeat (go_big_quiet_step (first | (go_at_call 93; exact Calls.grown (Nat.le_refl _) (unhide E2 _))))
    refine wpQuiet_nil ?_
    rintro w5 ⟨d5, rfl⟩
    go_wp2_with fail
    go_ret
    exact ⟨rfl, bV.trans (d5.below.mono bV.size)⟩

end Gr
end Go.Proofs.YtjblkijicfmkgaaGreatDoor
