/-
  Texts of this claim, one behind the other: GrCk3, GrBestMath, GrEach, GrFlags, GrImplG, GrImplH.
-/
import Derived.Test.YtldbanpfhlmjmaaJ9
import Derived.Test.YtldbanpfhlmjmaaJ6
import Derived.Test.YtldbanpfhlmjmaaJ1
import Derived.Test.YtldbanpfhlmjmaaJ8
import Derived.Test.YtldbanpfhlmjmaaJ4
import Derived.Laws.EntriesVeiled

/-
  The contracts of impl.ProofOk and impl.Bound.
-/
namespace Go.Proofs.Ytldbanpfhlmjmaa
namespace Gr
open Go.RowKit

set_option maxRecDepth 100000 in
set_option maxHeartbeats 4000000 in
theorem implProof_gen (B : Nat) (v : Value) (s : Int) (Q : List EdgeI) (u : Value) (Y : List Int) (G : List GrpI) (h1 : Q.length ≤ 1048576) (h2 : psize Y G ≤ 1048576) (w : World) (hB : B ≤ w.heap.size) (hv : GrAt w v B s Q) (hu : PrAt w u B Y G) :
    Calls Try.prog 44 #[v, u] w fun e w' => e = .returned (.bool (proofOk s Q Y G)) ∧ Below w.heap.size w w' := by
  obtain ⟨l1, l2, l3⟩ := psize_le h2
  have OK := hide (fun w1 (hb : Below w.heap.size w w1) => implGraph_gen B v s Q h1 w1 (by have := hb.size; omega) (hv.below hb hB))
  have hP := proofOk_is s Q Y G (fun h => ⟨(graph_sound h).1, (graph_sound h).2.1⟩)
  have SHT : Hid (graphOk s Q = true → yOk Y = true → decide ((Y.length : Int) = s) = true → allPG s G = true → decide (G.length ≤ 8) = true → ∀ w1, Below w.heap.size w w1 → Calls Try.prog 69 #[v, u] w1 fun e w' => e = .returned (.bool (!slacksOk Y G Q)) ∧ Below w1.heap.size w1 w') := fun x1 x2 x3 x4 x5 w1 hb => by
    obtain ⟨g0, g9, ge, _⟩ := graph_sound x1
    have hpg := (allPG_iff s G).1 x4
    exact isAnyShort_any B v s Q u Y G h1 ge (by simpa using x3) g9 (yOk_at Y x2) (fun q hq => by have := hpg q hq; rw [isPG_head g0, Bool.and_eq_true] at this; exact this.1) (fun q hq => (isPG_sets g9 (hpg q hq)).2) (by simpa using x5) w1 (by have := hb.size; omega) (hv.below hb hB) (hu.below hb hB)
  obtain ⟨a0, n0, c0, rfl, hE⟩ := hv
  obtain ⟨a, n, c, a', n', c', rfl, hYA, hGA, _⟩ := hu
  have YS := hide (fun w1 (hb : Below w.heap.size w w1) => areYs_is a n c B Y s (by have := hYA.1; omega) w1 (hYA.below hb hB))
  have GS := hide (fun w1 (hb : Below w.heap.size w w1) => areGroups_any a' n' c' B G s (by have := hGA.1; omega) l3 w1 (by have := hb.size; omega) (hGA.below hb hB))
  have SO : Hid (graphOk s Q = true → allPG s G = true → decide (G.length ≤ 8) = true → ∀ w1, Below w.heap.size w w1 → Calls Try.prog 68 #[.slice a' n' c'] w1 fun e w' => e = .returned (.agg (fs (setF G))) ∧ Below w1.heap.size w1 w') := fun x1 x4 x5 w1 hb =>
    setsOf_any a' n' c' B G (by have := hGA.1; simp at x5; omega) (fun q hq => ⟨l3 q hq, (isPG_sets (graph_sound x1).2.1 ((allPG_iff s G).1 x4 q hq)).2⟩) w1 (by have := hb.size; omega) (hGA.below hb hB)
  have DO := hide (fun w1 => doOverlap_any (setF G) w1)
  generalize proofOk s Q Y G = R at hP ⊢
  generalize graphOk s Q = gk at OK hP SHT SO
  generalize slacksOk Y G Q = sk at hP SHT
  generalize doOv (setF G) = ok at hP DO
  generalize fs (setF G) = C at SO DO
  generalize yOk Y = yk at YS hP SHT
  generalize decide ((Y.length : Int) = s) = ys at YS hP SHT
  generalize allPG s G = pk at GS hP SHT SO
  generalize decide (G.length ≤ 8) = ps at GS hP SHT SO
  clear hYA hGA hE l1 l2 l3 h1 h2
  have HP := hide hP
  clear hP
  go_enter Try.func44, Try.ntmps44
  go_wp2_with fail
  obtain ⟨V, hV⟩ : ∃ W, W = (w.alloc (Obj.cells #[Value.int .i64 s, Value.slice a0 n0 c0] 37)).alloc (Obj.cells #[Value.slice a n c, Value.slice a' n' c'] 41) := ⟨_, rfl⟩
  rw [← hV]
  have bV : Below w.heap.size w V := by rw [hV]; exact (below_new _ _).alloc (by simp) _
  have HM0 : Hid (Blk V w.heap.size #[Value.int .i64 s, Value.slice a0 n0 c0] 37) := by show Blk _ _ _ _; rw [hV]; exact Blk.new0.alloc
  have HM1 : Hid (Blk V (w.heap.size + 1) #[Value.slice a n c, Value.slice a' n' c'] 41) := by show Blk _ _ _ _; rw [hV]; exact Blk.new1
  clear hV
  refine (unhide OK V bV).mono ?_
  rintro e w1 ⟨rfl, hb1⟩
  have b1 := bV.trans (hb1.mono bV.size)
  have HM0 := hide ((unhide HM0).below hb1)
  have HM1 := hide ((unhide HM1).below hb1)
  clear hb1 bV
  cases gk with
  | false =>
    have hR : R = false := by rw [unhide HP]; rfl
    subst hR
    go_wp2_with fail
    go_ret
    exact ⟨rfl, b1⟩
  | true =>
    have SO1 := hide (unhide SO rfl)
    have SH1 := hide (unhide SHT rfl)
    clear SO SHT
    have p0 : w1.cell? ⟨w.heap.size, 0, none⟩ = some (.int .i64 s) := (unhide HM0).cell 0 _ rfl
    have p1 : w1.cell? ⟨w.heap.size + 1, 0, none⟩ = some (.slice a n c) := (unhide HM1).cell 0 _ rfl
    go_wp2_with fail
    refine (unhide YS w1 b1).mono ?_
    rintro e w2 ⟨rfl, rfl⟩
    clear p1
    have p2 : w2.cell? ⟨w.heap.size + 1, 1, none⟩ = some (.slice a' n' c') := (unhide HM1).cell 1 _ rfl
    obtain ⟨yy, hyy⟩ : ∃ yy, yy = (yk && ys) := ⟨_, rfl⟩
    rw [← hyy]
    have HYY := hide hyy
    clear hyy
    cases yy with
    | false =>
      have hR : R = false := by rw [unhide HP, ← unhide HYY]; rfl
      subst hR
      go_wp2_with fail
      go_ret
      exact ⟨rfl, b1⟩
    | true =>
      go_wp2_with fail
      refine (unhide GS w2 b1).mono ?_
      rintro e w3 ⟨rfl, hb3⟩
      have b3 := b1.trans (hb3.mono b1.size)
      have HM0 := hide ((unhide HM0).below hb3)
      have HM1 := hide ((unhide HM1).below hb3)
      clear p0 p2 hb3 b1
      have p2 : w3.cell? ⟨w.heap.size + 1, 1, none⟩ = some (.slice a' n' c') := (unhide HM1).cell 1 _ rfl
      obtain ⟨gg, hgg⟩ : ∃ gg, gg = (pk && ps) := ⟨_, rfl⟩
      rw [← hgg]
      have HGG := hide hgg
      clear hgg
      cases gg with
      | false =>
        have hR : R = false := by rw [unhide HP, ← unhide HYY, ← unhide HGG]; rfl
        subst hR
        go_wp2_with fail
        go_ret
        exact ⟨rfl, b3⟩
      | true =>
        have hy2 := (Bool.and_eq_true _ _ ▸ (unhide HYY).symm : yk = true ∧ ys = true)
        have hg2 := (Bool.and_eq_true _ _ ▸ (unhide HGG).symm : pk = true ∧ ps = true)
        have SO2 := hide (unhide SO1 hg2.1 hg2.2)
        have SH2 := hide (unhide SH1 hy2.1 hy2.2 hg2.1 hg2.2)
        have HP2 : Hid (R = (!ok && sk)) := by show _ = _; rw [unhide HP, ← unhide HYY, ← unhide HGG]; rfl
        clear hy2 hg2 HYY HGG HP SO1 SH1
        go_wp2_with fail
        refine (unhide SO2 w3 b3).mono ?_
        rintro e w4 ⟨rfl, hb4⟩
        have b4 := b3.trans (hb4.mono b3.size)
        have HM0 := hide ((unhide HM0).below hb4)
        have HM1 := hide ((unhide HM1).below hb4)
        clear p2 hb4 b3
        go_wp2_with fail
        refine (unhide DO w4).mono ?_
        rintro e w5 ⟨rfl, hb5⟩
        have b5 := b4.trans (hb5.mono b4.size)
        have HM0 := hide ((unhide HM0).below hb5)
        have HM1 := hide ((unhide HM1).below hb5)
        clear hb5 b4
        cases ok with
        | true =>
          have hR : R = false := by rw [unhide HP2]; rfl
          subst hR
          go_wp2_with fail
          go_ret
          exact ⟨rfl, b5⟩
        | false =>
          have hR : R = sk := by rw [unhide HP2]; rfl
          subst hR
          have p0 : w5.cell? ⟨w.heap.size, 0, none⟩ = some (.int .i64 s) := (unhide HM0).cell 0 _ rfl
          have p1 : w5.cell? ⟨w.heap.size, 1, none⟩ = some (.slice a0 n0 c0) := (unhide HM0).cell 1 _ rfl
          have p2 : w5.cell? ⟨w.heap.size + 1, 0, none⟩ = some (.slice a n c) := (unhide HM1).cell 0 _ rfl
          have p3 : w5.cell? ⟨w.heap.size + 1, 1, none⟩ = some (.slice a' n' c') := (unhide HM1).cell 1 _ rfl
          go_wp2_with fail
          refine (unhide SH2 w5 b5).mono ?_
          rintro e w6 ⟨rfl, hb6⟩
          have b6 := b5.trans (hb6.mono b5.size)
          clear p0 p1 p2 p3 hb6
          cases R with
          | true =>
            go_wp2_with fail
            go_ret
            exact ⟨rfl, b6⟩
          | false =>
            go_wp2_with fail
            go_ret
            exact ⟨rfl, b6⟩

end Gr
end Go.Proofs.Ytldbanpfhlmjmaa

/-
  No pairing is better than the best of all; there are more pairings than couples in one.
-/
namespace Go.Proofs.Ytldbanpfhlmjmaa
namespace Gr
open Go.RowKit

/-- Not better. -/
def LE (a b : SumsI) : Prop := a.W1 < b.W1 ∨ a.W1 = b.W1 ∧ (a.W2 < b.W2 ∨ a.W2 = b.W2 ∧ a.W3 ≤ b.W3)

theorem better_iff (a b : SumsI) : better a b = true ↔ b.W1 < a.W1 ∨ b.W1 = a.W1 ∧ (b.W2 < a.W2 ∨ b.W2 = a.W2 ∧ b.W3 < a.W3) := by
  unfold better
  split
  · simp; omega
  · split
    · simp; omega
    · simp; omega

theorem le_iff (a b : SumsI) : better a b = false ↔ LE a b := by
  have h := better_iff a b
  unfold LE
  cases hb : better a b with
  | true => rw [hb] at h; simp at h ⊢; omega
  | false => rw [hb] at h; simp at h ⊢; omega

theorem LE.refl (a : SumsI) : LE a a := by unfold LE; omega
theorem LE.trans {a b c : SumsI} (h : LE a b) (k : LE b c) : LE a c := by unfold LE at *; omega
theorem LE.add {a b : SumsI} (e : EdgeI) (h : LE a b) : LE (addS a e) (addS b e) := by unfold LE addS at *; simp only; omega

/-- Of two sums at most one is better, and one is where they are not the same. -/
theorem better_other {a b : SumsI} (h : better a b = false) : better b a = !(decide (b = a)) := by
  have h1 := (le_iff a b).1 h
  have h2 := better_iff b a
  obtain ⟨a1, a2, a3⟩ := a
  obtain ⟨b1, b2, b3⟩ := b
  unfold LE at h1
  simp only [SumsI.mk.injEq] at h1 h2 ⊢
  cases hb : better ⟨b1, b2, b3⟩ ⟨a1, a2, a3⟩ with
  | true => rw [hb] at h2; simp at h2 ⊢; omega
  | false => rw [hb] at h2; simp at h2 ⊢; omega

theorem sumsFrom_add (Q : List EdgeI) : ∀ (M : List CoupleI) (t : SumsI) (e : EdgeI), sumsFrom Q (addS t e) M = addS (sumsFrom Q t M) e
  | [], _, _ => rfl
  | x :: r, t, e => by
    unfold sumsFrom
    rw [← sumsFrom_add Q r _ e]
    congr 1
    unfold addS
    simp only [SumsI.mk.injEq]
    omega

theorem sums_cons (Q : List EdgeI) (x : CoupleI) (r : List CoupleI) : sums Q (x :: r) = addS (sums Q r) (edgeN Q (atFrom x.A x.B 0 Q)) := by
  unfold sums
  rw [sumsFrom, sumsFrom_add]

theorem bstep_le (Q : List EdgeI) (f : Int) (U : List Int) (rec : List Int → SumsI × Int) (hF : ∀ V, 1 ≤ (rec V).2) (acc : SumsI × Int) (b : Int) : LE acc.1 (bstep Q f U rec acc b).1 ∧ acc.2 ≤ (bstep Q f U rec acc b).2 := by
  have hFF := hF (U ++ [b])
  unfold bstep
  split
  · exact ⟨LE.refl _, Int.le_refl _⟩
  · refine ⟨?_, by simp only; omega⟩
    simp only
    split
    · rename_i h
      have := (better_iff _ _).1 h
      unfold LE
      omega
    · exact LE.refl _

theorem bloop_le (Q : List EdgeI) (f : Int) (U : List Int) (rec : List Int → SumsI × Int) (hF : ∀ V, 1 ≤ (rec V).2) : ∀ (m : Nat) (b : Int) (acc : SumsI × Int), LE acc.1 (bloop Q f U rec m b acc).1 ∧ acc.2 ≤ (bloop Q f U rec m b acc).2
  | 0, _, acc => ⟨LE.refl _, Int.le_refl _⟩
  | m + 1, b, acc => by
    obtain ⟨h1, h2⟩ := bstep_le Q f U rec hF acc b
    obtain ⟨k1, k2⟩ := bloop_le Q f U rec hF m (b + 1) (bstep Q f U rec acc b)
    exact ⟨h1.trans k1, Int.le_trans h2 k2⟩

theorem bloop_in (Q : List EdgeI) (f : Int) (U : List Int) (rec : List Int → SumsI × Int) (hF : ∀ V, 1 ≤ (rec V).2) (x : Int) (hx : 0 ≤ atFrom f x 0 Q) (hU : inK U x = false) :
    ∀ (m : Nat) (b : Int) (acc : SumsI × Int), b ≤ x → x < b + (m : Int) → LE (addS (rec (U ++ [x])).1 (edgeN Q (atFrom f x 0 Q))) (bloop Q f U rec m b acc).1 ∧ acc.2 + (rec (U ++ [x])).2 ≤ (bloop Q f U rec m b acc).2
  | 0, b, acc, h1, h2 => by omega
  | m + 1, b, acc, h1, h2 => by
    show LE _ (bloop Q f U rec m (b + 1) (bstep Q f U rec acc b)).1 ∧ _ ≤ (bloop Q f U rec m (b + 1) (bstep Q f U rec acc b)).2
    by_cases hb : b = x
    · subst hb
      obtain ⟨k1, k2⟩ := bloop_le Q f U rec hF m (b + 1) (bstep Q f U rec acc b)
      have hs : bstep Q f U rec acc b = (if better (addS (rec (U ++ [b])).1 (edgeN Q (atFrom f b 0 Q))) acc.1 = true then addS (rec (U ++ [b])).1 (edgeN Q (atFrom f b 0 Q)) else acc.1, acc.2 + (rec (U ++ [b])).2) := by
        unfold bstep
        rw [if_neg (by rw [hU]; simp; omega)]
      rw [hs] at k1 k2 ⊢
      refine ⟨LE.trans ?_ k1, k2⟩
      simp only
      split
      · exact LE.refl _
      · rename_i h
        exact (le_iff _ _).1 (by simpa using h)
    · obtain ⟨j1, j2⟩ := bstep_le Q f U rec hF acc b
      obtain ⟨k1, k2⟩ := bloop_in Q f U rec hF x hx hU m (b + 1) (bstep Q f U rec acc b) (by omega) (by omega)
      exact ⟨k1, by omega⟩

/-- Couples of the last n vertices, none of them used. -/
def Pm (Q : List EdgeI) (s : Int) (n : Nat) (U : List Int) (M : List CoupleI) : Prop :=
  (∀ x ∈ M, s - (n : Int) ≤ x.A ∧ x.A < x.B ∧ x.B < s ∧ 0 ≤ atFrom x.A x.B 0 Q ∧ inK U x.A = false ∧ inK U x.B = false) ∧ M.Pairwise (fun x y => x.A < y.A ∧ y.A ≠ x.B ∧ y.B ≠ x.B)

theorem best_pos (Q : List EdgeI) (s : Int) : ∀ (n : Nat) (U : List Int), 1 ≤ (best Q s n U).2
  | 0, _ => Int.le_refl _
  | n + 1, U => by
    have ih := fun V => best_pos Q s n V
    cases hu : inK U (s - ((n + 1 : Nat) : Int)) with
    | true => rw [best_skip Q s n U hu]; exact ih U
    | false => rw [best_loop Q s n U hu]; exact Int.le_trans (ih U) (bloop_le Q _ U _ ih n _ _).2

theorem inK_snoc_false {U : List Int} {x y : Int} (h : inK U y = false) (hne : y ≠ x) : inK (U ++ [x]) y = false := by
  unfold inK at *
  simp at h ⊢
  exact ⟨h, hne⟩

theorem best_top (Q : List EdgeI) (s : Int) : ∀ (n : Nat) (U : List Int) (M : List CoupleI), Pm Q s n U M → LE (sums Q M) (best Q s n U).1 ∧ (M.length : Int) + 1 ≤ (best Q s n U).2
  | 0, U, M, h => by
    cases M with
    | nil => exact ⟨LE.refl _, Int.le_refl _⟩
    | cons x r => have := h.1 x List.mem_cons_self; omega
  | n + 1, U, M, h => by
    have hF := fun V => best_pos Q s n V
    cases hu : inK U (s - ((n + 1 : Nat) : Int)) with
    | true =>
      rw [best_skip Q s n U hu]
      refine best_top Q s n U M ⟨fun x hx => ?_, h.2⟩
      obtain ⟨h1, h2, h3, h4, h5, h6⟩ := h.1 x hx
      refine ⟨?_, h2, h3, h4, h5, h6⟩
      have : x.A ≠ s - ((n + 1 : Nat) : Int) := fun e => by rw [e, hu] at h5; cases h5
      omega
    | false =>
      rw [best_loop Q s n U hu]
      have hle := bloop_le Q (s - ((n + 1 : Nat) : Int)) U (fun V => best Q s n V) hF n (s - (n : Int)) (best Q s n U)
      by_cases hx : ∃ x r, M = x :: r ∧ x.A = s - ((n + 1 : Nat) : Int)
      · obtain ⟨x, r, rfl, hA⟩ := hx
        obtain ⟨h1, h2, h3, h4, h5, h6⟩ := h.1 x List.mem_cons_self
        have hp := List.pairwise_cons.1 h.2
        obtain ⟨i1, i2⟩ := best_top Q s n (U ++ [x.B]) r ⟨fun y hy => by
          obtain ⟨g1, g2, g3, g4, g5, g6⟩ := h.1 y (List.mem_cons_of_mem _ hy)
          have := hp.1 y hy
          exact ⟨by omega, g2, g3, g4, inK_snoc_false g5 this.2.1, inK_snoc_false g6 this.2.2⟩, hp.2⟩
        obtain ⟨j1, j2⟩ := bloop_in Q (s - ((n + 1 : Nat) : Int)) U (fun V => best Q s n V) hF x.B (by rw [← hA]; exact h4) h6 n (s - (n : Int)) (best Q s n U) (by omega) (by omega)
        have hb := hF U
        refine ⟨?_, ?_⟩
        · rw [sums_cons, hA]
          exact (i1.add _).trans j1
        · have e : (((x :: r).length : Nat) : Int) = (r.length : Int) + 1 := by simp
          rw [e]
          omega
      · obtain ⟨i1, i2⟩ := best_top Q s n U M ⟨fun y hy => by
          obtain ⟨g1, g2⟩ := h.1 y hy
          refine ⟨?_, g2⟩
          cases M with
          | nil => simp at hy
          | cons x r =>
            have hx1 := (h.1 x List.mem_cons_self).1
            have hx2 : x.A ≠ s - ((n + 1 : Nat) : Int) := fun e => hx ⟨x, r, rfl, e⟩
            rcases List.mem_cons.1 hy with rfl | hy
            · omega
            · have := (List.pairwise_cons.1 h.2).1 y hy
              omega, h.2⟩
        exact ⟨i1.trans hle.1, Int.le_trans i2 hle.2⟩

theorem inK_two {U : List Int} {a b x : Int} (h : inK (U ++ [a, b]) x = false) : inK U x = false ∧ x ≠ a ∧ x ≠ b := by
  unfold inK at *
  simp at h ⊢
  exact h

theorem match_pm {s : Int} {Q : List EdgeI} (hg : graphOk s Q = true) : ∀ (M : List CoupleI) (p : Option CoupleI) (U : List Int), mFrom Q p U M = true → (∀ x ∈ M, 0 ≤ x.A ∧ x.A < x.B ∧ x.B < s ∧ 0 ≤ atFrom x.A x.B 0 Q ∧ inK U x.A = false ∧ inK U x.B = false) ∧ M.Pairwise (fun x y => x.A < y.A ∧ y.A ≠ x.B ∧ y.B ≠ x.B) ∧ ∀ q, p = some q → ∀ x ∈ M, q.A < x.A
  | [], _, _, _ => ⟨by simp, List.Pairwise.nil, by simp⟩
  | x :: r, p, U, h => by
    unfold mFrom at h
    simp only [Bool.and_eq_true, decide_eq_true_eq, Bool.not_eq_true'] at h
    obtain ⟨h1, h2, h3, h4, h5, h6⟩ := h
    obtain ⟨i1, i2, i3⟩ := match_pm hg r (some x) (U ++ [x.A, x.B]) h6
    obtain ⟨i, hi, _, _, hh⟩ := edgeN_at h3
    have hek := (graph_sound hg).2.2.1 _ (List.getElem_mem hi)
    have he := (edgeOk_iff s _).1 hek
    have hh2 := ((hit_iff hek h1).1).1 hh
    refine ⟨fun y hy => ?_, List.Pairwise.cons (fun y hy => ?_) i2, fun q hq y hy => ?_⟩
    · rcases List.mem_cons.1 hy with rfl | hy
      · exact ⟨by omega, h1, by omega, h3, h4, h5⟩
      · obtain ⟨g1, g2, g3, g4, g5, g6⟩ := i1 y hy
        exact ⟨g1, g2, g3, g4, (inK_two g5).1, (inK_two g6).1⟩
    · obtain ⟨g1, g2, g3, g4, g5, g6⟩ := i1 y hy
      exact ⟨i3 x rfl y hy, (inK_two g5).2.2, (inK_two g6).2.2⟩
    · subst hq
      have h2' : q.A < x.A := by simpa [aheadC] using h2
      rcases List.mem_cons.1 hy with rfl | hy
      · exact h2'
      · have := i3 x rfl y hy
        omega

/-- No pairing is better than the best of all, and there are more pairings than couples in one. -/
theorem best_of_all {s : Int} {Q : List EdgeI} {M : List CoupleI} (h : matchOk s Q M = true) : better (sums Q M) (best Q s s.toNat []).1 = false ∧ (M.length : Int) < (best Q s s.toNat []).2 := by
  obtain ⟨hg, _, hm⟩ := match_sound h
  obtain ⟨h0, h9, _, _⟩ := graph_sound hg
  obtain ⟨i1, i2, _⟩ := match_pm hg M none [] hm
  obtain ⟨j1, j2⟩ := best_top Q s s.toNat [] M ⟨fun x hx => by
    obtain ⟨g1, g2⟩ := i1 x hx
    exact ⟨by omega, g2⟩, i2⟩
  exact ⟨(le_iff _ _).2 j1, by omega⟩

end Gr
end Go.Proofs.Ytldbanpfhlmjmaa

/-
  The best of all pairings and how many there are, gone through edge by edge: the same as vertex by vertex.
-/
namespace Go.Proofs.Ytldbanpfhlmjmaa
namespace Gr
open Go.RowKit

/-- The better of two sums. -/
def mx (a b : SumsI) : SumsI := if better b a = true then b else a

theorem LE.antisymm {a b : SumsI} (h : LE a b) (k : LE b a) : a = b := by
  obtain ⟨a1, a2, a3⟩ := a
  obtain ⟨b1, b2, b3⟩ := b
  unfold LE at h k
  simp only at h k
  have : a1 = b1 ∧ a2 = b2 ∧ a3 = b3 := by omega
  obtain ⟨rfl, rfl, rfl⟩ := this
  rfl

theorem LE.total (a b : SumsI) : LE a b ∨ LE b a := by unfold LE; omega

theorem le_of_better {a b : SumsI} (h : better b a = true) : LE a b := by
  have := (better_iff b a).1 h
  unfold LE
  omega

theorem mx_le {a b c : SumsI} : LE (mx a b) c ↔ LE a c ∧ LE b c := by
  unfold mx
  cases h : better b a with
  | true => exact ⟨fun k => ⟨(le_of_better h).trans k, k⟩, fun k => k.2⟩
  | false => exact ⟨fun k => ⟨k, ((le_iff b a).1 h).trans k⟩, fun k => k.1⟩

theorem le_mx_left (a b : SumsI) : LE a (mx a b) := (mx_le.1 (LE.refl _)).1
theorem le_mx_right (a b : SumsI) : LE b (mx a b) := (mx_le.1 (LE.refl _)).2

theorem mx_eq {a b c : SumsI} (h : ∀ d, LE c d ↔ LE a d ∧ LE b d) : mx a b = c :=
  LE.antisymm (mx_le.2 ((h c).1 (LE.refl _))) ((h _).2 (mx_le.1 (LE.refl _)))

theorem mx_comm (a b : SumsI) : mx a b = mx b a := mx_eq fun d => by rw [mx_le]; exact And.comm
theorem mx_assoc (a b c : SumsI) : mx (mx a b) c = mx a (mx b c) := mx_eq fun d => by rw [mx_le, mx_le, mx_le]; exact and_assoc.symm
theorem mx_of_le {a b : SumsI} (h : LE a b) : mx a b = b := mx_eq fun _ => ⟨fun k => ⟨h.trans k, k⟩, fun k => k.2⟩
theorem mx_of_ge {a b : SumsI} (h : LE b a) : mx a b = a := by rw [mx_comm]; exact mx_of_le h

/-- Two sums together. -/
def plus (s t : SumsI) : SumsI := ⟨s.W1 + t.W1, s.W2 + t.W2, s.W3 + t.W3⟩

theorem plus_le {s a b : SumsI} : LE (plus s a) (plus s b) ↔ LE a b := by unfold LE plus; simp only; omega
theorem plus_zero (s : SumsI) : plus s ⟨0, 0, 0⟩ = s := by unfold plus; simp
theorem zero_plus (s : SumsI) : plus ⟨0, 0, 0⟩ s = s := by unfold plus; simp
theorem plus_add (s t : SumsI) (e : EdgeI) : plus (addS s e) t = plus s (addS t e) := by
  unfold plus addS
  simp only [SumsI.mk.injEq]
  omega
theorem plus_mx (s a b : SumsI) : plus s (mx a b) = mx (plus s a) (plus s b) := by
  rcases LE.total a b with h | h
  · rw [mx_of_le h, mx_of_le (plus_le.2 h)]
  · rw [mx_of_ge h, mx_of_ge (plus_le.2 h)]

/-- The best sums and the number of two heaps of pairings together. -/
def comb (a b : SumsI × Int) : SumsI × Int := (mx a.1 b.1, a.2 + b.2)

theorem comb_comm (a b : SumsI × Int) : comb a b = comb b a := by unfold comb; rw [mx_comm, Int.add_comm]
theorem comb_assoc (a b c : SumsI × Int) : comb (comb a b) c = comb a (comb b c) := by unfold comb; simp only; rw [mx_assoc, Int.add_assoc]

/-- The same pairings, with an edge more in each. -/
def addP (x : SumsI × Int) (e : EdgeI) : SumsI × Int := (addS x.1 e, x.2)

/-- Whether an edge's vertices are not used. -/
def freeE (U : List Int) (e : EdgeI) : Bool := !(inK U e.A || inK U e.B)

/-- The best sums of all pairings by these edges that use no used vertex, and how many there are. -/
def each : List EdgeI → List Int → SumsI × Int
  | [], _ => (⟨0, 0, 0⟩, 1)
  | e :: r, U => if freeE U e = true then comb (each r U) (addP (each r (U ++ [e.A, e.B])) e) else each r U

theorem inK_app (U V : List Int) (x : Int) : inK (U ++ V) x = (inK U x || inK V x) := by
  unfold inK
  rw [Bool.eq_iff_iff]
  simp

theorem each_congr : ∀ (r : List EdgeI) (U V : List Int), (∀ e ∈ r, inK U e.A = inK V e.A ∧ inK U e.B = inK V e.B) → each r U = each r V
  | [], _, _, _ => rfl
  | e :: r, U, V, h => by
    have h0 := h e List.mem_cons_self
    have hr := fun x hx => h x (List.mem_cons_of_mem _ hx)
    have hf : freeE U e = freeE V e := by unfold freeE; rw [h0.1, h0.2]
    unfold each
    rw [hf, each_congr r U V hr, each_congr r (U ++ [e.A, e.B]) (V ++ [e.A, e.B]) (fun x hx => by
      rw [inK_app, inK_app, inK_app, inK_app, (hr x hx).1, (hr x hx).2]
      exact ⟨rfl, rfl⟩)]

theorem each_pos : ∀ (r : List EdgeI) (U : List Int), 1 ≤ (each r U).2
  | [], _ => Int.le_refl _
  | e :: r, U => by
    unfold each
    split
    · have := each_pos r U
      have := each_pos r (U ++ [e.A, e.B])
      show 1 ≤ (each r U).2 + (each r (U ++ [e.A, e.B])).2
      omega
    · exact each_pos r U

theorem each_mono (e : EdgeI) (r : List EdgeI) (U : List Int) : LE (each r U).1 (each (e :: r) U).1 := by
  rw [each]
  split
  · exact le_mx_left _ _
  · exact LE.refl _

/-- Where one vertex of the first edges is used, they are as if they were not there. -/
theorem each_skip : ∀ (b r : List EdgeI) (U : List Int), (∀ e ∈ b, freeE U e = false) → each (b ++ r) U = each r U
  | [], _, _, _ => rfl
  | e :: b, r, U, h => by
    rw [List.cons_append, each, if_neg (by rw [h e List.mem_cons_self]; simp)]
    exact each_skip b r U (fun x hx => h x (List.mem_cons_of_mem _ hx))

/-- The edges from (f, b) on. -/
def since (f b : Int) (e : EdgeI) : Bool := decide (f < e.A ∨ e.A = f ∧ b ≤ e.B)

theorem since_iff (f b : Int) (e : EdgeI) : since f b e = true ↔ f < e.A ∨ e.A = f ∧ b ≤ e.B := by unfold since; simp

theorem filter_same {α : Type} (p q : α → Bool) : ∀ l : List α, (∀ x ∈ l, p x = q x) → l.filter p = l.filter q
  | [], _ => rfl
  | x :: l, h => by
    rw [List.filter_cons, List.filter_cons, h x List.mem_cons_self, filter_same p q l (fun y hy => h y (List.mem_cons_of_mem _ hy))]

theorem since_next (f b : Int) : ∀ (Q : List EdgeI), Q.Pairwise (fun a b => ahead a b = true) →
    (∀ e ∈ Q, e.A = f → e.B = b → Q.filter (since f b) = e :: Q.filter (since f (b + 1))) ∧ ((∀ e ∈ Q, ¬ (e.A = f ∧ e.B = b)) → Q.filter (since f b) = Q.filter (since f (b + 1)))
  | [], _ => ⟨fun e he => by simp at he, fun _ => rfl⟩
  | q :: r, h => by
    rw [List.pairwise_cons] at h
    obtain ⟨h1, h2⟩ := h
    obtain ⟨i1, i2⟩ := since_next f b r h2
    constructor
    · intro e he hA hB
      rcases List.mem_cons.1 he with rfl | her
      · have t : since f b e = true := (since_iff _ _ _).2 (Or.inr ⟨hA, by omega⟩)
        have t' : since f (b + 1) e = false := by
          rw [Bool.eq_false_iff]
          intro k
          have := (since_iff _ _ _).1 k
          omega
        rw [List.filter_cons, if_pos t, List.filter_cons, if_neg (by rw [t']; simp), i2 (fun x hx hh => by
          have := (ahead_iff _ _).1 (h1 x hx)
          omega)]
      · have ha := (ahead_iff _ _).1 (h1 e her)
        have t : since f b q = false := by
          rw [Bool.eq_false_iff]
          intro k
          have := (since_iff _ _ _).1 k
          omega
        have t' : since f (b + 1) q = false := by
          rw [Bool.eq_false_iff]
          intro k
          have := (since_iff _ _ _).1 k
          omega
        rw [List.filter_cons, if_neg (by rw [t]; simp), List.filter_cons, if_neg (by rw [t']; simp)]
        exact i1 e her hA hB
    · intro hno
      refine filter_same _ _ _ (fun x hx => ?_)
      have := hno x hx
      rw [Bool.eq_iff_iff, since_iff, since_iff]
      omega

/-- The loop over one vertex's fellows is the way through its edges. -/
theorem bloop_each {s : Int} {Q : List EdgeI} (hg : graphOk s Q = true) (f : Int) (U : List Int) (hU : inK U f = false) :
    ∀ (m : Nat) (b : Int) (Y : SumsI × Int), f < b → b + (m : Int) = s →
      bloop Q f U (fun V => each (Q.filter (since f s)) V) m b (comb Y (each (Q.filter (since f s)) U)) = comb Y (each (Q.filter (since f b)) U)
  | 0, b, Y, hb, hm => by
    have : b = s := by omega
    subst this
    rfl
  | m + 1, b, Y, hb, hm => by
    obtain ⟨hs0, hs9, hok, hpw⟩ := graph_sound hg
    obtain ⟨n1, n2⟩ := since_next f b Q hpw
    have IH := fun Y => bloop_each hg f U hU m (b + 1) Y (by omega) (by omega)
    show bloop Q f U _ m (b + 1) (bstep Q f U _ _ b) = _
    by_cases hx : ∃ e ∈ Q, hit f b e = true
    · obtain ⟨i, e, hi, hh, ha⟩ := at_some f b Q 0 hx
      rw [Nat.zero_add] at ha
      have heQ : e ∈ Q := List.mem_of_getElem? hi
      obtain ⟨eA, eB⟩ := (hit_iff (hok e heQ) hb).1.1 hh
      have hE : edgeN Q (atFrom f b 0 Q) = e := by
        unfold edgeN
        rw [ha, Int.toNat_natCast, List.getD_eq_getElem?_getD, hi]
        rfl
      rw [n1 e heQ eA eB]
      cases hub : inK U b with
      | true =>
        have hs : bstep Q f U (fun V => each (Q.filter (since f s)) V) (comb Y (each (Q.filter (since f s)) U)) b = comb Y (each (Q.filter (since f s)) U) := by
          unfold bstep
          rw [if_pos (Or.inr hub)]
        rw [hs, IH, each, if_neg (by unfold freeE; rw [eB, hub]; simp)]
      | false =>
        have hs : bstep Q f U (fun V => each (Q.filter (since f s)) V) (comb Y (each (Q.filter (since f s)) U)) b = comb (comb Y (addP (each (Q.filter (since f s)) (U ++ [b])) e)) (each (Q.filter (since f s)) U) := by
          rw [comb_assoc, comb_comm (addP _ _), ← comb_assoc]
          unfold bstep
          rw [if_neg (by rw [hub]; simp; omega), hE]
          rfl
        have hk : each (Q.filter (since f (b + 1))) (U ++ [e.A, e.B]) = each (Q.filter (since f s)) (U ++ [b]) := by
          have hsk : ∀ (k : Nat) (c : Int), f < c → c + (k : Int) = s → each (Q.filter (since f c)) (U ++ [e.A, e.B]) = each (Q.filter (since f s)) (U ++ [e.A, e.B]) := by
            intro k
            induction k with
            | zero => intro c _ hc; have : c = s := by omega
                      subst this; rfl
            | succ k ih =>
              intro c hc hcs
              obtain ⟨m1, m2⟩ := since_next f c Q hpw
              rw [← ih (c + 1) (by omega) (by omega)]
              by_cases hy : ∃ x ∈ Q, x.A = f ∧ x.B = c
              · obtain ⟨x, hxQ, xA, xB⟩ := hy
                rw [m1 x hxQ xA xB, each, if_neg (by unfold freeE; rw [inK_app, xA, eA]; simp [inK])]
              · rw [m2 (fun x hxQ hh => hy ⟨x, hxQ, hh⟩)]
          rw [hsk m (b + 1) (by omega) (by omega)]
          refine each_congr _ _ _ (fun x hx => ?_)
          obtain ⟨hxQ, hxs⟩ := List.mem_filter.1 hx
          obtain ⟨x0, x1, x2, _⟩ := (edgeOk_iff s x).1 (hok x hxQ)
          have := (since_iff _ _ _).1 hxs
          have hfA : x.A ≠ f := by omega
          have hfB : x.B ≠ f := by omega
          rw [inK_app, inK_app, inK_app, inK_app, eA, eB]
          unfold inK
          simp [hfA, hfB]
        rw [hs, IH, each, if_pos (by unfold freeE; rw [eA, eB, hU, hub]; rfl), hk, comb_assoc, comb_comm (addP _ _)]
    · have hno : ∀ e ∈ Q, ¬ hit f b e = true := fun e he hh => hx ⟨e, he, hh⟩
      have hat := at_none f b Q 0 hno
      have hs : bstep Q f U (fun V => each (Q.filter (since f s)) V) (comb Y (each (Q.filter (since f s)) U)) b = comb Y (each (Q.filter (since f s)) U) := by
        unfold bstep
        rw [if_pos (Or.inl (by omega))]
      rw [hs, IH, n2 (fun e he hh => hno e he ((hit_iff (hok e he) hb).1.2 hh))]

theorem each_since_mono {Q : List EdgeI} (hpw : Q.Pairwise (fun a b => ahead a b = true)) (f : Int) (U : List Int) : ∀ (k : Nat) (c : Int), LE (each (Q.filter (since f (c + (k : Int)))) U).1 (each (Q.filter (since f c)) U).1
  | 0, c => by
    have : c + ((0 : Nat) : Int) = c := by omega
    rw [this]
    exact LE.refl _
  | k + 1, c => by
    have e : c + ((k + 1 : Nat) : Int) = (c + 1) + (k : Int) := by omega
    rw [e]
    refine (each_since_mono hpw f U k (c + 1)).trans ?_
    obtain ⟨m1, m2⟩ := since_next f c Q hpw
    by_cases hy : ∃ x ∈ Q, x.A = f ∧ x.B = c
    · obtain ⟨x, hxQ, xA, xB⟩ := hy
      rw [m1 x hxQ xA xB]
      exact each_mono _ _ _
    · rw [m2 (fun x hxQ hh => hy ⟨x, hxQ, hh⟩)]
      exact LE.refl _

/-- Vertex by vertex is edge by edge. -/
theorem best_each {s : Int} {Q : List EdgeI} (hg : graphOk s Q = true) : ∀ (n : Nat) (U : List Int), (n : Int) ≤ s → best Q s n U = each (Q.filter (since (s - (n : Int)) (s - (n : Int)))) U
  | 0, U, _ => by
    obtain ⟨hs0, hs9, hok, hpw⟩ := graph_sound hg
    have : Q.filter (since (s - ((0 : Nat) : Int)) (s - ((0 : Nat) : Int))) = [] := by
      rw [List.filter_eq_nil_iff]
      intro e he
      obtain ⟨x0, x1, x2, _⟩ := (edgeOk_iff s e).1 (hok e he)
      rw [since_iff]
      omega
    rw [this]
    rfl
  | n + 1, U, hn => by
    obtain ⟨hs0, hs9, hok, hpw⟩ := graph_sound hg
    have IH := fun V => best_each hg n V (by omega)
    generalize hf : s - ((n + 1 : Nat) : Int) = f
    have hf1 : s - (n : Int) = f + 1 := by omega
    have E1 : Q.filter (since (f + 1) (f + 1)) = Q.filter (since f s) := by
      refine filter_same _ _ _ (fun x hx => ?_)
      obtain ⟨x0, x1, x2, _⟩ := (edgeOk_iff s x).1 (hok x hx)
      rw [Bool.eq_iff_iff, since_iff, since_iff]
      omega
    have E2 : Q.filter (since f f) = Q.filter (since f (f + 1)) := by
      refine filter_same _ _ _ (fun x hx => ?_)
      obtain ⟨x0, x1, x2, _⟩ := (edgeOk_iff s x).1 (hok x hx)
      rw [Bool.eq_iff_iff, since_iff, since_iff]
      omega
    have IH' : ∀ V, best Q s n V = each (Q.filter (since f s)) V := fun V => by rw [IH V, hf1, E1]
    cases hu : inK U f with
    | true =>
      rw [best_skip Q s n U (by rw [hf]; exact hu), IH', E2]
      have hsk : ∀ (k : Nat) (c : Int), f < c → c + (k : Int) = s → each (Q.filter (since f c)) U = each (Q.filter (since f s)) U := by
        intro k
        induction k with
        | zero => intro c _ hc; have : c = s := by omega
                  subst this; rfl
        | succ k ih =>
          intro c hc hcs
          obtain ⟨m1, m2⟩ := since_next f c Q hpw
          rw [← ih (c + 1) (by omega) (by omega)]
          by_cases hy : ∃ x ∈ Q, x.A = f ∧ x.B = c
          · obtain ⟨x, hxQ, xA, xB⟩ := hy
            rw [m1 x hxQ xA xB, each, if_neg (by unfold freeE; rw [xA, hu]; simp)]
          · rw [m2 (fun x hxQ hh => hy ⟨x, hxQ, hh⟩)]
      exact (hsk n (f + 1) (by omega) (by omega)).symm
    | false =>
      rw [best_loop Q s n U (by rw [hf]; exact hu), hf, hf1, E2]
      have hfun : (fun V => best Q s n V) = (fun V => each (Q.filter (since f s)) V) := funext IH'
      rw [hfun, IH' U]
      generalize hR : each (Q.filter (since f s)) U = R
      have h0 : comb (R.1, 0) R = R := by
        unfold comb
        simp only
        rw [mx_of_le (LE.refl _)]
        simp
      have hB := bloop_each hg f U hu n (f + 1) (R.1, 0) (by omega) (by omega)
      rw [hR, h0] at hB
      rw [hB]
      have hm := each_since_mono hpw f U n (f + 1)
      have e1 : f + 1 + (n : Int) = s := by omega
      rw [e1, hR] at hm
      unfold comb
      simp only
      rw [mx_of_le hm]
      simp

theorem best_is_each {s : Int} {Q : List EdgeI} (hg : graphOk s Q = true) : best Q s s.toNat [] = each Q [] := by
  obtain ⟨hs0, hs9, hok, hpw⟩ := graph_sound hg
  rw [best_each hg s.toNat [] (by omega)]
  have : Q.filter (since (s - (s.toNat : Int)) (s - (s.toNat : Int))) = Q := by
    rw [List.filter_eq_self]
    intro e he
    obtain ⟨x0, x1, x2, _⟩ := (edgeOk_iff s e).1 (hok e he)
    rw [since_iff]
    omega
  rw [this]

/-- One edge looked at: what the program reckons. -/
theorem each_drop (Q : List EdgeI) (U : List Int) (i : Nat) (h : i < Q.length) : each (Q.drop i) U = if freeE U Q[i] = true then comb (each (Q.drop (i + 1)) U) (addP (each (Q.drop (i + 1)) (U ++ [Q[i].A, Q[i].B])) Q[i]) else each (Q.drop (i + 1)) U := by
  rw [List.drop_eq_getElem_cons h, each]
end Gr
end Go.Proofs.Ytldbanpfhlmjmaa

/-
  Nine flags, one a vertex: which ones are used.
-/
namespace Go.Proofs.Ytldbanpfhlmjmaa
namespace Gr
open Go.RowKit

/-- The flags of the used ones. -/
def flags (U : List Int) : Array Value := ((List.range 9).map fun (j : Nat) => Value.bool (inK U (j : Int))).toArray

theorem flags_at (U : List Int) (k : Nat) (h : k < 9) : (flags U)[k]? = some (.bool (inK U (k : Int))) := by
  unfold flags
  simp [h]

theorem flags_size (U : List Int) : (flags U).size = 9 := by unfold flags; simp

theorem flags_nil : flags [] = #[.bool false, .bool false, .bool false, .bool false, .bool false, .bool false, .bool false, .bool false, .bool false] := rfl

theorem flags_ext {C : Array Value} {U : List Int} (h : C.size = 9) (hk : ∀ k : Nat, k < 9 → C[k]? = some (.bool (inK U (k : Int)))) : C = flags U := by
  apply Array.ext_getElem?
  intro i
  rcases Nat.lt_or_ge i 9 with h' | h'
  · rw [hk i h', flags_at U i h']
  · rw [Array.getElem?_eq_none (by omega), Array.getElem?_eq_none (by rw [flags_size]; omega)]

theorem inK_pair (U : List Int) (x y z : Int) : inK (U ++ [x, y]) z = (inK U z || (decide (z = x) || decide (z = y))) := by
  rw [inK_app]
  congr 1
  unfold inK
  rw [Bool.eq_iff_iff]
  simp

/-- Two flags set. -/
theorem flags_two (U : List Int) (x y : Nat) (_hx : x < 9) (_hy : y < 9) : ((flags U).setIfInBounds x (.bool true)).setIfInBounds y (.bool true) = flags (U ++ [(x : Int), (y : Int)]) := by
  refine flags_ext (by simp [flags_size]) (fun k hk => ?_)
  rw [inK_pair]
  by_cases h2 : y = k
  · subst h2
    rw [Array.getElem?_setIfInBounds_self]
    simp [flags_size, hk]
  · rw [Array.getElem?_setIfInBounds_ne h2]
    by_cases h1 : x = k
    · subst h1
      rw [Array.getElem?_setIfInBounds_self]
      simp [flags_size, hk]
    · rw [Array.getElem?_setIfInBounds_ne h1, flags_at U k hk]
      have e1 : ¬ ((k : Int) = (x : Int)) := by omega
      have e2 : ¬ ((k : Int) = (y : Int)) := by omega
      simp [e1, e2]

/-- .. and taken back. -/
theorem flags_back (U : List Int) (x y : Nat) (_hx : x < 9) (_hy : y < 9) (h1 : inK U (x : Int) = false) (h2 : inK U (y : Int) = false) :
    ((flags (U ++ [(x : Int), (y : Int)])).setIfInBounds x (.bool false)).setIfInBounds y (.bool false) = flags U := by
  refine flags_ext (by simp [flags_size]) (fun k hk => ?_)
  by_cases h2' : y = k
  · subst h2'
    rw [Array.getElem?_setIfInBounds_self, h2]
    simp [flags_size, hk]
  · rw [Array.getElem?_setIfInBounds_ne h2']
    by_cases h1' : x = k
    · subst h1'
      rw [Array.getElem?_setIfInBounds_self, h1]
      simp [flags_size, hk]
    · rw [Array.getElem?_setIfInBounds_ne h1', flags_at _ k hk, inK_pair]
      have e1 : ¬ ((k : Int) = (x : Int)) := by omega
      have e2 : ¬ ((k : Int) = (y : Int)) := by omega
      simp [e1, e2]

theorem Kept.edges {S : Nat → Prop} {w w' : World} {a : Option Addr} {n B : Nat} {Q : List EdgeI} (hk : Kept S w w') (h : edgesAt w a n B Q) (hB : B ≤ w.heap.size) (hS : ∀ i, S i → B ≤ i) : edgesAt w' a n B Q :=
  h.below (hk.below hB hS) (Nat.le_refl _)

end Gr
end Go.Proofs.Ytldbanpfhlmjmaa

/-
  The contracts of impl.isNextCouple and impl.MatchOk.
-/
namespace Go.Proofs.Ytldbanpfhlmjmaa
namespace Gr
open Go.RowKit

/-- Whether a couple may stand behind another one. -/
def nextC (Q : List EdgeI) (p : Option CoupleI) (x : CoupleI) : Bool := decide (x.A < x.B) && (decide (0 ≤ atFrom x.A x.B 0 Q) && aheadC p x)

theorem at_least (x y : Int) (Q : List EdgeI) : atFrom x y 0 Q = -1 ∨ 0 ≤ atFrom x y 0 Q := by
  by_cases h : ∃ e ∈ Q, hit x y e = true
  · obtain ⟨i, _, _, _, e⟩ := at_some x y Q 0 h
    omega
  · exact Or.inl (at_none x y Q 0 (fun e he hh => h ⟨e, he, hh⟩))

theorem asc_length : ∀ (M : List CoupleI) (lo : Int), (∀ x ∈ M, lo ≤ x.A ∧ x.A < 9) → M.Pairwise (fun x y => x.A < y.A) → lo ≤ 9 → (M.length : Int) ≤ 9 - lo
  | [], lo, _, _, h => by simp; omega
  | x :: r, lo, h, hp, h9 => by
    obtain ⟨h1, h2⟩ := List.pairwise_cons.1 hp
    have hx := h x List.mem_cons_self
    have := asc_length r (x.A + 1) (fun y hy => ⟨by have := h1 y hy; omega, (h y (List.mem_cons_of_mem _ hy)).2⟩) h2 (by omega)
    rw [List.length_cons]
    omega

theorem match_nolen (s : Int) (Q : List EdgeI) (M : List CoupleI) : matchOk s Q M = (graphOk s Q && mFrom Q none [] M) := by
  unfold matchOk
  cases hg : graphOk s Q with
  | false => rfl
  | true =>
    cases hm : mFrom Q none [] M with
    | false => simp
    | true =>
      obtain ⟨i1, i2, _⟩ := match_pm hg M none [] hm
      obtain ⟨_, h9, _, _⟩ := graph_sound hg
      have := asc_length M 0 (fun x hx => by have := i1 x hx; omega) (i2.imp (fun h => h.1)) (by omega)
      have h : M.length ≤ 9 := by omega
      simp [h]

theorem next_range {s : Int} {Q : List EdgeI} (hg : graphOk s Q = true) {p : Option CoupleI} {x : CoupleI} (h : nextC Q p x = true) : 0 ≤ x.A ∧ x.A < x.B ∧ x.B < 9 := by
  unfold nextC at h
  simp only [Bool.and_eq_true, decide_eq_true_eq] at h
  obtain ⟨h1, h3, _⟩ := h
  obtain ⟨_, h9, hok, _⟩ := graph_sound hg
  obtain ⟨i, hi, _, _, hh⟩ := edgeN_at h3
  have hek := hok _ (List.getElem_mem hi)
  have he := (edgeOk_iff s _).1 hek
  have hh2 := ((hit_iff hek h1).1).1 hh
  omega

set_option maxRecDepth 100000 in
set_option maxHeartbeats 4000000 in
theorem isNext_any (B : Nat) (v : Value) (s : Int) (Q : List EdgeI) (a : Option Addr) (n c : Nat) (M : List CoupleI) (hg : graphOk s Q = true) (h1 : Q.length ≤ 1048576) (h2 : n ≤ 1048576) (j : Nat) (hj : j < M.length) (w : World) (hB : B ≤ w.heap.size) (hv : GrAt w v B s Q) (hM : couplesAt w a n B M) :
    Calls Try.prog 70 #[v, .slice a n c, .int .i64 (j : Int)] w fun e w' => e = .returned (.bool (nextC Q (prevC M j) M[j])) ∧ Below w.heap.size w w' := by
  have EA := hide (fun x y w1 (hb : Below w.heap.size w w1) => implEdgeAt_gen B v s Q x y h1 w1 (by have := hb.size; omega) (hv.below hb hB))
  have hEV : ∀ x y, edgeAtV s x y Q = atFrom x y 0 Q := fun x y => by unfold edgeAtV; rw [if_pos hg]
  simp only [hEV] at EA
  obtain ⟨a0, n0, c0, rfl, _⟩ := hv
  obtain ⟨hL, hc⟩ := hM
  obtain ⟨b, off, rfl, hbB, c1, c2⟩ := hc j hj
  have hr : nextC Q (prevC M j) M[j] = (decide (M[j].A < M[j].B) && (decide (0 ≤ atFrom M[j].A M[j].B 0 Q) && aheadC (prevC M j) M[j])) := rfl
  have HP : Hid (∀ k, j = k + 1 → ∃ q, prevC M j = some q ∧ w.cell? ⟨b, off + k * 2, none⟩ = some (.int .i64 q.A)) := fun k hk => by
    have hk1 : k < M.length := by omega
    obtain ⟨b', off', e', _, k0, _⟩ := hc k hk1
    simp at e'
    obtain ⟨rfl, rfl⟩ := e'
    refine ⟨M[k], ?_, k0⟩
    unfold prevC
    rw [if_neg (by omega), hk]
    simp [hk1]
  have HZ : Hid (j = 0 → prevC M j = none) := fun h => by unfold prevC; rw [if_pos h]
  have hjn : (j : Int) < (n : Int) := by omega
  clear hc
  generalize nextC Q (prevC M j) M[j] = R at hr ⊢
  generalize M[j] = x at hr c1 c2
  generalize prevC M j = p at hr HP HZ
  obtain ⟨x0, x1⟩ := x
  simp only at hr c1 c2
  have EA' := hide (fun w1 hb => unhide EA x0 x1 w1 hb)
  clear EA
  obtain ⟨r, hrr⟩ : ∃ r, r = atFrom x0 x1 0 Q := ⟨_, rfl⟩
  have hr01 : r = -1 ∨ 0 ≤ r := by rw [hrr]; exact at_least x0 x1 Q
  rw [← hrr] at hr EA'
  clear hrr hEV hg h1
  have hneb : ¬ b = w.heap.size := by omega
  have hbl : b < w.heap.size := by omega
  have hnb2 : ¬ b = w.heap.size + 1 := by omega
  have step : ∀ (V : World), V = (w.alloc (Obj.cells #[Value.int .i64 s, Value.slice a0 n0 c0] 37)).alloc (Obj.cells #[Value.int .i64 x0, Value.int .i64 x1] 60) → Below w.heap.size w V ∧ Blk V w.heap.size #[Value.int .i64 s, Value.slice a0 n0 c0] 37 ∧ Blk V (w.heap.size + 1) #[Value.int .i64 x0, Value.int .i64 x1] 60 := by
    rintro V rfl
    exact ⟨(below_new _ _).alloc (by simp) _, Blk.new0.alloc, Blk.new1⟩
  have HSTEP := hide step
  clear step
  by_cases t : x0 < x1
  · rw [decide_eq_true t, Bool.true_and] at hr
    rcases hr01 with hr1 | hr1
    · rw [decide_eq_false (by omega), Bool.false_and] at hr
      subst hr
      rw [hr1] at EA'
      go_enter Try.func70, Try.ntmps70
      go_wp2_with fail
      obtain ⟨V, hV⟩ : ∃ W, W = (w.alloc (Obj.cells #[Value.int .i64 s, Value.slice a0 n0 c0] 37)).alloc (Obj.cells #[Value.int .i64 x0, Value.int .i64 x1] 60) := ⟨_, rfl⟩
      rw [← hV]
      obtain ⟨bV, m0, m1⟩ := unhide HSTEP V hV
      clear hV HSTEP
      have hz0 := m0.lt
      have hz1 := m1.lt
      have k0 : ∀ d : Grown V.heap.size V, d.w.cell? ⟨w.heap.size, 0, none⟩ = some (.int .i64 s) := fun d => d.cell hz0 (m0.cell 0 _ rfl)
      have k1 : ∀ d : Grown V.heap.size V, d.w.cell? ⟨w.heap.size, 1, none⟩ = some (.slice a0 n0 c0) := fun d => d.cell hz0 (m0.cell 1 _ rfl)
      have k2 : ∀ d : Grown V.heap.size V, d.w.cell? ⟨w.heap.size + 1, 0, none⟩ = some (.int .i64 x0) := fun d => d.cell hz1 (m1.cell 0 _ rfl)
      have k3 : ∀ d : Grown V.heap.size V, d.w.cell? ⟨w.heap.size + 1, 1, none⟩ = some (.int .i64 x1) := fun d => d.cell hz1 (m1.cell 1 _ rfl)
      have E2 : Hid (∀ d : Grown V.heap.size V, Calls Try.prog 72 #[.agg #[.int .i64 s, .slice a0 n0 c0], .int .i64 x0, .int .i64 x1] d.w fun e w' => e = .returned (.int .i64 (-1)) ∧ Below d.w.heap.size d.w w') := fun d => unhide EA' d.w (bV.trans (d.below.mono bV.size))
      clear m0 m1 EA'
      refine wp_region_grown V.heap.size (by kernel_rfl) (by kernel_rfl) ?_
      repeat (go_big_quiet_step (first | (go_at_call 72; exact Calls.grown (Nat.le_refl _) (unhide E2 _))))
      refine wpQuiet_nil ?_
      rintro w5 ⟨d5, rfl⟩
      go_wp2_with fail
      go_ret
      exact ⟨rfl, bV.trans (d5.below.mono bV.size)⟩
    · rw [decide_eq_true hr1, Bool.true_and] at hr
      have hrn : ¬ r = -1 := by omega
      have hrb : (r != -1) = true := by simp; omega
      rcases Nat.eq_zero_or_pos j with hj0 | hj0
      · have hp := unhide HZ hj0
        subst hp
        have HJ0 := hide hj0
        clear hj0
        simp only [aheadC] at hr
        subst hr
        go_enter Try.func70, Try.ntmps70
        go_wp2_with fail
        obtain ⟨V, hV⟩ : ∃ W, W = (w.alloc (Obj.cells #[Value.int .i64 s, Value.slice a0 n0 c0] 37)).alloc (Obj.cells #[Value.int .i64 x0, Value.int .i64 x1] 60) := ⟨_, rfl⟩
        rw [← hV]
        obtain ⟨bV, m0, m1⟩ := unhide HSTEP V hV
        clear hV HSTEP
        have hz0 := m0.lt
        have hz1 := m1.lt
        have k0 : ∀ d : Grown V.heap.size V, d.w.cell? ⟨w.heap.size, 0, none⟩ = some (.int .i64 s) := fun d => d.cell hz0 (m0.cell 0 _ rfl)
        have k1 : ∀ d : Grown V.heap.size V, d.w.cell? ⟨w.heap.size, 1, none⟩ = some (.slice a0 n0 c0) := fun d => d.cell hz0 (m0.cell 1 _ rfl)
        have k2 : ∀ d : Grown V.heap.size V, d.w.cell? ⟨w.heap.size + 1, 0, none⟩ = some (.int .i64 x0) := fun d => d.cell hz1 (m1.cell 0 _ rfl)
        have k3 : ∀ d : Grown V.heap.size V, d.w.cell? ⟨w.heap.size + 1, 1, none⟩ = some (.int .i64 x1) := fun d => d.cell hz1 (m1.cell 1 _ rfl)
        have E2 : Hid (∀ d : Grown V.heap.size V, Calls Try.prog 72 #[.agg #[.int .i64 s, .slice a0 n0 c0], .int .i64 x0, .int .i64 x1] d.w fun e w' => e = .returned (.int .i64 r) ∧ Below d.w.heap.size d.w w') := fun d => unhide EA' d.w (bV.trans (d.below.mono bV.size))
        have hj0' : (j : Int) = 0 := by have := unhide HJ0; omega
        have hj0b : ((j : Int) == 0) = true := by simp; omega
        clear m0 m1 EA'
        refine wp_region_grown V.heap.size (by kernel_rfl) (by kernel_rfl) ?_
        repeat (go_big_quiet_step (first | (go_at_call 72; exact Calls.grown (Nat.le_refl _) (unhide E2 _))))
        refine wpQuiet_nil ?_
        rintro w5 ⟨d5, rfl⟩
        go_wp2_with fail
        go_ret
        exact ⟨rfl, bV.trans (d5.below.mono bV.size)⟩
      · obtain ⟨k, hk⟩ : ∃ k, j = k + 1 := ⟨j - 1, by omega⟩
        obtain ⟨q, hp, hq⟩ := unhide HP k hk
        subst hp
        simp only [aheadC] at hr
        subst hr
        have hwk : IntKind.i64.wrap ((j : Int) - 1) = (k : Int) := by rw [wrap_in _ (by omega)]; omega
        have hk0 : ¬ (j : Int) = 0 := by omega
        have hk0b : ((j : Int) == 0) = false := by simp; omega
        have hkn : (k : Int) < (n : Int) := by omega
        clear hk
        go_enter Try.func70, Try.ntmps70
        go_wp2_with fail
        obtain ⟨V, hV⟩ : ∃ W, W = (w.alloc (Obj.cells #[Value.int .i64 s, Value.slice a0 n0 c0] 37)).alloc (Obj.cells #[Value.int .i64 x0, Value.int .i64 x1] 60) := ⟨_, rfl⟩
        rw [← hV]
        obtain ⟨bV, m0, m1⟩ := unhide HSTEP V hV
        clear hV HSTEP
        have hz0 := m0.lt
        have hz1 := m1.lt
        have k0 : ∀ d : Grown V.heap.size V, d.w.cell? ⟨w.heap.size, 0, none⟩ = some (.int .i64 s) := fun d => d.cell hz0 (m0.cell 0 _ rfl)
        have k1 : ∀ d : Grown V.heap.size V, d.w.cell? ⟨w.heap.size, 1, none⟩ = some (.slice a0 n0 c0) := fun d => d.cell hz0 (m0.cell 1 _ rfl)
        have k2 : ∀ d : Grown V.heap.size V, d.w.cell? ⟨w.heap.size + 1, 0, none⟩ = some (.int .i64 x0) := fun d => d.cell hz1 (m1.cell 0 _ rfl)
        have k3 : ∀ d : Grown V.heap.size V, d.w.cell? ⟨w.heap.size + 1, 1, none⟩ = some (.int .i64 x1) := fun d => d.cell hz1 (m1.cell 1 _ rfl)
        have E2 : Hid (∀ d : Grown V.heap.size V, Calls Try.prog 72 #[.agg #[.int .i64 s, .slice a0 n0 c0], .int .i64 x0, .int .i64 x1] d.w fun e w' => e = .returned (.int .i64 r) ∧ Below d.w.heap.size d.w w') := fun d => unhide EA' d.w (bV.trans (d.below.mono bV.size))
        have k4 : ∀ d : Grown V.heap.size V, d.w.cell? ⟨b, off + k * 2, none⟩ = some (.int .i64 q.A) := fun d => d.cell (by omega) ((bV.cell (p := ⟨b, off + k * 2, none⟩) (by simp; omega)).trans hq)
        clear m0 m1 EA'
        refine wp_region_grown V.heap.size (by kernel_rfl) (by kernel_rfl) ?_
        repeat (go_big_quiet_step (first | (go_at_call 72; exact Calls.grown (Nat.le_refl _) (unhide E2 _))))
        refine wpQuiet_nil ?_
        rintro w5 ⟨d5, rfl⟩
        go_wp2_with fail
        go_ret
        exact ⟨rfl, bV.trans (d5.below.mono bV.size)⟩
  · rw [decide_eq_false t, Bool.false_and] at hr
    subst hr
    have t' : x1 ≤ x0 := by omega
    have t'' : decide (x0 < x1) = false := decide_eq_false t
    go_enter Try.func70, Try.ntmps70
    go_wp2_with fail
    obtain ⟨V, hV⟩ : ∃ W, W = (w.alloc (Obj.cells #[Value.int .i64 s, Value.slice a0 n0 c0] 37)).alloc (Obj.cells #[Value.int .i64 x0, Value.int .i64 x1] 60) := ⟨_, rfl⟩
    rw [← hV]
    obtain ⟨bV, m0, m1⟩ := unhide HSTEP V hV
    clear hV HSTEP
    have hz0 := m0.lt
    have hz1 := m1.lt
    have k0 : ∀ d : Grown V.heap.size V, d.w.cell? ⟨w.heap.size, 0, none⟩ = some (.int .i64 s) := fun d => d.cell hz0 (m0.cell 0 _ rfl)
    have k1 : ∀ d : Grown V.heap.size V, d.w.cell? ⟨w.heap.size, 1, none⟩ = some (.slice a0 n0 c0) := fun d => d.cell hz0 (m0.cell 1 _ rfl)
    have k2 : ∀ d : Grown V.heap.size V, d.w.cell? ⟨w.heap.size + 1, 0, none⟩ = some (.int .i64 x0) := fun d => d.cell hz1 (m1.cell 0 _ rfl)
    have k3 : ∀ d : Grown V.heap.size V, d.w.cell? ⟨w.heap.size + 1, 1, none⟩ = some (.int .i64 x1) := fun d => d.cell hz1 (m1.cell 1 _ rfl)
    have E2 : Hid (∀ d : Grown V.heap.size V, Calls Try.prog 72 #[.agg #[.int .i64 s, .slice a0 n0 c0], .int .i64 x0, .int .i64 x1] d.w fun e w' => e = .returned (.int .i64 r) ∧ Below d.w.heap.size d.w w') := fun d => unhide EA' d.w (bV.trans (d.below.mono bV.size))
    clear m0 m1 EA'
    refine wp_region_grown V.heap.size (by kernel_rfl) (by kernel_rfl) ?_
    repeat (go_big_quiet_step (first | (go_at_call 72; exact Calls.grown (Nat.le_refl _) (unhide E2 _))))
    refine wpQuiet_nil ?_
    rintro w5 ⟨d5, rfl⟩
    go_wp2_with fail
    go_ret
    exact ⟨rfl, bV.trans (d5.below.mono bV.size)⟩

end Gr
end Go.Proofs.Ytldbanpfhlmjmaa

/-
  The contract of impl.MatchOk.
-/
namespace Go.Proofs.Ytldbanpfhlmjmaa
namespace Gr
open Go.RowKit

theorem mFrom_next (Q : List EdgeI) (M : List CoupleI) (U : List Int) (k : Nat) (h : k < M.length) : mFrom Q (prevC M k) U (M.drop k) = (nextC Q (prevC M k) M[k] && (!inK U M[k].A && (!inK U M[k].B && mFrom Q (prevC M (k + 1)) (U ++ [M[k].A, M[k].B]) (M.drop (k + 1))))) := by
  rw [mFrom_step Q M U k h]
  unfold nextC
  generalize decide (M[k].A < M[k].B) = p1
  generalize decide (0 ≤ atFrom M[k].A M[k].B 0 Q) = p2
  generalize aheadC (prevC M k) M[k] = p3
  cases p1 <;> cases p2 <;> cases p3 <;> simp

set_option maxRecDepth 100000 in
set_option maxHeartbeats 4000000 in
theorem implMatch_any (v : Value) (B : Nat) (s : Int) (Q : List EdgeI) (a : Option Addr) (n c : Nat) (M : List CoupleI) (h1 : Q.length ≤ 1048576) (h2 : n ≤ 1048576) (w : World) (hB : B ≤ w.heap.size) (hv : GrAt w v B s Q) (hM : couplesAt w a n B M) :
    Calls Try.prog 45 #[v, .slice a n c] w fun e w' => e = .returned (.bool (matchOk s Q M)) ∧ Below w.heap.size w w' := by
  have OK := hide (fun w1 (hb : Below w.heap.size w w1) => implGraph_gen B v s Q h1 w1 (by have := hb.size; omega) (hv.below hb hB))
  have NX := hide (fun (hg : graphOk s Q = true) j hj w1 (hb : Below w.heap.size w w1) => isNext_any B v s Q a n c M hg h1 h2 j hj w1 (by have := hb.size; omega) (hv.below hb hB) (hM.below hb hB))
  obtain ⟨a0, n0, c0, rfl, _⟩ := hv
  have hmk := match_nolen s Q M
  have HRG : Hid (graphOk s Q = true → ∀ p x, nextC Q p x = true → 0 ≤ x.A ∧ x.A < x.B ∧ x.B < 9) := fun hg p x h => next_range hg h
  generalize graphOk s Q = gk at OK NX HRG hmk
  obtain ⟨hL, hc⟩ := hM
  have HC := hide hc
  have HL := hide hL
  generalize matchOk s Q M = R at hmk ⊢
  clear hc hL h1
  go_enter Try.func45, Try.ntmps45
  go_wp2_with fail
  obtain ⟨V1, hV1⟩ : ∃ W, W = w.alloc (Obj.cells #[Value.int .i64 s, Value.slice a0 n0 c0] 37) := ⟨_, rfl⟩
  rw [← hV1]
  have x1 : GBox V1 w.heap.size s (.slice a0 n0 c0) := by rw [hV1]; exact GBox.new _ _ _
  have b1 : Below w.heap.size w V1 := by rw [hV1]; exact below_new _ _
  clear hV1
  refine (unhide OK V1 b1).mono ?_
  rintro e w2 ⟨rfl, hb2⟩
  have x2 := x1.below hb2
  have b2 : Below w.heap.size w w2 := b1.trans (hb2.mono b1.size)
  have hx2 := x2.lt
  clear hb2 b1 x1
  cases gk
  · rw [Bool.false_and] at hmk
    subst hmk
    go_wp2
    go_ret
    exact ⟨rfl, b2⟩
  · rw [Bool.true_and] at hmk
    have HST := hide (fun U k h => mFrom_next Q M U k h)
    have HEND : Hid (∀ U, mFrom Q (prevC M n) U (M.drop n) = true) := fun U => by rw [← unhide HL, List.drop_length]; cases prevC M M.length <;> rfl
    have H0 : Hid (R = mFrom Q (prevC M 0) [] (M.drop 0)) := hmk
    have NXT := hide (unhide NX rfl)
    have HRGT := hide (unhide HRG rfl)
    have HX2 := hide x2
    clear hmk x2 NX HRG OK
    go_wp2_with fail
    go_loopw [13] (fun i wr => ∃ (j : Nat) (U : List Int), i = .int .i64 (j : Int) ∧ j ≤ n ∧ Hid (R = mFrom Q (prevC M j) U (M.drop j)) ∧ Hid (Blk wr w2.heap.size (flags U) 117) ∧ Below w2.heap.size w2 wr) (fun i _ => n - (intOf i).toNat)
    case atStart => exact ⟨0, [], rfl, Nat.zero_le _, unhide H0, (by rw [flags_nil]; exact Blk.new0), below_new _ _⟩
    case round =>
      obtain ⟨j, U, rfl, hj, HR, HF, hb⟩ := hrel
      have hsr := hb.size
      have hbw : Below w.heap.size w wr := b2.trans (hb.mono b2.size)
      have hfl := (unhide HF).lt
      by_cases hlt : j < n
      · have hjL : j < M.length := by have := unhide HL; omega
        obtain ⟨b, off, rfl, hbB, c1, c2⟩ := unhide HC j hjL
        rw [← hbw.cell (p := ⟨b, off + j * 2, none⟩) (by simp; omega)] at c1
        rw [← hbw.cell (p := ⟨b, off + j * 2 + 1, none⟩) (by simp; omega)] at c2
        have hr := (unhide HR).trans (unhide HST U j hjL)
        have NJ := hide (unhide NXT j hjL)
        have RJ := hide (unhide HRGT (prevC M j) M[j])
        generalize nextC Q (prevC M j) M[j] = nx at NJ hr RJ
        generalize M[j] = x at hr c1 c2 RJ
        obtain ⟨y0, y1⟩ := x
        simp only at c1 c2 hr RJ
        obtain ⟨p0, p1⟩ := ((unhide HX2).below hb).cells
        have hbl : b < wr.heap.size := by omega
        have hbn : ¬ b = wr.heap.size := by omega
        have hgn : ¬ w.heap.size = wr.heap.size := by omega
        have hgl : w.heap.size < wr.heap.size := by omega
        have bx : Below wr.heap.size wr (wr.alloc (Obj.cells #[Value.int .i64 y0, Value.int .i64 y1] 60)) := below_new _ _
        have bx' := hbw.trans (bx.mono hbw.size)
        have ux : Blk (wr.alloc (Obj.cells #[Value.int .i64 y0, Value.int .i64 y1] 60)) wr.heap.size #[Value.int .i64 y0, Value.int .i64 y1] 60 := Blk.new0
        go_wp2_with fail
        obtain ⟨V3, hV3⟩ : ∃ W, W = wr.alloc (Obj.cells #[Value.int .i64 y0, Value.int .i64 y1] 60) := ⟨_, rfl⟩
        rw [← hV3] at bx bx' ux ⊢
        clear hV3
        refine (unhide NJ V3 bx').mono ?_
        rintro e w4 ⟨rfl, hb4⟩
        have b4 : Below wr.heap.size wr w4 := bx.trans (hb4.mono bx.size)
        have b4' : Below w.heap.size w w4 := hbw.trans (b4.mono hbw.size)
        have b4'' : Below w2.heap.size w2 w4 := hb.trans (b4.mono hb.size)
        have u4 := ux.below hb4
        have F4 := (unhide HF).below b4
        have HF4 := hide F4
        clear c1 c2 p0 p1 bx bx' ux hb4 F4
        have d0 : w4.cell? ⟨wr.heap.size, 0, none⟩ = some (.int .i64 y0) := u4.cell 0 _ rfl
        have d1 : w4.cell? ⟨wr.heap.size, 1, none⟩ = some (.int .i64 y1) := u4.cell 1 _ rfl
        cases nx with
        | false =>
          rw [Bool.false_and] at hr
          subst hr
          go_wp2_with fail
          go_ret
          exact ⟨rfl, b4'⟩
        | true =>
          rw [Bool.true_and] at hr
          obtain ⟨q0, q1, q2⟩ := unhide RJ rfl
          obtain ⟨z0, rfl⟩ := Int.eq_ofNat_of_zero_le q0
          obtain ⟨z1, rfl⟩ := Int.eq_ofNat_of_zero_le (show 0 ≤ y1 by omega)
          have f0 : w4.cell? ⟨w2.heap.size, z0, none⟩ = some (.bool (inK U (z0 : Int))) := (unhide HF4).cell z0 _ (flags_at U z0 (by omega))
          have f1 : w4.cell? ⟨w2.heap.size, z1, none⟩ = some (.bool (inK U (z1 : Int))) := (unhide HF4).cell z1 _ (flags_at U z1 (by omega))
          have hx09 : (z0 : Int) < 9 := by omega
          have hx19 : (z1 : Int) < 9 := by omega
          cases hu0 : inK U (z0 : Int) with
          | true =>
            rw [hu0] at f0 hr
            rw [Bool.not_true, Bool.false_and] at hr
            subst hr
            go_wp2_with fail
            go_ret
            exact ⟨rfl, b4'⟩
          | false =>
            rw [hu0] at f0 hr
            rw [Bool.not_false, Bool.true_and] at hr
            cases hu1 : inK U (z1 : Int) with
            | true =>
              rw [hu1] at f1 hr
              rw [Bool.not_true, Bool.false_and] at hr
              subst hr
              go_wp2_with fail
              go_ret
              exact ⟨rfl, b4'⟩
            | false =>
              rw [hu1] at f1 hr
              rw [Bool.not_false, Bool.true_and] at hr
              have t0 := (unhide HF4).froz z0
              have t1 := (unhide HF4).froz z1
              have hx01 : ¬ z0 = z1 := by omega
              have HRN := hide hr
              clear hr
              go_wp2_with fail
              go_region
              go_wp2_with fail
              refine ⟨⟨j + 1, U ++ [(z0 : Int), (z1 : Int)], by go_num, by omega, unhide HRN, ?_, ?_⟩, by simp [intOf]; omega⟩
              · have := (((unhide HF4).set z0 (.bool true)).set z1 (.bool true))
                rw [flags_two U z0 z1 (by omega) (by omega)] at this
                exact this.drew
              · exact ((b4''.setCell (p := ⟨w2.heap.size, z0, none⟩) (Nat.le_refl _) _).setCell (p := ⟨w2.heap.size, z1, none⟩) (Nat.le_refl _) _).drew
      · have hjn : j = n := by omega
        subst hjn
        have hrr := (unhide HR).trans (unhide HEND U)
        subst hrr
        go_wp2_with fail
        go_ret
        exact ⟨rfl, hbw⟩

theorem implMatch_gen (B : Nat) (v : Value) (s : Int) (Q : List EdgeI) (u : Value) (M : List CoupleI) (h1 : Q.length ≤ 1048576) (h2 : M.length ≤ 1048576) (w : World) (hB : B ≤ w.heap.size) (hv : GrAt w v B s Q) (hu : CoAt w u B M) :
    Calls Try.prog 45 #[v, u] w fun e w' => e = .returned (.bool (matchOk s Q M)) ∧ Below w.heap.size w w' := by
  obtain ⟨a, c, rfl, hM⟩ := hu
  exact implMatch_any v B s Q a M.length c M h1 h2 w hB hv hM
end Gr
end Go.Proofs.Ytldbanpfhlmjmaa
