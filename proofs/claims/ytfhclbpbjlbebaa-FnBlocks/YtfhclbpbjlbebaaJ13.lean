/-
  Texts of this claim, one behind the other: GrInd, GrMatch, GrBest0, GrSumsMath, GrBestMath, GrEach, GrDraw, GrPlaces.
-/
import Derived.Test.YtfhclbpbjlbebaaJ12
import Derived.Test.YtfhclbpbjlbebaaJ6
import Derived.Deep.AppendLies
import Derived.Test.YtfhclbpbjlbebaaJ3
import Derived.Test.YtfhclbpbjlbebaaJ2
import Derived.Deep.RegionWith
import Derived.BigQuiet

/-
  The contract of spec.Induced.
-/
namespace Go.Proofs.Ytfhclbpbjlbebaa
namespace Gr
open Go.RowKit

/-- Where a number stands first on a list. -/
def placeFrom (x : Int) : Nat → List Int → Int
  | _, [] => -1
  | k, y :: r => if (y == x) = true then (k : Int) else placeFrom x (k + 1) r

def placeOf (K : List Int) (x : Int) : Int := placeFrom x 0 K

theorem placeFrom_step (x : Int) (K : List Int) (k : Nat) (h : k < K.length) : placeFrom x k (K.drop k) = if (K[k] == x) = true then (k : Int) else placeFrom x (k + 1) (K.drop (k + 1)) := by
  rw [← List.getElem_cons_drop h]
  rfl

set_option maxRecDepth 100000 in
set_option maxHeartbeats 1000000 in
theorem place_any (a : Option Addr) (n c B : Nat) (K : List Int) (x : Int) (hn : n ≤ 1048576) (w : World) (hK : IntsAt w a n B K) :
    Calls Try.prog 88 #[.slice a n c, .int .i64 x] w fun e w' => e = .returned (.int .i64 (placeOf K x)) ∧ w' = w := by
  obtain ⟨hL, hc⟩ := hK
  have HST := hide (fun k h => placeFrom_step x K k h)
  have HEND : Hid (placeFrom x n (K.drop n) = -1) := by show _ = _; rw [← hL, List.drop_length]; rfl
  have H0 : Hid (placeOf K x = placeFrom x 0 (K.drop 0)) := rfl
  have HC := hide hc
  have HL := hide hL
  generalize placeOf K x = r at H0 ⊢
  clear hc hL
  go_enter Try.func88, Try.ntmps88
  go_wp2_with fail
  go_loop [5] (fun i => ∃ k : Nat, i = .int .i64 k ∧ k ≤ n ∧ Hid (r = placeFrom x k (K.drop k))) (fun i => n - (intOf i).toNat)
  case atStart => exact ⟨0, rfl, Nat.zero_le _, unhide H0⟩
  case round =>
    obtain ⟨k, rfl, hk, HR⟩ := hrel
    by_cases hlt : k < n
    · have hkL : k < K.length := by have := unhide HL; omega
      obtain ⟨b, off, rfl, hbB, hcell⟩ := unhide HC k hkL
      have hx0 : (0 : Int) ≤ (k : Int) := by omega
      have hx1 : (k : Int) < (n : Int) := by omega
      have hr := (unhide HR).trans (unhide HST k hkL)
      generalize hrest : placeFrom x (k + 1) (K.drop (k + 1)) = rest at hr
      have HREST := hide hrest
      generalize K[k] = y at hcell hr
      clear hrest HR
      cases t0 : (y == x)
      · rw [t0, if_neg (by simp)] at hr
        subst hr
        go_wp2
        go_round
        case rel => exact ⟨k + 1, by go_num, by omega, (by show _ = _; rw [unhide HREST])⟩
        case measure => simp [intOf]; omega
      · rw [t0, if_pos rfl] at hr
        subst hr
        go_wp2
        go_ret
        exact ⟨rfl, rfl⟩
    · obtain rfl : k = n := by omega
      have hr := (unhide HR).trans (unhide HEND)
      subst hr
      go_wp2
      go_ret
      exact ⟨rfl, rfl⟩

/-- Whether a list ascends, and has vertices alone. -/
def ascFrom (s : Int) : Option Int → List Int → Bool
  | _, [] => true
  | p, y :: r => (decide (0 ≤ y) && decide (y ≤ s - 1)) && ((match p with | none => true | some q => decide (q < y)) && ascFrom s (some y) r)

def prevK (K : List Int) (k : Nat) : Option Int := if k = 0 then none else K[k - 1]?

theorem ascFrom_step (s : Int) (K : List Int) (k : Nat) (h : k < K.length) : ascFrom s (prevK K k) (K.drop k) = ((decide (0 ≤ K[k]) && decide (K[k] ≤ s - 1)) && ((match prevK K k with | none => true | some q => decide (q < K[k])) && ascFrom s (prevK K (k + 1)) (K.drop (k + 1)))) := by
  rw [← List.getElem_cons_drop h]
  have e : prevK K (k + 1) = some K[k] := by unfold prevK; simp [h]
  rw [e]
  rfl

/-- An edge among the vertices of a list. -/
def indE (K : List Int) (e : EdgeI) : Option EdgeI := if 0 ≤ placeOf K e.A ∧ 0 ≤ placeOf K e.B then some ⟨placeOf K e.A, placeOf K e.B, e.W1, e.W2, e.W3⟩ else none

def indL (K : List Int) (Q : List EdgeI) : List EdgeI := Q.filterMap (indE K)

def indOk (s : Int) (Q : List EdgeI) (K : List Int) : Bool := graphOk s Q && ascFrom s none K

def indS (s : Int) (Q : List EdgeI) (K : List Int) : Int := if indOk s Q K = true then (K.length : Int) else 0
def indQ (s : Int) (Q : List EdgeI) (K : List Int) : List EdgeI := if indOk s Q K = true then indL K Q else []

theorem indL_length (K : List Int) (Q : List EdgeI) : (indL K Q).length ≤ Q.length := List.length_filterMap_le _ _

theorem indQ_length (s : Int) (Q : List EdgeI) (K : List Int) : (indQ s Q K).length ≤ Q.length := by
  unfold indQ
  split
  · exact indL_length K Q
  · simp

theorem indL_step (K : List Int) (Q : List EdgeI) (k : Nat) (h : k < Q.length) : indL K (Q.drop k) = (match indE K Q[k] with | none => [] | some x => [x]) ++ indL K (Q.drop (k + 1)) := by
  rw [← List.getElem_cons_drop h]
  unfold indL
  rw [List.filterMap_cons]
  cases indE K Q[k] <;> rfl

/-- What a function answers that hands back a graph and a flag. -/
def GrPost (w : World) (s : Int) (Q : List EdgeI) (b : Bool) (e : Ending) (w' : World) : Prop :=
  (∃ d, e = .returned (.tuple #[d, .bool b]) ∧ GrOwn w' w.heap.size d s Q) ∧ Below w.heap.size w w'

theorem grNil (w : World) (B : Nat) : GrOwn w B (.agg #[.int .i64 0, .slice none 0 0]) 0 [] := ⟨_, rfl, rfl, .inl ⟨rfl, rfl⟩⟩

theorem news_edge (W : World) (a b c d e : Int) (t : TypeId) : ∀ j u, [Value.int .i64 a, Value.int .i64 b, Value.int .i64 c, Value.int .i64 d, Value.int .i64 e][j]? = some u → (W.alloc (Obj.cells #[.int .i64 a, .int .i64 b, .int .i64 c, .int .i64 d, .int .i64 e] t)).cell? ((⟨W.heap.size, 0, none⟩ : Addr).add j) = some u :=
  World.news_of_block (heap_alloc_new W (Obj.cells #[.int .i64 a, .int .i64 b, .int .i64 c, .int .i64 d, .int .i64 e] t))

theorem edge_one (a b c d e : Int) : ∀ u ∈ [Value.int .i64 a, Value.int .i64 b, Value.int .i64 c, Value.int .i64 d, Value.int .i64 e], u.oneCell' = true := by
  intro u hu
  simp at hu
  rcases hu with rfl | rfl | rfl | rfl | rfl <;> rfl

end Gr
end Go.Proofs.Ytfhclbpbjlbebaa

/-
  The contract of spec.MatchOk. (Written by program: tools/genmatch.py.)
-/
namespace Go.Proofs.Ytfhclbpbjlbebaa
namespace Gr
open Go.RowKit

theorem wrap_in (x : Int) (h : -9223372036854775808 ≤ x ∧ x ≤ 9223372036854775807) : IntKind.i64.wrap x = x := by
  have e : IntKind.i64.wrap x = if (9223372036854775808 : Int) ≤ x % 18446744073709551616 then x % 18446744073709551616 - 18446744073709551616 else x % 18446744073709551616 := by
    simp [IntKind.wrap, IntKind.signed, IntKind.bits]
  rw [e]
  split <;> omega

def aheadC (p : Option CoupleI) (x : CoupleI) : Bool := match p with | none => true | some q => decide (q.A < x.A)

/-- Whether couples may stand behind another one, where some vertices are used. -/
def mFrom (Q : List EdgeI) : Option CoupleI → List Int → List CoupleI → Bool
  | _, _, [] => true
  | p, U, x :: r => decide (x.A < x.B) && (aheadC p x && (decide (0 ≤ atFrom x.A x.B 0 Q) && (!inK U x.A && (!inK U x.B && mFrom Q (some x) (U ++ [x.A, x.B]) r))))

/-- Whether couples are a pairing of a graph. -/
def matchOk (s : Int) (Q : List EdgeI) (M : List CoupleI) : Bool := graphOk s Q && (decide (M.length ≤ 9) && mFrom Q none [] M)

def prevC (M : List CoupleI) (k : Nat) : Option CoupleI := if k = 0 then none else M[k - 1]?

theorem mFrom_step (Q : List EdgeI) (M : List CoupleI) (U : List Int) (k : Nat) (h : k < M.length) : mFrom Q (prevC M k) U (M.drop k) = (decide (M[k].A < M[k].B) && (aheadC (prevC M k) M[k] && (decide (0 ≤ atFrom M[k].A M[k].B 0 Q) && (!inK U M[k].A && (!inK U M[k].B && mFrom Q (prevC M (k + 1)) (U ++ [M[k].A, M[k].B]) (M.drop (k + 1))))))) := by
  rw [← List.getElem_cons_drop h]
  have e : prevC M (k + 1) = some M[k] := by unfold prevC; simp [h]
  rw [e]
  rfl

theorem two_int (x y : Int) : ∀ u ∈ [Value.int .i64 x, Value.int .i64 y], u.oneCell' = true := fun u hu => by simp at hu; rcases hu with rfl | rfl <;> rfl

theorem intsV_two (K : List Int) (x y : Int) : intsV (K ++ [x, y]) = intsV K ++ [.int .i64 x, .int .i64 y] := by simp [intsV]

theorem own_slice {w : World} {B e s n : Nat} {v : Value} {xs : List Value} (h : w.ownsRow B e s v n xs) : ∃ A c, v = .slice A n c := by
  rcases h.2 with ⟨rfl, rfl⟩ | ⟨g, cap, cur, rfl, _⟩
  · exact ⟨none, 0, rfl⟩
  · exact ⟨_, cap, rfl⟩

/-- What stands while couples are looked at: the vertices that are used. -/
def MD (w3 : World) (Q : List EdgeI) (M : List CoupleI) (r : Bool) (j : Nat) (used : Value) (wr : World) : Prop :=
  Below w3.heap.size w3 wr ∧ ∃ U : List Int, U.length = 2 * j ∧ r = mFrom Q (prevC M j) U (M.drop j) ∧ wr.ownsRow w3.heap.size 3 1 used U.length (intsV U)

end Gr
end Go.Proofs.Ytfhclbpbjlbebaa

/-
  Sums of pairings, the best of all pairings and how many there are: as mathematics.
-/
namespace Go.Proofs.Ytfhclbpbjlbebaa
namespace Gr
open Go.RowKit

/-- Sums and the worths of an edge. -/
def addS (s : SumsI) (e : EdgeI) : SumsI := ⟨s.W1 + e.W1, s.W2 + e.W2, s.W3 + e.W3⟩

/-- The i-th edge. -/
def edgeN (Q : List EdgeI) (i : Int) : EdgeI := Q.getD i.toNat ⟨0, 0, 0, 0, 0⟩

def sumsFrom (Q : List EdgeI) : SumsI → List CoupleI → SumsI
  | s, [] => s
  | s, x :: r => sumsFrom Q (addS s (edgeN Q (atFrom x.A x.B 0 Q))) r

/-- The sums of a pairing. -/
def sums (Q : List EdgeI) (M : List CoupleI) : SumsI := sumsFrom Q ⟨0, 0, 0⟩ M

/-- Sums of at most n right edges. -/
def SB (s : SumsI) (n : Int) : Prop := (0 ≤ s.W1 ∧ s.W1 ≤ 50 * n) ∧ (0 ≤ s.W2 ∧ s.W2 ≤ 50 * n) ∧ (0 ≤ s.W3 ∧ s.W3 ≤ 50 * n)

theorem SB.mono {s : SumsI} {n m : Int} (h : SB s n) (hm : n ≤ m) : SB s m := by
  unfold SB at *
  omega

theorem worth_range {x : Int} (h : worthOk x = true) : 0 ≤ x ∧ x ≤ 50 := by
  unfold worthOk at h
  simpa using h

theorem SB.add {s : SumsI} {n : Int} {g : Int} {e : EdgeI} (h : SB s n) (he : edgeOk g e = true) : SB (addS s e) (n + 1) := by
  obtain ⟨_, _, _, h1, h2, h3⟩ := (edgeOk_iff g e).1 he
  have := worth_range h1
  have := worth_range h2
  have := worth_range h3
  unfold SB addS at *
  simp only
  omega

theorem SB.zero (n : Int) (h : 0 ≤ n) : SB ⟨0, 0, 0⟩ n := by
  unfold SB
  simp only
  omega

theorem at_range (x y : Int) : ∀ (Q : List EdgeI) (k : Nat), 0 ≤ atFrom x y k Q → ∃ i, ∃ h : i < Q.length, atFrom x y k Q = ((k + i : Nat) : Int) ∧ hit x y Q[i] = true
  | [], _, h => by unfold atFrom at h; omega
  | q :: r, k, h => by
    unfold atFrom at h ⊢
    by_cases hq : hit x y q = true
    · rw [if_pos hq]
      exact ⟨0, by simp, rfl, hq⟩
    · rw [if_neg hq] at h ⊢
      obtain ⟨i, hi, e, hh⟩ := at_range x y r (k + 1) h
      exact ⟨i + 1, by simp; omega, by rw [e]; omega, by simpa using hh⟩

theorem edgeN_at {x y : Int} {Q : List EdgeI} (h : 0 ≤ atFrom x y 0 Q) : ∃ i, ∃ h' : i < Q.length, atFrom x y 0 Q = (i : Int) ∧ edgeN Q (atFrom x y 0 Q) = Q[i] ∧ hit x y Q[i] = true := by
  obtain ⟨i, hi, e, hh⟩ := at_range x y Q 0 h
  rw [Nat.zero_add] at e
  refine ⟨i, hi, e, ?_, hh⟩
  unfold edgeN
  rw [e, Int.toNat_natCast, List.getD_eq_getElem?_getD, List.getElem?_eq_getElem hi]
  rfl

theorem edgeN_ok {s x y : Int} {Q : List EdgeI} (hg : graphOk s Q = true) (h : 0 ≤ atFrom x y 0 Q) : edgeOk s (edgeN Q (atFrom x y 0 Q)) = true := by
  obtain ⟨i, hi, _, e, _⟩ := edgeN_at h
  rw [e]
  exact (graph_sound hg).2.2.1 _ (List.getElem_mem hi)

/-- One vertex b looked at as the fellow of f. -/
def bstep (Q : List EdgeI) (f : Int) (U : List Int) (rec : List Int → SumsI × Int) (acc : SumsI × Int) (b : Int) : SumsI × Int :=
  if atFrom f b 0 Q < 0 ∨ inK U b = true then acc
  else (if better (addS (rec (U ++ [b])).1 (edgeN Q (atFrom f b 0 Q))) acc.1 = true then addS (rec (U ++ [b])).1 (edgeN Q (atFrom f b 0 Q)) else acc.1, acc.2 + (rec (U ++ [b])).2)

/-- m vertices from b on. -/
def bloop (Q : List EdgeI) (f : Int) (U : List Int) (rec : List Int → SumsI × Int) : Nat → Int → SumsI × Int → SumsI × Int
  | 0, _, acc => acc
  | m + 1, b, acc => bloop Q f U rec m (b + 1) (bstep Q f U rec acc b)

/-- The best sums of all pairings of the last n vertices that are not used, and how many there are. -/
def best (Q : List EdgeI) (s : Int) : Nat → List Int → SumsI × Int
  | 0, _ => (⟨0, 0, 0⟩, 1)
  | n + 1, U => if inK U (s - ((n + 1 : Nat) : Int)) = true then best Q s n U else bloop Q (s - ((n + 1 : Nat) : Int)) U (fun V => best Q s n V) n (s - (n : Int)) (best Q s n U)

theorem best_skip (Q : List EdgeI) (s : Int) (n : Nat) (U : List Int) (h : inK U (s - ((n + 1 : Nat) : Int)) = true) : best Q s (n + 1) U = best Q s n U := by
  rw [best, if_pos h]

theorem best_loop (Q : List EdgeI) (s : Int) (n : Nat) (U : List Int) (h : inK U (s - ((n + 1 : Nat) : Int)) = false) : best Q s (n + 1) U = bloop Q (s - ((n + 1 : Nat) : Int)) U (fun V => best Q s n V) n (s - (n : Int)) (best Q s n U) := by
  rw [best, if_neg (by rw [h]; simp)]

theorem bstep_bounds {Q : List EdgeI} {s f : Int} {U : List Int} {rec : List Int → SumsI × Int} {k : Int} {F : Int} (hg : graphOk s Q = true) (hk : ∀ V, SB (rec V).1 k) (hF : ∀ V, 1 ≤ (rec V).2 ∧ (rec V).2 ≤ F) {acc : SumsI × Int} (h1 : SB acc.1 (k + 1)) (b : Int) :
    SB (bstep Q f U rec acc b).1 (k + 1) ∧ acc.2 ≤ (bstep Q f U rec acc b).2 ∧ (bstep Q f U rec acc b).2 ≤ acc.2 + F := by
  have hFF := hF (U ++ [b])
  unfold bstep
  split
  · exact ⟨h1, Int.le_refl _, by omega⟩
  · rename_i h
    have h0 : 0 ≤ atFrom f b 0 Q := by omega
    refine ⟨?_, by simp only; omega, by simp only; omega⟩
    simp only
    split
    · exact (hk (U ++ [b])).add (edgeN_ok hg h0)
    · exact h1

theorem bloop_bounds {Q : List EdgeI} {s f : Int} {U : List Int} {rec : List Int → SumsI × Int} {k : Int} {F : Int} (hg : graphOk s Q = true) (hk : ∀ V, SB (rec V).1 k) (hF : ∀ V, 1 ≤ (rec V).2 ∧ (rec V).2 ≤ F) :
    ∀ (m : Nat) (b : Int) (acc : SumsI × Int), SB acc.1 (k + 1) → SB (bloop Q f U rec m b acc).1 (k + 1) ∧ acc.2 ≤ (bloop Q f U rec m b acc).2 ∧ (bloop Q f U rec m b acc).2 ≤ acc.2 + (m : Int) * F
  | 0, b, acc, h => by
    refine ⟨h, Int.le_refl _, ?_⟩
    show acc.2 ≤ acc.2 + ((0 : Nat) : Int) * F
    simp
  | m + 1, b, acc, h => by
    obtain ⟨i1, i2, i3⟩ := bstep_bounds (f := f) (U := U) hg hk hF h b
    obtain ⟨j1, j2, j3⟩ := bloop_bounds (f := f) (U := U) hg hk hF m (b + 1) _ i1
    refine ⟨j1, Int.le_trans i2 j2, ?_⟩
    have e : ((m + 1 : Nat) : Int) * F = (m : Int) * F + F := by
      rw [Int.natCast_add, Int.add_mul]
      simp
    rw [e]
    show (bloop Q f U rec m (b + 1) (bstep Q f U rec acc b)).2 ≤ _
    omega

theorem best_bounds {Q : List EdgeI} {s : Int} (hg : graphOk s Q = true) : ∀ (n : Nat) (U : List Int), n ≤ 9 → SB (best Q s n U).1 (n : Int) ∧ 1 ≤ (best Q s n U).2 ∧ (best Q s n U).2 ≤ 10 ^ n
  | 0, U, _ => by
    refine ⟨SB.zero _ (by omega), Int.le_refl _, ?_⟩
    show (1 : Int) ≤ 10 ^ 0
    simp
  | n + 1, U, hn => by
    have ih := fun V => best_bounds hg n V (by omega)
    have hp : (1 : Int) ≤ 10 ^ n := Int.le_trans (ih []).2.1 (ih []).2.2
    have hp2 : (10 : Int) ^ (n + 1) = 10 ^ n * 10 := Int.pow_succ _ _
    cases hu : inK U (s - ((n + 1 : Nat) : Int)) with
    | true =>
      rw [best_skip Q s n U hu, hp2]
      obtain ⟨h1, h2, h3⟩ := ih U
      exact ⟨h1.mono (by omega), h2, by omega⟩
    | false =>
      rw [best_loop Q s n U hu, hp2]
      obtain ⟨h1, h2, h3⟩ := bloop_bounds (f := s - ((n + 1 : Nat) : Int)) (U := U) (rec := fun V => best Q s n V) (k := (n : Int)) (F := 10 ^ n) hg (fun V => (ih V).1) (fun V => (ih V).2) n (s - (n : Int)) (best Q s n U) ((ih U).1.mono (by omega))
      refine ⟨by rw [Int.natCast_add]; exact h1, Int.le_trans (ih U).2.1 h2, Int.le_trans h3 ?_⟩
      have h9 : (n : Int) * 10 ^ n ≤ 9 * 10 ^ n := Int.mul_le_mul_of_nonneg_right (by omega) (by omega)
      have := (ih U).2.2
      omega

theorem pow_big : ∀ n : Nat, n ≤ 9 → (10 : Int) ^ n ≤ 1000000000 := by decide
end Gr
end Go.Proofs.Ytfhclbpbjlbebaa

/-
  Sums of a pairing, step by step, and as one number.
-/
namespace Go.Proofs.Ytfhclbpbjlbebaa
namespace Gr
open Go.RowKit

theorem sumsFrom_step (Q : List EdgeI) (M : List CoupleI) (s : SumsI) (k : Nat) (h : k < M.length) : sumsFrom Q s (M.drop k) = sumsFrom Q (addS s (edgeN Q (atFrom M[k].A M[k].B 0 Q))) (M.drop (k + 1)) := by
  rw [← List.getElem_cons_drop h]
  rfl

theorem mFrom_at (Q : List EdgeI) : ∀ (M : List CoupleI) (p : Option CoupleI) (U : List Int), mFrom Q p U M = true → ∀ x ∈ M, 0 ≤ atFrom x.A x.B 0 Q
  | [], _, _, _ => by simp
  | y :: r, p, U, h => by
    unfold mFrom at h
    simp only [Bool.and_eq_true, decide_eq_true_eq] at h
    intro x hx
    rcases List.mem_cons.1 hx with rfl | hx
    · exact h.2.2.1
    · exact mFrom_at Q r _ _ h.2.2.2.2.2 x hx

theorem match_sound {s : Int} {Q : List EdgeI} {M : List CoupleI} (h : matchOk s Q M = true) : graphOk s Q = true ∧ M.length ≤ 9 ∧ mFrom Q none [] M = true := by
  unfold matchOk at h
  simpa using h

/-- Sums as one number. -/
def wsum (t : SumsI) : Int := 90000 * t.W1 + 300 * t.W2 + t.W3

theorem wsum_add {t : SumsI} {n s : Int} {e : EdgeI} (h : SB t n) (hn : 0 ≤ n ∧ n ≤ 9) (he : edgeOk s e = true) : wsum (addS t e) = wsum t + scal e ∧ 0 ≤ scal e ∧ scal e ≤ 4515050 ∧ 0 ≤ wsum t ∧ wsum t ≤ 45150500 := by
  obtain ⟨_, _, _, h1, h2, h3⟩ := (edgeOk_iff s e).1 he
  have e1 := worth_range h1
  have e2 := worth_range h2
  have e3 := worth_range h3
  have hs : scal e = 90000 * e.W1 + 300 * e.W2 + e.W3 := by
    unfold scal
    rw [wrap_mod]
    omega
  unfold SB at h
  rw [hs]
  unfold wsum addS
  simp only
  omega

end Gr
end Go.Proofs.Ytfhclbpbjlbebaa

/-
  No pairing is better than the best of all; there are more pairings than couples in one.
-/
namespace Go.Proofs.Ytfhclbpbjlbebaa
namespace Gr
open Go.RowKit

/-- Not better. -/
def LE (a b : SumsI) : Prop := a.W1 < b.W1 ∨ a.W1 = b.W1 ∧ (a.W2 < b.W2 ∨ a.W2 = b.W2 ∧ a.W3 ≤ b.W3)

theorem better_iff (a b : SumsI) : better a b = true ↔ b.W1 < a.W1 ∨ b.W1 = a.W1 ∧ (b.W2 < a.W2 ∨ b.W2 = a.W2 ∧ b.W3 < a.W3) := by
  unfold better
  split
  · simp; omega
  · split
    · simp; omega
    · simp; omega

theorem le_iff (a b : SumsI) : better a b = false ↔ LE a b := by
  have h := better_iff a b
  unfold LE
  cases hb : better a b with
  | true => rw [hb] at h; simp at h ⊢; omega
  | false => rw [hb] at h; simp at h ⊢; omega

theorem LE.refl (a : SumsI) : LE a a := by unfold LE; omega
theorem LE.trans {a b c : SumsI} (h : LE a b) (k : LE b c) : LE a c := by unfold LE at *; omega
theorem LE.add {a b : SumsI} (e : EdgeI) (h : LE a b) : LE (addS a e) (addS b e) := by unfold LE addS at *; simp only; omega

/-- Of two sums at most one is better, and one is where they are not the same. -/
theorem better_other {a b : SumsI} (h : better a b = false) : better b a = !(decide (b = a)) := by
  have h1 := (le_iff a b).1 h
  have h2 := better_iff b a
  obtain ⟨a1, a2, a3⟩ := a
  obtain ⟨b1, b2, b3⟩ := b
  unfold LE at h1
  simp only [SumsI.mk.injEq] at h1 h2 ⊢
  cases hb : better ⟨b1, b2, b3⟩ ⟨a1, a2, a3⟩ with
  | true => rw [hb] at h2; simp at h2 ⊢; omega
  | false => rw [hb] at h2; simp at h2 ⊢; omega

theorem sumsFrom_add (Q : List EdgeI) : ∀ (M : List CoupleI) (t : SumsI) (e : EdgeI), sumsFrom Q (addS t e) M = addS (sumsFrom Q t M) e
  | [], _, _ => rfl
  | x :: r, t, e => by
    unfold sumsFrom
    rw [← sumsFrom_add Q r _ e]
    congr 1
    unfold addS
    simp only [SumsI.mk.injEq]
    omega

theorem sums_cons (Q : List EdgeI) (x : CoupleI) (r : List CoupleI) : sums Q (x :: r) = addS (sums Q r) (edgeN Q (atFrom x.A x.B 0 Q)) := by
  unfold sums
  rw [sumsFrom, sumsFrom_add]

theorem bstep_le (Q : List EdgeI) (f : Int) (U : List Int) (rec : List Int → SumsI × Int) (hF : ∀ V, 1 ≤ (rec V).2) (acc : SumsI × Int) (b : Int) : LE acc.1 (bstep Q f U rec acc b).1 ∧ acc.2 ≤ (bstep Q f U rec acc b).2 := by
  have hFF := hF (U ++ [b])
  unfold bstep
  split
  · exact ⟨LE.refl _, Int.le_refl _⟩
  · refine ⟨?_, by simp only; omega⟩
    simp only
    split
    · rename_i h
      have := (better_iff _ _).1 h
      unfold LE
      omega
    · exact LE.refl _

theorem bloop_le (Q : List EdgeI) (f : Int) (U : List Int) (rec : List Int → SumsI × Int) (hF : ∀ V, 1 ≤ (rec V).2) : ∀ (m : Nat) (b : Int) (acc : SumsI × Int), LE acc.1 (bloop Q f U rec m b acc).1 ∧ acc.2 ≤ (bloop Q f U rec m b acc).2
  | 0, _, acc => ⟨LE.refl _, Int.le_refl _⟩
  | m + 1, b, acc => by
    obtain ⟨h1, h2⟩ := bstep_le Q f U rec hF acc b
    obtain ⟨k1, k2⟩ := bloop_le Q f U rec hF m (b + 1) (bstep Q f U rec acc b)
    exact ⟨h1.trans k1, Int.le_trans h2 k2⟩

theorem bloop_in (Q : List EdgeI) (f : Int) (U : List Int) (rec : List Int → SumsI × Int) (hF : ∀ V, 1 ≤ (rec V).2) (x : Int) (hx : 0 ≤ atFrom f x 0 Q) (hU : inK U x = false) :
    ∀ (m : Nat) (b : Int) (acc : SumsI × Int), b ≤ x → x < b + (m : Int) → LE (addS (rec (U ++ [x])).1 (edgeN Q (atFrom f x 0 Q))) (bloop Q f U rec m b acc).1 ∧ acc.2 + (rec (U ++ [x])).2 ≤ (bloop Q f U rec m b acc).2
  | 0, b, acc, h1, h2 => by omega
  | m + 1, b, acc, h1, h2 => by
    show LE _ (bloop Q f U rec m (b + 1) (bstep Q f U rec acc b)).1 ∧ _ ≤ (bloop Q f U rec m (b + 1) (bstep Q f U rec acc b)).2
    by_cases hb : b = x
    · subst hb
      obtain ⟨k1, k2⟩ := bloop_le Q f U rec hF m (b + 1) (bstep Q f U rec acc b)
      have hs : bstep Q f U rec acc b = (if better (addS (rec (U ++ [b])).1 (edgeN Q (atFrom f b 0 Q))) acc.1 = true then addS (rec (U ++ [b])).1 (edgeN Q (atFrom f b 0 Q)) else acc.1, acc.2 + (rec (U ++ [b])).2) := by
        unfold bstep
        rw [if_neg (by rw [hU]; simp; omega)]
      rw [hs] at k1 k2 ⊢
      refine ⟨LE.trans ?_ k1, k2⟩
      simp only
      split
      · exact LE.refl _
      · rename_i h
        exact (le_iff _ _).1 (by simpa using h)
    · obtain ⟨j1, j2⟩ := bstep_le Q f U rec hF acc b
      obtain ⟨k1, k2⟩ := bloop_in Q f U rec hF x hx hU m (b + 1) (bstep Q f U rec acc b) (by omega) (by omega)
      exact ⟨k1, by omega⟩

/-- Couples of the last n vertices, none of them used. -/
def Pm (Q : List EdgeI) (s : Int) (n : Nat) (U : List Int) (M : List CoupleI) : Prop :=
  (∀ x ∈ M, s - (n : Int) ≤ x.A ∧ x.A < x.B ∧ x.B < s ∧ 0 ≤ atFrom x.A x.B 0 Q ∧ inK U x.A = false ∧ inK U x.B = false) ∧ M.Pairwise (fun x y => x.A < y.A ∧ y.A ≠ x.B ∧ y.B ≠ x.B)

theorem best_pos (Q : List EdgeI) (s : Int) : ∀ (n : Nat) (U : List Int), 1 ≤ (best Q s n U).2
  | 0, _ => Int.le_refl _
  | n + 1, U => by
    have ih := fun V => best_pos Q s n V
    cases hu : inK U (s - ((n + 1 : Nat) : Int)) with
    | true => rw [best_skip Q s n U hu]; exact ih U
    | false => rw [best_loop Q s n U hu]; exact Int.le_trans (ih U) (bloop_le Q _ U _ ih n _ _).2

theorem inK_snoc_false {U : List Int} {x y : Int} (h : inK U y = false) (hne : y ≠ x) : inK (U ++ [x]) y = false := by
  unfold inK at *
  simp at h ⊢
  exact ⟨h, hne⟩

theorem best_top (Q : List EdgeI) (s : Int) : ∀ (n : Nat) (U : List Int) (M : List CoupleI), Pm Q s n U M → LE (sums Q M) (best Q s n U).1 ∧ (M.length : Int) + 1 ≤ (best Q s n U).2
  | 0, U, M, h => by
    cases M with
    | nil => exact ⟨LE.refl _, Int.le_refl _⟩
    | cons x r => have := h.1 x List.mem_cons_self; omega
  | n + 1, U, M, h => by
    have hF := fun V => best_pos Q s n V
    cases hu : inK U (s - ((n + 1 : Nat) : Int)) with
    | true =>
      rw [best_skip Q s n U hu]
      refine best_top Q s n U M ⟨fun x hx => ?_, h.2⟩
      obtain ⟨h1, h2, h3, h4, h5, h6⟩ := h.1 x hx
      refine ⟨?_, h2, h3, h4, h5, h6⟩
      have : x.A ≠ s - ((n + 1 : Nat) : Int) := fun e => by rw [e, hu] at h5; cases h5
      omega
    | false =>
      rw [best_loop Q s n U hu]
      have hle := bloop_le Q (s - ((n + 1 : Nat) : Int)) U (fun V => best Q s n V) hF n (s - (n : Int)) (best Q s n U)
      by_cases hx : ∃ x r, M = x :: r ∧ x.A = s - ((n + 1 : Nat) : Int)
      · obtain ⟨x, r, rfl, hA⟩ := hx
        obtain ⟨h1, h2, h3, h4, h5, h6⟩ := h.1 x List.mem_cons_self
        have hp := List.pairwise_cons.1 h.2
        obtain ⟨i1, i2⟩ := best_top Q s n (U ++ [x.B]) r ⟨fun y hy => by
          obtain ⟨g1, g2, g3, g4, g5, g6⟩ := h.1 y (List.mem_cons_of_mem _ hy)
          have := hp.1 y hy
          exact ⟨by omega, g2, g3, g4, inK_snoc_false g5 this.2.1, inK_snoc_false g6 this.2.2⟩, hp.2⟩
        obtain ⟨j1, j2⟩ := bloop_in Q (s - ((n + 1 : Nat) : Int)) U (fun V => best Q s n V) hF x.B (by rw [← hA]; exact h4) h6 n (s - (n : Int)) (best Q s n U) (by omega) (by omega)
        have hb := hF U
        refine ⟨?_, ?_⟩
        · rw [sums_cons, hA]
          exact (i1.add _).trans j1
        · have e : (((x :: r).length : Nat) : Int) = (r.length : Int) + 1 := by simp
          rw [e]
          omega
      · obtain ⟨i1, i2⟩ := best_top Q s n U M ⟨fun y hy => by
          obtain ⟨g1, g2⟩ := h.1 y hy
          refine ⟨?_, g2⟩
          cases M with
          | nil => simp at hy
          | cons x r =>
            have hx1 := (h.1 x List.mem_cons_self).1
            have hx2 : x.A ≠ s - ((n + 1 : Nat) : Int) := fun e => hx ⟨x, r, rfl, e⟩
            rcases List.mem_cons.1 hy with rfl | hy
            · omega
            · have := (List.pairwise_cons.1 h.2).1 y hy
              omega, h.2⟩
        exact ⟨i1.trans hle.1, Int.le_trans i2 hle.2⟩

theorem inK_two {U : List Int} {a b x : Int} (h : inK (U ++ [a, b]) x = false) : inK U x = false ∧ x ≠ a ∧ x ≠ b := by
  unfold inK at *
  simp at h ⊢
  exact h

theorem match_pm {s : Int} {Q : List EdgeI} (hg : graphOk s Q = true) : ∀ (M : List CoupleI) (p : Option CoupleI) (U : List Int), mFrom Q p U M = true → (∀ x ∈ M, 0 ≤ x.A ∧ x.A < x.B ∧ x.B < s ∧ 0 ≤ atFrom x.A x.B 0 Q ∧ inK U x.A = false ∧ inK U x.B = false) ∧ M.Pairwise (fun x y => x.A < y.A ∧ y.A ≠ x.B ∧ y.B ≠ x.B) ∧ ∀ q, p = some q → ∀ x ∈ M, q.A < x.A
  | [], _, _, _ => ⟨by simp, List.Pairwise.nil, by simp⟩
  | x :: r, p, U, h => by
    unfold mFrom at h
    simp only [Bool.and_eq_true, decide_eq_true_eq, Bool.not_eq_true'] at h
    obtain ⟨h1, h2, h3, h4, h5, h6⟩ := h
    obtain ⟨i1, i2, i3⟩ := match_pm hg r (some x) (U ++ [x.A, x.B]) h6
    obtain ⟨i, hi, _, _, hh⟩ := edgeN_at h3
    have hek := (graph_sound hg).2.2.1 _ (List.getElem_mem hi)
    have he := (edgeOk_iff s _).1 hek
    have hh2 := ((hit_iff hek h1).1).1 hh
    refine ⟨fun y hy => ?_, List.Pairwise.cons (fun y hy => ?_) i2, fun q hq y hy => ?_⟩
    · rcases List.mem_cons.1 hy with rfl | hy
      · exact ⟨by omega, h1, by omega, h3, h4, h5⟩
      · obtain ⟨g1, g2, g3, g4, g5, g6⟩ := i1 y hy
        exact ⟨g1, g2, g3, g4, (inK_two g5).1, (inK_two g6).1⟩
    · obtain ⟨g1, g2, g3, g4, g5, g6⟩ := i1 y hy
      exact ⟨i3 x rfl y hy, (inK_two g5).2.2, (inK_two g6).2.2⟩
    · subst hq
      have h2' : q.A < x.A := by simpa [aheadC] using h2
      rcases List.mem_cons.1 hy with rfl | hy
      · exact h2'
      · have := i3 x rfl y hy
        omega

/-- No pairing is better than the best of all, and there are more pairings than couples in one. -/
theorem best_of_all {s : Int} {Q : List EdgeI} {M : List CoupleI} (h : matchOk s Q M = true) : better (sums Q M) (best Q s s.toNat []).1 = false ∧ (M.length : Int) < (best Q s s.toNat []).2 := by
  obtain ⟨hg, _, hm⟩ := match_sound h
  obtain ⟨h0, h9, _, _⟩ := graph_sound hg
  obtain ⟨i1, i2, _⟩ := match_pm hg M none [] hm
  obtain ⟨j1, j2⟩ := best_top Q s s.toNat [] M ⟨fun x hx => by
    obtain ⟨g1, g2⟩ := i1 x hx
    exact ⟨by omega, g2⟩, i2⟩
  exact ⟨(le_iff _ _).2 j1, by omega⟩

end Gr
end Go.Proofs.Ytfhclbpbjlbebaa

/-
  The best of all pairings and how many there are, gone through edge by edge: the same as vertex by vertex.
-/
namespace Go.Proofs.Ytfhclbpbjlbebaa
namespace Gr
open Go.RowKit

/-- The better of two sums. -/
def mx (a b : SumsI) : SumsI := if better b a = true then b else a

theorem LE.antisymm {a b : SumsI} (h : LE a b) (k : LE b a) : a = b := by
  obtain ⟨a1, a2, a3⟩ := a
  obtain ⟨b1, b2, b3⟩ := b
  unfold LE at h k
  simp only at h k
  have : a1 = b1 ∧ a2 = b2 ∧ a3 = b3 := by omega
  obtain ⟨rfl, rfl, rfl⟩ := this
  rfl

theorem LE.total (a b : SumsI) : LE a b ∨ LE b a := by unfold LE; omega

theorem le_of_better {a b : SumsI} (h : better b a = true) : LE a b := by
  have := (better_iff b a).1 h
  unfold LE
  omega

theorem mx_le {a b c : SumsI} : LE (mx a b) c ↔ LE a c ∧ LE b c := by
  unfold mx
  cases h : better b a with
  | true => exact ⟨fun k => ⟨(le_of_better h).trans k, k⟩, fun k => k.2⟩
  | false => exact ⟨fun k => ⟨k, ((le_iff b a).1 h).trans k⟩, fun k => k.1⟩

theorem le_mx_left (a b : SumsI) : LE a (mx a b) := (mx_le.1 (LE.refl _)).1
theorem le_mx_right (a b : SumsI) : LE b (mx a b) := (mx_le.1 (LE.refl _)).2

theorem mx_eq {a b c : SumsI} (h : ∀ d, LE c d ↔ LE a d ∧ LE b d) : mx a b = c :=
  LE.antisymm (mx_le.2 ((h c).1 (LE.refl _))) ((h _).2 (mx_le.1 (LE.refl _)))

theorem mx_comm (a b : SumsI) : mx a b = mx b a := mx_eq fun d => by rw [mx_le]; exact And.comm
theorem mx_assoc (a b c : SumsI) : mx (mx a b) c = mx a (mx b c) := mx_eq fun d => by rw [mx_le, mx_le, mx_le]; exact and_assoc.symm
theorem mx_of_le {a b : SumsI} (h : LE a b) : mx a b = b := mx_eq fun _ => ⟨fun k => ⟨h.trans k, k⟩, fun k => k.2⟩
theorem mx_of_ge {a b : SumsI} (h : LE b a) : mx a b = a := by rw [mx_comm]; exact mx_of_le h

/-- Two sums together. -/
def plus (s t : SumsI) : SumsI := ⟨s.W1 + t.W1, s.W2 + t.W2, s.W3 + t.W3⟩

theorem plus_le {s a b : SumsI} : LE (plus s a) (plus s b) ↔ LE a b := by unfold LE plus; simp only; omega
theorem plus_zero (s : SumsI) : plus s ⟨0, 0, 0⟩ = s := by unfold plus; simp
theorem zero_plus (s : SumsI) : plus ⟨0, 0, 0⟩ s = s := by unfold plus; simp
theorem plus_add (s t : SumsI) (e : EdgeI) : plus (addS s e) t = plus s (addS t e) := by
  unfold plus addS
  simp only [SumsI.mk.injEq]
  omega
theorem plus_mx (s a b : SumsI) : plus s (mx a b) = mx (plus s a) (plus s b) := by
  rcases LE.total a b with h | h
  · rw [mx_of_le h, mx_of_le (plus_le.2 h)]
  · rw [mx_of_ge h, mx_of_ge (plus_le.2 h)]

/-- The best sums and the number of two heaps of pairings together. -/
def comb (a b : SumsI × Int) : SumsI × Int := (mx a.1 b.1, a.2 + b.2)

theorem comb_comm (a b : SumsI × Int) : comb a b = comb b a := by unfold comb; rw [mx_comm, Int.add_comm]
theorem comb_assoc (a b c : SumsI × Int) : comb (comb a b) c = comb a (comb b c) := by unfold comb; simp only; rw [mx_assoc, Int.add_assoc]

/-- The same pairings, with an edge more in each. -/
def addP (x : SumsI × Int) (e : EdgeI) : SumsI × Int := (addS x.1 e, x.2)

/-- Whether an edge's vertices are not used. -/
def freeE (U : List Int) (e : EdgeI) : Bool := !(inK U e.A || inK U e.B)

/-- The best sums of all pairings by these edges that use no used vertex, and how many there are. -/
def each : List EdgeI → List Int → SumsI × Int
  | [], _ => (⟨0, 0, 0⟩, 1)
  | e :: r, U => if freeE U e = true then comb (each r U) (addP (each r (U ++ [e.A, e.B])) e) else each r U

theorem inK_app (U V : List Int) (x : Int) : inK (U ++ V) x = (inK U x || inK V x) := by
  unfold inK
  rw [Bool.eq_iff_iff]
  simp

theorem each_congr : ∀ (r : List EdgeI) (U V : List Int), (∀ e ∈ r, inK U e.A = inK V e.A ∧ inK U e.B = inK V e.B) → each r U = each r V
  | [], _, _, _ => rfl
  | e :: r, U, V, h => by
    have h0 := h e List.mem_cons_self
    have hr := fun x hx => h x (List.mem_cons_of_mem _ hx)
    have hf : freeE U e = freeE V e := by unfold freeE; rw [h0.1, h0.2]
    unfold each
    rw [hf, each_congr r U V hr, each_congr r (U ++ [e.A, e.B]) (V ++ [e.A, e.B]) (fun x hx => by
      rw [inK_app, inK_app, inK_app, inK_app, (hr x hx).1, (hr x hx).2]
      exact ⟨rfl, rfl⟩)]

theorem each_pos : ∀ (r : List EdgeI) (U : List Int), 1 ≤ (each r U).2
  | [], _ => Int.le_refl _
  | e :: r, U => by
    unfold each
    split
    · have := each_pos r U
      have := each_pos r (U ++ [e.A, e.B])
      show 1 ≤ (each r U).2 + (each r (U ++ [e.A, e.B])).2
      omega
    · exact each_pos r U

theorem each_mono (e : EdgeI) (r : List EdgeI) (U : List Int) : LE (each r U).1 (each (e :: r) U).1 := by
  rw [each]
  split
  · exact le_mx_left _ _
  · exact LE.refl _

/-- Where one vertex of the first edges is used, they are as if they were not there. -/
theorem each_skip : ∀ (b r : List EdgeI) (U : List Int), (∀ e ∈ b, freeE U e = false) → each (b ++ r) U = each r U
  | [], _, _, _ => rfl
  | e :: b, r, U, h => by
    rw [List.cons_append, each, if_neg (by rw [h e List.mem_cons_self]; simp)]
    exact each_skip b r U (fun x hx => h x (List.mem_cons_of_mem _ hx))

/-- The edges from (f, b) on. -/
def since (f b : Int) (e : EdgeI) : Bool := decide (f < e.A ∨ e.A = f ∧ b ≤ e.B)

theorem since_iff (f b : Int) (e : EdgeI) : since f b e = true ↔ f < e.A ∨ e.A = f ∧ b ≤ e.B := by unfold since; simp

theorem filter_same {α : Type} (p q : α → Bool) : ∀ l : List α, (∀ x ∈ l, p x = q x) → l.filter p = l.filter q
  | [], _ => rfl
  | x :: l, h => by
    rw [List.filter_cons, List.filter_cons, h x List.mem_cons_self, filter_same p q l (fun y hy => h y (List.mem_cons_of_mem _ hy))]

theorem since_next (f b : Int) : ∀ (Q : List EdgeI), Q.Pairwise (fun a b => ahead a b = true) →
    (∀ e ∈ Q, e.A = f → e.B = b → Q.filter (since f b) = e :: Q.filter (since f (b + 1))) ∧ ((∀ e ∈ Q, ¬ (e.A = f ∧ e.B = b)) → Q.filter (since f b) = Q.filter (since f (b + 1)))
  | [], _ => ⟨fun e he => by simp at he, fun _ => rfl⟩
  | q :: r, h => by
    rw [List.pairwise_cons] at h
    obtain ⟨h1, h2⟩ := h
    obtain ⟨i1, i2⟩ := since_next f b r h2
    constructor
    · intro e he hA hB
      rcases List.mem_cons.1 he with rfl | her
      · have t : since f b e = true := (since_iff _ _ _).2 (Or.inr ⟨hA, by omega⟩)
        have t' : since f (b + 1) e = false := by
          rw [Bool.eq_false_iff]
          intro k
          have := (since_iff _ _ _).1 k
          omega
        rw [List.filter_cons, if_pos t, List.filter_cons, if_neg (by rw [t']; simp), i2 (fun x hx hh => by
          have := (ahead_iff _ _).1 (h1 x hx)
          omega)]
      · have ha := (ahead_iff _ _).1 (h1 e her)
        have t : since f b q = false := by
          rw [Bool.eq_false_iff]
          intro k
          have := (since_iff _ _ _).1 k
          omega
        have t' : since f (b + 1) q = false := by
          rw [Bool.eq_false_iff]
          intro k
          have := (since_iff _ _ _).1 k
          omega
        rw [List.filter_cons, if_neg (by rw [t]; simp), List.filter_cons, if_neg (by rw [t']; simp)]
        exact i1 e her hA hB
    · intro hno
      refine filter_same _ _ _ (fun x hx => ?_)
      have := hno x hx
      rw [Bool.eq_iff_iff, since_iff, since_iff]
      omega

/-- The loop over one vertex's fellows is the way through its edges. -/
theorem bloop_each {s : Int} {Q : List EdgeI} (hg : graphOk s Q = true) (f : Int) (U : List Int) (hU : inK U f = false) :
    ∀ (m : Nat) (b : Int) (Y : SumsI × Int), f < b → b + (m : Int) = s →
      bloop Q f U (fun V => each (Q.filter (since f s)) V) m b (comb Y (each (Q.filter (since f s)) U)) = comb Y (each (Q.filter (since f b)) U)
  | 0, b, Y, hb, hm => by
    have : b = s := by omega
    subst this
    rfl
  | m + 1, b, Y, hb, hm => by
    obtain ⟨hs0, hs9, hok, hpw⟩ := graph_sound hg
    obtain ⟨n1, n2⟩ := since_next f b Q hpw
    have IH := fun Y => bloop_each hg f U hU m (b + 1) Y (by omega) (by omega)
    show bloop Q f U _ m (b + 1) (bstep Q f U _ _ b) = _
    by_cases hx : ∃ e ∈ Q, hit f b e = true
    · obtain ⟨i, e, hi, hh, ha⟩ := at_some f b Q 0 hx
      rw [Nat.zero_add] at ha
      have heQ : e ∈ Q := List.mem_of_getElem? hi
      obtain ⟨eA, eB⟩ := (hit_iff (hok e heQ) hb).1.1 hh
      have hE : edgeN Q (atFrom f b 0 Q) = e := by
        unfold edgeN
        rw [ha, Int.toNat_natCast, List.getD_eq_getElem?_getD, hi]
        rfl
      rw [n1 e heQ eA eB]
      cases hub : inK U b with
      | true =>
        have hs : bstep Q f U (fun V => each (Q.filter (since f s)) V) (comb Y (each (Q.filter (since f s)) U)) b = comb Y (each (Q.filter (since f s)) U) := by
          unfold bstep
          rw [if_pos (Or.inr hub)]
        rw [hs, IH, each, if_neg (by unfold freeE; rw [eB, hub]; simp)]
      | false =>
        have hs : bstep Q f U (fun V => each (Q.filter (since f s)) V) (comb Y (each (Q.filter (since f s)) U)) b = comb (comb Y (addP (each (Q.filter (since f s)) (U ++ [b])) e)) (each (Q.filter (since f s)) U) := by
          rw [comb_assoc, comb_comm (addP _ _), ← comb_assoc]
          unfold bstep
          rw [if_neg (by rw [hub]; simp; omega), hE]
          rfl
        have hk : each (Q.filter (since f (b + 1))) (U ++ [e.A, e.B]) = each (Q.filter (since f s)) (U ++ [b]) := by
          have hsk : ∀ (k : Nat) (c : Int), f < c → c + (k : Int) = s → each (Q.filter (since f c)) (U ++ [e.A, e.B]) = each (Q.filter (since f s)) (U ++ [e.A, e.B]) := by
            intro k
            induction k with
            | zero => intro c _ hc; have : c = s := by omega
                      subst this; rfl
            | succ k ih =>
              intro c hc hcs
              obtain ⟨m1, m2⟩ := since_next f c Q hpw
              rw [← ih (c + 1) (by omega) (by omega)]
              by_cases hy : ∃ x ∈ Q, x.A = f ∧ x.B = c
              · obtain ⟨x, hxQ, xA, xB⟩ := hy
                rw [m1 x hxQ xA xB, each, if_neg (by unfold freeE; rw [inK_app, xA, eA]; simp [inK])]
              · rw [m2 (fun x hxQ hh => hy ⟨x, hxQ, hh⟩)]
          rw [hsk m (b + 1) (by omega) (by omega)]
          refine each_congr _ _ _ (fun x hx => ?_)
          obtain ⟨hxQ, hxs⟩ := List.mem_filter.1 hx
          obtain ⟨x0, x1, x2, _⟩ := (edgeOk_iff s x).1 (hok x hxQ)
          have := (since_iff _ _ _).1 hxs
          have hfA : x.A ≠ f := by omega
          have hfB : x.B ≠ f := by omega
          rw [inK_app, inK_app, inK_app, inK_app, eA, eB]
          unfold inK
          simp [hfA, hfB]
        rw [hs, IH, each, if_pos (by unfold freeE; rw [eA, eB, hU, hub]; rfl), hk, comb_assoc, comb_comm (addP _ _)]
    · have hno : ∀ e ∈ Q, ¬ hit f b e = true := fun e he hh => hx ⟨e, he, hh⟩
      have hat := at_none f b Q 0 hno
      have hs : bstep Q f U (fun V => each (Q.filter (since f s)) V) (comb Y (each (Q.filter (since f s)) U)) b = comb Y (each (Q.filter (since f s)) U) := by
        unfold bstep
        rw [if_pos (Or.inl (by omega))]
      rw [hs, IH, n2 (fun e he hh => hno e he ((hit_iff (hok e he) hb).1.2 hh))]

theorem each_since_mono {Q : List EdgeI} (hpw : Q.Pairwise (fun a b => ahead a b = true)) (f : Int) (U : List Int) : ∀ (k : Nat) (c : Int), LE (each (Q.filter (since f (c + (k : Int)))) U).1 (each (Q.filter (since f c)) U).1
  | 0, c => by
    have : c + ((0 : Nat) : Int) = c := by omega
    rw [this]
    exact LE.refl _
  | k + 1, c => by
    have e : c + ((k + 1 : Nat) : Int) = (c + 1) + (k : Int) := by omega
    rw [e]
    refine (each_since_mono hpw f U k (c + 1)).trans ?_
    obtain ⟨m1, m2⟩ := since_next f c Q hpw
    by_cases hy : ∃ x ∈ Q, x.A = f ∧ x.B = c
    · obtain ⟨x, hxQ, xA, xB⟩ := hy
      rw [m1 x hxQ xA xB]
      exact each_mono _ _ _
    · rw [m2 (fun x hxQ hh => hy ⟨x, hxQ, hh⟩)]
      exact LE.refl _

/-- Vertex by vertex is edge by edge. -/
theorem best_each {s : Int} {Q : List EdgeI} (hg : graphOk s Q = true) : ∀ (n : Nat) (U : List Int), (n : Int) ≤ s → best Q s n U = each (Q.filter (since (s - (n : Int)) (s - (n : Int)))) U
  | 0, U, _ => by
    obtain ⟨hs0, hs9, hok, hpw⟩ := graph_sound hg
    have : Q.filter (since (s - ((0 : Nat) : Int)) (s - ((0 : Nat) : Int))) = [] := by
      rw [List.filter_eq_nil_iff]
      intro e he
      obtain ⟨x0, x1, x2, _⟩ := (edgeOk_iff s e).1 (hok e he)
      rw [since_iff]
      omega
    rw [this]
    rfl
  | n + 1, U, hn => by
    obtain ⟨hs0, hs9, hok, hpw⟩ := graph_sound hg
    have IH := fun V => best_each hg n V (by omega)
    generalize hf : s - ((n + 1 : Nat) : Int) = f
    have hf1 : s - (n : Int) = f + 1 := by omega
    have E1 : Q.filter (since (f + 1) (f + 1)) = Q.filter (since f s) := by
      refine filter_same _ _ _ (fun x hx => ?_)
      obtain ⟨x0, x1, x2, _⟩ := (edgeOk_iff s x).1 (hok x hx)
      rw [Bool.eq_iff_iff, since_iff, since_iff]
      omega
    have E2 : Q.filter (since f f) = Q.filter (since f (f + 1)) := by
      refine filter_same _ _ _ (fun x hx => ?_)
      obtain ⟨x0, x1, x2, _⟩ := (edgeOk_iff s x).1 (hok x hx)
      rw [Bool.eq_iff_iff, since_iff, since_iff]
      omega
    have IH' : ∀ V, best Q s n V = each (Q.filter (since f s)) V := fun V => by rw [IH V, hf1, E1]
    cases hu : inK U f with
    | true =>
      rw [best_skip Q s n U (by rw [hf]; exact hu), IH', E2]
      have hsk : ∀ (k : Nat) (c : Int), f < c → c + (k : Int) = s → each (Q.filter (since f c)) U = each (Q.filter (since f s)) U := by
        intro k
        induction k with
        | zero => intro c _ hc; have : c = s := by omega
                  subst this; rfl
        | succ k ih =>
          intro c hc hcs
          obtain ⟨m1, m2⟩ := since_next f c Q hpw
          rw [← ih (c + 1) (by omega) (by omega)]
          by_cases hy : ∃ x ∈ Q, x.A = f ∧ x.B = c
          · obtain ⟨x, hxQ, xA, xB⟩ := hy
            rw [m1 x hxQ xA xB, each, if_neg (by unfold freeE; rw [xA, hu]; simp)]
          · rw [m2 (fun x hxQ hh => hy ⟨x, hxQ, hh⟩)]
      exact (hsk n (f + 1) (by omega) (by omega)).symm
    | false =>
      rw [best_loop Q s n U (by rw [hf]; exact hu), hf, hf1, E2]
      have hfun : (fun V => best Q s n V) = (fun V => each (Q.filter (since f s)) V) := funext IH'
      rw [hfun, IH' U]
      generalize hR : each (Q.filter (since f s)) U = R
      have h0 : comb (R.1, 0) R = R := by
        unfold comb
        simp only
        rw [mx_of_le (LE.refl _)]
        simp
      have hB := bloop_each hg f U hu n (f + 1) (R.1, 0) (by omega) (by omega)
      rw [hR, h0] at hB
      rw [hB]
      have hm := each_since_mono hpw f U n (f + 1)
      have e1 : f + 1 + (n : Int) = s := by omega
      rw [e1, hR] at hm
      unfold comb
      simp only
      rw [mx_of_le hm]
      simp

theorem best_is_each {s : Int} {Q : List EdgeI} (hg : graphOk s Q = true) : best Q s s.toNat [] = each Q [] := by
  obtain ⟨hs0, hs9, hok, hpw⟩ := graph_sound hg
  rw [best_each hg s.toNat [] (by omega)]
  have : Q.filter (since (s - (s.toNat : Int)) (s - (s.toNat : Int))) = Q := by
    rw [List.filter_eq_self]
    intro e he
    obtain ⟨x0, x1, x2, _⟩ := (edgeOk_iff s e).1 (hok e he)
    rw [since_iff]
    omega
  rw [this]

/-- One edge looked at: what the program reckons. -/
theorem each_drop (Q : List EdgeI) (U : List Int) (i : Nat) (h : i < Q.length) : each (Q.drop i) U = if freeE U Q[i] = true then comb (each (Q.drop (i + 1)) U) (addP (each (Q.drop (i + 1)) (U ++ [Q[i].A, Q[i].B])) Q[i]) else each (Q.drop (i + 1)) U := by
  rw [List.drop_eq_getElem_cons h, each]
end Gr
end Go.Proofs.Ytfhclbpbjlbebaa

/-
  The contract of spec.DrawRightGraph: some right graph, new. (Written by program.)
-/
namespace Go.Proofs.Ytfhclbpbjlbebaa
namespace Gr
open Go.RowKit

theorem okFrom_snoc (s : Int) (x : EdgeI) (hx : edgeOk s x = true) : ∀ (Q : List EdgeI) (p : Option EdgeI), okFrom s p Q = true → (∀ e ∈ Q, ahead e x = true) → (Q = [] → aheadOf p x = true) → okFrom s p (Q ++ [x]) = true
  | [], p, _, _, hp => by
    show (edgeOk s x && (aheadOf p x && true)) = true
    rw [hx, hp rfl]
    rfl
  | e :: r, p, h, ha, _ => by
    have h' : (edgeOk s e && (aheadOf p e && okFrom s (some e) r)) = true := h
    show (edgeOk s e && (aheadOf p e && okFrom s (some e) (r ++ [x]))) = true
    simp only [Bool.and_eq_true] at h' ⊢
    exact ⟨h'.1, h'.2.1, okFrom_snoc s x hx r (some e) h'.2.2 (fun y hy => ha y (List.mem_cons_of_mem _ hy)) (fun _ => ha e List.mem_cons_self)⟩

/-- The edges that are drawn so far: right, and all ahead of (A, B). -/
def GQ (s A B : Int) (n : Nat) (l : Nat) (Q : List EdgeI) : Prop := l = Q.length ∧ l ≤ n ∧ okFrom s none Q = true ∧ ∀ e ∈ Q, e.A < A ∨ e.A = A ∧ e.B < B

theorem GQ.step {s A B : Int} {n l : Nat} {Q : List EdgeI} (h : GQ s A B n l Q) (x : EdgeI) (hx : edgeOk s x = true) (hA : x.A = A) (hB : x.B = B) : GQ s A (B + 1) (n + 1) (l + 1) (Q ++ [x]) := by
  obtain ⟨h1, h2, h3, h4⟩ := h
  refine ⟨by rw [List.length_append, ← h1]; rfl, by omega, okFrom_snoc s x hx Q none h3 (fun e he => ?_) (fun _ => rfl), fun e he => ?_⟩
  · unfold ahead
    rcases h4 e he with h | ⟨h, h'⟩
    · rw [decide_eq_true (show e.A < x.A by omega)]; rfl
    · rw [decide_eq_true (show e.A = x.A by omega), decide_eq_true (show e.B < x.B by omega)]; simp
  · rcases List.mem_append.1 he with he | he
    · rcases h4 e he with h | ⟨h, h'⟩
      · exact .inl h
      · exact .inr ⟨h, by omega⟩
    · obtain rfl := List.mem_singleton.1 he
      exact .inr ⟨hA, by omega⟩

theorem GQ.skip {s A B B' : Int} {n n' l : Nat} {Q : List EdgeI} (h : GQ s A B n l Q) (hB : B ≤ B') (hn : n ≤ n') : GQ s A B' n' l Q :=
  ⟨h.1, Nat.le_trans h.2.1 hn, h.2.2.1, fun e he => by rcases h.2.2.2 e he with h | ⟨h, h'⟩; exact .inl h; exact .inr ⟨h, by omega⟩⟩

theorem GQ.next {s A B : Int} {n n' l : Nat} {Q : List EdgeI} (h : GQ s A B n l Q) (hn : n ≤ n') : GQ s (A + 1) 0 n' l Q :=
  ⟨h.1, Nat.le_trans h.2.1 hn, h.2.2.1, fun e he => by rcases h.2.2.2 e he with h | ⟨h, h'⟩ <;> exact .inl (by omega)⟩

/-- What stands while edges are drawn: the cursor; the result's variable; the graph, in block g3. -/
def GD (a : Option Addr) (len cap g B : Nat) (w : World) (g3 : Nat) (s A Bq : Int) (n : Nat) (wr : World) : Prop :=
  CC a len cap g B wr ∧ GBox wr w.heap.size 0 (.slice none 0 0) ∧ Kept (fun k => k = g) w wr ∧ ∃ (l : Nat) (Q : List EdgeI) (P : Option Addr) (C : Nat), GQ s A Bq n l Q ∧ GBox wr g3 s (.slice P l C) ∧ wr.ownsRow (g3 + 1) 64 5 (.slice P l C) l (edgesV Q)

theorem GD.drawn {a : Option Addr} {len cap g B : Nat} {w : World} {g3 : Nat} {s A Bq : Int} {n : Nat} {wr w' : World} (h : GD a len cap g B w g3 s A Bq n wr) (hg : g < w.heap.size) (h3 : w.heap.size < g3) (hc : CC a len cap g B w') (hk : Kept (fun k => k = g) wr w') : GD a len cap g B w g3 s A Bq n w' := by
  obtain ⟨_, h1, h2, l, Q, P, C, hq, hb, ho⟩ := h
  exact ⟨hc, h1.kept hk (by omega), h2.trans hk, l, Q, P, C, hq, hb.kept hk (by omega), hk.own ho (fun k hk e => by have := (ho.lt k hk).1; omega)⟩

theorem GD.skip {a : Option Addr} {len cap g B : Nat} {w : World} {g3 : Nat} {s A Bq Bq' : Int} {n n' : Nat} {wr : World} (h : GD a len cap g B w g3 s A Bq n wr) (hB : Bq ≤ Bq') (hn : n ≤ n') : GD a len cap g B w g3 s A Bq' n' wr := by
  obtain ⟨h0, h1, h2, l, Q, P, C, hq, hb, ho⟩ := h
  exact ⟨h0, h1, h2, l, Q, P, C, hq.skip hB hn, hb, ho⟩

theorem GD.next {a : Option Addr} {len cap g B : Nat} {w : World} {g3 : Nat} {s A Bq : Int} {n n' : Nat} {wr : World} (h : GD a len cap g B w g3 s A Bq n wr) (hn : n ≤ n') : GD a len cap g B w g3 s (A + 1) 0 n' wr := by
  obtain ⟨h0, h1, h2, l, Q, P, C, hq, hb, ho⟩ := h
  exact ⟨h0, h1, h2, l, Q, P, C, hq.next hn, hb, ho⟩

theorem news_edge5 (W : World) (a b c d e : Int) (t : TypeId) : ∀ j u, [Value.int .i64 a, Value.int .i64 b, Value.int .i64 c, Value.int .i64 d, Value.int .i64 e][j]? = some u → (W.alloc (Obj.cells #[.int .i64 a, .int .i64 b, .int .i64 c, .int .i64 d, .int .i64 e] t)).cell? ((⟨W.heap.size, 0, none⟩ : Addr).add j) = some u :=
  World.news_of_block (heap_alloc_new W (Obj.cells #[.int .i64 a, .int .i64 b, .int .i64 c, .int .i64 d, .int .i64 e] t))

theorem edge5_one (a b c d e : Int) : ∀ u ∈ [Value.int .i64 a, Value.int .i64 b, Value.int .i64 c, Value.int .i64 d, Value.int .i64 e], u.oneCell' = true := by
  intro u hu
  simp at hu
  rcases hu with rfl | rfl | rfl | rfl | rfl <;> rfl

set_option maxRecDepth 100000 in
set_option maxHeartbeats 4000000 in
theorem l08Graph_any (a : Option Addr) (len cap g B : Nat) (hl : len ≤ 1048576) (hB : B ≤ g) (w : World) (hcc : CC a len cap g B w) :
    Calls Try.prog 22 #[.pointer (some ⟨g, 0, none⟩)] w fun e w' => (∃ d, e = .returned d ∧ ∃ s Q, GrOwn w' w.heap.size d s Q ∧ graphOk s Q = true ∧ Q.length ≤ 90) ∧ CC a len cap g B w' ∧ Kept (fun k => k = g) w w' := by
  have BE := hide (fun n (h0 : 0 < n) w1 (h : CC a len cap g B w1) => below_cc a len cap g B n hl hB h0 w1 h)
  have ON := hide (fun n (h0 : 0 < n) w1 (h : CC a len cap g B w1) => once_cc a len cap g B n hl hB h0 w1 h)
  have PI := hide (fun b (hb : b ≠ g) w1 (h : CC a len cap g B w1) (hx : w1.heap[b]? = some (.cells #[.int .i64 2, .int .i64 4, .int .i64 51] 3 (0, 0))) => pick_cc (fun x => x = 2 ∨ x = 4 ∨ x = 51) a len cap g B b 2 4 51 hl hB hb w1 h hx (by omega) (by omega) (by omega))
  obtain ⟨i1, hi1, hz0, hz1, hz2⟩ := info_parts infoEdge
  have hg := hcc.lt
  have HCC := hide hcc
  clear hcc
  go_enter Try.func22, Try.ntmps22
  go_wp2_with fail
  obtain ⟨V1, hV1⟩ : ∃ W, W = w.alloc (Obj.cells #[Value.int .i64 0, Value.slice none 0 0] 26) := ⟨_, rfl⟩
  rw [← hV1]
  have b1 : Below w.heap.size w V1 := by rw [hV1]; exact below_new _ _
  have y1 : GBox V1 w.heap.size 0 (.slice none 0 0) := by rw [hV1]; exact GBox.new _ _ _
  have cc1 := (unhide HCC).below b1 hB
  clear hV1
  refine (unhide BE 10 (by omega) V1 cc1).mono ?_
  rintro e w2 ⟨⟨s, rfl, hs0, hs1⟩, cc2, hk2⟩
  have y2 := y1.kept hk2 (by omega)
  have k2 : Kept (fun k => k = g) w w2 := (Kept.of_below b1).trans hk2
  have hy2 := y2.lt
  clear hk2 cc1 y1 b1
  obtain ⟨V3, hV3⟩ : ∃ W, W = w2.alloc (Obj.cells #[Value.int .i64 s, Value.slice none 0 0] 26) := ⟨_, rfl⟩
  have b3 : Below w2.heap.size w2 V3 := by rw [hV3]; exact below_new _ _
  have u3 : GBox V3 w2.heap.size s (.slice none 0 0) := by rw [hV3]; exact GBox.new _ _ _
  have GD3 : Hid (GD a len cap g B w w2.heap.size s 0 0 0 V3) := ⟨cc2.below b3 hB, y2.below b3, k2.trans (Kept.of_below b3), 0, [], none, 0, ⟨rfl, Nat.le_refl _, rfl, by simp⟩, u3, ⟨rfl, .inl ⟨rfl, rfl⟩⟩⟩
  go_wp2_with fail
  rw [← hV3]
  have h3 : w.heap.size < w2.heap.size := hy2
  have z3 : w2.heap.size < V3.heap.size := u3.lt
  clear hV3 b3 u3 y2 k2 cc2
  refine (unhide BE 3 (by omega) V3 (unhide GD3).1).mono ?_
  rintro e w4 ⟨⟨d, rfl, hd0, hd1⟩, cc4, hk4⟩
  have GD4 := hide ((unhide GD3).drawn hg h3 cc4 hk4)
  have z4 : V3.heap.size ≤ w4.heap.size := hk4.2.2.2.1
  clear cc4 hk4
  go_wp2_with fail
  obtain ⟨V5, hV5⟩ : ∃ W, W = w4.alloc (Obj.cells #[Value.int .i64 2, Value.int .i64 4, Value.int .i64 51] 3) := ⟨_, rfl⟩
  rw [← hV5]
  have b5 : Below w4.heap.size w4 V5 := by rw [hV5]; exact below_new _ _
  have e5 : V5.heap[w4.heap.size]? = some (.cells #[.int .i64 2, .int .i64 4, .int .i64 51] 3 (0, 0)) := by rw [hV5]; exact heap_alloc_new _ _
  have GD5 : Hid (GD a len cap g B w w2.heap.size s 0 0 0 V5) := by
    obtain ⟨h0, h1, h2, l, Q, P, C, hq, hb, ho⟩ := unhide GD4
    exact ⟨h0.below b5 hB, h1.below b5, h2.trans (Kept.of_below b5), l, Q, P, C, hq, hb.below b5, own_below ho b5⟩
  have z5 := b5.size
  clear hV5 b5
  refine (unhide PI w4.heap.size (by omega) V5 (unhide GD5).1 e5).mono ?_
  rintro e w6 ⟨⟨m, rfl, hm⟩, cc6, hk6⟩
  have GD6 := hide ((unhide GD5).drawn hg h3 cc6 hk6)
  have hm0 : 0 < m := by omega
  have hm1 : m ≤ 51 := by omega
  clear cc6 hk6 e5 GD3 GD4 GD5
  obtain ⟨g3, hg3⟩ : ∃ g3, g3 = w2.heap.size := ⟨_, rfl⟩
  rw [← hg3] at GD6 h3 ⊢
  clear hg3 z3 z4 z5 hy2
  go_wp2_with fail
  go_loopw [6] (fun i wr => ∃ A : Nat, i = .int .i64 (A : Int) ∧ (A : Int) ≤ s ∧ GD a len cap g B w g3 s (A : Int) 0 (9 * A) wr) (fun i _ => s.toNat - (intOf i).toNat)
  case atStart => exact ⟨0, rfl, by omega, unhide GD6⟩
  case round =>
    obtain ⟨A, rfl, hA, hgd⟩ := hrel
    have HGD := hide hgd
    obtain ⟨_, y7, k7, l7, Q7, P7, C7, q7, u7, o7⟩ := hgd
    obtain ⟨p0, p1⟩ := u7.cells
    by_cases hlt : (A : Int) < s
    · clear y7 k7 q7 u7 o7
      go_wp2_with fail
      go_loopw [7] (fun i wr => ∃ b : Nat, i = .int .i64 (b : Int) ∧ (b : Int) ≤ s ∧ A + 1 ≤ b ∧ GD a len cap g B w g3 s (A : Int) (b : Int) (9 * A + b) wr) (fun i _ => s.toNat - (intOf i).toNat)
      case atStart => exact ⟨A + 1, by go_num, by omega, Nat.le_refl _, (unhide HGD).skip (by omega) (by omega)⟩
      case round =>
        obtain ⟨b, rfl, hb, hAb, hgd⟩ := hrel
        have HGE := hide hgd
        obtain ⟨cc8, y8, k8, l8, Q8, P8, C8, q8, u8, o8⟩ := hgd
        obtain ⟨p2, p3⟩ := u8.cells
        clear HGD p0 p1
        by_cases hltb : (b : Int) < s
        · have HON := hide (unhide ON (1 + d + 1) (by omega) wr cc8)
          have hd2 : 1 + d + 1 ≤ 9223372036854775807 := by omega
          clear y8 k8 q8 u8 o8 cc8
          go_wp2_with fail
          refine (unhide HON).mono ?_
          rintro e w9 ⟨⟨t, rfl⟩, cc9, hk9⟩
          have HGF := hide ((unhide HGE).drawn hg h3 cc9 hk9)
          clear cc9 hk9 HON HGE p2 p3
          cases t
          · go_wp2_with fail
            refine (unhide BE m hm0 w9 (unhide HGF).1).mono ?_
            rintro e w10 ⟨⟨x1, rfl, hx10, hx11⟩, cc10, hk10⟩
            have HGG := hide ((unhide HGF).drawn hg h3 cc10 hk10)
            clear cc10 hk10 HGF
            go_wp2_with fail
            refine (unhide BE m hm0 w10 (unhide HGG).1).mono ?_
            rintro e w11 ⟨⟨x2, rfl, hx20, hx21⟩, cc11, hk11⟩
            have HGH := hide ((unhide HGG).drawn hg h3 cc11 hk11)
            clear cc11 hk11 HGG
            go_wp2_with fail
            refine (unhide BE m hm0 w11 (unhide HGH).1).mono ?_
            rintro e w12 ⟨⟨x3, rfl, hx30, hx31⟩, cc12, hk12⟩
            have HGI := hide ((unhide HGH).drawn hg h3 cc12 hk12)
            clear cc12 hk12 HGH
            obtain ⟨cc13, y13, k13, l13, Q13, P13, C13, q13, u13, o13⟩ := unhide HGI
            have HQ13 := hide q13
            have hl13 := q13.2.1
            have HY13 := hide y13
            have HU13 := hide u13
            have HO13 := hide o13
            have HC13 := hide cc13
            have HK13 := hide k13
            have z13 := u13.lt
            have hgl : ∀ k, (Value.slice P13 l13 C13).ownBlock = some k → g3 < k := fun k hk => by have := (o13.lt k hk).1; omega
            have HGL := hide hgl
            clear q13 y13 u13 o13 cc13 k13 HGI hgl
            cases hm4 : (m == 4)
            · go_upto_region 15 with fail
              obtain ⟨V9, hV9⟩ : ∃ W, W = w12.alloc (Obj.cells #[Value.int .i64 (A : Int), Value.int .i64 (b : Int), Value.int .i64 x1, Value.int .i64 x2, Value.int .i64 x3] 64) := ⟨_, rfl⟩
              rw [← hV9]
              have e9 : V9.heap[w12.heap.size]? = some (.cells #[Value.int .i64 (A : Int), Value.int .i64 (b : Int), Value.int .i64 x1, Value.int .i64 x2, Value.int .i64 x3] 64 (0, 0)) := by rw [hV9]; exact heap_alloc_new _ _
              have bw9 : Below w12.heap.size w12 V9 := by rw [hV9]; exact below_new _ _
              have u9 := (unhide HU13).below bw9
              have y9 := (unhide HY13).below bw9
              have o9 := own_below (unhide HO13) bw9
              have c9 := (unhide HC13).below bw9 hB
              have k9 : Kept (fun k => k = g) w V9 := (unhide HK13).trans (Kept.of_below bw9)
              have f0 : V9.cell? ⟨w12.heap.size, 0, none⟩ = some (.int .i64 (A : Int)) := by rw [cell_of_row V9 w12.heap.size 0 _ 64 (0, 0) e9]; rfl
              have f1 : V9.cell? ⟨w12.heap.size, 1, none⟩ = some (.int .i64 (b : Int)) := by rw [cell_of_row V9 w12.heap.size 1 _ 64 (0, 0) e9]; rfl
              have f2 : V9.cell? ⟨w12.heap.size, 2, none⟩ = some (.int .i64 x1) := by rw [cell_of_row V9 w12.heap.size 2 _ 64 (0, 0) e9]; rfl
              have f3 : V9.cell? ⟨w12.heap.size, 3, none⟩ = some (.int .i64 x2) := by rw [cell_of_row V9 w12.heap.size 3 _ 64 (0, 0) e9]; rfl
              have f4 : V9.cell? ⟨w12.heap.size, 4, none⟩ = some (.int .i64 x3) := by rw [cell_of_row V9 w12.heap.size 4 _ 64 (0, 0) e9]; rfl
              obtain ⟨q0, q1⟩ := u9.cells
              have HU9 := hide u9
              have HY9 := hide y9
              have HC9 := hide c9
              have HK9 := hide k9
              have z9 : g3 < V9.heap.size := u9.lt
              have hw9 : w12.heap.size < V9.heap.size := by rw [hV9]; simp
              clear hV9 e9 bw9 u9 y9 c9 k9
              go_wp2_with (at_builtin; refine wpList_append_own _ rfl _ _ 24 rfl (g3 + 1) 64 i1 (.agg #[.int .i64 0, .int .i64 0, .int .i64 0, .int .i64 0, .int .i64 0]) 5 40 Try.underlying24 hi1 hz0 hz1 hz2 rfl (by decide) _ l13 _ rfl (o9.alloc _) ⟨V9.heap.size, 0, none⟩ 1 1 [.int .i64 (A : Int), .int .i64 (b : Int), .int .i64 x1, .int .i64 x2, .int .i64 x3] rfl rfl (news_edge5 _ _ _ _ _ _ _) (edge5_one _ _ _ _ _) ?_ ?_ ?_ ?_)
              · unfold maxLen; omega
              · omega
              · simp; omega
              intro v4 w14 hown4 hgrow4 _
              have bn := below_new V9 (Obj.cells #[Value.int .i64 (A : Int), Value.int .i64 (b : Int), Value.int .i64 x1, Value.int .i64 x2, Value.int .i64 x3] 64)
              have hkg := Kept.of_grown hgrow4
              have u14 : GBox w14 g3 s (.slice P13 l13 C13) := ((unhide HU9).below bn).kept hkg (fun e => by have := unhide HGL _ e; omega)
              have y14 : GBox w14 w.heap.size 0 (.slice none 0 0) := ((unhide HY9).below bn).kept hkg (fun e => by have := unhide HGL _ e; omega)
              have c14 : CC a len cap g B w14 := ((unhide HC9).below bn hB).kept hkg hB (fun k e => by have := unhide HGL _ e; omega)
              have k14 : Kept (fun k => k = g) w w14 := by
                have k15 := (unhide HK9).trans (Kept.of_below bn)
                exact ⟨hkg.1.trans k15.1, hkg.2.1.trans k15.2.1, hkg.2.2.1.trans k15.2.2.1, Nat.le_trans k15.2.2.2.1 hkg.2.2.2.1, fun i hi hn => (hkg.2.2.2.2 i (Nat.lt_of_lt_of_le hi k15.2.2.2.1) (fun e => by have := unhide HGL _ e; omega)).trans (k15.2.2.2.2 i hi hn)⟩
              obtain ⟨A4, C4, rfl⟩ : ∃ A c, v4 = .slice A (l13 + 1) c := by
                rcases hown4.2 with ⟨rfl, h0⟩ | ⟨g, cap, cur, rfl, _⟩
                · omega
                · exact ⟨_, _, rfl⟩
              have hsn2 : edgesV Q13 ++ [.int .i64 (A : Int), .int .i64 (b : Int), .int .i64 x1, .int .i64 x2, .int .i64 x3] = edgesV (Q13 ++ [⟨(A : Int), (b : Int), x1, x2, x3⟩]) := (edgesV_snoc Q13 ⟨(A : Int), (b : Int), x1, x2, x3⟩).symm
              rw [hsn2] at hown4
              have hko : Kept (fun i => i = g3) w14 (w14.setCell ⟨g3, 1, none⟩ (.slice A4 (l13 + 1) C4)) := Kept.set (S := fun i => i = g3) _ _ _ _ rfl
              have hex : edgeOk s ⟨(A : Int), (b : Int), x1, x2, x3⟩ = true := by
                unfold edgeOk worthOk
                simp
                omega
              have HGN : Hid (GD a len cap g B w g3 s (A : Int) ((b : Int) + 1) (9 * A + b + 1) (w14.setCell ⟨g3, 1, none⟩ (.slice A4 (l13 + 1) C4))) :=
                ⟨c14.kept hko hB (fun k hk => by omega), y14.kept hko (by omega), ⟨hko.1.trans k14.1, hko.2.1.trans k14.2.1, hko.2.2.1.trans k14.2.2.1, Nat.le_trans k14.2.2.2.1 hko.2.2.2.1, fun i hi hn => (hko.2.2.2.2 i (Nat.lt_of_lt_of_le hi k14.2.2.2.1) (by omega)).trans (k14.2.2.2.2 i hi hn)⟩, l13 + 1, _, A4, C4, (unhide HQ13).step _ hex rfl rfl, u14.one _, hko.own hown4 (fun k hk e => by have := (hown4.lt k hk).1; omega)⟩
              obtain ⟨r0, r1⟩ := u14.cells
              have rf := u14.froz
              clear hown4 hgrow4 hko bn hkg u14 y14 c14 k14 o9 q0 q1 f0 f1 f2 f3 f4 hsn2 hex
              go_wp2
              go_roundw
              case rel => exact ⟨b + 1, by go_num, by omega, by omega, by rw [Int.natCast_add]; exact unhide HGN⟩
              case measure => simp [intOf]; omega
            · go_upto_region 15 with fail
              obtain ⟨V9, hV9⟩ : ∃ W, W = w12.alloc (Obj.cells #[Value.int .i64 (A : Int), Value.int .i64 (b : Int), Value.int .i64 x1, Value.int .i64 0, Value.int .i64 0] 64) := ⟨_, rfl⟩
              rw [← hV9]
              have e9 : V9.heap[w12.heap.size]? = some (.cells #[Value.int .i64 (A : Int), Value.int .i64 (b : Int), Value.int .i64 x1, Value.int .i64 0, Value.int .i64 0] 64 (0, 0)) := by rw [hV9]; exact heap_alloc_new _ _
              have bw9 : Below w12.heap.size w12 V9 := by rw [hV9]; exact below_new _ _
              have u9 := (unhide HU13).below bw9
              have y9 := (unhide HY13).below bw9
              have o9 := own_below (unhide HO13) bw9
              have c9 := (unhide HC13).below bw9 hB
              have k9 : Kept (fun k => k = g) w V9 := (unhide HK13).trans (Kept.of_below bw9)
              have f0 : V9.cell? ⟨w12.heap.size, 0, none⟩ = some (.int .i64 (A : Int)) := by rw [cell_of_row V9 w12.heap.size 0 _ 64 (0, 0) e9]; rfl
              have f1 : V9.cell? ⟨w12.heap.size, 1, none⟩ = some (.int .i64 (b : Int)) := by rw [cell_of_row V9 w12.heap.size 1 _ 64 (0, 0) e9]; rfl
              have f2 : V9.cell? ⟨w12.heap.size, 2, none⟩ = some (.int .i64 x1) := by rw [cell_of_row V9 w12.heap.size 2 _ 64 (0, 0) e9]; rfl
              have f3 : V9.cell? ⟨w12.heap.size, 3, none⟩ = some (.int .i64 0) := by rw [cell_of_row V9 w12.heap.size 3 _ 64 (0, 0) e9]; rfl
              have f4 : V9.cell? ⟨w12.heap.size, 4, none⟩ = some (.int .i64 0) := by rw [cell_of_row V9 w12.heap.size 4 _ 64 (0, 0) e9]; rfl
              obtain ⟨q0, q1⟩ := u9.cells
              have HU9 := hide u9
              have HY9 := hide y9
              have HC9 := hide c9
              have HK9 := hide k9
              have z9 : g3 < V9.heap.size := u9.lt
              have hw9 : w12.heap.size < V9.heap.size := by rw [hV9]; simp
              clear hV9 e9 bw9 u9 y9 c9 k9
              go_wp2_with (at_builtin; refine wpList_append_own _ rfl _ _ 24 rfl (g3 + 1) 64 i1 (.agg #[.int .i64 0, .int .i64 0, .int .i64 0, .int .i64 0, .int .i64 0]) 5 40 Try.underlying24 hi1 hz0 hz1 hz2 rfl (by decide) _ l13 _ rfl (o9.alloc _) ⟨V9.heap.size, 0, none⟩ 1 1 [.int .i64 (A : Int), .int .i64 (b : Int), .int .i64 x1, .int .i64 0, .int .i64 0] rfl rfl (news_edge5 _ _ _ _ _ _ _) (edge5_one _ _ _ _ _) ?_ ?_ ?_ ?_)
              · unfold maxLen; omega
              · omega
              · simp; omega
              intro v4 w14 hown4 hgrow4 _
              have bn := below_new V9 (Obj.cells #[Value.int .i64 (A : Int), Value.int .i64 (b : Int), Value.int .i64 x1, Value.int .i64 0, Value.int .i64 0] 64)
              have hkg := Kept.of_grown hgrow4
              have u14 : GBox w14 g3 s (.slice P13 l13 C13) := ((unhide HU9).below bn).kept hkg (fun e => by have := unhide HGL _ e; omega)
              have y14 : GBox w14 w.heap.size 0 (.slice none 0 0) := ((unhide HY9).below bn).kept hkg (fun e => by have := unhide HGL _ e; omega)
              have c14 : CC a len cap g B w14 := ((unhide HC9).below bn hB).kept hkg hB (fun k e => by have := unhide HGL _ e; omega)
              have k14 : Kept (fun k => k = g) w w14 := by
                have k15 := (unhide HK9).trans (Kept.of_below bn)
                exact ⟨hkg.1.trans k15.1, hkg.2.1.trans k15.2.1, hkg.2.2.1.trans k15.2.2.1, Nat.le_trans k15.2.2.2.1 hkg.2.2.2.1, fun i hi hn => (hkg.2.2.2.2 i (Nat.lt_of_lt_of_le hi k15.2.2.2.1) (fun e => by have := unhide HGL _ e; omega)).trans (k15.2.2.2.2 i hi hn)⟩
              obtain ⟨A4, C4, rfl⟩ : ∃ A c, v4 = .slice A (l13 + 1) c := by
                rcases hown4.2 with ⟨rfl, h0⟩ | ⟨g, cap, cur, rfl, _⟩
                · omega
                · exact ⟨_, _, rfl⟩
              have hsn2 : edgesV Q13 ++ [.int .i64 (A : Int), .int .i64 (b : Int), .int .i64 x1, .int .i64 0, .int .i64 0] = edgesV (Q13 ++ [⟨(A : Int), (b : Int), x1, 0, 0⟩]) := (edgesV_snoc Q13 ⟨(A : Int), (b : Int), x1, 0, 0⟩).symm
              rw [hsn2] at hown4
              have hko : Kept (fun i => i = g3) w14 (w14.setCell ⟨g3, 1, none⟩ (.slice A4 (l13 + 1) C4)) := Kept.set (S := fun i => i = g3) _ _ _ _ rfl
              have hex : edgeOk s ⟨(A : Int), (b : Int), x1, 0, 0⟩ = true := by
                unfold edgeOk worthOk
                simp
                omega
              have HGN : Hid (GD a len cap g B w g3 s (A : Int) ((b : Int) + 1) (9 * A + b + 1) (w14.setCell ⟨g3, 1, none⟩ (.slice A4 (l13 + 1) C4))) :=
                ⟨c14.kept hko hB (fun k hk => by omega), y14.kept hko (by omega), ⟨hko.1.trans k14.1, hko.2.1.trans k14.2.1, hko.2.2.1.trans k14.2.2.1, Nat.le_trans k14.2.2.2.1 hko.2.2.2.1, fun i hi hn => (hko.2.2.2.2 i (Nat.lt_of_lt_of_le hi k14.2.2.2.1) (by omega)).trans (k14.2.2.2.2 i hi hn)⟩, l13 + 1, _, A4, C4, (unhide HQ13).step _ hex rfl rfl, u14.one _, hko.own hown4 (fun k hk e => by have := (hown4.lt k hk).1; omega)⟩
              obtain ⟨r0, r1⟩ := u14.cells
              have rf := u14.froz
              clear hown4 hgrow4 hko bn hkg u14 y14 c14 k14 o9 q0 q1 f0 f1 f2 f3 f4 hsn2 hex
              go_wp2
              go_roundw
              case rel => exact ⟨b + 1, by go_num, by omega, by omega, by rw [Int.natCast_add]; exact unhide HGN⟩
              case measure => simp [intOf]; omega
          · by_cases hd3 : 1 + d = 3
            · have hd4 : ((1 + d) == 3) = true := by simpa using hd3
              clear hd3
              go_wp2_with fail
              refine (unhide BE m hm0 w9 (unhide HGF).1).mono ?_
              rintro e w10 ⟨⟨x1, rfl, hx10, hx11⟩, cc10, hk10⟩
              have HGG := hide ((unhide HGF).drawn hg h3 cc10 hk10)
              clear cc10 hk10 HGF
              go_wp2_with fail
              refine (unhide BE m hm0 w10 (unhide HGG).1).mono ?_
              rintro e w11 ⟨⟨x2, rfl, hx20, hx21⟩, cc11, hk11⟩
              have HGH := hide ((unhide HGG).drawn hg h3 cc11 hk11)
              clear cc11 hk11 HGG
              go_wp2_with fail
              refine (unhide BE m hm0 w11 (unhide HGH).1).mono ?_
              rintro e w12 ⟨⟨x3, rfl, hx30, hx31⟩, cc12, hk12⟩
              have HGI := hide ((unhide HGH).drawn hg h3 cc12 hk12)
              clear cc12 hk12 HGH
              obtain ⟨cc13, y13, k13, l13, Q13, P13, C13, q13, u13, o13⟩ := unhide HGI
              have HQ13 := hide q13
              have hl13 := q13.2.1
              have HY13 := hide y13
              have HU13 := hide u13
              have HO13 := hide o13
              have HC13 := hide cc13
              have HK13 := hide k13
              have z13 := u13.lt
              have hgl : ∀ k, (Value.slice P13 l13 C13).ownBlock = some k → g3 < k := fun k hk => by have := (o13.lt k hk).1; omega
              have HGL := hide hgl
              clear q13 y13 u13 o13 cc13 k13 HGI hgl
              cases hm4 : (m == 4)
              · go_upto_region 15 with fail
                obtain ⟨V9, hV9⟩ : ∃ W, W = w12.alloc (Obj.cells #[Value.int .i64 (A : Int), Value.int .i64 (b : Int), Value.int .i64 x1, Value.int .i64 x2, Value.int .i64 x3] 64) := ⟨_, rfl⟩
                rw [← hV9]
                have e9 : V9.heap[w12.heap.size]? = some (.cells #[Value.int .i64 (A : Int), Value.int .i64 (b : Int), Value.int .i64 x1, Value.int .i64 x2, Value.int .i64 x3] 64 (0, 0)) := by rw [hV9]; exact heap_alloc_new _ _
                have bw9 : Below w12.heap.size w12 V9 := by rw [hV9]; exact below_new _ _
                have u9 := (unhide HU13).below bw9
                have y9 := (unhide HY13).below bw9
                have o9 := own_below (unhide HO13) bw9
                have c9 := (unhide HC13).below bw9 hB
                have k9 : Kept (fun k => k = g) w V9 := (unhide HK13).trans (Kept.of_below bw9)
                have f0 : V9.cell? ⟨w12.heap.size, 0, none⟩ = some (.int .i64 (A : Int)) := by rw [cell_of_row V9 w12.heap.size 0 _ 64 (0, 0) e9]; rfl
                have f1 : V9.cell? ⟨w12.heap.size, 1, none⟩ = some (.int .i64 (b : Int)) := by rw [cell_of_row V9 w12.heap.size 1 _ 64 (0, 0) e9]; rfl
                have f2 : V9.cell? ⟨w12.heap.size, 2, none⟩ = some (.int .i64 x1) := by rw [cell_of_row V9 w12.heap.size 2 _ 64 (0, 0) e9]; rfl
                have f3 : V9.cell? ⟨w12.heap.size, 3, none⟩ = some (.int .i64 x2) := by rw [cell_of_row V9 w12.heap.size 3 _ 64 (0, 0) e9]; rfl
                have f4 : V9.cell? ⟨w12.heap.size, 4, none⟩ = some (.int .i64 x3) := by rw [cell_of_row V9 w12.heap.size 4 _ 64 (0, 0) e9]; rfl
                obtain ⟨q0, q1⟩ := u9.cells
                have HU9 := hide u9
                have HY9 := hide y9
                have HC9 := hide c9
                have HK9 := hide k9
                have z9 : g3 < V9.heap.size := u9.lt
                have hw9 : w12.heap.size < V9.heap.size := by rw [hV9]; simp
                clear hV9 e9 bw9 u9 y9 c9 k9
                go_wp2_with (at_builtin; refine wpList_append_own _ rfl _ _ 24 rfl (g3 + 1) 64 i1 (.agg #[.int .i64 0, .int .i64 0, .int .i64 0, .int .i64 0, .int .i64 0]) 5 40 Try.underlying24 hi1 hz0 hz1 hz2 rfl (by decide) _ l13 _ rfl (o9.alloc _) ⟨V9.heap.size, 0, none⟩ 1 1 [.int .i64 (A : Int), .int .i64 (b : Int), .int .i64 x1, .int .i64 x2, .int .i64 x3] rfl rfl (news_edge5 _ _ _ _ _ _ _) (edge5_one _ _ _ _ _) ?_ ?_ ?_ ?_)
                · unfold maxLen; omega
                · omega
                · simp; omega
                intro v4 w14 hown4 hgrow4 _
                have bn := below_new V9 (Obj.cells #[Value.int .i64 (A : Int), Value.int .i64 (b : Int), Value.int .i64 x1, Value.int .i64 x2, Value.int .i64 x3] 64)
                have hkg := Kept.of_grown hgrow4
                have u14 : GBox w14 g3 s (.slice P13 l13 C13) := ((unhide HU9).below bn).kept hkg (fun e => by have := unhide HGL _ e; omega)
                have y14 : GBox w14 w.heap.size 0 (.slice none 0 0) := ((unhide HY9).below bn).kept hkg (fun e => by have := unhide HGL _ e; omega)
                have c14 : CC a len cap g B w14 := ((unhide HC9).below bn hB).kept hkg hB (fun k e => by have := unhide HGL _ e; omega)
                have k14 : Kept (fun k => k = g) w w14 := by
                  have k15 := (unhide HK9).trans (Kept.of_below bn)
                  exact ⟨hkg.1.trans k15.1, hkg.2.1.trans k15.2.1, hkg.2.2.1.trans k15.2.2.1, Nat.le_trans k15.2.2.2.1 hkg.2.2.2.1, fun i hi hn => (hkg.2.2.2.2 i (Nat.lt_of_lt_of_le hi k15.2.2.2.1) (fun e => by have := unhide HGL _ e; omega)).trans (k15.2.2.2.2 i hi hn)⟩
                obtain ⟨A4, C4, rfl⟩ : ∃ A c, v4 = .slice A (l13 + 1) c := by
                  rcases hown4.2 with ⟨rfl, h0⟩ | ⟨g, cap, cur, rfl, _⟩
                  · omega
                  · exact ⟨_, _, rfl⟩
                have hsn2 : edgesV Q13 ++ [.int .i64 (A : Int), .int .i64 (b : Int), .int .i64 x1, .int .i64 x2, .int .i64 x3] = edgesV (Q13 ++ [⟨(A : Int), (b : Int), x1, x2, x3⟩]) := (edgesV_snoc Q13 ⟨(A : Int), (b : Int), x1, x2, x3⟩).symm
                rw [hsn2] at hown4
                have hko : Kept (fun i => i = g3) w14 (w14.setCell ⟨g3, 1, none⟩ (.slice A4 (l13 + 1) C4)) := Kept.set (S := fun i => i = g3) _ _ _ _ rfl
                have hex : edgeOk s ⟨(A : Int), (b : Int), x1, x2, x3⟩ = true := by
                  unfold edgeOk worthOk
                  simp
                  omega
                have HGN : Hid (GD a len cap g B w g3 s (A : Int) ((b : Int) + 1) (9 * A + b + 1) (w14.setCell ⟨g3, 1, none⟩ (.slice A4 (l13 + 1) C4))) :=
                  ⟨c14.kept hko hB (fun k hk => by omega), y14.kept hko (by omega), ⟨hko.1.trans k14.1, hko.2.1.trans k14.2.1, hko.2.2.1.trans k14.2.2.1, Nat.le_trans k14.2.2.2.1 hko.2.2.2.1, fun i hi hn => (hko.2.2.2.2 i (Nat.lt_of_lt_of_le hi k14.2.2.2.1) (by omega)).trans (k14.2.2.2.2 i hi hn)⟩, l13 + 1, _, A4, C4, (unhide HQ13).step _ hex rfl rfl, u14.one _, hko.own hown4 (fun k hk e => by have := (hown4.lt k hk).1; omega)⟩
                obtain ⟨r0, r1⟩ := u14.cells
                have rf := u14.froz
                clear hown4 hgrow4 hko bn hkg u14 y14 c14 k14 o9 q0 q1 f0 f1 f2 f3 f4 hsn2 hex
                go_wp2
                go_roundw
                case rel => exact ⟨b + 1, by go_num, by omega, by omega, by rw [Int.natCast_add]; exact unhide HGN⟩
                case measure => simp [intOf]; omega
              · go_upto_region 15 with fail
                obtain ⟨V9, hV9⟩ : ∃ W, W = w12.alloc (Obj.cells #[Value.int .i64 (A : Int), Value.int .i64 (b : Int), Value.int .i64 x1, Value.int .i64 0, Value.int .i64 0] 64) := ⟨_, rfl⟩
                rw [← hV9]
                have e9 : V9.heap[w12.heap.size]? = some (.cells #[Value.int .i64 (A : Int), Value.int .i64 (b : Int), Value.int .i64 x1, Value.int .i64 0, Value.int .i64 0] 64 (0, 0)) := by rw [hV9]; exact heap_alloc_new _ _
                have bw9 : Below w12.heap.size w12 V9 := by rw [hV9]; exact below_new _ _
                have u9 := (unhide HU13).below bw9
                have y9 := (unhide HY13).below bw9
                have o9 := own_below (unhide HO13) bw9
                have c9 := (unhide HC13).below bw9 hB
                have k9 : Kept (fun k => k = g) w V9 := (unhide HK13).trans (Kept.of_below bw9)
                have f0 : V9.cell? ⟨w12.heap.size, 0, none⟩ = some (.int .i64 (A : Int)) := by rw [cell_of_row V9 w12.heap.size 0 _ 64 (0, 0) e9]; rfl
                have f1 : V9.cell? ⟨w12.heap.size, 1, none⟩ = some (.int .i64 (b : Int)) := by rw [cell_of_row V9 w12.heap.size 1 _ 64 (0, 0) e9]; rfl
                have f2 : V9.cell? ⟨w12.heap.size, 2, none⟩ = some (.int .i64 x1) := by rw [cell_of_row V9 w12.heap.size 2 _ 64 (0, 0) e9]; rfl
                have f3 : V9.cell? ⟨w12.heap.size, 3, none⟩ = some (.int .i64 0) := by rw [cell_of_row V9 w12.heap.size 3 _ 64 (0, 0) e9]; rfl
                have f4 : V9.cell? ⟨w12.heap.size, 4, none⟩ = some (.int .i64 0) := by rw [cell_of_row V9 w12.heap.size 4 _ 64 (0, 0) e9]; rfl
                obtain ⟨q0, q1⟩ := u9.cells
                have HU9 := hide u9
                have HY9 := hide y9
                have HC9 := hide c9
                have HK9 := hide k9
                have z9 : g3 < V9.heap.size := u9.lt
                have hw9 : w12.heap.size < V9.heap.size := by rw [hV9]; simp
                clear hV9 e9 bw9 u9 y9 c9 k9
                go_wp2_with (at_builtin; refine wpList_append_own _ rfl _ _ 24 rfl (g3 + 1) 64 i1 (.agg #[.int .i64 0, .int .i64 0, .int .i64 0, .int .i64 0, .int .i64 0]) 5 40 Try.underlying24 hi1 hz0 hz1 hz2 rfl (by decide) _ l13 _ rfl (o9.alloc _) ⟨V9.heap.size, 0, none⟩ 1 1 [.int .i64 (A : Int), .int .i64 (b : Int), .int .i64 x1, .int .i64 0, .int .i64 0] rfl rfl (news_edge5 _ _ _ _ _ _ _) (edge5_one _ _ _ _ _) ?_ ?_ ?_ ?_)
                · unfold maxLen; omega
                · omega
                · simp; omega
                intro v4 w14 hown4 hgrow4 _
                have bn := below_new V9 (Obj.cells #[Value.int .i64 (A : Int), Value.int .i64 (b : Int), Value.int .i64 x1, Value.int .i64 0, Value.int .i64 0] 64)
                have hkg := Kept.of_grown hgrow4
                have u14 : GBox w14 g3 s (.slice P13 l13 C13) := ((unhide HU9).below bn).kept hkg (fun e => by have := unhide HGL _ e; omega)
                have y14 : GBox w14 w.heap.size 0 (.slice none 0 0) := ((unhide HY9).below bn).kept hkg (fun e => by have := unhide HGL _ e; omega)
                have c14 : CC a len cap g B w14 := ((unhide HC9).below bn hB).kept hkg hB (fun k e => by have := unhide HGL _ e; omega)
                have k14 : Kept (fun k => k = g) w w14 := by
                  have k15 := (unhide HK9).trans (Kept.of_below bn)
                  exact ⟨hkg.1.trans k15.1, hkg.2.1.trans k15.2.1, hkg.2.2.1.trans k15.2.2.1, Nat.le_trans k15.2.2.2.1 hkg.2.2.2.1, fun i hi hn => (hkg.2.2.2.2 i (Nat.lt_of_lt_of_le hi k15.2.2.2.1) (fun e => by have := unhide HGL _ e; omega)).trans (k15.2.2.2.2 i hi hn)⟩
                obtain ⟨A4, C4, rfl⟩ : ∃ A c, v4 = .slice A (l13 + 1) c := by
                  rcases hown4.2 with ⟨rfl, h0⟩ | ⟨g, cap, cur, rfl, _⟩
                  · omega
                  · exact ⟨_, _, rfl⟩
                have hsn2 : edgesV Q13 ++ [.int .i64 (A : Int), .int .i64 (b : Int), .int .i64 x1, .int .i64 0, .int .i64 0] = edgesV (Q13 ++ [⟨(A : Int), (b : Int), x1, 0, 0⟩]) := (edgesV_snoc Q13 ⟨(A : Int), (b : Int), x1, 0, 0⟩).symm
                rw [hsn2] at hown4
                have hko : Kept (fun i => i = g3) w14 (w14.setCell ⟨g3, 1, none⟩ (.slice A4 (l13 + 1) C4)) := Kept.set (S := fun i => i = g3) _ _ _ _ rfl
                have hex : edgeOk s ⟨(A : Int), (b : Int), x1, 0, 0⟩ = true := by
                  unfold edgeOk worthOk
                  simp
                  omega
                have HGN : Hid (GD a len cap g B w g3 s (A : Int) ((b : Int) + 1) (9 * A + b + 1) (w14.setCell ⟨g3, 1, none⟩ (.slice A4 (l13 + 1) C4))) :=
                  ⟨c14.kept hko hB (fun k hk => by omega), y14.kept hko (by omega), ⟨hko.1.trans k14.1, hko.2.1.trans k14.2.1, hko.2.2.1.trans k14.2.2.1, Nat.le_trans k14.2.2.2.1 hko.2.2.2.1, fun i hi hn => (hko.2.2.2.2 i (Nat.lt_of_lt_of_le hi k14.2.2.2.1) (by omega)).trans (k14.2.2.2.2 i hi hn)⟩, l13 + 1, _, A4, C4, (unhide HQ13).step _ hex rfl rfl, u14.one _, hko.own hown4 (fun k hk e => by have := (hown4.lt k hk).1; omega)⟩
                obtain ⟨r0, r1⟩ := u14.cells
                have rf := u14.froz
                clear hown4 hgrow4 hko bn hkg u14 y14 c14 k14 o9 q0 q1 f0 f1 f2 f3 f4 hsn2 hex
                go_wp2
                go_roundw
                case rel => exact ⟨b + 1, by go_num, by omega, by omega, by rw [Int.natCast_add]; exact unhide HGN⟩
                case measure => simp [intOf]; omega
            · have hd4 : ((1 + d) == 3) = false := by simpa using hd3
              go_wp2
              go_roundw
              case rel => exact ⟨b + 1, by go_num, by omega, by omega, (unhide HGF).skip (by omega) (by omega)⟩
              case measure => simp [intOf]; omega
        · go_wp2
          go_roundw
          case rel => exact ⟨A + 1, by go_num, by omega, (unhide HGE).next (by omega)⟩
          case measure => simp [intOf]; omega
    · have HY7 := hide y7
      have HO7 := hide o7
      have HU7 := hide u7
      obtain ⟨t0, t1⟩ := y7.cells
      have tf := y7.froz
      obtain ⟨hq0, hq1, hq2, hq3⟩ := q7
      have HQ := hide hq2
      have HLQ := hide hq0
      have HCC7 := hide (unhide HGD).1
      clear y7 o7 u7 hq0 hq2 hq3
      go_wp2
      (try simp only [Exit.inBlock, Exit.then])
      have hk9 : Kept (fun i => i = w.heap.size) wr ((wr.setCell ⟨w.heap.size, 0, none⟩ (.int .i64 s)).setCell ⟨w.heap.size, 1, none⟩ (.slice P7 l7 C7)) :=
        (Kept.set (S := fun i => i = w.heap.size) _ _ _ _ rfl).trans (Kept.set (S := fun i => i = w.heap.size) _ _ _ _ rfl)
      refine bodyPost_ret (results_graph1 Try.results22 _ _ w.heap.size _ _ rfl ((unhide HY7).two s (.slice P7 l7 C7))) rfl ?_
      refine ⟨⟨_, rfl, s, Q7, ⟨_, rfl, ?_⟩, ?_, (by have := unhide HLQ; omega)⟩, (unhide HCC7).kept hk9 hB (fun k hk => by omega), ⟨hk9.1.trans k7.1, hk9.2.1.trans k7.2.1, hk9.2.2.1.trans k7.2.2.1, Nat.le_trans k7.2.2.2.1 hk9.2.2.2.1, fun i hi hn => (hk9.2.2.2.2 i (Nat.lt_of_lt_of_le hi k7.2.2.2.1) (by omega)).trans (k7.2.2.2.2 i hi hn)⟩⟩
      · rw [← unhide HLQ]
        exact own_lower (by omega) (hk9.own (unhide HO7) (fun k hk e => by have := ((unhide HO7).lt k hk).1; omega))
      · unfold graphOk
        rw [unhide HQ, decide_eq_true hs0, decide_eq_true (show s ≤ 9 by omega)]
        rfl

set_option maxRecDepth 100000 in
theorem drawGraph_any (a : Option Addr) (len cap : Nat) (hl : len ≤ 1048576) (w : World) (hd : Code a len w.heap.size w) :
    Calls Try.prog 7 #[.slice a len cap] w fun e w' => (∃ d, e = .returned d ∧ ∃ s Q, GrOwn w' w.heap.size d s Q ∧ graphOk s Q = true ∧ Q.length ≤ 90) ∧ Below w.heap.size w w' := by
  have HD := hide hd
  clear hd
  go_enter Try.func7, Try.ntmps7
  go_wp2_with fail
  obtain ⟨V1, hV1⟩ : ∃ W, W = w.alloc (Obj.cells #[Value.int .i64 0, Value.slice none 0 0] 26) := ⟨_, rfl⟩
  rw [← hV1]
  have b1 : Below w.heap.size w V1 := by rw [hV1]; exact below_new _ _
  have y1 : GBox V1 w.heap.size 0 (.slice none 0 0) := by rw [hV1]; exact GBox.new _ _ _
  clear hV1
  have hy1 := y1.lt
  have hd1 : Code a len V1.heap.size V1 := fun j hj => by
    obtain ⟨b, off, z, e, hb, hc, hz⟩ := unhide HD j hj
    exact ⟨b, off, z, e, by omega, by rw [b1.cell (p := ⟨b, off + j, none⟩) (by simpa using hb)]; exact hc, hz⟩
  refine (new_any a len cap hl V1 hd1).mono ?_
  rintro e w2 ⟨rfl, hcu, hb2⟩
  have hco : Code a len V1.heap.size w2 := fun j hj => by
    obtain ⟨b, off, z, e, hb, hc, hz⟩ := hd1 j hj
    exact ⟨b, off, z, e, hb, by rw [hb2.cell (p := ⟨b, off + j, none⟩) (by simpa using hb)]; exact hc, hz⟩
  have HG := hide (l08Graph_any a len cap V1.heap.size V1.heap.size hl (Nat.le_refl _) w2 ⟨hcu, hco⟩)
  have y2 := y1.below hb2
  have b2 : Below w.heap.size w w2 := b1.trans (hb2.mono b1.size)
  have hs2 := hb2.size
  clear hcu hco hd1 b1 y1 hb2
  go_wp2_with fail
  refine (unhide HG).mono ?_
  rintro e w3 ⟨⟨v, rfl, s, Q, ho, hok⟩, _, hk3⟩
  have y3 := y2.kept hk3 (by omega)
  have b3 : Below w.heap.size w w3 := b2.trans (hk3.below b2.size (fun i hi => by omega))
  obtain ⟨v1, rfl, hr⟩ := ho
  obtain ⟨P, C, rfl, _⟩ := edgesAt.of_own hr
  have HY3 := hide y3
  have HR := hide hr
  obtain ⟨t0, t1⟩ := y3.cells
  have tf := y3.froz
  clear hr y3 y2 hk3 HG b2
  go_wp2
  (try simp only [Exit.inBlock, Exit.then])
  have hk9 : Kept (fun i => i = w.heap.size) w3 ((w3.setCell ⟨w.heap.size, 0, none⟩ (.int .i64 s)).setCell ⟨w.heap.size, 1, none⟩ (.slice P Q.length C)) :=
    (Kept.set (S := fun i => i = w.heap.size) _ _ _ _ rfl).trans (Kept.set (S := fun i => i = w.heap.size) _ _ _ _ rfl)
  refine bodyPost_ret (results_graph1 Try.results7 _ _ w.heap.size _ _ rfl ((unhide HY3).two s (.slice P Q.length C))) rfl ?_
  exact ⟨⟨_, rfl, s, Q, ⟨_, rfl, own_lower (by omega) (hk9.own (unhide HR) (fun k hk e => by have := ((unhide HR).lt k hk).1; omega))⟩, hok⟩, b3.trans (hk9.below b3.size (fun i hi => by omega))⟩

end Gr
end Go.Proofs.Ytfhclbpbjlbebaa

/-
  The contract of spec.DrawPlaces: a row of twelve numbers, new; and of laws.big.
-/
namespace Go.Proofs.Ytfhclbpbjlbebaa
namespace Gr
open Go.RowKit

theorem big_is (a : Option Addr) (len cap : Nat) (w : World) :
    Calls Try.prog 6 #[.slice a len cap] w fun e w' => e = .returned (.bool (decide ((1048576 : Int) < (len : Int)))) ∧ w' = w := by
  go_enter Try.func6, Try.ntmps6
  go_wp2
  go_ret
  exact ⟨rfl, rfl⟩

theorem one_int (x : Int) : ∀ u ∈ [Value.int .i64 x], u.oneCell' = true := fun u hu => by simp at hu; rw [hu]; rfl

theorem intsV_snoc (K : List Int) (x : Int) : intsV (K ++ [x]) = intsV K ++ [.int .i64 x] := by simp [intsV]

theorem own_shapeP {w : World} {B e s n : Nat} {v : Value} {xs : List Value} (h : w.ownsRow B e s v n xs) : ∃ A c, v = .slice A n c := by
  rcases h.2 with ⟨rfl, rfl⟩ | ⟨g, cap, cur, rfl, _⟩
  · exact ⟨none, 0, rfl⟩
  · exact ⟨_, cap, rfl⟩

/-- What stands while places are drawn. -/
def PD (a : Option Addr) (len cap g B : Nat) (w : World) (i : Nat) (v : Value) (wr : World) : Prop :=
  CC a len cap g B wr ∧ Kept (fun k => k = g) w wr ∧ ∃ K : List Int, K.length = i ∧ wr.ownsRow w.heap.size 3 1 v i (intsV K)

set_option maxRecDepth 100000 in
set_option maxHeartbeats 1000000 in
theorem places_is (a : Option Addr) (len cap : Nat) (hl : len ≤ 1048576) (w : World) (hd : Code a len w.heap.size w) :
    Calls Try.prog 12 #[.slice a len cap] w fun e w' => (∃ v, e = .returned v ∧ ∃ K : List Int, K.length = 12 ∧ w'.ownsRow w.heap.size 3 1 v 12 (intsV K)) ∧ Below w.heap.size w w' := by
  obtain ⟨i0, hi, hz0, hz1, hz2⟩ := info_parts info3
  have HN := hide (new_any a len cap hl w hd)
  have HD := hide hd
  clear hd
  go_enter Try.func12, Try.ntmps12
  go_wp2_with fail
  refine (unhide HN).mono ?_
  rintro e w1 ⟨rfl, hcu1, hb1⟩
  have hco : Code a len w.heap.size w1 := fun j hj => by
    obtain ⟨b, off, z, e, hb, hc, hz⟩ := unhide HD j hj
    exact ⟨b, off, z, e, hb, by rw [hb1.cell (p := ⟨b, off + j, none⟩) (by simpa using hb)]; exact hc, hz⟩
  have cc1 : CC a len cap w.heap.size w.heap.size w1 := ⟨hcu1, hco⟩
  have hg1 := cc1.lt
  have HBY := hide (byte_any a len cap w.heap.size w.heap.size hl (Nat.le_refl _) w1 hcu1 hco)
  clear hcu1 hco HN
  go_wp2_with fail
  refine (unhide HBY).mono ?_
  rintro e w2 ⟨⟨x, rfl, hx0, hx1⟩, hcu2, hg2⟩
  have cc2 : CC a len cap w.heap.size w.heap.size w2 := ⟨hcu2, cc1.2.grown (Nat.le_refl _) hg2⟩
  have hk2 := grownK hg2
  have hs2 := hg2.size
  clear hcu2 hg2 cc1 HBY
  have BE := hide (fun w1 (h : CC a len cap w.heap.size w.heap.size w1) => below_cc a len cap w.heap.size w.heap.size 10000 hl (Nat.le_refl _) (by omega) w1 h)
  go_wp2_with fail
  go_loopw [4, 5] (fun out a5 wr => ∃ i : Nat, a5 = .int .i64 i ∧ i ≤ 12 ∧ PD a len cap w.heap.size w.heap.size w1 i out wr) (fun _ a5 _ => 12 - (intOf a5).toNat)
  case atStart =>
    refine ⟨0, rfl, Nat.zero_le _, cc2.below (below_new w2 _) (Nat.le_refl _), hk2.trans (Kept.of_below (below_new w2 _)), [], rfl, ?_⟩
    exact World.ownsRow_made w2 #[] 0 (by omega) (Nat.zero_le _) rfl
  case round =>
    obtain ⟨i, rfl, hi2, cc, hk, K, hKi, hown⟩ := hrel
    have hkk : ∀ k, u4.ownBlock = some k → w1.heap.size ≤ k := fun k hk => (hown.lt k hk).1
    have HKK := hide hkk
    have HKI := hide hKi
    have HOW := hide hown
    have HK := hide hk
    by_cases hlt : i < 12
    · have HX := hide (unhide BE wr cc)
      clear hown cc hKi hkk hk
      go_wp2_with fail
      refine (unhide HX).mono ?_
      rintro e w3 ⟨⟨x3, rfl, hx30, hx31⟩, cc3, hk3⟩
      have hown3 := hk3.own (unhide HOW) (fun k hk e => by have := unhide HKK k hk; omega)
      have HCC3 := hide cc3
      have HK3 := hide ((unhide HK).trans hk3)
      have hg3 := cc3.lt
      clear cc3 hk3 HX
      go_wp2_with (at_builtin; refine wpList_append_own _ rfl _ _ 28 rfl w1.heap.size 3 i0 (.int .i64 0) 1 8 Try.underlying28 hi hz0 hz1 hz2 rfl (by decide) _ _ _ rfl (hown3.alloc _) ⟨w3.heap.size, 0, none⟩ 1 1 [.int .i64 x3] rfl rfl (cell_one_new _ _ _) (one_int _) ?_ ?_ ?_ ?_)
      · unfold maxLen; omega
      · omega
      · have := (unhide HK3).2.2.2.1; simp; omega
      intro v' w4 hown' hgrow _
      have hkg := Kept.of_grown hgrow
      have HPD : Hid (PD a len cap w.heap.size w.heap.size w1 (i + 1) v' w4) := by
        refine ⟨((unhide HCC3).below (below_new w3 _) (Nat.le_refl _)).kept hkg (Nat.le_refl _) (fun k e => by have := unhide HKK k e; omega), ?_, K ++ [x3], by rw [List.length_append, unhide HKI]; rfl, by rw [intsV_snoc]; exact hown'⟩
        have k15 := (unhide HK3).trans (Kept.of_below (below_new w3 (Obj.cells #[Value.int .i64 x3] 3)))
        exact ⟨hkg.1.trans k15.1, hkg.2.1.trans k15.2.1, hkg.2.2.1.trans k15.2.2.1, Nat.le_trans k15.2.2.2.1 hkg.2.2.2.1, fun i hi hn => (hkg.2.2.2.2 i (Nat.lt_of_lt_of_le hi k15.2.2.2.1) (fun e => by have := unhide HKK _ e; omega)).trans (k15.2.2.2.2 i hi hn)⟩
      clear hown' hgrow hkg hown3
      go_wp2
      go_roundw
      case rel => exact ⟨i + 1, by go_num, by omega, unhide HPD⟩
      case measure => simp [intOf]; omega
    · obtain rfl : i = 12 := by omega
      go_wp2
      go_ret
      refine ⟨⟨_, rfl, K, hKi, own_lower hb1.size hown⟩, hb1.trans (hk.below hb1.size (fun k e => by omega))⟩

end Gr
end Go.Proofs.Ytfhclbpbjlbebaa
