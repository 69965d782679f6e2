/-
  Texts of this claim, one behind the other: GrSumsM, GrSumsO, GrKSums, GrBetter, GrBest0, GrSumsMath, GrProof5, GrProof6, GrCert0, GrPre, GrPut, WTrip.
-/
import Derived.Test.YtldbanpfhlmjmaaJ5
import Derived.Test.YtldbanpfhlmjmaaJ4
import Derived.Test.YtldbanpfhlmjmaaJ3
import Derived.Test.YtldbanpfhlmjmaaJ1

/-
  Rows of Sums: what is marked is held. Written by program (tools/introws.py).
-/
namespace Go.Proofs.Ytldbanpfhlmjmaa
namespace Gr
open Go.ChangeShapes Go.WideShapes Go.ChangeAt Go.RowKit

/-- The marks of n rows from k on. -/
def marksSums (k n : Nat) : List SumsI := (List.range n).map fun i => ⟨((k + i * 3 : Nat) : Int), ((k + i * 3 + 1 : Nat) : Int), ((k + i * 3 + 2 : Nat) : Int)⟩

theorem marksSums_length (k n : Nat) : (marksSums k n).length = n := by simp [marksSums]
theorem marksSums_at (k n i : Nat) (h : i < (marksSums k n).length) : (marksSums k n)[i] = ⟨((k + i * 3 : Nat) : Int), ((k + i * 3 + 1 : Nat) : Int), ((k + i * 3 + 2 : Nat) : Int)⟩ := by simp [marksSums]

end Gr
end Go.Proofs.Ytldbanpfhlmjmaa

/-
  Rows of Sums: a row that came in, read. Written by program (tools/introws.py).
-/
namespace Go.Proofs.Ytldbanpfhlmjmaa
namespace Gr
open Go.ChangeShapes Go.WideShapes Go.ChangeAt Go.RowKit

end Gr
end Go.Proofs.Ytldbanpfhlmjmaa

/-
  The kind of Sums, in the form that a law's walk asks for. Written by program (tools/kinds.py).
-/
namespace Go.Proofs.Ytldbanpfhlmjmaa
namespace Gr
open Go.ChangeShapes Go.WideShapes Go.ChangeAt Go.RowKit

def SuAt (_w : World) (v : Value) (_B : Nat) (x : SumsI) : Prop := v = x.v
def SuOwn (_w : World) (_B : Nat) (v : Value) (x : SumsI) : Prop := v = x.v

theorem SuAt.shape {w : World} {v : Value} {B : Nat} {x : SumsI} (h : SuAt w v B x) : v = x.v := h
theorem SuAt.below {w w' : World} {v : Value} {B C : Nat} {x : SumsI} (h : SuAt w v B x) (_hb : Below C w w') (_hC : B ≤ C) : SuAt w' v B x := h
theorem SuAt.mono {w : World} {v : Value} {B C : Nat} {x : SumsI} (h : SuAt w v B x) (_hC : B ≤ C) : SuAt w v C x := h
theorem SuOwn.at {w : World} {B : Nat} {v : Value} {x : SumsI} (h : SuOwn w B v x) : SuAt w v w.heap.size x := h
theorem SuOwn.below {w w' : World} {B : Nat} {v : Value} {x : SumsI} (h : SuOwn w B v x) (_hb : Below w.heap.size w w') : SuOwn w' B v x := h

end Gr
end Go.Proofs.Ytldbanpfhlmjmaa

/-
  The contract of spec.Better.
-/
namespace Go.Proofs.Ytldbanpfhlmjmaa
namespace Gr
open Go.RowKit

def better (a b : SumsI) : Bool := if a.W1 ≠ b.W1 then decide (b.W1 < a.W1) else if a.W2 ≠ b.W2 then decide (b.W2 < a.W2) else decide (b.W3 < a.W3)

end Gr
end Go.Proofs.Ytldbanpfhlmjmaa

/-
  Sums of pairings, the best of all pairings and how many there are: as mathematics.
-/
namespace Go.Proofs.Ytldbanpfhlmjmaa
namespace Gr
open Go.RowKit

/-- Sums and the worths of an edge. -/
def addS (s : SumsI) (e : EdgeI) : SumsI := ⟨s.W1 + e.W1, s.W2 + e.W2, s.W3 + e.W3⟩

/-- The i-th edge. -/
def edgeN (Q : List EdgeI) (i : Int) : EdgeI := Q.getD i.toNat ⟨0, 0, 0, 0, 0⟩

def sumsFrom (Q : List EdgeI) : SumsI → List CoupleI → SumsI
  | s, [] => s
  | s, x :: r => sumsFrom Q (addS s (edgeN Q (atFrom x.A x.B 0 Q))) r

/-- The sums of a pairing. -/
def sums (Q : List EdgeI) (M : List CoupleI) : SumsI := sumsFrom Q ⟨0, 0, 0⟩ M

/-- Sums of at most n right edges. -/
def SB (s : SumsI) (n : Int) : Prop := (0 ≤ s.W1 ∧ s.W1 ≤ 50 * n) ∧ (0 ≤ s.W2 ∧ s.W2 ≤ 50 * n) ∧ (0 ≤ s.W3 ∧ s.W3 ≤ 50 * n)

theorem SB.mono {s : SumsI} {n m : Int} (h : SB s n) (hm : n ≤ m) : SB s m := by
  unfold SB at *
  omega

theorem worth_range {x : Int} (h : worthOk x = true) : 0 ≤ x ∧ x ≤ 50 := by
  unfold worthOk at h
  simpa using h

theorem SB.add {s : SumsI} {n : Int} {g : Int} {e : EdgeI} (h : SB s n) (he : edgeOk g e = true) : SB (addS s e) (n + 1) := by
  obtain ⟨_, _, _, h1, h2, h3⟩ := (edgeOk_iff g e).1 he
  have := worth_range h1
  have := worth_range h2
  have := worth_range h3
  unfold SB addS at *
  simp only
  omega

theorem SB.zero (n : Int) (h : 0 ≤ n) : SB ⟨0, 0, 0⟩ n := by
  unfold SB
  simp only
  omega

theorem at_range (x y : Int) : ∀ (Q : List EdgeI) (k : Nat), 0 ≤ atFrom x y k Q → ∃ i, ∃ h : i < Q.length, atFrom x y k Q = ((k + i : Nat) : Int) ∧ hit x y Q[i] = true
  | [], _, h => by unfold atFrom at h; omega
  | q :: r, k, h => by
    unfold atFrom at h ⊢
    by_cases hq : hit x y q = true
    · rw [if_pos hq]
      exact ⟨0, by simp, rfl, hq⟩
    · rw [if_neg hq] at h ⊢
      obtain ⟨i, hi, e, hh⟩ := at_range x y r (k + 1) h
      exact ⟨i + 1, by simp; omega, by rw [e]; omega, by simpa using hh⟩

theorem edgeN_at {x y : Int} {Q : List EdgeI} (h : 0 ≤ atFrom x y 0 Q) : ∃ i, ∃ h' : i < Q.length, atFrom x y 0 Q = (i : Int) ∧ edgeN Q (atFrom x y 0 Q) = Q[i] ∧ hit x y Q[i] = true := by
  obtain ⟨i, hi, e, hh⟩ := at_range x y Q 0 h
  rw [Nat.zero_add] at e
  refine ⟨i, hi, e, ?_, hh⟩
  unfold edgeN
  rw [e, Int.toNat_natCast, List.getD_eq_getElem?_getD, List.getElem?_eq_getElem hi]
  rfl

theorem edgeN_ok {s x y : Int} {Q : List EdgeI} (hg : graphOk s Q = true) (h : 0 ≤ atFrom x y 0 Q) : edgeOk s (edgeN Q (atFrom x y 0 Q)) = true := by
  obtain ⟨i, hi, _, e, _⟩ := edgeN_at h
  rw [e]
  exact (graph_sound hg).2.2.1 _ (List.getElem_mem hi)

/-- One vertex b looked at as the fellow of f. -/
def bstep (Q : List EdgeI) (f : Int) (U : List Int) (rec : List Int → SumsI × Int) (acc : SumsI × Int) (b : Int) : SumsI × Int :=
  if atFrom f b 0 Q < 0 ∨ inK U b = true then acc
  else (if better (addS (rec (U ++ [b])).1 (edgeN Q (atFrom f b 0 Q))) acc.1 = true then addS (rec (U ++ [b])).1 (edgeN Q (atFrom f b 0 Q)) else acc.1, acc.2 + (rec (U ++ [b])).2)

/-- m vertices from b on. -/
def bloop (Q : List EdgeI) (f : Int) (U : List Int) (rec : List Int → SumsI × Int) : Nat → Int → SumsI × Int → SumsI × Int
  | 0, _, acc => acc
  | m + 1, b, acc => bloop Q f U rec m (b + 1) (bstep Q f U rec acc b)

/-- The best sums of all pairings of the last n vertices that are not used, and how many there are. -/
def best (Q : List EdgeI) (s : Int) : Nat → List Int → SumsI × Int
  | 0, _ => (⟨0, 0, 0⟩, 1)
  | n + 1, U => if inK U (s - ((n + 1 : Nat) : Int)) = true then best Q s n U else bloop Q (s - ((n + 1 : Nat) : Int)) U (fun V => best Q s n V) n (s - (n : Int)) (best Q s n U)

theorem best_skip (Q : List EdgeI) (s : Int) (n : Nat) (U : List Int) (h : inK U (s - ((n + 1 : Nat) : Int)) = true) : best Q s (n + 1) U = best Q s n U := by
  rw [best, if_pos h]

theorem best_loop (Q : List EdgeI) (s : Int) (n : Nat) (U : List Int) (h : inK U (s - ((n + 1 : Nat) : Int)) = false) : best Q s (n + 1) U = bloop Q (s - ((n + 1 : Nat) : Int)) U (fun V => best Q s n V) n (s - (n : Int)) (best Q s n U) := by
  rw [best, if_neg (by rw [h]; simp)]

theorem bstep_bounds {Q : List EdgeI} {s f : Int} {U : List Int} {rec : List Int → SumsI × Int} {k : Int} {F : Int} (hg : graphOk s Q = true) (hk : ∀ V, SB (rec V).1 k) (hF : ∀ V, 1 ≤ (rec V).2 ∧ (rec V).2 ≤ F) {acc : SumsI × Int} (h1 : SB acc.1 (k + 1)) (b : Int) :
    SB (bstep Q f U rec acc b).1 (k + 1) ∧ acc.2 ≤ (bstep Q f U rec acc b).2 ∧ (bstep Q f U rec acc b).2 ≤ acc.2 + F := by
  have hFF := hF (U ++ [b])
  unfold bstep
  split
  · exact ⟨h1, Int.le_refl _, by omega⟩
  · rename_i h
    have h0 : 0 ≤ atFrom f b 0 Q := by omega
    refine ⟨?_, by simp only; omega, by simp only; omega⟩
    simp only
    split
    · exact (hk (U ++ [b])).add (edgeN_ok hg h0)
    · exact h1

theorem bloop_bounds {Q : List EdgeI} {s f : Int} {U : List Int} {rec : List Int → SumsI × Int} {k : Int} {F : Int} (hg : graphOk s Q = true) (hk : ∀ V, SB (rec V).1 k) (hF : ∀ V, 1 ≤ (rec V).2 ∧ (rec V).2 ≤ F) :
    ∀ (m : Nat) (b : Int) (acc : SumsI × Int), SB acc.1 (k + 1) → SB (bloop Q f U rec m b acc).1 (k + 1) ∧ acc.2 ≤ (bloop Q f U rec m b acc).2 ∧ (bloop Q f U rec m b acc).2 ≤ acc.2 + (m : Int) * F
  | 0, b, acc, h => by
    refine ⟨h, Int.le_refl _, ?_⟩
    show acc.2 ≤ acc.2 + ((0 : Nat) : Int) * F
    simp
  | m + 1, b, acc, h => by
    obtain ⟨i1, i2, i3⟩ := bstep_bounds (f := f) (U := U) hg hk hF h b
    obtain ⟨j1, j2, j3⟩ := bloop_bounds (f := f) (U := U) hg hk hF m (b + 1) _ i1
    refine ⟨j1, Int.le_trans i2 j2, ?_⟩
    have e : ((m + 1 : Nat) : Int) * F = (m : Int) * F + F := by
      rw [Int.natCast_add, Int.add_mul]
      simp
    rw [e]
    show (bloop Q f U rec m (b + 1) (bstep Q f U rec acc b)).2 ≤ _
    omega

theorem best_bounds {Q : List EdgeI} {s : Int} (hg : graphOk s Q = true) : ∀ (n : Nat) (U : List Int), n ≤ 9 → SB (best Q s n U).1 (n : Int) ∧ 1 ≤ (best Q s n U).2 ∧ (best Q s n U).2 ≤ 10 ^ n
  | 0, U, _ => by
    refine ⟨SB.zero _ (by omega), Int.le_refl _, ?_⟩
    show (1 : Int) ≤ 10 ^ 0
    simp
  | n + 1, U, hn => by
    have ih := fun V => best_bounds hg n V (by omega)
    have hp : (1 : Int) ≤ 10 ^ n := Int.le_trans (ih []).2.1 (ih []).2.2
    have hp2 : (10 : Int) ^ (n + 1) = 10 ^ n * 10 := Int.pow_succ _ _
    cases hu : inK U (s - ((n + 1 : Nat) : Int)) with
    | true =>
      rw [best_skip Q s n U hu, hp2]
      obtain ⟨h1, h2, h3⟩ := ih U
      exact ⟨h1.mono (by omega), h2, by omega⟩
    | false =>
      rw [best_loop Q s n U hu, hp2]
      obtain ⟨h1, h2, h3⟩ := bloop_bounds (f := s - ((n + 1 : Nat) : Int)) (U := U) (rec := fun V => best Q s n V) (k := (n : Int)) (F := 10 ^ n) hg (fun V => (ih V).1) (fun V => (ih V).2) n (s - (n : Int)) (best Q s n U) ((ih U).1.mono (by omega))
      refine ⟨by rw [Int.natCast_add]; exact h1, Int.le_trans (ih U).2.1 h2, Int.le_trans h3 ?_⟩
      have h9 : (n : Int) * 10 ^ n ≤ 9 * 10 ^ n := Int.mul_le_mul_of_nonneg_right (by omega) (by omega)
      have := (ih U).2.2
      omega

theorem pow_big : ∀ n : Nat, n ≤ 9 → (10 : Int) ^ n ≤ 1000000000 := by decide
end Gr
end Go.Proofs.Ytldbanpfhlmjmaa

/-
  Sums of a pairing, step by step, and as one number.
-/
namespace Go.Proofs.Ytldbanpfhlmjmaa
namespace Gr
open Go.RowKit

theorem sumsFrom_step (Q : List EdgeI) (M : List CoupleI) (s : SumsI) (k : Nat) (h : k < M.length) : sumsFrom Q s (M.drop k) = sumsFrom Q (addS s (edgeN Q (atFrom M[k].A M[k].B 0 Q))) (M.drop (k + 1)) := by
  rw [← List.getElem_cons_drop h]
  rfl

theorem mFrom_at (Q : List EdgeI) : ∀ (M : List CoupleI) (p : Option CoupleI) (U : List Int), mFrom Q p U M = true → ∀ x ∈ M, 0 ≤ atFrom x.A x.B 0 Q
  | [], _, _, _ => by simp
  | y :: r, p, U, h => by
    unfold mFrom at h
    simp only [Bool.and_eq_true, decide_eq_true_eq] at h
    intro x hx
    rcases List.mem_cons.1 hx with rfl | hx
    · exact h.2.2.1
    · exact mFrom_at Q r _ _ h.2.2.2.2.2 x hx

theorem match_sound {s : Int} {Q : List EdgeI} {M : List CoupleI} (h : matchOk s Q M = true) : graphOk s Q = true ∧ M.length ≤ 9 ∧ mFrom Q none [] M = true := by
  unfold matchOk at h
  simpa using h

/-- Sums as one number. -/
def wsum (t : SumsI) : Int := 90000 * t.W1 + 300 * t.W2 + t.W3

theorem wsum_add {t : SumsI} {n s : Int} {e : EdgeI} (h : SB t n) (hn : 0 ≤ n ∧ n ≤ 9) (he : edgeOk s e = true) : wsum (addS t e) = wsum t + scal e ∧ 0 ≤ scal e ∧ scal e ≤ 4515050 ∧ 0 ≤ wsum t ∧ wsum t ≤ 45150500 := by
  obtain ⟨_, _, _, h1, h2, h3⟩ := (edgeOk_iff s e).1 he
  have e1 := worth_range h1
  have e2 := worth_range h2
  have e3 := worth_range h3
  have hs : scal e = 90000 * e.W1 + 300 * e.W2 + e.W3 := by
    unfold scal
    rw [wrap_mod]
    omega
  unfold SB at h
  rw [hs]
  unfold wsum addS
  simp only
  omega

end Gr
end Go.Proofs.Ytldbanpfhlmjmaa

/-
  The contracts of spec.Bound, spec.l11Worth and spec.Certifies.
-/
namespace Go.Proofs.Ytldbanpfhlmjmaa
namespace Gr
open Go.RowKit

theorem proof_sound {s : Int} {Q : List EdgeI} {Y : List Int} {G : List GrpI} (h : proofOk s Q Y G = true) : graphOk s Q = true ∧ (Y.length : Int) = s ∧ s ≤ 9 ∧ G.length ≤ 8 ∧ (∀ y ∈ Y, 0 ≤ y ∧ y ≤ 1000000000) ∧ (∀ q ∈ G, grpHead s q = true) := by
  unfold proofOk at h
  simp only [Bool.and_eq_true, decide_eq_true_eq] at h
  obtain ⟨h1, h2, h3, h4, h5, _⟩ := h
  exact ⟨h1, h2, (graph_sound h1).2.1, h3, yOk_at Y h4, grpsOk_at s G [] h5⟩

theorem sum_bounds {s : Int} {Q : List EdgeI} {Y : List Int} {G : List GrpI} (h : proofOk s Q Y G = true) : 0 ≤ sumI Y G ∧ sumI Y G ≤ 41000000000 := by
  obtain ⟨_, h1, h9, h8, hY, hG⟩ := proof_sound h
  have a1 := ySum_bounds Y 0 hY
  have a2 := gSum_bounds h9 G (ySum 0 Y) hG
  unfold sumI
  omega

set_option maxRecDepth 100000 in
set_option maxHeartbeats 2000000 in
theorem specWorth_any (B : Nat) (v : Value) (s : Int) (Q : List EdgeI) (u : Value) (M : List CoupleI) (hok : matchOk s Q M = true) (h1 : Q.length ≤ 1048576) (w : World) (hB : B ≤ w.heap.size) (hv : GrAt w v B s Q) (hu : CoAt w u B M) :
    Calls Try.prog 38 #[v, u] w fun e w' => e = .returned (.int .i64 (wsum (sums Q M))) ∧ Below w.heap.size w w' := by
  have AT := hide (fun x y w1 (hb : Below w.heap.size w w1) => specAt_any v B s x y Q h1 w1 (by have := hb.size; omega) (hv.below hb hB))
  obtain ⟨a0, n0, c0, rfl, hE⟩ := hv
  obtain ⟨hL0, hc0⟩ := hE
  obtain ⟨a, c, rfl, hM⟩ := hu
  obtain ⟨_, hc⟩ := hM
  obtain ⟨hg, h9, hm⟩ := match_sound hok
  have HED : Hid (∀ k (h : k < M.length), ∃ i, ∃ h' : i < Q.length, atFrom M[k].A M[k].B 0 Q = (i : Int) ∧ edgeN Q (atFrom M[k].A M[k].B 0 Q) = Q[i] ∧ edgeOk s Q[i] = true) := fun k h => by
    obtain ⟨i, hi, e1, e2, _⟩ := edgeN_at (mFrom_at Q M none [] hm _ (List.getElem_mem h))
    exact ⟨i, hi, e1, e2, (graph_sound hg).2.2.1 _ (List.getElem_mem hi)⟩
  have HST := hide (fun s k h => sumsFrom_step Q M s k h)
  have HEND : Hid (∀ s, sumsFrom Q s (M.drop M.length) = s) := fun s => by rw [List.drop_length]; rfl
  have H0 : Hid (sums Q M = sumsFrom Q ⟨0, 0, 0⟩ (M.drop 0)) := rfl
  generalize sums Q M = T at H0 ⊢
  have HC0 := hide hc0
  have HL0 := hide hL0
  have HC := hide hc
  obtain ⟨n, hn⟩ : ∃ n, M.length = n := ⟨_, rfl⟩
  rw [hn] at HEND h9
  rw [hn]
  have HN := hide hn
  have HN0 : Hid (n0 ≤ 1048576) := by show _ ≤ _; omega
  clear hc0 hL0 hc hok hm hg h1 hn
  go_enter Try.func38, Try.ntmps38
  go_wp2_with fail
  obtain ⟨V1, hV1⟩ : ∃ W, W = w.alloc (Obj.cells #[Value.int .i64 s, Value.slice a0 n0 c0] 37) := ⟨_, rfl⟩
  rw [← hV1]
  have b1 : Below w.heap.size w V1 := by rw [hV1]; exact below_new _ _
  have x1 : GBox V1 w.heap.size s (.slice a0 n0 c0) := by rw [hV1]; exact GBox.new _ _ _
  have hx1l := x1.lt
  have HX1 := hide x1
  clear hV1 x1
  go_loopw [5, 6] (fun nn i wr => ∃ (j : Nat) (t : SumsI) (N : Int), i = .int .i64 (j : Int) ∧ nn = .int .i64 N ∧ Hid (N = wsum t) ∧ j ≤ n ∧ Hid (T = sumsFrom Q t (M.drop j)) ∧ Hid (SB t (j : Int)) ∧ Below V1.heap.size V1 wr) (fun _ i _ => n - (intOf i).toNat)
  case atStart => exact ⟨0, ⟨0, 0, 0⟩, 0, rfl, rfl, rfl, Nat.zero_le _, unhide H0, SB.zero _ (by omega), Below.refl _ _⟩
  case round =>
    obtain ⟨j, t, N, rfl, rfl, HNE, hj, HR, HSB, hb⟩ := hrel
    have b4 : Below w.heap.size w wr := b1.trans (hb.mono b1.size)
    by_cases hlt : j < n
    · have hjL : j < M.length := by have := unhide HN; omega
      obtain ⟨b, off, rfl, hbB, c0', c1'⟩ := unhide HC j hjL
      obtain ⟨i, hiQ, e1, e2, heok⟩ := unhide HED j hjL
      obtain ⟨b', off', rfl, hbB', d0, d1, d2, d3, d4⟩ := unhide HC0 i hiQ
      have hr := (unhide HR).trans (unhide HST t j hjL)
      have AT1 := hide (unhide AT M[j].A M[j].B)
      have hsn := (unhide HSB).add heok
      have hws := wsum_add (unhide HSB) (by omega) heok
      rw [e1] at AT1
      rw [e2] at hr
      generalize M[j] = mm at c0' c1' AT1
      have SC := hide (fun w => specScalar_any Q[i] w)
      generalize Q[i] = q at d0 d1 d2 d3 d4 hr hsn SC hws
      rw [← unhide HNE] at hws
      obtain ⟨hws0, hws1, hws2, hws3, hws4⟩ := hws
      generalize scal q = sc at SC hws0 hws1 hws2
      obtain ⟨m0, m1⟩ := mm
      obtain ⟨y0, y1, y2, y3, y4⟩ := q
      unfold EdgeI.v at SC
      simp only at c0' c1' AT1 d0 d1 d2 d3 d4 SC
      have HSN := hide hsn
      have HRN := hide hr
      have hx1 : (j : Int) < (n : Int) := by omega
      have hi1 : (i : Int) < (n0 : Int) := by have := unhide HL0; omega
      obtain ⟨p0, p1⟩ := ((unhide HX1).below hb).cells
      have hgl : w.heap.size < wr.heap.size := by have := hb.size; omega
      have hbl : b < wr.heap.size := by have := b4.size; omega
      have hbl' : b' < wr.heap.size := by have := b4.size; omega
      have k0 : ∀ d : Grown wr.heap.size wr, d.w.cell? ⟨w.heap.size, 0, none⟩ = some (.int .i64 s) := fun d => d.cell hgl p0
      have k1 : ∀ d : Grown wr.heap.size wr, d.w.cell? ⟨w.heap.size, 1, none⟩ = some (.slice (some ⟨b', off', none⟩) n0 c0) := fun d => d.cell hgl p1
      have k2 : ∀ d : Grown wr.heap.size wr, d.w.cell? ⟨b, off + j * 2, none⟩ = some (.int .i64 m0) := fun d => d.cell hbl ((b4.cell (p := ⟨b, off + j * 2, none⟩) (by simp; omega)).trans c0')
      have k3 : ∀ d : Grown wr.heap.size wr, d.w.cell? ⟨b, off + j * 2 + 1, none⟩ = some (.int .i64 m1) := fun d => d.cell hbl ((b4.cell (p := ⟨b, off + j * 2 + 1, none⟩) (by simp; omega)).trans c1')
      have D0 : ∀ d : Grown wr.heap.size wr, d.w.cell? ⟨b', off' + i * 5, none⟩ = some (.int .i64 y0) := fun d => d.cell hbl' ((b4.cell (p := ⟨b', off' + i * 5, none⟩) (by simp; omega)).trans d0)
      have D1 : ∀ d : Grown wr.heap.size wr, d.w.cell? ⟨b', off' + i * 5 + 1, none⟩ = some (.int .i64 y1) := fun d => d.cell hbl' ((b4.cell (p := ⟨b', off' + i * 5 + 1, none⟩) (by simp; omega)).trans d1)
      have D2 : ∀ d : Grown wr.heap.size wr, d.w.cell? ⟨b', off' + i * 5 + 2, none⟩ = some (.int .i64 y2) := fun d => d.cell hbl' ((b4.cell (p := ⟨b', off' + i * 5 + 2, none⟩) (by simp; omega)).trans d2)
      have D3 : ∀ d : Grown wr.heap.size wr, d.w.cell? ⟨b', off' + i * 5 + 3, none⟩ = some (.int .i64 y3) := fun d => d.cell hbl' ((b4.cell (p := ⟨b', off' + i * 5 + 3, none⟩) (by simp; omega)).trans d3)
      have D4 : ∀ d : Grown wr.heap.size wr, d.w.cell? ⟨b', off' + i * 5 + 4, none⟩ = some (.int .i64 y4) := fun d => d.cell hbl' ((b4.cell (p := ⟨b', off' + i * 5 + 4, none⟩) (by simp; omega)).trans d4)
      have A2 : Hid (∀ d : Grown wr.heap.size wr, Calls Try.prog 59 #[.agg #[.int .i64 s, .slice (some ⟨b', off', none⟩) n0 c0], .int .i64 m0, .int .i64 m1] d.w fun e w' => e = .returned (.int .i64 (i : Int)) ∧ Below d.w.heap.size d.w w') := fun d => unhide AT1 d.w (b4.trans (d.below.mono b4.size))
      have wn : IntKind.i64.wrap (N + sc) = N + sc := wrap_in _ (by omega)
      have HWS : Hid (N + sc = wsum (addS t ⟨y0, y1, y2, y3, y4⟩)) := hws0.symm
      have HB := hide hb
      clear hr HR hsn p0 p1 c0' c1' d0 d1 d2 d3 d4 hb HNE AT1 hws0
      go_upto_region 5 with fail
      refine wp_region_grown wr.heap.size (by kernel_rfl) (by kernel_rfl) ?_
      repeat (go_big_quiet_step (first
        | (go_at_call 59; exact Calls.grown (Nat.le_refl _) (unhide A2 _))
        | (go_at_call 61; exact Calls.grown (Nat.le_refl _) (unhide SC _))))
      refine wpQuiet_nil ?_
      rintro w5 ⟨d5, rfl⟩
      clear k0 k1 k2 k3 D0 D1 D2 D3 D4
      go_wp2_with fail
      exact ⟨⟨j + 1, _, _, by go_num, rfl, unhide HWS, by omega, unhide HRN, unhide HSN, (unhide HB).trans (d5.below.mono (unhide HB).size)⟩, by simp [intOf]; omega⟩
    · obtain rfl : j = n := by omega
      have hT := (unhide HR).trans (unhide HEND t)
      subst hT
      have hN := unhide HNE
      subst hN
      go_wp2_with fail
      go_ret
      exact ⟨rfl, b4⟩
end Gr
end Go.Proofs.Ytldbanpfhlmjmaa

/-
  The contract of spec.Certifies.
-/
namespace Go.Proofs.Ytldbanpfhlmjmaa
namespace Gr
open Go.RowKit

/-- What Certifies tells. -/
def certR (s : Int) (Q : List EdgeI) (M : List CoupleI) (Y : List Int) (G : List GrpI) : Bool := proofOk s Q Y G && (matchOk s Q M && decide (2 * wsum (sums Q M) = sumI Y G))

theorem sums_range {s : Int} {Q : List EdgeI} {M : List CoupleI} (h : matchOk s Q M = true) : 0 ≤ wsum (sums Q M) ∧ wsum (sums Q M) ≤ 90000000 := by
  obtain ⟨hg, h9, hm⟩ := match_sound h
  have key : ∀ (L : List CoupleI) (t : SumsI) (n : Int), SB t n → (∀ x ∈ L, 0 ≤ atFrom x.A x.B 0 Q) → SB (sumsFrom Q t L) (n + (L.length : Int)) := by
    intro L
    induction L with
    | nil => intro t n ht _; simpa [sumsFrom] using ht
    | cons x r ih =>
      intro t n ht hx
      have h1 := ih _ (n + 1) (ht.add (edgeN_ok hg (hx x List.mem_cons_self))) (fun y hy => hx y (List.mem_cons_of_mem _ hy))
      show SB (sumsFrom Q _ r) _
      rw [List.length_cons]
      exact h1.mono (by omega)
  have := key M ⟨0, 0, 0⟩ 0 (SB.zero _ (by omega)) (mFrom_at Q M none [] hm)
  unfold SB at this
  unfold wsum sums
  omega

set_option maxRecDepth 100000 in
set_option maxHeartbeats 2000000 in
theorem specCert_gen (B : Nat) (v : Value) (s : Int) (Q : List EdgeI) (m : Value) (M : List CoupleI) (u : Value) (Y : List Int) (G : List GrpI) (h1 : Q.length ≤ 1048576) (h3 : M.length ≤ 1048576) (h2 : psize Y G ≤ 1048576) (w : World) (hB : B ≤ w.heap.size) (hv : GrAt w v B s Q) (hm : CoAt w m B M) (hu : PrAt w u B Y G) :
    Calls Try.prog 18 #[v, m, u] w fun e w' => e = .returned (.bool (certR s Q M Y G)) ∧ Below w.heap.size w w' := by
  have PK := hide (fun w1 (hb : Below w.heap.size w w1) => specProof_gen B v s Q u Y G h1 h2 w1 (by have := hb.size; omega) (hv.below hb hB) (hu.below hb hB))
  have SM := hide (fun (h : proofOk s Q Y G = true) w1 (hb : Below w.heap.size w w1) => specSum_any u B s Y G (proof_sound h).2.1 (proof_sound h).2.2.1 (proof_sound h).2.2.2.2.1 (proof_sound h).2.2.2.2.2 (proof_sound h).2.2.2.1 w1 (by have := hb.size; omega) (hu.below hb hB))
  have WM := hide (fun (h : matchOk s Q M = true) w1 (hb : Below w.heap.size w w1) => specWorth_any B v s Q m M h h1 w1 (by have := hb.size; omega) (hv.below hb hB) (hm.below hb hB))
  have MK : Hid (∀ w1, Below w.heap.size w w1 → Calls Try.prog 37 #[v, m] w1 fun e w' => e = .returned (.bool (matchOk s Q M)) ∧ Below w1.heap.size w1 w') := fun w1 hb => by
    obtain ⟨a, c, rfl, hM⟩ := hm
    exact specMatch_any v B s Q a M.length c M h1 h3 w1 (by have := hb.size; omega) (hv.below hb hB) (hM.below hb hB)
  have HBD : Hid (matchOk s Q M = true → 0 ≤ wsum (sums Q M) ∧ wsum (sums Q M) ≤ 90000000) := fun h => sums_range h
  have hV : certR s Q M Y G = (proofOk s Q Y G && (matchOk s Q M && decide (2 * wsum (sums Q M) = sumI Y G))) := rfl
  generalize certR s Q M Y G = V at hV ⊢
  generalize sumI Y G = S at SM hV
  generalize wsum (sums Q M) = T at WM HBD hV
  generalize proofOk s Q Y G = ok at PK SM hV
  generalize matchOk s Q M = mk at MK WM HBD hV
  obtain ⟨a0, n0, c0, rfl, _⟩ := hv
  obtain ⟨am, cm, rfl, _⟩ := hm
  obtain ⟨a, n, c, a', n', c', rfl, _⟩ := hu
  generalize M.length = nm at MK WM
  clear h1 h2 h3
  go_enter Try.func18, Try.ntmps18
  go_wp2_with fail
  obtain ⟨W1, hW1⟩ : ∃ W, W = (w.alloc (Obj.cells #[Value.int .i64 s, Value.slice a0 n0 c0] 37)).alloc (Obj.cells #[Value.slice a n c, Value.slice a' n' c'] 41) := ⟨_, rfl⟩
  rw [← hW1]
  have b1 : Below w.heap.size w W1 := by rw [hW1]; exact (below_new _ _).alloc (by simp) _
  have m0 : Blk W1 w.heap.size #[Value.int .i64 s, Value.slice a0 n0 c0] 37 := by rw [hW1]; exact Blk.new0.alloc
  have m1 : Blk W1 (w.heap.size + 1) #[Value.slice a n c, Value.slice a' n' c'] 41 := by rw [hW1]; exact Blk.new1
  clear hW1
  have z0 := m0.lt
  have z1 := m1.lt
  have k0 : ∀ d : Grown W1.heap.size W1, d.w.cell? ⟨w.heap.size, 0, none⟩ = some (.int .i64 s) := fun d => d.cell z0 (m0.cell 0 _ rfl)
  have k1 : ∀ d : Grown W1.heap.size W1, d.w.cell? ⟨w.heap.size, 1, none⟩ = some (.slice a0 n0 c0) := fun d => d.cell z0 (m0.cell 1 _ rfl)
  have k2 : ∀ d : Grown W1.heap.size W1, d.w.cell? ⟨w.heap.size + 1, 0, none⟩ = some (.slice a n c) := fun d => d.cell z1 (m1.cell 0 _ rfl)
  have k3 : ∀ d : Grown W1.heap.size W1, d.w.cell? ⟨w.heap.size + 1, 1, none⟩ = some (.slice a' n' c') := fun d => d.cell z1 (m1.cell 1 _ rfl)
  have HG : Hid (∀ d : Grown W1.heap.size W1, Below w.heap.size w d.w) := fun d => b1.trans (d.below.mono b1.size)
  have P2 : Hid (∀ d : Grown W1.heap.size W1, Calls Try.prog 36 #[.agg #[.int .i64 s, .slice a0 n0 c0], .agg #[.slice a n c, .slice a' n' c']] d.w fun e w' => e = .returned (.bool ok) ∧ Below d.w.heap.size d.w w') := fun d => unhide PK d.w (unhide HG d)
  have M2 : Hid (∀ d : Grown W1.heap.size W1, Calls Try.prog 37 #[.agg #[.int .i64 s, .slice a0 n0 c0], .slice am nm cm] d.w fun e w' => e = .returned (.bool mk) ∧ Below d.w.heap.size d.w w') := fun d => unhide MK d.w (unhide HG d)
  clear m0 m1 PK MK
  refine wp_region_grown W1.heap.size (by kernel_rfl) (by kernel_rfl) ?_
  cases ok with
  | false =>
    rw [Bool.false_and] at hV
    subst hV
    repeat (go_big_quiet_step (first
      | (go_at_call 36; exact Calls.grown (Nat.le_refl _) (unhide P2 _))))
    refine wpQuiet_nil ?_
    rintro w5 ⟨d5, rfl⟩
    go_wp2_with fail
    go_ret
    exact ⟨rfl, unhide HG d5⟩
  | true =>
    rw [Bool.true_and] at hV
    have S2 : Hid (∀ d : Grown W1.heap.size W1, Calls Try.prog 39 #[.agg #[.slice a n c, .slice a' n' c']] d.w fun e w' => e = .returned (.int .i64 S) ∧ Below d.w.heap.size d.w w') := fun d => unhide SM rfl d.w (unhide HG d)
    cases mk with
    | false =>
      rw [Bool.false_and] at hV
      subst hV
      repeat (go_big_quiet_step (first
        | (go_at_call 36; exact Calls.grown (Nat.le_refl _) (unhide P2 _))
        | (go_at_call 37; exact Calls.grown (Nat.le_refl _) (unhide M2 _))))
      refine wpQuiet_nil ?_
      rintro w5 ⟨d5, rfl⟩
      go_wp2_with fail
      go_ret
      exact ⟨rfl, unhide HG d5⟩
    | true =>
      rw [Bool.true_and] at hV
      obtain ⟨t0, t1⟩ := unhide HBD rfl
      have hw2 : IntKind.i64.wrap (2 * T) = 2 * T := wrap_in _ (by omega)
      have W2 : Hid (∀ d : Grown W1.heap.size W1, Calls Try.prog 38 #[.agg #[.int .i64 s, .slice a0 n0 c0], .slice am nm cm] d.w fun e w' => e = .returned (.int .i64 T) ∧ Below d.w.heap.size d.w w') := fun d => unhide WM rfl d.w (unhide HG d)
      have HV := hide hV
      clear hV
      repeat (go_big_quiet_step (first
        | (go_at_call 36; exact Calls.grown (Nat.le_refl _) (unhide P2 _))
        | (go_at_call 37; exact Calls.grown (Nat.le_refl _) (unhide M2 _))
        | (go_at_call 38; exact Calls.grown (Nat.le_refl _) (unhide W2 _))
        | (go_at_call 39; exact Calls.grown (Nat.le_refl _) (unhide S2 _))))
      refine wpQuiet_nil ?_
      rintro w5 ⟨d5, rfl⟩
      go_wp2_with fail
      go_ret
      refine ⟨?_, unhide HG d5⟩
      have h := unhide HV
      subst h
      first
        | rfl
        | (congr 2; rw [Bool.eq_iff_iff]; simp)
end Gr
end Go.Proofs.Ytldbanpfhlmjmaa

/-
  The bytes of a certificate.
-/
namespace Go.Proofs.Ytldbanpfhlmjmaa
namespace Gr
open Go.RowKit

def edgesB : ByteArray → List EdgeI → ByteArray
  | s, [] => s
  | s, e :: r => edgesB (((((s ++ vB e.A) ++ vB e.B) ++ vB e.W1) ++ vB e.W2) ++ vB e.W3) r

def couplesB : ByteArray → List CoupleI → ByteArray
  | s, [] => s
  | s, x :: r => couplesB ((s ++ vB x.A) ++ vB x.B) r

def intsB : ByteArray → List Int → ByteArray
  | s, [] => s
  | s, x :: r => intsB (s ++ vB x) r

def groupsB : ByteArray → List GrpI → ByteArray
  | s, [] => s
  | s, q :: r => groupsB ((intsB (s ++ vB (q.M.length : Int)) q.M) ++ vB q.Z) r

/-- The bytes of a certificate. -/
def certB (s : Int) (Q : List EdgeI) (M : List CoupleI) (Y : List Int) (G : List GrpI) : ByteArray :=
  groupsB (intsB (couplesB (edgesB (vB s ++ vB (Q.length : Int)) Q ++ vB (M.length : Int)) M) Y ++ vB (G.length : Int)) G

/-- What CertText tells. -/
def certT (s : Int) (Q : List EdgeI) (M : List CoupleI) (Y : List Int) (G : List GrpI) : ByteArray := if certR s Q M Y G = true then certB s Q M Y G else ⟨#[]⟩

/-- A certificate that can be read. -/
def CeAt (w : World) (v : Value) (B : Nat) (s : Int) (Q : List EdgeI) (M : List CoupleI) (Y : List Int) (G : List GrpI) : Prop :=
  ∃ a c a1 c1 a2 c2 a3 c3, v = .agg #[.int .i64 s, .slice a Q.length c, .slice a1 M.length c1, .slice a2 Y.length c2, .slice a3 G.length c3] ∧ GrAt w (.agg #[.int .i64 s, .slice a Q.length c]) B s Q ∧ CoAt w (.slice a1 M.length c1) B M ∧ PrAt w (.agg #[.slice a2 Y.length c2, .slice a3 G.length c3]) B Y G ∧ Q.length ≤ 9223372036854775807 ∧ M.length ≤ 9223372036854775807

theorem CeAt.below {w w' : World} {v : Value} {B C : Nat} {s : Int} {Q : List EdgeI} {M : List CoupleI} {Y : List Int} {G : List GrpI} (h : CeAt w v B s Q M Y G) (hb : Below C w w') (hC : B ≤ C) : CeAt w' v B s Q M Y G := by
  obtain ⟨a, c, a1, c1, a2, c2, a3, c3, rfl, h1, h2, h3, h4, h5⟩ := h
  exact ⟨a, c, a1, c1, a2, c2, a3, c3, rfl, h1.below hb hC, h2.below hb hC, h3.below hb hC, h4, h5⟩

theorem CeAt.mono {w : World} {v : Value} {B C : Nat} {s : Int} {Q : List EdgeI} {M : List CoupleI} {Y : List Int} {G : List GrpI} (h : CeAt w v B s Q M Y G) (hC : B ≤ C) : CeAt w v C s Q M Y G := by
  obtain ⟨a, c, a1, c1, a2, c2, a3, c3, rfl, h1, h2, h3, h4, h5⟩ := h
  exact ⟨a, c, a1, c1, a2, c2, a3, c3, rfl, h1.mono hC, h2.mono hC, h3.mono hC, h4, h5⟩

theorem CeAt.shape {w : World} {v : Value} {B : Nat} {s : Int} {Q : List EdgeI} {M : List CoupleI} {Y : List Int} {G : List GrpI} (h : CeAt w v B s Q M Y G) :
    ∃ a c a1 c1 a2 c2 a3 c3, v = .agg #[.int .i64 s, .slice a Q.length c, .slice a1 M.length c1, .slice a2 Y.length c2, .slice a3 G.length c3] := by
  obtain ⟨a, c, a1, c1, a2, c2, a3, c3, rfl, _⟩ := h
  exact ⟨a, c, a1, c1, a2, c2, a3, c3, rfl⟩

def CeOwn (w : World) (_B : Nat) (v : Value) (s : Int) (Q : List EdgeI) (M : List CoupleI) (Y : List Int) (G : List GrpI) : Prop := CeAt w v w.heap.size s Q M Y G

theorem CeOwn.at {w : World} {B : Nat} {v : Value} {s : Int} {Q : List EdgeI} {M : List CoupleI} {Y : List Int} {G : List GrpI} (h : CeOwn w B v s Q M Y G) : CeAt w v w.heap.size s Q M Y G := h

theorem CeOwn.below {w w' : World} {B : Nat} {v : Value} {s : Int} {Q : List EdgeI} {M : List CoupleI} {Y : List Int} {G : List GrpI} (h : CeOwn w B v s Q M Y G) (hb : Below w.heap.size w w') : CeOwn w' B v s Q M Y G := (CeAt.below h hb (Nat.le_refl _)).mono hb.size

def csize (Q : List EdgeI) (M : List CoupleI) (Y : List Int) (G : List GrpI) : Nat := min (Q.length + (M.length + psize Y G)) 9223372036854775807

theorem csize_le {Q : List EdgeI} {M : List CoupleI} {Y : List Int} {G : List GrpI} (h : csize Q M Y G ≤ 1048576) : Q.length ≤ 1048576 ∧ M.length ≤ 1048576 ∧ psize Y G ≤ 1048576 := by
  unfold csize at h
  omega
end Gr
end Go.Proofs.Ytldbanpfhlmjmaa

/-
  A region that draws its order, of two parts: the first operations only read (their callees read and make new memory alone), and none of the others can come up before all of those have. The first part is walked once, in the order of the text.
-/
namespace Go.Proofs.Ytldbanpfhlmjmaa
namespace Gr
open Go.RowKit

section
variable {P : Program} {md : Region.Mode} {ops : Array Oper} {C : World → Prop}

/-- All of the first K are listed. -/
def preAll (K : Nat) (listed : Array Bool) : Bool := (List.range K).all fun i => listed.getD i false

/-- Whatever is listed, so is what it waits for; and none behind the first K is. -/
def Shut (md : Region.Mode) (ops : Array Oper) (K : Nat) (listed : Array Bool) : Prop :=
  (∀ i o, ops[i]? = some o → listed.getD i false = true → ∀ e ∈ o.after, Region.binds md e = true → listed.getD e.on false = true) ∧ ∀ j, K ≤ j → listed.getD j false = false

/-- Each behind K waits for one that is not among the first K, and each of the first K is waited for by a later one, up to K. -/
def tailB (md : Region.Mode) (ops : Array Oper) (K : Nat) : Bool :=
  ((List.range ops.size).all fun j => decide (j ≤ K) || ((ops[j]?).map (·.after.any fun e => Region.binds md e && decide (K ≤ e.on))).getD false) &&
  ((List.range K).all fun i => (List.range (K + 1)).any fun i' => decide (i < i') && ((ops[i']?).map (·.after.any fun e => Region.binds md e && (e.on == i))).getD false)

theorem tail_waits {K : Nat} {listed : Array Bool} (hT : tailB md ops K = true) (hS : Shut md ops K listed) {j : Nat} (hj : j ∈ Region.ready md ops listed) (hK : K ≤ j) : preAll K listed = true := by
  unfold tailB at hT
  rw [Bool.and_eq_true, List.all_eq_true, List.all_eq_true] at hT
  obtain ⟨h1, h2⟩ := hT
  obtain ⟨hun, o, ho, hall⟩ := mem_ready.1 hj
  have hjs : j < ops.size := (Array.getElem?_eq_some_iff.1 ho).1
  have hjK : j = K := by
    have := h1 j (List.mem_range.2 hjs)
    rw [Bool.or_eq_true, decide_eq_true_eq] at this
    rcases this with h | h
    · omega
    · rw [ho] at h
      simp only [Option.map_some, Option.getD_some, Array.any_eq_true, Bool.and_eq_true, decide_eq_true_eq] at h
      obtain ⟨x, hx, hb, hk⟩ := h
      have := hall _ (Array.getElem_mem hx) hb
      rw [hS.2 _ hk] at this
      cases this
  subst hjK
  have key : ∀ n i, i < j → j - i ≤ n → listed.getD i false = true := by
    intro n
    induction n with
    | zero => intro i hi hn; omega
    | succ n ih =>
      intro i hi hn
      have := h2 i (List.mem_range.2 hi)
      rw [List.any_eq_true] at this
      obtain ⟨i', hi', hh⟩ := this
      rw [List.mem_range] at hi'
      rw [Bool.and_eq_true, decide_eq_true_eq] at hh
      obtain ⟨hlt, hh⟩ := hh
      cases ho' : ops[i']? with
      | none => rw [ho'] at hh; simp at hh
      | some o' =>
        rw [ho'] at hh
        simp only [Option.map_some, Option.getD_some, Array.any_eq_true, Bool.and_eq_true, beq_iff_eq] at hh
        obtain ⟨x, hx, hb, hk⟩ := hh
        rcases Nat.lt_or_ge i' j with h | h
        · have := hS.1 i' o' ho' (ih i' h (by omega)) _ (Array.getElem_mem hx) hb
          rw [hk] at this
          exact this
        · have e : i' = j := by omega
          subst e
          rw [ho] at ho'
          obtain rfl := Option.some.inj ho'
          have := hall _ (Array.getElem_mem hx) hb
          rw [hk] at this
          exact this
  unfold preAll
  rw [List.all_eq_true]
  intro i hi
  exact key j i (List.mem_range.1 hi) (by omega)

theorem Shut.add {K : Nat} {listed : Array Bool} (hS : Shut md ops K listed) {j : Nat} (hj : j ∈ Region.ready md ops listed) (hK : j < K) : Shut md ops K (listed.setIfInBounds j true) := by
  obtain ⟨hun, o, ho, hall⟩ := mem_ready.1 hj
  refine ⟨fun i oi hi hl e he hb => ?_, fun k hk => ?_⟩
  · by_cases hij : j = i
    · subst hij
      rw [ho] at hi
      obtain rfl := Option.some.inj hi
      exact getD_set_true (hall e he hb)
    · rw [getD_set_ne false hij] at hl
      exact getD_set_true (hS.1 i oi hi hl e he hb)
  · rw [getD_set_ne false (by omega)]
    exact hS.2 k hk

/-- Whatever order is picked of the first K; what is asked behind them. -/
def wpPre (P : Program) (md : Region.Mode) (ops : Array Oper) (C : World → Prop) (K : Nat) (Q : Nat → Array Bool → Act → Prop) : Nat → Array Bool → Act → Prop
  | 0, listed, a => preAll K listed = true ∧ Q 0 listed a
  | fuel + 1, listed, a => (preAll K listed = true ∧ Q (fuel + 1) listed a) ∨ (preAll K listed = false ∧ Region.ready md ops listed ≠ [] ∧ ∀ i ∈ Region.ready md ops listed, qOp P ops C i (wpPre P md ops C K Q fuel (listed.setIfInBounds i true)) a)

theorem wpAny_of_pre {K : Nat} {Q : Nat → Array Bool → Act → Prop} {Q' : Exit → Act → World → Prop} (hQ : ∀ fuel listed a w, C w → Q fuel listed a → wpAny P md ops Q' fuel listed a w) : ∀ (fuel : Nat) (listed : Array Bool) (a : Act) (w : World), C w →
    wpPre P md ops C K Q fuel listed a → wpAny P md ops Q' fuel listed a w
  | 0, _, _, _, hw, h => hQ _ _ _ _ hw h.2
  | fuel + 1, _, _, _, hw, h => by
    rcases h with h | ⟨_, hne, h⟩
    · exact hQ _ _ _ _ hw h.2
    · exact ⟨fun h0 => absurd h0 hne, fun i hi => wpOp_of_qOp hw (fun a' w' hw' => wpAny_of_pre hQ fuel _ a' w' hw') (h i hi)⟩

theorem not_pre {K : Nat} {listed : Array Bool} {i : Nat} (hi : i < K) (hun : listed.getD i true = false) : preAll K listed = false := by
  rw [Bool.eq_false_iff]
  intro h
  unfold preAll at h
  rw [List.all_eq_true] at h
  have h1 := h i (List.mem_range.2 hi)
  rcases Nat.lt_or_ge i listed.size with h' | h'
  · simp [h'] at h1 hun
    rw [h1] at hun
    cases hun
  · simp [Array.getElem?_eq_none h'] at h1

theorem wpPre_first {K : Nat} {Q : Nat → Array Bool → Act → Prop} {i : Nat} {oi : Oper} {v : Value} (hT : tailB md ops K = true) (hiK : i < K) (hi : ops[i]? = some oi) (hsel : ∀ (j : Nat) (o : Oper) cs b, ops[j]? = some o → o.op ≠ .select cs b) :
    ∀ (fuel : Nat) (listed : Array Bool) (a : Act), Shut md ops K listed →
      (∀ j oj, ops[j]? = some oj → j ≠ i → listed.getD j true = false → (∀ e ∈ oj.after, Region.binds md e = true → e.on ≠ i) → oi.apart ops oj = true) →
      i ∈ Region.ready md ops listed → YieldsIn P ops C oi v a →
      wpPre P md ops C K Q fuel (listed.setIfInBounds i true) (a.put oi.dst v) → wpPre P md ops C K Q (fuel + 1) listed a := by
  intro fuel
  induction fuel with
  | zero =>
    intro listed a hS _ hr hy H
    have hun := (mem_ready.1 hr).1
    refine .inr ⟨not_pre hiK hun, fun h => (by rw [h] at hr; cases hr), fun j hj => ?_⟩
    by_cases hji : j = i
    · subst hji; exact hy.qOp hi H
    · have hjun := (mem_ready.1 hj).1
      have hjK : j < K := by
        rcases Nat.lt_or_ge j K with h | h
        · exact h
        · have := tail_waits hT hS hj h
          rw [not_pre hiK hun] at this
          cases this
      have := H.1
      rw [not_pre hjK (by rw [getD_set_ne true (Ne.symm hji)]; exact hjun)] at this
      cases this
  | succ fuel ih =>
    intro listed a hS hfree hr hy H
    have hun := (mem_ready.1 hr).1
    refine .inr ⟨not_pre hiK hun, fun h => (by rw [h] at hr; cases hr), fun j hj => ?_⟩
    by_cases hji : j = i
    · subst hji; exact hy.qOp hi H
    · have hjun' := (mem_ready.1 hj).1
      have hjK : j < K := by
        rcases Nat.lt_or_ge j K with h | h
        · exact h
        · have := tail_waits hT hS hj h
          rw [not_pre hiK hun] at this
          cases this
      rcases H with H | H
      · have := H.1
        rw [not_pre hjK (by rw [getD_set_ne true (Ne.symm hji)]; exact hjun')] at this
        cases this
      · have h1 := H.2.2 j (ready_mono hj hji)
        obtain ⟨hjun, oj, hoj, hall⟩ := mem_ready.1 hj
        have hnot : ∀ e ∈ oj.after, Region.binds md e = true → e.on ≠ i := fun e he hb heq => by
          have h1 := hall e he hb
          have h0 := (mem_ready.1 hr).1
          rw [heq] at h1
          rcases Nat.lt_or_ge i listed.size with h' | h'
          · simp [h'] at h0 h1; rw [h0] at h1; cases h1
          · simp [Array.getElem?_eq_none h'] at h1
        have h2 := qOp_put hoj (hfree j oj hoj hji hjun hnot) (fun cs b => hsel i oi cs b hi) (fun cs b => hsel j oj cs b hoj) hy h1
        have hfree' : ∀ k ok, ops[k]? = some ok → k ≠ i → (listed.setIfInBounds j true).getD k true = false →
            (∀ e ∈ ok.after, Region.binds md e = true → e.on ≠ i) → oi.apart ops ok = true := fun k ok hk hki hun hno => by
          refine hfree k ok hk hki ?_ hno
          by_cases hjk : j = k
          · subst hjk; exact hjun
          · rw [getD_set_ne true hjk] at hun; exact hun
        refine qOp_mono (fun a' h3 => ih (listed.setIfInBounds j true) a' (hS.add hj hjK) hfree' (ready_mono hr (Ne.symm hji)) h3.1 ?_) h2
        rw [Array.setIfInBounds_comm _ _ hji]
        exact h3.2

/-- The first K, in the order of the text. -/
def preFrom (md : Region.Mode) (ops : Array Oper) (K : Nat) : Nat → Nat → Array Bool → Bool
  | 0, _, listed => preAll K listed
  | n + 1, k, listed => (Region.ready md ops listed).contains k && Region.free md ops listed k && preFrom md ops K n (k + 1) (listed.setIfInBounds k true)

/-- What is listed behind them. -/
def preEnd : Nat → Nat → Array Bool → Array Bool
  | 0, _, listed => listed
  | n + 1, k, listed => preEnd n (k + 1) (listed.setIfInBounds k true)

theorem wpPre_lex {K : Nat} {Q : Nat → Array Bool → Act → Prop} (m : Nat) (hs : Region.noSelect ops = true) (hT : tailB md ops K = true) : ∀ (l : List Oper) (k : Nat) (listed : Array Bool) (a : Act), k + l.length = K → (∀ j, j < l.length → l[j]? = ops[k + j]?) → Shut md ops K listed →
    preFrom md ops K l.length k listed = true → wpQuiet P ops C (Q m (preEnd l.length k listed)) l a → wpPre P md ops C K Q (l.length + m) listed a
  | [], _, _, _, _, _, _, hB, h => by
    rw [List.length_nil, Nat.zero_add]
    cases m with
    | zero => exact ⟨hB, h⟩
    | succ m => exact .inl ⟨hB, h⟩
  | o :: l, k, listed, a, hk, hl, hS, hB, h => by
    rw [List.length_cons] at hk
    have h0 : ops[k]? = some o := by simpa using (hl 0 (by simp)).symm
    simp only [List.length_cons, preFrom, Bool.and_eq_true] at hB
    obtain ⟨⟨hr, hf⟩, hB'⟩ := hB
    have hr' : k ∈ Region.ready md ops listed := by simpa using hr
    have hst : qOp P ops C k (wpQuiet P ops C (Q m (preEnd (l.length + 1) k listed)) l) a := by unfold qOp; simp only [h0]; exact h
    obtain ⟨v, hy, hK⟩ := yieldsIn_of_qOp h0 hst
    have e : (o :: l).length + m = (l.length + m) + 1 := by rw [List.length_cons]; omega
    rw [e]
    exact wpPre_first hT (by omega) h0 (Region.noSelect_spec hs) (l.length + m) listed a hS (Region.free_spec h0 hf) hr' hy
      (wpPre_lex m hs hT l (k + 1) _ _ (by omega) (fun j hj => by have := hl (j + 1) (by rw [List.length_cons]; omega); simpa [Nat.add_assoc, Nat.add_comm 1 j] using this) (hS.add hr' (by omega)) hB' hK)

theorem shut_none (md : Region.Mode) (ops : Array Oper) (K n : Nat) : Shut md ops K (Array.replicate n false) := by
  have h0 : ∀ i : Nat, (Array.replicate n false).getD i false = false := fun i => by
    rcases Nat.lt_or_ge i n with h | h
    · simp [h]
    · simp [h]
  exact ⟨fun i o _ hl => (by rw [h0] at hl; cases hl), fun j _ => h0 j⟩

end

theorem wp_region_pre {P : Program} {id : Nat} {Q : Exit → Act → World → Prop} {a : Act} {w : World} {l : List Oper} (N K m : Nat) (L : Array Bool) (hm : P.follows .mixedOrders = true) (hs : Region.noSelect l.toArray = true) (hT : tailB .any l.toArray K = true) (hP : preFrom .any l.toArray K K 0 (Array.replicate l.toArray.size false) = true) (hL : preEnd K 0 (Array.replicate l.toArray.size false) = L) (hsz : l.length = K + m)
    (h : wpQuiet P l.toArray (fun w' => ∃ d : Grown N w, w' = d.w) (fun a' => ∀ w', (∃ d : Grown N w, w' = d.w) → wpAny P .any l.toArray Q m L a' w') (l.take K) a) : (Code.region id l.toArray true).wp P Q a w := by
  refine wp_region_any hm ?_
  have hlen : (l.take K).length = K := by rw [List.length_take]; omega
  have := wpPre_lex (P := P) (md := .any) (ops := l.toArray) (C := fun w' => ∃ d : Grown N w, w' = d.w) (K := K) (Q := fun fuel listed a' => ∀ w', (∃ d : Grown N w, w' = d.w) → wpAny P .any l.toArray Q fuel listed a' w') m hs hT (l.take K) 0 (Array.replicate l.toArray.size false) a (by rw [hlen]; omega) (fun j hj => by
    rw [hlen] at hj
    rw [Nat.zero_add, List.getElem?_take_of_lt hj]
    simp) (shut_none _ _ _ _) (by rw [hlen]; exact hP) (by rw [hlen, hL]; exact h)
  rw [hlen] at this
  have e : l.toArray.size = K + m := by rw [List.size_toArray]; exact hsz
  have hfin := wpAny_of_pre (Q' := Q) (fun fuel listed a w' hw hq => hq w' hw) (K + m) (Array.replicate l.toArray.size false) a w.drew ⟨⟨w.drew, (Below.refl N w).drew⟩, rfl⟩ this
  rw [← e] at hfin
  exact hfin

end Gr
end Go.Proofs.Ytldbanpfhlmjmaa

/-
  The contracts of impl.varForm and of the writer's put: numbers, one behind the other.
-/
namespace Go.Proofs.Ytldbanpfhlmjmaa
namespace Gr
open Go.RowKit

set_option maxRecDepth 100000 in
theorem varForm_any (x : Int) (h0 : 0 ≤ x) (h1 : x ≤ 1000000000) (w : World) :
    Calls Try.prog 74 #[.int .i64 x] w fun e w' => e = .returned (.string (vB x)) ∧ Below w.heap.size w w' := by
  obtain ⟨n, rfl⟩ := Int.eq_ofNat_of_zero_le h0
  have IV := hide (implVar_yes n (by omega) w)
  have e : vB (n : Int) = ⟨(varB 4 n).toArray⟩ := rfl
  rw [e]
  generalize (varB 4 n).toArray = t at IV
  clear e
  go_enter Try.func74, Try.ntmps74
  go_wp2_with fail
  refine (unhide IV).mono ?_
  rintro e w1 ⟨rfl, hb1⟩
  go_wp2
  go_ret
  exact ⟨rfl, hb1⟩

/-- A row of numbers that a writer in block b leaves alone. -/
def RowW (w : World) (B b : Nat) (a : Option Addr) (len : Nat) (L : List Int) : Prop :=
  L.length = len ∧ ∀ j (h : j < L.length), ∃ k off, a = some ⟨k, off, none⟩ ∧ w.cell? ⟨k, off + j, none⟩ = some (.int .i64 L[j]) ∧ k < w.heap.size ∧ (k < B ∨ (k ≠ b ∧ ∃ C t z, w.heap[k]? = some (.cells C t z) ∧ t ≠ 5))

theorem others_cell {w w' : World} {b k : Nat} (h : Lib.OthersKept 5 (some b) w w') (hk : k ≠ b) {C : Array Value} {t : TypeId} {z : Nat × Nat} (hc : w.heap[k]? = some (.cells C t z)) (ht : t ≠ 5) : w'.heap[k]? = some (.cells C t z) :=
  h k _ hc (fun e => hk (Option.some.inj e)) (fun c fz e => ht (by simp at e; exact e.2.1))

theorem cell_same {w w' : World} {k off : Nat} (h : w'.heap[k]? = w.heap[k]?) : w'.cell? ⟨k, off, none⟩ = w.cell? ⟨k, off, none⟩ := by
  unfold World.cell?
  simp only []
  rw [h]

theorem RowW.kept {w w' : World} {B b : Nat} {a : Option Addr} {len : Nat} {L : List Int} (h : RowW w B b a len L) (hb : Below B w w') (ho : Lib.OthersKept 5 (some b) w w') : RowW w' B b a len L := by
  refine ⟨h.1, fun j hj => ?_⟩
  obtain ⟨k, off, e, hc, hlt, hk⟩ := h.2 j hj
  rcases hk with hk | ⟨hk, C, t, z, h1, h2⟩
  · exact ⟨k, off, e, (hb.cell (p := ⟨k, off + j, none⟩) hk).trans hc, Nat.lt_of_lt_of_le hlt hb.size, .inl hk⟩
  · have h3 := others_cell ho hk h1 h2
    exact ⟨k, off, e, (cell_same (h3.trans h1.symm)).trans hc, Nat.lt_of_lt_of_le hlt hb.size, .inr ⟨hk, C, t, z, h3, h2⟩⟩

theorem RowW.below {w w' : World} {B b : Nat} {a : Option Addr} {len : Nat} {L : List Int} (h : RowW w B b a len L) (hb : Below w.heap.size w w') : RowW w' B b a len L := by
  refine ⟨h.1, fun j hj => ?_⟩
  obtain ⟨k, off, e, hc, hlt, hk⟩ := h.2 j hj
  refine ⟨k, off, e, (hb.cell (p := ⟨k, off + j, none⟩) hlt).trans hc, Nat.lt_of_lt_of_le hlt hb.size, ?_⟩
  rcases hk with hk | ⟨hk, C, t, z, h1, h2⟩
  · exact .inl hk
  · exact .inr ⟨hk, C, t, z, (hb.block k hlt).trans h1, h2⟩

theorem RowW.of_ints {w : World} {B b C : Nat} {a : Option Addr} {len : Nat} {L : List Int} (h : IntsAt w a len C L) (hC : C ≤ B) (hB : B ≤ w.heap.size) : RowW w B b a len L := by
  refine ⟨h.1, fun j hj => ?_⟩
  obtain ⟨k, off, e, hk, hc⟩ := h.2 j hj
  exact ⟨k, off, e, hc, by omega, .inl (by omega)⟩

/-- A row that was laid just now. -/
theorem RowW.new {w : World} {B b : Nat} {L : List Int} {cs : Array Value} (hcs : cs = (L.map (Value.int .i64)).toArray) (hb : b < w.heap.size) : RowW (w.alloc (.cells cs 3)) B b (some ⟨w.heap.size, 0, none⟩) L.length L := by
  refine ⟨rfl, fun j hj => ⟨w.heap.size, 0, rfl, ?_, by rw [alloc_size]; omega, .inr ⟨by omega, cs, 3, (0, 0), heap_alloc_new w _, by decide⟩⟩⟩
  have h : Blk (w.alloc (.cells cs 3)) w.heap.size cs 3 := Blk.new0
  rw [Nat.zero_add]
  exact h.cell j _ (by rw [hcs]; simp [hj])

theorem Wri.lt {w : World} {B b : Nat} {t : ByteArray} (h : Wri w B b t) : b < w.heap.size := by
  rcases h with h | h <;> exact h.lt

theorem Wri.base {w : World} {B b : Nat} {t : ByteArray} (h : Wri w B b t) : B ≤ b := by
  rcases h with h | h <;> exact h.1

theorem Wri.below {w w' : World} {B b : Nat} {t : ByteArray} (h : Wri w B b t) (hb : Below w.heap.size w w') : Wri w' B b t := by
  have key : ∀ p, Lib.BuilderAt 71 5 B b p (Lib.strCells t) w → Lib.BuilderAt 71 5 B b p (Lib.strCells t) w' := by
    intro p hp
    have hlt := hp.lt
    obtain ⟨hB, v, hbk, hown, hne⟩ := hp
    exact ⟨hB, v, (hb.block b hlt).trans hbk, own_below hown hb, hne⟩
  rcases h with h | h
  · exact .inl (key _ h)
  · exact .inr (key _ h)

theorem others_below {w w' : World} {b : Option Nat} (hb : Below w.heap.size w w') : Lib.OthersKept 5 b w w' := by
  intro k o hk _ _
  have hlt : k < w.heap.size := (Array.getElem?_eq_some_iff.1 hk).1
  exact (hb.block k hlt).trans hk

theorem intsB_take (t : ByteArray) (L : List Int) (j : Nat) (h : j < L.length) : intsB t (L.take (j + 1)) = intsB t (L.take j) ++ vB L[j] := by
  have key : ∀ (L : List Int) (t : ByteArray) (x : Int), intsB t (L ++ [x]) = intsB t L ++ vB x := by
    intro L
    induction L with
    | nil => intro t x; rfl
    | cons y r ih => intro t x; rw [List.cons_append, intsB, intsB, ih]
  rw [List.take_succ_eq_append_getElem h, key]

theorem intsB_size : ∀ (L : List Int) (t : ByteArray), (intsB t L).size ≤ t.size + 5 * L.length
  | [], t => by simp [intsB]
  | x :: r, t => by
    rw [intsB]
    have h1 := intsB_size r (t ++ vB x)
    have h2 := vB_size x
    rw [ByteArray.size_append] at h1
    rw [List.length_cons]
    omega

set_option maxRecDepth 100000 in
set_option maxHeartbeats 2000000 in
theorem put_any (B b : Nat) (t : ByteArray) (a : Option Addr) (len cap : Nat) (L : List Int) (hL : ∀ x ∈ L, 0 ≤ x ∧ x ≤ 1000000000) (ht : t.size + 5 * len ≤ 100000000000) (w : World) (hW : Wri w B b t) (hBw : B ≤ w.heap.size) (hr : RowW w B b a len L) :
    Calls Try.prog 48 #[.pointer (some ⟨b, 0, none⟩), .slice a len cap] w fun e w' => e = .returned (.tuple #[]) ∧ Wri w' B b (intsB t L) ∧ Below B w w' ∧ Lib.OthersKept 5 (some b) w w' := by
  have HW := hide hW
  have HR := hide hr
  have HL := hide hr.1
  clear hW hr
  go_enter Try.func48, Try.ntmps48
  go_wp2_with fail
  go_loopw [8] (fun i wr => ∃ j : Nat, i = .int .i64 j ∧ j ≤ len ∧ Hid (Wri wr B b (intsB t (L.take j))) ∧ Below B w wr ∧ Hid (Lib.OthersKept 5 (some b) w wr)) (fun i _ => len - (intOf i).toNat)
  case atStart => exact ⟨0, rfl, Nat.zero_le _, unhide HW, Below.refl _ _, Lib.OthersKept.refl _ _ _⟩
  case round =>
    obtain ⟨j, rfl, hj, hw, hb, ho⟩ := hrel
    by_cases hlt : j < len
    · have hjL : j < L.length := by have := unhide HL; omega
      have hr1 := (unhide HR).kept hb (unhide ho)
      obtain ⟨k, off, rfl, hcell, _, _⟩ := hr1.2 j hjL
      clear hr1
      have hx0 : (0 : Int) ≤ (j : Int) := by omega
      have hx1 : (j : Int) < (len : Int) := by omega
      have HS := hide (intsB_take t L j hjL)
      have hsz := intsB_size (L.take j) t
      have hsl : (L.take j).length ≤ len := by rw [List.length_take]; omega
      obtain ⟨y0, y1⟩ := hL L[j] (List.getElem_mem hjL)
      have hvs := vB_size L[j]
      have VF := hide (fun w1 => varForm_any L[j] y0 y1 w1)
      generalize L[j] = y at hcell HS VF hvs
      have hBr : B ≤ wr.heap.size := Nat.le_trans hBw hb.size
      have WS := hide (fun w1 (hb1 : Below wr.heap.size wr w1) => writeString_any B b (intsB t (L.take j)) (vB y) w1 ((unhide hw).below hb1) (by omega) (Nat.le_trans hBr hb1.size))
      generalize vB y = s at HS VF WS
      clear y0 y1 hsz hsl hvs
      go_wp2_with fail
      refine wp_region_pre wr.heap.size 5 1 #[true, true, true, true, true, false] (by kernel_rfl) (by kernel_rfl) (by kernel_rfl) (by kernel_rfl) (by kernel_rfl) (by kernel_rfl) ?_
      (try simp only [List.take_succ_cons, List.take_zero])
      repeat (go_big_quiet_step (first
        | (go_at_call 74; exact Calls.grown (Nat.le_refl _) (unhide VF _))))
      refine wpQuiet_nil ?_
      rintro w5 ⟨d5, rfl⟩
      obtain ⟨W5, hb5⟩ := d5
      dsimp only
      refine wpAny_ready (rs := [5]) (fuel := 0) (by kernel_rfl) (by simp) ?_
      refine AllReady.cons (i := 5) rfl (fun K hK => ?_) AllReady.nil
      go_simp
      refine (unhide WS W5 hb5).mono ?_
      rintro e w6 ⟨rfl, h6, b6, o6⟩
      refine hK _ _ ?_
      clear hK K
      refine ⟨by kernel_rfl, ?_⟩
      have HW6 := hide h6
      have B6 : Below B w w6 := hb.trans ((hb5.mono hBr).trans b6)
      have O6 := hide ((unhide ho).trans ((others_below hb5).trans o6))
      clear h6 b6 o6 hb5 W5
      go_wp2
      go_roundw
      case rel => exact ⟨j + 1, by go_num, by omega, by rw [unhide HS]; exact unhide HW6, B6, unhide O6⟩
      case measure => simp [intOf]; omega
    · obtain rfl : j = len := by omega
      have e : L.take j = L := by rw [List.take_of_length_le]; have := unhide HL; omega
      go_wp2
      go_end0
      refine ⟨rfl, ?_, hb, unhide ho⟩
      have := unhide hw
      rwa [e] at this

end Gr
end Go.Proofs.Ytldbanpfhlmjmaa

/-
  A number that is written is read back. Without a program.
-/
namespace Go.Proofs.Ytldbanpfhlmjmaa
open Go.RowKit

theorem byteAt_list (s : ByteArray) (i : Nat) : byteAt s i = ((s.data.toList)[i]?.map UInt8.toNat).getD 0 := by
  unfold byteAt
  split
  · rename_i h
    have h2 : i < s.data.toList.length := by simpa using h
    rw [List.getElem?_eq_getElem h2]
    rfl
  · rename_i h
    have h2 : s.data.toList.length ≤ i := by simpa using h
    rw [List.getElem?_eq_none h2]
    rfl

theorem byteAt_mk (l : List UInt8) (i : Nat) (h : i < l.length) : byteAt ⟨l.toArray⟩ i = (l[i]'h).toNat := by
  rw [byteAt_list]
  simp [List.getElem?_eq_getElem h]

theorem mix (m sc acc : Nat) : acc + m % 128 * sc + m / 128 * (sc * 128) = acc + m * sc := by
  have h : m / 128 * (sc * 128) = 128 * (m / 128) * sc := by
    rw [Nat.mul_comm sc 128, ← Nat.mul_assoc, Nat.mul_comm (m / 128) 128]
  have e : m % 128 * sc + 128 * (m / 128) * sc = m * sc := by
    rw [← Nat.add_mul, Nat.mod_add_div]
  rw [h, Nat.add_assoc, e]

theorem readV_var {s : ByteArray} {a n : Nat} (hn : n ≤ 1000000000) : ∀ (g m i acc sc f : Nat), m < 128 ^ (g + 1) → g < f → acc + m * sc = n →
    (∀ j (hj : j < (varB g m).length), byteAt s (i + j) = ((varB g m)[j]'hj).toNat) → i + (varB g m).length ≤ s.size → varB 4 n = (s.extract a (i + (varB g m).length)).toList →
    readV s a f i acc sc = some (n, i + (varB g m).length) := by
  intro g
  induction g with
  | zero =>
    intro m i acc sc f hm hf hacc hb hi hq
    obtain ⟨f, rfl⟩ : ∃ f', f = f' + 1 := ⟨f - 1, by omega⟩
    have hm7 : m ≤ 127 := by simp at hm; omega
    rw [varB_last 0 m hm7] at hb hi hq ⊢
    have hb0 := hb 0 (by simp)
    simp only [List.getElem_cons_zero, Nat.add_zero] at hb0
    rw [toNat_ofNat_small m (by omega)] at hb0
    simp only [List.length_cons, List.length_nil, Nat.zero_add] at hi hq ⊢
    have e : acc + byteAt s i % 128 * sc = n := by rw [hb0, Nat.mod_eq_of_lt (by omega)]; exact hacc
    rw [readV_yes (by omega) (by omega) (by rw [e]; omega) (by rw [e]; exact hq), e]
  | succ g ih =>
    intro m i acc sc f hm hf hacc hb hi hq
    obtain ⟨f, rfl⟩ : ∃ f', f = f' + 1 := ⟨f - 1, by omega⟩
    by_cases hm7 : m ≤ 127
    · rw [varB_last (g + 1) m hm7] at hb hi hq ⊢
      have hb0 := hb 0 (by simp)
      simp only [List.getElem_cons_zero, Nat.add_zero] at hb0
      rw [toNat_ofNat_small m (by omega)] at hb0
      simp only [List.length_cons, List.length_nil, Nat.zero_add] at hi hq ⊢
      have e : acc + byteAt s i % 128 * sc = n := by rw [hb0, Nat.mod_eq_of_lt (by omega)]; exact hacc
      rw [readV_yes (by omega) (by omega) (by rw [e]; omega) (by rw [e]; exact hq), e]
    · rw [varB_more g m (by omega)] at hb hi hq ⊢
      have hb0 := hb 0 (by simp)
      simp only [List.getElem_cons_zero, Nat.add_zero] at hb0
      rw [toNat_ofNat_small _ (by omega)] at hb0
      simp only [List.length_cons] at hi hq ⊢
      rw [readV_more (by omega) (by omega), hb0, show (m % 128 + 128) % 128 = m % 128 by omega]
      have hle : i + ((varB g (m / 128)).length + 1) = i + 1 + (varB g (m / 128)).length := by omega
      rw [hle] at hi hq ⊢
      refine ih (m / 128) (i + 1) (acc + m % 128 * sc) (sc * 128) f ?_ (by omega) ?_ ?_ hi hq
      · rw [Nat.div_lt_iff_lt_mul (by omega)]; rw [Nat.pow_succ] at hm; exact hm
      · rw [mix]; exact hacc
      · intro j hj
        have := hb (j + 1) (by simp; omega)
        simp only [List.getElem_cons_succ] at this
        rw [← this]
        congr 1
        omega

theorem extract_mid (p q r : List UInt8) : ((ByteArray.mk (p ++ q ++ r).toArray).extract p.length (p.length + q.length)).toList = q := by
  rw [ByteArray.toList_eq]
  simp

/-- A number behind p, ahead of r, is read back. -/
theorem readA_var (p r : List UInt8) (n : Nat) (hn : n ≤ 1000000000) : readA ⟨(p ++ varB 4 n ++ r).toArray⟩ (p.length : Int) = some (n, p.length + (varB 4 n).length) := by
  have hsz : (ByteArray.mk (p ++ varB 4 n ++ r).toArray).size = p.length + (varB 4 n).length + r.length := by simp [ByteArray.size]; omega
  rw [readA, if_pos ⟨by omega, by omega⟩, Int.toNat_natCast]
  refine readV_var hn 4 n p.length 0 1 5 (by omega) (by omega) (by omega) ?_ (by omega) ?_
  · intro j hj
    rw [byteAt_mk _ _ (by simp; omega)]
    congr 1
    rw [List.getElem_append_left (by simp; omega), List.getElem_append_right (by omega)]
    simp
  · exact (extract_mid p (varB 4 n) r).symm
end Go.Proofs.Ytldbanpfhlmjmaa
