/-
 SvZ0, SvQ0.
-/
import Derived.Test.YtnihoabminnbcaaJ36
import Derived.Test.YtnihoabminnbcaaJ33
import Derived.Test.YtnihoabminnbcaaJ34
import Derived.Test.YtnihoabminnbcaaJ12
namespace Go.Proofs.Ytnihoabminnbcaa
namespace Sv
open Go.RowKit Gr
abbrev St := List Int × List Nd × List Lk × Bool
def mostF : List EdgeI → Int → Int
  | [], m => m
  | e :: r, m => mostF r (if m < scal e then scal e else m)
theorem mostF_step (Q : List EdgeI) (j : Nat) (m : Int) (h : j < Q.length) : mostF (Q.drop j) m = mostF (Q.drop (j + 1)) (if m < scal Q[j] then scal Q[j] else m) := by
  rw [← List.getElem_cons_drop h]
  rfl
def runF (s : Nat) (Q : List EdgeI) : Nat → Nat → St → Nat × St
  | 0, k, x => (k, x)
  | f + 1, k, x => if x.2.2.2 = true then (k, x) else runF s Q f (k + 1) (rounded s Q x.1 x.2.1 x.2.2.1 x.2.2.2)
theorem runF_done (s : Nat) (Q : List EdgeI) (f k : Nat) (x : St) (h : x.2.2.2 = true) : runF s Q f k x = (k, x) := by
  cases f with
  | zero => rfl
  | succ f => rw [runF, if_pos h]
theorem runF_next (s : Nat) (Q : List EdgeI) (f k : Nat) (x : St) (h : x.2.2.2 = false) : runF s Q (f + 1) k x = runF s Q f (k + 1) (rounded s Q x.1 x.2.1 x.2.2.1 x.2.2.2) := by
  rw [runF, if_neg (by rw [h]; decide)]
def startS (s : Nat) (Q : List EdgeI) : St := (List.replicate s (mostF Q 0), nodes0 s, [], false)
def solved (s : Nat) (Q : List EdgeI) : Nat × St := runF s Q 20000 0 (startS s Q)
theorem runF_inv {s : Nat} {Q : List EdgeI} (hQ : ∀ e ∈ Q, e.A.toNat < s ∧ e.B.toNat < s) : ∀ (f k : Nat) (x : St), Inv s x.2.1 x.2.2.1 → x.2.1.length ≤ s + k → x.1.length = s →
    Inv s (runF s Q f k x).2.2.1 (runF s Q f k x).2.2.2.1 ∧ (runF s Q f k x).2.2.1.length ≤ s + (runF s Q f k x).1 ∧ (runF s Q f k x).2.1.length = s ∧ (runF s Q f k x).1 ≤ k + f
  | 0, k, x, I, h1, h2 => ⟨I, h1, h2, Nat.le_refl _⟩
  | f + 1, k, x, I, h1, h2 => by
    by_cases hd : x.2.2.2 = true
    · rw [runF_done s Q _ k x hd]
      exact ⟨I, h1, h2, by simp⟩
    · rw [runF_next s Q f k x (by simpa using hd)]
      obtain ⟨a, b, c⟩ := rounded_inv (y := x.1) (dn := x.2.2.2) I hQ
      obtain ⟨p, q, r, t⟩ := runF_inv hQ f (k + 1) _ a (by omega) (by omega)
      exact ⟨p, q, r, by omega⟩
theorem nodes0_len (s : Nat) : (nodes0 s).length = s := by simp [nodes0]
theorem solved_inv {s : Nat} {Q : List EdgeI} (hQ : ∀ e ∈ Q, e.A.toNat < s ∧ e.B.toNat < s) : Inv s (solved s Q).2.2.1 (solved s Q).2.2.2.1 ∧ (solved s Q).2.2.1.length ≤ s + (solved s Q).1 ∧ (solved s Q).2.1.length = s ∧ (solved s Q).1 ≤ 0 + 20000 :=
  runF_inv hQ 20000 0 (startS s Q) (inv0 s) (by show (nodes0 s).length ≤ _; rw [nodes0_len]; omega) (by simp [startS])
def yTo (s : Nat) (m : Int) (j : Nat) : List Int := (List.range s).map fun i => if i < j then m else 0
theorem yTo_len (s : Nat) (m : Int) (j : Nat) : (yTo s m j).length = s := by simp [yTo]
theorem yTo_zero (s : Nat) (m : Int) : yTo s m 0 = List.replicate s 0 := by
  refine List.eq_replicate_iff.2 ⟨by simp [yTo], fun b hb => ?_⟩
  obtain ⟨x, _, rfl⟩ := List.mem_map.1 hb
  simp
theorem yTo_end (s : Nat) (m : Int) : yTo s m s = List.replicate s m := by
  refine List.eq_replicate_iff.2 ⟨by simp [yTo], fun b hb => ?_⟩
  obtain ⟨x, hx, rfl⟩ := List.mem_map.1 hb
  rw [List.mem_range] at hx
  simp [hx]
theorem yTo_set {s j : Nat} (m : Int) : (yTo s m j).set j m = yTo s m (j + 1) := by
  refine List.ext_getElem (by simp [yTo]) fun i h1 h2 => ?_
  simp only [yTo, List.getElem_set, List.getElem_map, List.getElem_range]
  by_cases h : j = i
  · rw [if_pos h, if_pos (by omega)]
  · rw [if_neg h]
    by_cases h3 : i < j
    · rw [if_pos h3, if_pos (by omega)]
    · rw [if_neg h3, if_neg (by omega)]
theorem nodes0_snoc (j : Nat) : nodes0 (j + 1) = nodes0 j ++ [⟨[], [], j, 0, -1, false⟩] := by
  simp [nodes0, List.range_succ]
/-- A new run in memory. -/
theorem run_new {W : World} {b lo gy s cQ : Nat} {aQ : Option Addr} {Q : List EdgeI} {A : Array Value} (hs : s ≤ 1000000) (hA : A.toList = natsV (List.replicate s 0) ∧ A.size = s * 1) (hE : edgesAt W aQ Q.length lo Q) (h1 : W.heap[gy]? = some (.cells A 3)) (h2 : Blk W b #[.int .i64 (s : Int), .slice aQ Q.length cQ, .slice (some ⟨gy, 0, none⟩) s s, .slice none 0 0, .slice none 0 0, .int .i64 0, .bool false] 51) (l1 : lo ≤ gy) (l2 : lo ≤ b) :
    RunAt W b lo aQ cQ s Q (List.replicate s 0) [] [] 0 false ⟨.slice (some ⟨gy, 0, none⟩) s s, .slice none 0 0, .slice none 0 0, [], []⟩ := by
  have e : intsV (List.replicate s 0) = natsV (List.replicate s 0) := by simp [intsV, natsV]
  refine ⟨h2, hE, ?_, ⟨rfl, .inl ⟨rfl, rfl⟩⟩, ⟨rfl, .inl ⟨rfl, rfl⟩⟩, rfl, rfl, fun j h => by simp at h, fun j h => by simp at h, fun u hu => by simp at hu, fun u hu => by simp at hu, l2⟩
  rw [List.length_replicate, e]
  exact ⟨by simp [natsV], .inr ⟨gy, s, A, rfl, l1, h1, Nat.le_refl _, by unfold maxLen; omega, hA.2, by rw [hA.1, Nat.mul_one, List.take_of_length_le (by simp [natsV])]⟩⟩
theorem heap2 (w : World) (o1 o2 : Obj) : ((w.alloc o1).alloc o2).drew.heap[w.heap.size]? = some o1 ∧ ((w.alloc o1).alloc o2).drew.heap[w.heap.size + 1]? = some o2 := by
  have e : ((w.alloc o1).alloc o2).drew.heap = (w.heap.push o1).push o2 := rfl
  rw [e]
  refine ⟨?_, ?_⟩ <;> simp only [Array.getElem?_push, Array.size_push] <;> (repeat rw [if_neg (by omega)]) <;> exact if_pos trivial
theorem below2 (w : World) (o1 o2 : Obj) : Below w.heap.size w ((w.alloc o1).alloc o2).drew :=
  (((Below.refl w.heap.size w).alloc (Nat.le_refl _) o1).alloc (by simp) o2).drew
def isTopB (N : List Nd) (i : Nat) : Bool := !(nd N i).gone && decide (upA N i < 0)
/-- One way through the rings: each one that is a top is opened. -/
def openRow : List Nat → List Nd × List Lk → List Nd × List Lk
  | [], x => x
  | i :: r, x => openRow r (if isTopB x.1 i = true then (openN x.1 i, openM x.1 x.2 i) else x)
/-- .. as often as there are nodes. -/
def openK (s n : Nat) : Nat → List Nd × List Lk → List Nd × List Lk
  | 0, x => x
  | k + 1, x => openK s n k (openRow (List.range' s (n - s)) x)
theorem openStep_inv {s : Nat} {x : List Nd × List Lk} {i : Nat} (h : Inv s x.1 x.2) (hs : s ≤ i) (hi : i < x.1.length) :
    Inv s (if isTopB x.1 i = true then (openN x.1 i, openM x.1 x.2 i) else x).1 (if isTopB x.1 i = true then (openN x.1 i, openM x.1 x.2 i) else x).2 ∧ (if isTopB x.1 i = true then (openN x.1 i, openM x.1 x.2 i) else x).1.length = x.1.length := by
  by_cases ht : isTopB x.1 i = true
  · simp only [if_pos ht]
    unfold isTopB at ht
    simp only [Bool.and_eq_true, Bool.not_eq_true', decide_eq_true_eq] at ht
    exact ⟨open_inv h hs hi ht.1 ht.2, open_length _ _⟩
  · simp only [if_neg ht]
    exact ⟨h, trivial⟩
theorem openRow_inv {s : Nat} : ∀ (L : List Nat) (x : List Nd × List Lk), Inv s x.1 x.2 → (∀ i ∈ L, s ≤ i ∧ i < x.1.length) → Inv s (openRow L x).1 (openRow L x).2 ∧ (openRow L x).1.length = x.1.length
  | [], x, h, _ => ⟨h, rfl⟩
  | i :: r, x, h, hL => by
    obtain ⟨a, b⟩ := openStep_inv h (hL i (by simp)).1 (hL i (by simp)).2
    rw [openRow]
    obtain ⟨c, d⟩ := openRow_inv r _ a (fun j hj => by rw [b]; exact hL j (by simp [hj]))
    exact ⟨c, by rw [d, b]⟩
theorem openK_inv {s n : Nat} : ∀ (k : Nat) (x : List Nd × List Lk), Inv s x.1 x.2 → x.1.length = n → Inv s (openK s n k x).1 (openK s n k x).2 ∧ (openK s n k x).1.length = n
  | 0, x, h, e => ⟨h, e⟩
  | k + 1, x, h, e => by
    rw [openK]
    obtain ⟨a, b⟩ := openRow_inv (List.range' s (n - s)) x h (fun i hi => by rw [List.mem_range'_1] at hi; omega)
    exact openK_inv k _ a (by rw [b, e])
theorem openRow_step (n i : Nat) (x : List Nd × List Lk) (hi : i < n) : openRow (List.range' i (n - i)) x = openRow (List.range' (i + 1) (n - (i + 1))) (if isTopB x.1 i = true then (openN x.1 i, openM x.1 x.2 i) else x) := by
  rw [show n - i = (n - (i + 1)) + 1 by omega, List.range'_succ]
  rfl
/-- The couples that a mate edge gives at a vertex: as numbers. -/
def cplAt (v : Nat) (x : Lk) : List Lk := (if x.f = v ∧ v < x.t then [⟨v, x.t⟩] else []) ++ (if x.t = v ∧ v < x.f then [⟨v, x.f⟩] else [])
def cplRow (v : Nat) (M : List Lk) : List Lk := M.flatMap (cplAt v)
def cplTo (v : Nat) (M : List Lk) : List Lk := (List.range v).flatMap fun u => cplRow u M
theorem cplTo_next (v : Nat) (M : List Lk) : cplTo (v + 1) M = cplTo v M ++ cplRow v M := by
  unfold cplTo
  rw [List.range_succ, List.flatMap_append]
  simp
theorem cplRow_take (v : Nat) (M : List Lk) (i : Nat) (hi : i < M.length) : cplRow v (M.take (i + 1)) = cplRow v (M.take i) ++ cplAt v M[i] := by
  unfold cplRow
  rw [List.take_succ_eq_append_getElem hi, List.flatMap_append]
  simp
theorem cplAt_a (v f t : Nat) (h1 : f = v) (h2 : v < t) : cplAt v ⟨f, t⟩ = [⟨v, t⟩] := by
  unfold cplAt
  simp only
  rw [if_pos ⟨h1, h2⟩, if_neg (by omega)]
  rfl
theorem cplAt_b (v f t : Nat) (h1 : t = v) (h2 : v < f) : cplAt v ⟨f, t⟩ = [⟨v, f⟩] := by
  unfold cplAt
  simp only
  rw [if_neg (by omega), if_pos ⟨h1, h2⟩]
  rfl
theorem cplAt_c (v f t : Nat) (h1 : ¬ (f = v ∧ v < t)) (h2 : ¬ (t = v ∧ v < f)) : cplAt v ⟨f, t⟩ = [] := by
  unfold cplAt
  simp only
  rw [if_neg h1, if_neg h2]
  rfl
/-- What spec.Solve hands back of a right graph. -/
def solveM (s : Nat) (Q : List EdgeI) : List Lk :=
  cplTo s (openK s (solved s Q).2.2.1.length (solved s Q).2.2.1.length ((solved s Q).2.2.1, (solved s Q).2.2.2.1)).2
def solveY (s : Nat) (Q : List EdgeI) : List Int := (solved s Q).2.1
def solveG (s : Nat) (Q : List EdgeI) : List GrpI := groupsF s (solved s Q).2.2.1
end Sv
end Go.Proofs.Ytnihoabminnbcaa
