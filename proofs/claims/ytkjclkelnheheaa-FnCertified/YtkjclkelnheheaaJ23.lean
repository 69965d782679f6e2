/-
 SvL2, SvZ0, SvQ0, SvT0, SvT1, SvL3, SvL4, SvG1.
-/
import Derived.Test.YtkjclkelnheheaaJ22
import Derived.BigQuiet
import Derived.BigRegion
import Derived.Test.YtkjclkelnheheaaJ21
import Derived.Test.YtkjclkelnheheaaJ9
namespace Go.Proofs.Ytkjclkelnheheaa
namespace Sv
open Go.RowKit Gr
def tp0 (n : Nat) : Tp := ⟨List.replicate n 0, List.replicate n ⟨0, 0⟩, List.replicate n 0⟩
theorem made_nats (n : Nat) (A : Array Value) (hA : A = madeCells (Value.int .i64 0).cells (n * 1)) : A.toList = natsV (List.replicate n 0) ∧ A.size = n * 1 := by
  constructor
  · rw [hA]
    simp [madeCells, natsV, Value.cells]
    refine List.eq_replicate_iff.2 ⟨by simp, fun b hb => ?_⟩
    obtain ⟨x, _, rfl⟩ := List.mem_map.1 hb
    simp [Nat.mod_one]
  · rw [hA, size_madeCells]
theorem lksV_zero (n : Nat) : lksV (List.replicate n ⟨0, 0⟩) = List.replicate (n * 2) (.int .i64 0) := by
  induction n with
  | zero => rfl
  | succ n ih =>
    rw [List.replicate_succ]
    have e : lksV (⟨0, 0⟩ :: List.replicate n ⟨0, 0⟩) = .int .i64 ((0 : Nat) : Int) :: .int .i64 ((0 : Nat) : Int) :: lksV (List.replicate n ⟨0, 0⟩) := rfl
    rw [e, ih, show (n + 1) * 2 = n * 2 + 1 + 1 by omega, List.replicate_succ, List.replicate_succ]
    rfl
theorem made_links (n : Nat) (A : Array Value) (hA : A = madeCells (Value.agg #[.int .i64 0, .int .i64 0]).cells (n * 2)) : A.toList = lksV (List.replicate n ⟨0, 0⟩) ∧ A.size = n * 2 := by
  have e : (Value.agg #[.int .i64 0, .int .i64 0]).cells = #[.int .i64 0, .int .i64 0] := by kernel_rfl
  constructor
  · rw [hA, lksV_zero, e]
    refine List.eq_replicate_iff.2 ⟨by simp [madeCells], fun b hb => ?_⟩
    simp [madeCells] at hb
    obtain ⟨x, _, rfl⟩ := hb
    rcases Nat.mod_two_eq_zero_or_one x with h | h <;> rw [h] <;> rfl
  · rw [hA, size_madeCells]
theorem heap4 (w : World) (o1 o2 o3 o4 : Obj) : ((((w.alloc o1).alloc o2).alloc o3).alloc o4).drew.heap[w.heap.size]? = some o1 ∧ ((((w.alloc o1).alloc o2).alloc o3).alloc o4).drew.heap[w.heap.size + 1]? = some o2 ∧ ((((w.alloc o1).alloc o2).alloc o3).alloc o4).drew.heap[w.heap.size + 1 + 1]? = some o3 ∧ ((((w.alloc o1).alloc o2).alloc o3).alloc o4).drew.heap[w.heap.size + 1 + 1 + 1]? = some o4 := by
  have e : ((((w.alloc o1).alloc o2).alloc o3).alloc o4).drew.heap = (((w.heap.push o1).push o2).push o3).push o4 := rfl
  rw [e]
  refine ⟨?_, ?_, ?_, ?_⟩ <;> simp only [Array.getElem?_push, Array.size_push] <;> (repeat rw [if_neg (by omega)]) <;> exact if_pos trivial
theorem below4 (w : World) (o1 o2 o3 o4 : Obj) : Below w.heap.size w ((((w.alloc o1).alloc o2).alloc o3).alloc o4).drew :=
  (((((Below.refl w.heap.size w).alloc (Nat.le_refl _) o1).alloc (by simp) o2).alloc (by simp; omega) o3).alloc (by simp; omega) o4).drew
theorem tpw_new {W : World} {n bt gl ga gr lo : Nat} {A B : Array Value} (hn : n ≤ 1000000) (hA : A.toList = natsV (List.replicate n 0) ∧ A.size = n * 1) (hB : B.toList = lksV (List.replicate n ⟨0, 0⟩) ∧ B.size = n * 2)
    (h1 : W.heap[gl]? = some (.cells A 3)) (h2 : W.heap[ga]? = some (.cells B 83)) (h3 : W.heap[gr]? = some (.cells A 3)) (h4 : Blk W bt #[.slice (some ⟨gl, 0, none⟩) n n, .slice (some ⟨ga, 0, none⟩) n n, .slice (some ⟨gr, 0, none⟩) n n] 122) (l1 : lo ≤ gl) (l2 : lo ≤ ga) (l3 : lo ≤ gr) (l4 : lo ≤ bt) (hne : gl ≠ gr) :
    TpW W bt lo (tp0 n) (.slice (some ⟨gl, 0, none⟩) n n) (.slice (some ⟨ga, 0, none⟩) n n) (.slice (some ⟨gr, 0, none⟩) n n) := by
  have na : ∀ g, lo ≤ g → W.heap[g]? = some (.cells A 3) → NaOwn W lo (.slice (some ⟨g, 0, none⟩) n n) (List.replicate n 0) := fun g hl hg => by
    show World.ownsRow _ _ _ _ _ _ _
    rw [List.length_replicate]
    exact ⟨by simp [natsV], .inr ⟨g, n, A, rfl, hl, hg, Nat.le_refl _, by unfold maxLen; omega, hA.2, by rw [hA.1, Nat.mul_one, List.take_of_length_le (by simp [natsV])]⟩⟩
  refine ⟨⟨h4, na gl l1 h1, ?_, na gr l3 h3⟩, fun g h5 h6 => ?_, l4⟩
  · show World.ownsRow _ _ _ _ _ _ _
    show World.ownsRow W lo 83 2 _ (List.replicate n (⟨0, 0⟩ : Lk)).length (lksV (List.replicate n ⟨0, 0⟩))
    rw [List.length_replicate]
    exact ⟨by rw [lksV_length]; simp, .inr ⟨ga, n, B, rfl, l2, h2, Nat.le_refl _, by unfold maxLen; omega, hB.2, by rw [hB.1, List.take_of_length_le (by rw [lksV_length]; simp)]⟩⟩
  · simp [Value.ownBlock] at h5 h6
    omega
def tpTo (N : List Nd) (M : List Lk) (i : Nat) : Tp :=
  ⟨(List.range N.length).map fun j => if j < i ∧ ((nd N j).gone = false ∧ upA N j < 0 ∧ mateOf N M j = none) then 1 else 0, (List.range N.length).map fun _ => ⟨0, 0⟩, (List.range N.length).map fun j => if j < i ∧ ((nd N j).gone = false ∧ upA N j < 0 ∧ mateOf N M j = none) then j else 0⟩
theorem tpTo_zero (N : List Nd) (M : List Lk) : tpTo N M 0 = tp0 N.length := by
  unfold tpTo tp0
  congr 1
  all_goals
    refine List.eq_replicate_iff.2 ⟨by simp, fun b hb => ?_⟩
    obtain ⟨x, _, rfl⟩ := List.mem_map.1 hb
    simp
theorem tpTo_end (N : List Nd) (M : List Lk) : tpTo N M N.length = label0 N M := by
  unfold tpTo label0
  congr 1
  all_goals
    refine List.map_congr_left (fun j hj => ?_)
    have hj' : j < N.length := List.mem_range.1 hj
    simp [hj']
theorem tpTo_no (N : List Nd) (M : List Lk) (i : Nat) (h : ¬ ((nd N i).gone = false ∧ upA N i < 0 ∧ mateOf N M i = none)) : tpTo N M (i + 1) = tpTo N M i := by
  unfold tpTo
  congr 1
  all_goals
    refine List.map_congr_left (fun j _ => ?_)
    by_cases e : j = i
    · subst e
      rw [if_neg (fun g => h g.2), if_neg (fun g => h g.2)]
    · by_cases l : j < i
      · simp only [l, show j < i + 1 by omega]
      · simp only [l, show ¬ j < i + 1 by omega]
theorem map_set_range {n i : Nat} {f g : Nat → Nat} {v : Nat} (h1 : ∀ j, j ≠ i → f j = g j) (h2 : f i = v) : (List.range n).map f = ((List.range n).map g).set i v := by
  apply List.ext_getElem
  · simp
  · intro j a b
    rw [List.getElem_set]
    by_cases e : i = j
    · subst e; simp [h2]
    · rw [if_neg e]; simp; exact h1 j (fun h => e h.symm)
theorem tpTo_yes (N : List Nd) (M : List Lk) (i : Nat) (h : (nd N i).gone = false ∧ upA N i < 0 ∧ mateOf N M i = none) : tpTo N M (i + 1) = { { tpTo N M i with label := (tpTo N M i).label.set i 1 } with root := (tpTo N M i).root.set i i } := by
  unfold tpTo
  simp only
  congr 1
  · refine map_set_range (fun j hj => ?_) (by rw [if_pos ⟨by omega, h⟩])
    by_cases l : j < i
    · simp only [l, show j < i + 1 by omega]
    · simp only [l, show ¬ j < i + 1 by omega]
  · refine map_set_range (fun j hj => ?_) (by rw [if_pos ⟨by omega, h⟩])
    by_cases l : j < i
    · simp only [l, show j < i + 1 by omega]
    · simp only [l, show ¬ j < i + 1 by omega]
theorem tpTo_len (N : List Nd) (M : List Lk) (i : Nat) : (tpTo N M i).label.length = N.length ∧ (tpTo N M i).ahead.length = N.length ∧ (tpTo N M i).root.length = N.length := by
  simp [tpTo]
abbrev St := List Int × List Nd × List Lk × Bool
def mostF : List EdgeI → Int → Int
  | [], m => m
  | e :: r, m => mostF r (if m < scal e then scal e else m)
theorem mostF_step (Q : List EdgeI) (j : Nat) (m : Int) (h : j < Q.length) : mostF (Q.drop j) m = mostF (Q.drop (j + 1)) (if m < scal Q[j] then scal Q[j] else m) := by
  rw [← List.getElem_cons_drop h]
  rfl
def runF (s : Nat) (Q : List EdgeI) : Nat → Nat → St → Nat × St
  | 0, k, x => (k, x)
  | f + 1, k, x => if x.2.2.2 = true then (k, x) else runF s Q f (k + 1) (rounded s Q x.1 x.2.1 x.2.2.1 x.2.2.2)
theorem runF_done (s : Nat) (Q : List EdgeI) (f k : Nat) (x : St) (h : x.2.2.2 = true) : runF s Q f k x = (k, x) := by
  cases f with
  | zero => rfl
  | succ f => rw [runF, if_pos h]
theorem runF_next (s : Nat) (Q : List EdgeI) (f k : Nat) (x : St) (h : x.2.2.2 = false) : runF s Q (f + 1) k x = runF s Q f (k + 1) (rounded s Q x.1 x.2.1 x.2.2.1 x.2.2.2) := by
  rw [runF, if_neg (by rw [h]; decide)]
def startS (s : Nat) (Q : List EdgeI) : St := (List.replicate s (mostF Q 0), nodes0 s, [], false)
def solved (s : Nat) (Q : List EdgeI) : Nat × St := runF s Q 20000 0 (startS s Q)
theorem runF_inv {s : Nat} {Q : List EdgeI} (hQ : ∀ e ∈ Q, e.A.toNat < s ∧ e.B.toNat < s) : ∀ (f k : Nat) (x : St), Inv s x.2.1 x.2.2.1 → x.2.1.length ≤ s + k → x.1.length = s →
    Inv s (runF s Q f k x).2.2.1 (runF s Q f k x).2.2.2.1 ∧ (runF s Q f k x).2.2.1.length ≤ s + (runF s Q f k x).1 ∧ (runF s Q f k x).2.1.length = s ∧ (runF s Q f k x).1 ≤ k + f
  | 0, k, x, I, h1, h2 => ⟨I, h1, h2, Nat.le_refl _⟩
  | f + 1, k, x, I, h1, h2 => by
    by_cases hd : x.2.2.2 = true
    · rw [runF_done s Q _ k x hd]
      exact ⟨I, h1, h2, by simp⟩
    · rw [runF_next s Q f k x (by simpa using hd)]
      obtain ⟨a, b, c⟩ := rounded_inv (y := x.1) (dn := x.2.2.2) I hQ
      obtain ⟨p, q, r, t⟩ := runF_inv hQ f (k + 1) _ a (by omega) (by omega)
      exact ⟨p, q, r, by omega⟩
theorem nodes0_len (s : Nat) : (nodes0 s).length = s := by simp [nodes0]
theorem solved_inv {s : Nat} {Q : List EdgeI} (hQ : ∀ e ∈ Q, e.A.toNat < s ∧ e.B.toNat < s) : Inv s (solved s Q).2.2.1 (solved s Q).2.2.2.1 ∧ (solved s Q).2.2.1.length ≤ s + (solved s Q).1 ∧ (solved s Q).2.1.length = s ∧ (solved s Q).1 ≤ 0 + 20000 :=
  runF_inv hQ 20000 0 (startS s Q) (inv0 s) (by show (nodes0 s).length ≤ _; rw [nodes0_len]; omega) (by simp [startS])
def yTo (s : Nat) (m : Int) (j : Nat) : List Int := (List.range s).map fun i => if i < j then m else 0
theorem yTo_len (s : Nat) (m : Int) (j : Nat) : (yTo s m j).length = s := by simp [yTo]
theorem yTo_zero (s : Nat) (m : Int) : yTo s m 0 = List.replicate s 0 := by
  refine List.eq_replicate_iff.2 ⟨by simp [yTo], fun b hb => ?_⟩
  obtain ⟨x, _, rfl⟩ := List.mem_map.1 hb
  simp
theorem yTo_end (s : Nat) (m : Int) : yTo s m s = List.replicate s m := by
  refine List.eq_replicate_iff.2 ⟨by simp [yTo], fun b hb => ?_⟩
  obtain ⟨x, hx, rfl⟩ := List.mem_map.1 hb
  rw [List.mem_range] at hx
  simp [hx]
theorem yTo_set {s j : Nat} (m : Int) : (yTo s m j).set j m = yTo s m (j + 1) := by
  refine List.ext_getElem (by simp [yTo]) fun i h1 h2 => ?_
  simp only [yTo, List.getElem_set, List.getElem_map, List.getElem_range]
  by_cases h : j = i
  · rw [if_pos h, if_pos (by omega)]
  · rw [if_neg h]
    by_cases h3 : i < j
    · rw [if_pos h3, if_pos (by omega)]
    · rw [if_neg h3, if_neg (by omega)]
theorem nodes0_snoc (j : Nat) : nodes0 (j + 1) = nodes0 j ++ [⟨[], [], j, 0, -1, false⟩] := by
  simp [nodes0, List.range_succ]
theorem run_new {W : World} {b lo gy s cQ : Nat} {aQ : Option Addr} {Q : List EdgeI} {A : Array Value} (hs : s ≤ 1000000) (hA : A.toList = natsV (List.replicate s 0) ∧ A.size = s * 1) (hE : edgesAt W aQ Q.length lo Q) (h1 : W.heap[gy]? = some (.cells A 3)) (h2 : Blk W b #[.int .i64 (s : Int), .slice aQ Q.length cQ, .slice (some ⟨gy, 0, none⟩) s s, .slice none 0 0, .slice none 0 0, .int .i64 0, .bool false] 78) (l1 : lo ≤ gy) (l2 : lo ≤ b) :
    RunAt W b lo aQ cQ s Q (List.replicate s 0) [] [] 0 false ⟨.slice (some ⟨gy, 0, none⟩) s s, .slice none 0 0, .slice none 0 0, [], []⟩ := by
  have e : intsV (List.replicate s 0) = natsV (List.replicate s 0) := by simp [intsV, natsV]
  refine ⟨h2, hE, ?_, ⟨rfl, .inl ⟨rfl, rfl⟩⟩, ⟨rfl, .inl ⟨rfl, rfl⟩⟩, rfl, rfl, fun j h => by simp at h, fun j h => by simp at h, fun u hu => by simp at hu, fun u hu => by simp at hu, l2⟩
  rw [List.length_replicate, e]
  exact ⟨by simp [natsV], .inr ⟨gy, s, A, rfl, l1, h1, Nat.le_refl _, by unfold maxLen; omega, hA.2, by rw [hA.1, Nat.mul_one, List.take_of_length_le (by simp [natsV])]⟩⟩
theorem heap2 (w : World) (o1 o2 : Obj) : ((w.alloc o1).alloc o2).drew.heap[w.heap.size]? = some o1 ∧ ((w.alloc o1).alloc o2).drew.heap[w.heap.size + 1]? = some o2 := by
  have e : ((w.alloc o1).alloc o2).drew.heap = (w.heap.push o1).push o2 := rfl
  rw [e]
  refine ⟨?_, ?_⟩ <;> simp only [Array.getElem?_push, Array.size_push] <;> (repeat rw [if_neg (by omega)]) <;> exact if_pos trivial
theorem below2 (w : World) (o1 o2 : Obj) : Below w.heap.size w ((w.alloc o1).alloc o2).drew :=
  (((Below.refl w.heap.size w).alloc (Nat.le_refl _) o1).alloc (by simp) o2).drew
def isTopB (N : List Nd) (i : Nat) : Bool := !(nd N i).gone && decide (upA N i < 0)
def openRow : List Nat → List Nd × List Lk → List Nd × List Lk
  | [], x => x
  | i :: r, x => openRow r (if isTopB x.1 i = true then (openN x.1 i, openM x.1 x.2 i) else x)
def openK (s n : Nat) : Nat → List Nd × List Lk → List Nd × List Lk
  | 0, x => x
  | k + 1, x => openK s n k (openRow (List.range' s (n - s)) x)
theorem openStep_inv {s : Nat} {x : List Nd × List Lk} {i : Nat} (h : Inv s x.1 x.2) (hs : s ≤ i) (hi : i < x.1.length) :
    Inv s (if isTopB x.1 i = true then (openN x.1 i, openM x.1 x.2 i) else x).1 (if isTopB x.1 i = true then (openN x.1 i, openM x.1 x.2 i) else x).2 ∧ (if isTopB x.1 i = true then (openN x.1 i, openM x.1 x.2 i) else x).1.length = x.1.length := by
  by_cases ht : isTopB x.1 i = true
  · simp only [if_pos ht]
    unfold isTopB at ht
    simp only [Bool.and_eq_true, Bool.not_eq_true', decide_eq_true_eq] at ht
    exact ⟨open_inv h hs hi ht.1 ht.2, open_length _ _⟩
  · simp only [if_neg ht]
    exact ⟨h, trivial⟩
theorem openRow_inv {s : Nat} : ∀ (L : List Nat) (x : List Nd × List Lk), Inv s x.1 x.2 → (∀ i ∈ L, s ≤ i ∧ i < x.1.length) → Inv s (openRow L x).1 (openRow L x).2 ∧ (openRow L x).1.length = x.1.length
  | [], x, h, _ => ⟨h, rfl⟩
  | i :: r, x, h, hL => by
    obtain ⟨a, b⟩ := openStep_inv h (hL i (by simp)).1 (hL i (by simp)).2
    rw [openRow]
    obtain ⟨c, d⟩ := openRow_inv r _ a (fun j hj => by rw [b]; exact hL j (by simp [hj]))
    exact ⟨c, by rw [d, b]⟩
theorem openK_inv {s n : Nat} : ∀ (k : Nat) (x : List Nd × List Lk), Inv s x.1 x.2 → x.1.length = n → Inv s (openK s n k x).1 (openK s n k x).2 ∧ (openK s n k x).1.length = n
  | 0, x, h, e => ⟨h, e⟩
  | k + 1, x, h, e => by
    rw [openK]
    obtain ⟨a, b⟩ := openRow_inv (List.range' s (n - s)) x h (fun i hi => by rw [List.mem_range'_1] at hi; omega)
    exact openK_inv k _ a (by rw [b, e])
theorem openRow_step (n i : Nat) (x : List Nd × List Lk) (hi : i < n) : openRow (List.range' i (n - i)) x = openRow (List.range' (i + 1) (n - (i + 1))) (if isTopB x.1 i = true then (openN x.1 i, openM x.1 x.2 i) else x) := by
  rw [show n - i = (n - (i + 1)) + 1 by omega, List.range'_succ]
  rfl
def cplAt (v : Nat) (x : Lk) : List Lk := (if x.f = v ∧ v < x.t then [⟨v, x.t⟩] else []) ++ (if x.t = v ∧ v < x.f then [⟨v, x.f⟩] else [])
def cplRow (v : Nat) (M : List Lk) : List Lk := M.flatMap (cplAt v)
def cplTo (v : Nat) (M : List Lk) : List Lk := (List.range v).flatMap fun u => cplRow u M
theorem cplTo_next (v : Nat) (M : List Lk) : cplTo (v + 1) M = cplTo v M ++ cplRow v M := by
  unfold cplTo
  rw [List.range_succ, List.flatMap_append]
  simp
theorem cplRow_take (v : Nat) (M : List Lk) (i : Nat) (hi : i < M.length) : cplRow v (M.take (i + 1)) = cplRow v (M.take i) ++ cplAt v M[i] := by
  unfold cplRow
  rw [List.take_succ_eq_append_getElem hi, List.flatMap_append]
  simp
theorem cplAt_a (v f t : Nat) (h1 : f = v) (h2 : v < t) : cplAt v ⟨f, t⟩ = [⟨v, t⟩] := by
  unfold cplAt
  simp only
  rw [if_pos ⟨h1, h2⟩, if_neg (by omega)]
  rfl
theorem cplAt_b (v f t : Nat) (h1 : t = v) (h2 : v < f) : cplAt v ⟨f, t⟩ = [⟨v, f⟩] := by
  unfold cplAt
  simp only
  rw [if_neg (by omega), if_pos ⟨h1, h2⟩]
  rfl
theorem cplAt_c (v f t : Nat) (h1 : ¬ (f = v ∧ v < t)) (h2 : ¬ (t = v ∧ v < f)) : cplAt v ⟨f, t⟩ = [] := by
  unfold cplAt
  simp only
  rw [if_neg h1, if_neg h2]
  rfl
def solveM (s : Nat) (Q : List EdgeI) : List Lk :=
  cplTo s (openK s (solved s Q).2.2.1.length (solved s Q).2.2.1.length ((solved s Q).2.2.1, (solved s Q).2.2.2.1)).2
def solveY (s : Nat) (Q : List EdgeI) : List Int := (solved s Q).2.1
def solveG (s : Nat) (Q : List EdgeI) : List GrpI := groupsF s (solved s Q).2.2.1
end Sv
end Go.Proofs.Ytkjclkelnheheaa
namespace Go.Proofs.Ytkjclkelnheheaa
namespace Sv
open Gr
theorem len_of_sub {α : Type} [BEq α] [LawfulBEq α] : ∀ (L M : List α), L.Nodup → (∀ x ∈ L, x ∈ M) → L.length ≤ M.length
  | [], _, _, _ => Nat.zero_le _
  | x :: r, M, hn, hs => by
    have hxM := hs x List.mem_cons_self
    rw [List.nodup_cons] at hn
    have h := len_of_sub r (M.erase x) hn.2 (fun y hy => (List.mem_erase_of_ne (fun (e : y = x) => hn.1 (by rw [← e]; exact hy))).2 (hs y (List.mem_cons_of_mem _ hy)))
    have h2 := List.length_erase_of_mem hxM
    have h3 : 0 < M.length := List.length_pos_of_mem hxM
    rw [List.length_cons]
    omega
theorem even_of_pairs (μ : Nat → Nat) : ∀ (n : Nat) (L : List Nat), L.length ≤ n → L.Nodup → (∀ x ∈ L, μ x ∈ L ∧ μ (μ x) = x ∧ μ x ≠ x) → L.length % 2 = 0
  | 0, L, h, _, _ => by have : L.length = 0 := by omega
                        rw [this]
  | n + 1, [], _, _, _ => rfl
  | n + 1, x :: r, h, hn, hp => by
    obtain ⟨h1, h2, h3⟩ := hp x List.mem_cons_self
    have hr : μ x ∈ r := by
      rcases List.mem_cons.1 h1 with h | h
      · exact absurd h h3
      · exact h
    have hn' := List.nodup_cons.1 hn
    have hl := List.length_erase_of_mem hr
    have hpos : 0 < r.length := List.length_pos_of_mem hr
    rw [List.length_cons] at h
    have ih := even_of_pairs μ n (r.erase (μ x)) (by omega) (hn'.2.erase _) (fun y hy => by
      have hyr := List.mem_of_mem_erase hy
      have hyne : y ≠ μ x := fun e => by subst e; exact hn'.2.not_mem_erase hy
      obtain ⟨g1, g2, g3⟩ := hp y (List.mem_cons_of_mem _ hyr)
      refine ⟨?_, g2, g3⟩
      have e1 : μ y ≠ μ x := fun e => by
        have : y = x := by rw [← g2, e, h2]
        exact hn'.1 (by rw [← this]; exact hyr)
      have e2 : μ y ≠ x := fun e => hyne (by rw [← g2, e])
      rw [List.mem_erase_of_ne e1]
      rcases List.mem_cons.1 g1 with h | h
      · exact absurd h e2
      · exact h)
    rw [List.length_cons]
    omega
theorem win_trans {N : List Nd} (hU : Ups N) {p q : Nat} (hqp : win N q p = true) : ∀ v, v < N.length → win N v q = true → win N v p = true := by
  refine up_induct hU (fun v hv h hw => ?_) (fun v hv h h2 h3 ih hw => ?_)
  · by_cases e : v = q
    · rw [e]; exact hqp
    · rw [win_no h e] at hw; cases hw
  · by_cases e : v = q
    · rw [e]; exact hqp
    · rw [win_up hU hv h e] at hw
      by_cases ep : v = p
      · rw [ep]; exact win_self _ _
      · rw [win_up hU hv h ep]; exact ih hw
theorem win_of_up {N : List Nd} (hU : Ups N) {q p : Nat} (hq : q < N.length) (h : upA N q = (p : Int)) : win N q p = true := by
  by_cases e : q = p
  · rw [e]; exact win_self _ _
  · rw [win_up hU hq (by omega) e, h, Int.toNat_natCast]; exact win_self _ _
theorem win_ge {N : List Nd} (hU : Ups N) {p : Nat} : ∀ v, v < N.length → win N v p = true → v ≤ p := by
  refine up_induct hU (fun v hv h hw => ?_) (fun v hv h h2 h3 ih hw => ?_)
  · by_cases e : v = p
    · omega
    · rw [win_no h e] at hw; cases hw
  · by_cases e : v = p
    · omega
    · rw [win_up hU hv h e] at hw
      have := ih hw; omega
theorem win_chain {N : List Nd} (hU : Ups N) {p q : Nat} : ∀ v, v < N.length → win N v p = true → win N v q = true → win N p q = true ∨ win N q p = true := by
  refine up_induct hU (fun v hv h h1 h2 => ?_) (fun v hv h h2 h3 ih g1 g2 => ?_)
  · by_cases e : v = p
    · subst e; exact .inl h2
    · rw [win_no h e] at h1; cases h1
  · by_cases e : v = p
    · subst e; exact .inl g2
    · by_cases e2 : v = q
      · subst e2; exact .inr g1
      · rw [win_up hU hv h e] at g1
        rw [win_up hU hv h e2] at g2
        exact ih g1 g2
theorem win_below {N : List Nd} (hU : Ups N) {p : Nat} : ∀ v, v < N.length → win N v p = true → v ≠ p → ∃ q, q < N.length ∧ upA N q = (p : Int) ∧ win N v q = true := by
  refine up_induct hU (fun v hv h hw hne => ?_) (fun v hv h h2 h3 ih hw hne => ?_)
  · rw [win_no h hne] at hw; cases hw
  · rw [win_up hU hv h hne] at hw
    by_cases e : (upA N v).toNat = p
    · exact ⟨v, hv, by omega, win_self _ _⟩
    · obtain ⟨q, hq, h5, h6⟩ := ih hw e
      refine ⟨q, hq, h5, ?_⟩
      by_cases e2 : v = q
      · rw [e2]; exact win_self _ _
      · rw [win_up hU hv h e2]; exact h6
theorem win_apart {N : List Nd} (hU : Ups N) {p q r v : Nat} (hv : v < N.length) (hq : q < N.length) (hr : r < N.length) (h1 : upA N q = (p : Int)) (h2 : upA N r = (p : Int)) (g1 : win N v q = true) (g2 : win N v r = true) : q = r := by
  have key : ∀ q r, q < N.length → upA N q = (p : Int) → upA N r = (p : Int) → r < N.length → win N q r = true → q = r := by
    intro q r hq h1 h2 hr hw
    apply Classical.byContradiction
    intro hne
    rw [win_up hU hq (by omega) hne, h1, Int.toNat_natCast] at hw
    have hp : p < N.length := by rcases hU q hq with h | h <;> omega
    have a := win_ge hU p hp hw
    rcases hU r hr with h | h <;> omega
  rcases win_chain hU v hv g1 g2 with h | h
  · exact key q r hq h1 h2 hr h
  · exact (key r q hr h2 h1 hq h).symm
section
variable {s : Nat} {N : List Nd} {M : List Lk}
theorem win_vertex (I : Inv s N M) {v p : Nat} (hv : v < N.length) (hp : p < s) (h : win N v p = true) : v = p := by
  apply Classical.byContradiction
  intro hne
  obtain ⟨q, hq, h1, _⟩ := win_below I.ups v hv h hne
  have := (I.ali q hq (by omega)).2
  omega
theorem live_up (I : Inv s N M) {p : Nat} (hp : (nd N p).gone = false) : ∀ v, v < N.length → win N v p = true → (nd N v).gone = false := by
  intro v hv hw
  by_cases e : v = p
  · rw [e]; exact hp
  · cases hg : (nd N v).gone with
    | false => rfl
    | true =>
      have := I.gon v hv hg
      rw [win_no this e] at hw; cases hw
theorem has_vertex (I : Inv s N M) : ∀ (k p : Nat), p ≤ k → p < N.length → (nd N p).gone = false → ∃ v, v < s ∧ win N v p = true
  | 0, p, hk, hp, hg => by
    by_cases hs : p < s
    · exact ⟨p, hs, win_self _ _⟩
    · have R := I.rings p (by omega) hp hg
      have h1 : 0 < (nd N p).ring.length := by have := R.odd; omega
      have := (R.mem _ (List.getElem_mem h1)).1
      omega
  | k + 1, p, hk, hp, hg => by
    by_cases hs : p < s
    · exact ⟨p, hs, win_self _ _⟩
    · have R := I.rings p (by omega) hp hg
      have h1 : 0 < (nd N p).ring.length := by have := R.odd; omega
      obtain ⟨h2, h3⟩ := R.mem _ (List.getElem_mem h1)
      have hx : (nd N p).ring[0] < N.length := by omega
      have hgx : (nd N (nd N p).ring[0]).gone = false := by
        cases hgo : (nd N (nd N p).ring[0]).gone with
        | false => rfl
        | true => have := I.gon _ hx hgo; omega
      obtain ⟨v, hv, hw⟩ := has_vertex I k _ (by omega) hx hgx
      have hge := I.ge
      exact ⟨v, hv, win_trans I.ups (win_of_up I.ups hx h3) v (by omega) hw⟩
theorem member_of (I : Inv s N M) {p v : Nat} (hv : v < N.length) (hw : win N v p = true) (hne : v ≠ p) : ∃ q ∈ (nd N p).ring, win N v q = true := by
  obtain ⟨q, hq, h1, h2⟩ := win_below I.ups v hv hw hne
  have := I.inr q hq (by omega)
  rw [h1, Int.toNat_natCast] at this
  exact ⟨q, this, h2⟩
end
theorem shrink_win_eq {N : List Nd} {L : List Nat} {x : Nd} (hU : Ups N) (hL : ∀ v ∈ L, v < N.length ∧ upA N v < 0) (hx : x.up = -1) {y : Nat} (hy : y ≠ N.length) : ∀ v, v < N.length → win (shrinkN N L x) v y = win N v y := by
  have hL' : ∀ v ∈ L, v < N.length := fun v hv => (hL v hv).1
  have hU' := shrink_ups hU hL' hx (x := x)
  have hnew : upA (shrinkN N L x) N.length < 0 := by rw [shrink_up hL', if_pos rfl, hx]; decide
  refine up_induct hU (fun v hv h => ?_) (fun v hv h h2 h3 ih => ?_)
  · by_cases e : v = y
    · rw [e, win_self, win_self]
    · rw [win_no h e]
      by_cases h2 : v ∈ L
      · have e2 : upA (shrinkN N L x) v = (N.length : Int) := by rw [shrink_up hL', if_neg (by omega), if_pos h2]
        rw [win_up hU' (by rw [shrink_length]; omega) (by rw [e2]; omega) e, e2, Int.toNat_natCast]
        exact win_no hnew (fun e => hy e.symm)
      · exact win_no (by rw [shrink_up hL', if_neg (by omega), if_neg h2]; exact h) e
  · by_cases e : v = y
    · rw [e, win_self, win_self]
    · have hvL : v ∉ L := fun hm => by have := (hL v hm).2; omega
      have e2 : upA (shrinkN N L x) v = upA N v := by rw [shrink_up hL', if_neg (by omega), if_neg hvL]
      rw [win_up hU hv h e, win_up hU' (by rw [shrink_length]; omega) (by rw [e2]; omega) e, e2]
      exact ih
theorem open_win_eq {N : List Nd} {j : Nat} (hU : Ups N) (hj : j < N.length) (hjt : upA N j < 0) (hL : ∀ v ∈ (nd N j).ring, v < j ∧ upA N v = (j : Int)) {y : Nat} (hy : y ≠ j) : ∀ v, v < N.length → win (openN N j) v y = win N v y := by
  have hL' : ∀ v ∈ (nd N j).ring, v < j := fun v hv => (hL v hv).1
  have hU' := open_ups hU hj hL'
  refine up_induct hU (fun v hv h => ?_) (fun v hv h h2 h3 ih => ?_)
  · by_cases e : v = y
    · rw [e, win_self, win_self]
    · rw [win_no h e]
      refine win_no ?_ e
      rw [open_up hj hL']
      split
      · decide
      · exact h
  · by_cases e : v = y
    · rw [e, win_self, win_self]
    · by_cases hr : v ∈ (nd N j).ring
      · have hup := (hL v hr).2
        rw [win_up hU hv h e, hup, Int.toNat_natCast, win_no hjt (fun e => hy e.symm)]
        exact win_no (by rw [open_up hj hL', if_pos hr]; decide) e
      · have e2 : upA (openN N j) v = upA N v := by rw [open_up hj hL', if_neg hr]
        rw [win_up hU hv h e, win_up hU' (by rw [open_length]; exact hv) (by rw [e2]; exact h) e, e2]
        exact ih
theorem map_inj_of_nodup {α β : Type} {f : α → β} : ∀ {l : List α}, (l.map f).Nodup → ∀ {a b : α}, a ∈ l → b ∈ l → f a = f b → a = b
  | [], _, a, b, ha, _, _ => by cases ha
  | x :: r, h, a, b, ha, hb, e => by
    rw [List.map_cons, List.nodup_cons] at h
    rcases List.mem_cons.1 ha with rfl | ha
    · rcases List.mem_cons.1 hb with rfl | hb
      · rfl
      · exact absurd (List.mem_map.2 ⟨b, hb, e.symm⟩) h.1
    · rcases List.mem_cons.1 hb with hb | hb
      · rw [hb] at e; exact absurd (List.mem_map.2 ⟨a, ha, e⟩) h.1
      · exact map_inj_of_nodup h.2 ha hb e
theorem nodup_of_map {α β : Type} {f : α → β} : ∀ {l : List α}, (l.map f).Nodup → l.Nodup
  | [], _ => List.nodup_nil
  | x :: r, h => by
    rw [List.map_cons, List.nodup_cons] at h
    rw [List.nodup_cons]
    exact ⟨fun hm => h.1 (List.mem_map.2 ⟨x, hm, rfl⟩), nodup_of_map h.2⟩
theorem top_nil (v : Nat) : top [] v = v := top_self (by unfold upA nd; simp [nd0])
theorem tops_nil (M : List Lk) : tops [] M = ends M := by
  unfold tops
  have : (top []) = id := by funext v; exact top_nil v
  rw [this, List.map_id]
def other (M : List Lk) (v : Nat) : Nat := match mateOf [] M v with | some m => m.t | none => v
theorem other_in {M : List Lk} {v : Nat} (hn : (ends M).Nodup) (hv : v ∈ ends M) : other M v ∈ ends M ∧ other M (other M v) = v ∧ other M v ≠ v ∧ ((⟨v, other M v⟩ : Lk) ∈ M ∨ (⟨other M v, v⟩ : Lk) ∈ M) := by
  have hn' : (tops [] M).Nodup := by rw [tops_nil]; exact hn
  cases hm : mateOf [] M v with
  | none => exact absurd (by rw [tops_nil]; exact hv) (mate_none.1 hm)
  | some m =>
    have e : other M v = m.t := by unfold other; rw [hm]
    obtain ⟨h1, h2⟩ := mate_some hm
    rw [top_nil] at h1
    have h3 := mate_flip hn' hm
    rw [top_nil] at h3
    have h4 := mate_ne hn' hm
    rw [top_nil] at h4
    rw [e]
    refine ⟨?_, ?_, h4, ?_⟩
    · rw [← tops_nil, ← top_nil m.t]; exact (mem_tops (N := []) h2).2
    · unfold other
      rw [h3]; exact h1
    · rcases h2 with h2 | h2
      · left; rw [← h1]; exact h2
      · right; rw [← h1]; exact h2
theorem other_out {M : List Lk} {v : Nat} (hv : v ∉ ends M) : other M v = v := by
  have : mateOf [] M v = none := mate_none.2 (by rw [tops_nil]; exact hv)
  unfold other
  rw [this]
def ExitV (N : List Nd) (μ : Nat → Nat) (i v : Nat) : Prop := μ v = v ∨ win N (μ v) i = false
/-- The vertices of a node are paired, but for one. -/
structure NodeOk (s : Nat) (N : List Nd) (T : Nat → Nat → Prop) (p x : Nat) (μ : Nat → Nat) : Prop where
  tow : ∀ v, v < s → win N v p = true → μ v < s ∧ win N (μ v) p = true ∧ μ (μ v) = v
  fx : ∀ v, v < s → win N v p = true → (μ v = v ↔ v = x)
  tg : ∀ v, v < s → win N v p = true → μ v ≠ v → T v (μ v)
  rs : ∀ i, s ≤ i → i < N.length → win N i p = true → ∀ v w, v < s → w < s → win N v i = true → win N w i = true → ExitV N μ i v → ExitV N μ i w → v = w
open Classical in
theorem glue {s : Nat} {N : List Nd} {T : Nat → Nat → Prop} {U K : Nat → Prop} {κ : Nat → Nat} (_hs : s ≤ N.length) (hups : Ups N) (hT : ∀ a b, T a b → T b a)
    (hU : ∀ v, U v → v < s ∧ K (κ v) ∧ win N v (κ v) = true) (hK : ∀ q v, K q → v < s → win N v q = true → U v ∧ κ v = q)
    (hE : ∀ q, K q → ∀ x, x < s → win N x q = true → ∃ μ, NodeOk s N T q x μ)
    (LM : List Lk) (hLU : ∀ v ∈ ends LM, U v) (hLn : ((ends LM).map κ).Nodup) (hLT : ∀ x ∈ LM, T x.f x.t)
    (b : Nat → Nat) (hb : ∀ q, K q → b q < s ∧ win N (b q) q = true) :
    ∃ μ : Nat → Nat, (∀ v, U v → U (μ v) ∧ μ (μ v) = v ∧ (μ v ≠ v → T v (μ v))) ∧ (∀ v, U v → (μ v = v ↔ v = b (κ v) ∧ κ v ∉ (ends LM).map κ)) ∧
      (∀ i q, s ≤ i → i < N.length → K q → win N i q = true → ∀ v w, v < s → w < s → win N v i = true → win N w i = true → ExitV N μ i v → ExitV N μ i w → v = w) := by
  have hn : (ends LM).Nodup := nodup_of_map hLn
  obtain ⟨tg, htg⟩ : ∃ tg : Nat → Nat, ∀ q, K q → (∀ v ∈ ends LM, κ v = q → tg q = v) ∧ (q ∉ (ends LM).map κ → tg q = b q) ∧ (q ∈ (ends LM).map κ → tg q ∈ ends LM) ∧ tg q < s ∧ win N (tg q) q = true := by
    refine ⟨fun q => if h : ∃ v, v ∈ ends LM ∧ κ v = q then Classical.choose h else b q, fun q hq => ?_⟩
    by_cases h : ∃ v, v ∈ ends LM ∧ κ v = q
    · simp only [dif_pos h]
      have hc := Classical.choose_spec h
      have hu := hU _ (hLU _ hc.1)
      refine ⟨fun v hv e => map_inj_of_nodup hLn hc.1 hv (hc.2.trans e.symm), fun hno => ?_, fun _ => hc.1, hu.1, ?_⟩
      · exact absurd (List.mem_map.2 h) hno
      · have := hu.2.2; rwa [hc.2] at this
    · simp only [dif_neg h]
      refine ⟨fun v hv e => absurd ⟨v, hv, e⟩ h, fun _ => trivial, fun hm => absurd (List.mem_map.1 hm) h, hb q hq⟩
  obtain ⟨f, hf⟩ : ∃ f : Nat → Nat → Nat, ∀ q, K q → NodeOk s N T q (tg q) (f q) := by
    refine ⟨fun q => if h : K q then Classical.choose (hE q h (tg q) (htg q h).2.2.2.1 (htg q h).2.2.2.2) else id, fun q hq => ?_⟩
    simp only [dif_pos hq]
    exact Classical.choose_spec (hE q hq (tg q) (htg q hq).2.2.2.1 (htg q hq).2.2.2.2)
  obtain ⟨μ, hμ⟩ : ∃ μ : Nat → Nat, ∀ v, μ v = if v = tg (κ v) then other LM v else f (κ v) v := ⟨_, fun _ => rfl⟩
  have hend : ∀ v, v ∈ ends LM → v = tg (κ v) := fun v hv => ((htg _ (hU v (hLU v hv)).2.1).1 v hv rfl).symm
  have hmu1 : ∀ v, v ∈ ends LM → μ v = other LM v := fun v hv => by rw [hμ, if_pos (hend v hv)]
  have hmu2 : ∀ v, U v → v = tg (κ v) → v ∉ ends LM → μ v = v ∧ v = b (κ v) ∧ κ v ∉ (ends LM).map κ := fun v hv e hne => by
    have h1 : κ v ∉ (ends LM).map κ := fun hm => hne (by
      have := (htg _ (hU v hv).2.1).2.2.1 hm
      rwa [← e] at this)
    refine ⟨by rw [hμ, if_pos e, other_out hne], ?_, h1⟩
    rw [← (htg _ (hU v hv).2.1).2.1 h1]; exact e
  have hmu3 : ∀ v, U v → v ≠ tg (κ v) → μ v = f (κ v) v ∧ U (μ v) ∧ κ (μ v) = κ v ∧ μ v ≠ tg (κ v) ∧ μ v ≠ v := fun v hv hne => by
    obtain ⟨h1, h2, h3⟩ := hU v hv
    have F := hf _ h2
    have e : μ v = f (κ v) v := by rw [hμ, if_neg hne]
    obtain ⟨g1, g2, g3⟩ := F.tow v h1 h3
    obtain ⟨k1, k2⟩ := hK _ _ h2 g1 g2
    have ht := htg _ h2
    have hfix := (F.fx _ ht.2.2.2.1 ht.2.2.2.2).2 rfl
    rw [e]
    refine ⟨rfl, k1, k2, fun e2 => hne ?_, fun e2 => hne ((F.fx v h1 h3).1 e2)⟩
    rw [e2, hfix] at g3
    exact g3.symm
  refine ⟨μ, fun v hv => ?_, fun v hv => ?_, fun i q hi1 hi2 hq hiq v w hv hw hvi hwi hxv hxw => ?_⟩
  · by_cases he : v ∈ ends LM
    · obtain ⟨o1, o2, o3, o4⟩ := other_in hn he
      rw [hmu1 v he]
      refine ⟨hLU _ o1, by rw [hmu1 _ o1]; exact o2, fun _ => ?_⟩
      rcases o4 with o4 | o4
      · exact hLT _ o4
      · exact hT _ _ (hLT _ o4)
    · by_cases e : v = tg (κ v)
      · have h1 := (hmu2 v hv e he).1
        rw [h1]
        exact ⟨hv, h1, fun h => absurd rfl h⟩
      · obtain ⟨h1, h2, h3, h4, h5⟩ := hmu3 v hv e
        obtain ⟨g1, g2, g3⟩ := hU v hv
        refine ⟨h2, ?_, fun _ => ?_⟩
        · rw [hμ (μ v), h3, if_neg h4, h1]
          exact ((hf _ g2).tow v g1 g3).2.2
        · have := (hf _ g2).tg v g1 g3 (by rw [← h1]; exact h5)
          rwa [h1]
  · constructor
    · intro h
      by_cases he : v ∈ ends LM
      · rw [hmu1 v he] at h
        exact absurd h (other_in hn he).2.2.1
      · by_cases e : v = tg (κ v)
        · exact (hmu2 v hv e he).2
        · exact absurd h (hmu3 v hv e).2.2.2.2
    · rintro ⟨h1, h2⟩
      have e : v = tg (κ v) := by rw [(htg _ (hU v hv).2.1).2.1 h2]; exact h1
      exact (hmu2 v hv e (fun he => h2 (List.mem_map.2 ⟨v, he, rfl⟩))).1
  · have ht := htg q hq
    have key : ∀ v, v < s → win N v i = true → ExitV N μ i v → ExitV N (f q) i v := by
      intro v hv hvi hx
      have hvq := win_trans hups hiq v (by omega) hvi
      obtain ⟨u1, u2⟩ := hK q v hq hv hvq
      by_cases e : v = tg (κ v)
      · left
        rw [u2] at e
        exact ((hf q hq).fx v hv hvq).2 e
      · have h1 := (hmu3 v u1 e).1
        rw [u2] at h1
        unfold ExitV at hx ⊢
        rwa [h1] at hx
    exact (hf q hq).rs i hi1 hi2 hiq v w hv hw hvi hwi (key v hv hvi hxv) (key w hw hwi hxw)
section
variable {s : Nat} {N : List Nd} {M : List Lk} {T : Nat → Nat → Prop}
def pairsFrom (N : List Nd) (j a : Nat) : List Lk := (List.range ((nd N j).ring.length / 2)).map fun k => (nd N j).links.getD ((a + (2 * k + 1)) % (nd N j).ring.length) ⟨0, 0⟩
theorem node_pairs (I : Inv s N M) (hT : ∀ a b, T a b → T b a) (hl : ∀ k, s ≤ k → k < N.length → (nd N k).gone = false → ∀ x ∈ (nd N k).links, T x.f x.t) :
    ∀ (k p : Nat), p ≤ k → p < N.length → (nd N p).gone = false → ∀ x, x < s → win N x p = true → ∃ μ, NodeOk s N T p x μ := by
  intro k
  have hge := I.ge
  induction k with
  | zero =>
    intro p hk hp hg x hx hw
    by_cases hps : p < s
    · obtain rfl := win_vertex I (by omega) hps hw
      refine ⟨id, fun v hv hw => ⟨hv, hw, rfl⟩, fun v hv hw => ⟨fun _ => win_vertex I (by omega) hps hw, fun _ => rfl⟩, fun v _ _ h => absurd rfl h, fun i h1 h2 h3 => ?_⟩
      have := win_ge I.ups i h2 h3
      omega
    · have R := I.rings p (by omega) hp hg
      have h1 : 0 < (nd N p).ring.length := by have := R.odd; omega
      have := (R.mem _ (List.getElem_mem h1)).1
      omega
  | succ k ih =>
    intro p hk hp hg x hx hw
    by_cases hps : p < s
    · obtain rfl := win_vertex I (by omega) hps hw
      refine ⟨id, fun v hv hw => ⟨hv, hw, rfl⟩, fun v hv hw => ⟨fun _ => win_vertex I (by omega) hps hw, fun _ => rfl⟩, fun v _ _ h => absurd rfl h, fun i h1 h2 h3 => ?_⟩
      have := win_ge I.ups i h2 h3
      omega
    · have hps' : s ≤ p := by omega
      have R := I.rings p hps' hp hg
      have hmem : ∀ q ∈ (nd N p).ring, q < N.length ∧ (nd N q).gone = false ∧ win N q p = true := fun q hq => by
        obtain ⟨h1, h2⟩ := R.mem q hq
        have h3 : q < N.length := by omega
        have h4 := win_of_up I.ups h3 h2
        exact ⟨h3, live_up I hg q h3 h4, h4⟩
      have hone : ∀ q r v, q ∈ (nd N p).ring → r ∈ (nd N p).ring → v < s → win N v q = true → win N v r = true → q = r := fun q r v hq hr hv g1 g2 =>
        win_apart I.ups (v := v) (by omega) (hmem q hq).1 (hmem r hr).1 (R.mem q hq).2 (R.mem r hr).2 g1 g2
      have hin : ∀ v, v < s → win N v p = true → ∃ q, q ∈ (nd N p).ring ∧ win N v q = true := fun v hv hw => by
        obtain ⟨q, h1, h2⟩ := member_of I (v := v) (by omega) hw (by omega)
        exact ⟨q, h1, h2⟩
      obtain ⟨κ, hκ⟩ : ∃ κ : Nat → Nat, ∀ v, v < s → win N v p = true → κ v ∈ (nd N p).ring ∧ win N v (κ v) = true := by
        refine ⟨fun v => if h : v < s ∧ win N v p = true then Classical.choose (hin v h.1 h.2) else 0, fun v hv hw => ?_⟩
        simp only [dif_pos (show v < s ∧ win N v p = true from ⟨hv, hw⟩)]
        exact Classical.choose_spec (hin v hv hw)
      have hκq : ∀ q v, q ∈ (nd N p).ring → v < s → win N v q = true → (v < s ∧ win N v p = true) ∧ κ v = q := fun q v hq hv hw => by
        have h1 := win_trans I.ups (hmem q hq).2.2 v (by omega) hw
        obtain ⟨h2, h3⟩ := hκ v hv h1
        exact ⟨⟨hv, h1⟩, hone _ _ v h2 hq hv h3 hw⟩
      obtain ⟨q0, hq0, hxq0⟩ := hin x hx hw
      obtain ⟨a, ha, hqa⟩ := List.getElem_of_mem hq0
      have hver : ∀ q, q ∈ (nd N p).ring → ∃ v, v < s ∧ win N v q = true := fun q hq => has_vertex I _ q (Nat.le_refl _) (hmem q hq).1 (hmem q hq).2.1
      obtain ⟨b, hb, hbx⟩ : ∃ b : Nat → Nat, (∀ q, q ∈ (nd N p).ring → b q < s ∧ win N (b q) q = true) ∧ b q0 = x := by
        refine ⟨fun q => if q = q0 then x else if h : q ∈ (nd N p).ring then Classical.choose (hver q h) else 0, fun q hq => ?_, by simp⟩
        by_cases e : q = q0
        · subst e; simp only [if_pos]; exact ⟨hx, hxq0⟩
        · simp only [if_neg e, dif_pos hq]
          exact Classical.choose_spec (hver q hq)
      obtain ⟨n, hn⟩ : ∃ n, n = (nd N p).ring.length := ⟨_, rfl⟩
      have hpos : 0 < n := by have := R.odd; omega
      have hlk : ∀ i, ((nd N p).links.getD ((a + i) % n) ⟨0, 0⟩ ∈ (nd N p).links) ∧ (((nd N p).links.getD ((a + i) % n) ⟨0, 0⟩).f < s ∧ win N ((nd N p).links.getD ((a + i) % n) ⟨0, 0⟩).f ((nd N p).ring.getD ((a + i) % n) 0) = true) ∧ (((nd N p).links.getD ((a + i) % n) ⟨0, 0⟩).t < s ∧ win N ((nd N p).links.getD ((a + i) % n) ⟨0, 0⟩).t ((nd N p).ring.getD ((a + (i + 1)) % n) 0) = true) := by
        intro i
        have h1 : (a + i) % n < n := Nat.mod_lt _ hpos
        have h2 : ((a + i) % n + 1) % n < n := Nat.mod_lt _ hpos
        have hl' : (a + i) % n < (nd N p).links.length := by rw [R.len, ← hn]; exact h1
        have e2 : ((a + i) % n + 1) % n = (a + (i + 1)) % n := by rw [Nat.mod_add_mod, Nat.add_assoc]
        obtain ⟨w1, w2, f1, f2⟩ := R.lk _ hl' (by omega) (by rw [← hn]; exact h2)
        have g1 : (nd N p).links.getD ((a + i) % n) ⟨0, 0⟩ = (nd N p).links[(a + i) % n] := getD_at _ _ _ hl'
        have g2 : (nd N p).ring.getD ((a + i) % n) 0 = (nd N p).ring[(a + i) % n]'(by omega) := getD_at _ _ _ _
        have g3 : (nd N p).ring.getD ((a + (i + 1)) % n) 0 = (nd N p).ring[((a + i) % n + 1) % n]'(by omega) := by rw [← e2]; exact getD_at _ _ _ _
        rw [g1, g2, g3]
        refine ⟨List.getElem_mem _, ⟨f1, w1⟩, f2, ?_⟩
        simpa only [← hn] using w2
      have hgm : ∀ i, (nd N p).ring.getD ((a + i) % n) 0 ∈ (nd N p).ring := fun i => by
        have h1 : (a + i) % n < n := Nat.mod_lt _ hpos
        rw [getD_at _ _ _ (by omega)]; exact List.getElem_mem _
      have hkf : ∀ i, κ ((nd N p).links.getD ((a + i) % n) ⟨0, 0⟩).f = (nd N p).ring.getD ((a + i) % n) 0 := fun i => (hκq _ _ (hgm i) (hlk i).2.1.1 (hlk i).2.1.2).2
      have hkt : ∀ i, κ ((nd N p).links.getD ((a + i) % n) ⟨0, 0⟩).t = (nd N p).ring.getD ((a + (i + 1)) % n) 0 := fun i => (hκq _ _ (hgm (i + 1)) (hlk i).2.2.1 (hlk i).2.2.2).2
      have hmap : (ends (pairsFrom N p a)).map κ = (List.range' 1 (2 * (n / 2))).map (fun i => (nd N p).ring.getD ((a + i) % n) 0) := by
        rw [← pairs_map]
        unfold ends pairsFrom
        rw [← hn, List.flatMap_map, List.map_flatMap]
        congr 1
        funext k
        simp only [List.map_cons, List.map_nil]
        rw [hkf, hkt]
      have hinj : ∀ i j, i < n → j < n → (nd N p).ring.getD ((a + i) % n) 0 = (nd N p).ring.getD ((a + j) % n) 0 → i = j := fun i j hi hj e => by
        have h1 : (a + i) % n < n := Nat.mod_lt _ hpos
        have h2 : (a + j) % n < n := Nat.mod_lt _ hpos
        rw [getD_at _ _ _ (by omega), getD_at _ _ _ (by omega)] at e
        exact mod_inj hi hj (getElem_inj_of_nodup R.nodup _ _ e)
      have hodd := R.odd
      rw [← hn] at hodd
      have hnod : ((ends (pairsFrom N p a)).map κ).Nodup := by
        rw [hmap]
        refine nodup_map_of List.nodup_range' (fun i hi j hj e => hinj i j ?_ ?_ e)
        · rw [List.mem_range'_1] at hi; omega
        · rw [List.mem_range'_1] at hj; omega
      have ha0 : (nd N p).ring.getD ((a + 0) % n) 0 = q0 := by
        rw [Nat.add_zero, Nat.mod_eq_of_lt (by omega), getD_at _ _ _ (by omega)]; exact hqa
      have hq0n : q0 ∉ (ends (pairsFrom N p a)).map κ := by
        rw [hmap]
        intro hm
        obtain ⟨i, hi, e⟩ := List.mem_map.1 hm
        rw [List.mem_range'_1] at hi
        have := hinj i 0 (by omega) (by omega) (by rw [e, ha0])
        omega
      have hall : ∀ q ∈ (nd N p).ring, q ∉ (ends (pairsFrom N p a)).map κ → q = q0 := by
        intro q hq hno
        obtain ⟨c, hc, hqc⟩ := List.getElem_of_mem hq
        obtain ⟨i, hi, hie⟩ : ∃ i, i < n ∧ (a + i) % n = c := by
          refine ⟨(c + n - a) % n, Nat.mod_lt _ hpos, ?_⟩
          rw [Nat.add_mod_mod, show a + (c + n - a) = c + n by omega, Nat.add_mod_right, Nat.mod_eq_of_lt (by omega)]
        have e1 : (nd N p).ring.getD ((a + i) % n) 0 = q := by rw [hie, getD_at _ _ _ hc]; exact hqc
        by_cases h0 : i = 0
        · subst h0; rw [← e1, ha0]
        · exact absurd (by rw [hmap]; exact List.mem_map.2 ⟨i, by rw [List.mem_range'_1]; omega, e1⟩) hno
      obtain ⟨μ, m1, m2, m3⟩ := glue (s := s) (N := N) (T := T) (U := fun v => v < s ∧ win N v p = true) (K := fun q => q ∈ (nd N p).ring) (κ := κ) hge I.ups hT
        (fun v hv => ⟨hv.1, hκ v hv.1 hv.2⟩) hκq (fun q hq x hx hw => ih q (by have := (R.mem q hq).1; omega) (hmem q hq).1 (hmem q hq).2.1 x hx hw)
        (pairsFrom N p a) (fun v hv => by
          obtain ⟨l, hl1, hl2⟩ := mem_ends.1 hv
          obtain ⟨k, _, rfl⟩ := List.mem_map.1 hl1
          rw [← hn] at hl2
          have h := hlk (2 * k + 1)
          rcases hl2 with rfl | rfl
          · exact (hκq _ _ (hgm _) h.2.1.1 h.2.1.2).1
          · exact (hκq _ _ (hgm _) h.2.2.1 h.2.2.2).1) hnod (fun l hl1 => by
          obtain ⟨k, _, rfl⟩ := List.mem_map.1 hl1
          rw [← hn]
          exact hl p hps' hp hg _ (hlk (2 * k + 1)).1) b hb
      refine ⟨μ, fun v hv hw => ?_, fun v hv hw => ?_, fun v hv hw => (m1 v ⟨hv, hw⟩).2.2, fun i h1 h2 h3 v w hv hww hvi hwi xv xw => ?_⟩
      · obtain ⟨g1, g2, _⟩ := m1 v ⟨hv, hw⟩
        exact ⟨g1.1, g1.2, g2⟩
      · rw [m2 v ⟨hv, hw⟩]
        constructor
        · rintro ⟨g1, g2⟩
          have := hall _ (hκ v hv hw).1 g2
          rw [g1, this, hbx]
        · rintro rfl
          have := (hκq q0 v hq0 hv hxq0).2
          rw [this]
          exact ⟨hbx.symm, hq0n⟩
      · by_cases e : i = p
        · subst e
          have fixed : ∀ v, v < s → win N v i = true → ExitV N μ i v → μ v = v := fun v hv hvi hx => by
            rcases hx with hx | hx
            · exact hx
            · have := (m1 v ⟨hv, hvi⟩).1.2
              rw [this] at hx; cases hx
          have fx : ∀ v, v < s → win N v i = true → μ v = v → v = x := fun v hv hvi h => by
            obtain ⟨g1, g2⟩ := (m2 v ⟨hv, hvi⟩).1 h
            have := hall _ (hκ v hv hvi).1 g2
            rw [g1, this, hbx]
          rw [fx v hv hvi (fixed v hv hvi xv), fx w hww hwi (fixed w hww hwi xw)]
        · obtain ⟨q, hq1, hq2⟩ := member_of I (v := i) h2 h3 e
          exact m3 i q h1 h2 hq1 hq2 v w hv hww hvi hwi xv xw
end
end Sv
end Go.Proofs.Ytkjclkelnheheaa
namespace Go.Proofs.Ytkjclkelnheheaa
namespace Sv
open Go.RowKit Gr
section
variable {w : World} {bt lo : Nat} {t : Tp} {vl va vr : Value} {g n c : Nat}
theorem TpW.lc (h : TpW w bt lo t vl va vr) (e : vl = .slice (some ⟨g, 0, none⟩) n c) (hl : t.label.length = n) : g < w.heap.size ∧ ∀ j, j < n → w.cell? ⟨g, j, none⟩ = some (.int .i64 (lab t j : Int)) ∧ w.frozen? ⟨g, j, none⟩ = false := by
  have h1 := h.at_.lab
  have h2 : World.ownsRow _ _ _ _ _ _ _ := h.at_.lab
  rw [e] at h1 h2
  refine ⟨(World.ownsRow.lt h2 g rfl).2, fun j hj => ⟨?_, ?_⟩⟩
  · obtain ⟨g', c', e', _, hc⟩ := na_cells h1 (by omega)
    simp at e'
    rw [e'.1]; exact hc j (by omega)
  · rw [hl] at h2
    exact h2.frozenAt j
theorem TpW.rc (h : TpW w bt lo t vl va vr) (e : vr = .slice (some ⟨g, 0, none⟩) n c) (hl : t.root.length = n) : g < w.heap.size ∧ ∀ j, j < n → w.cell? ⟨g, j, none⟩ = some (.int .i64 (rt t j : Int)) ∧ w.frozen? ⟨g, j, none⟩ = false := by
  have h1 := h.at_.rot
  have h2 : World.ownsRow _ _ _ _ _ _ _ := h.at_.rot
  rw [e] at h1 h2
  refine ⟨(World.ownsRow.lt h2 g rfl).2, fun j hj => ⟨?_, ?_⟩⟩
  · obtain ⟨g', c', e', _, hc⟩ := na_cells h1 (by omega)
    simp at e'
    rw [e'.1]; exact hc j (by omega)
  · rw [hl] at h2
    exact h2.frozenAt j
theorem TpW.ac (h : TpW w bt lo t vl va vr) (e : va = .slice (some ⟨g, 0, none⟩) n c) (hl : t.ahead.length = n) : g < w.heap.size ∧ (∀ j, j < n → w.cell? ⟨g, j * 2, none⟩ = some (.int .i64 ((ahd t j).f : Int)) ∧ w.cell? ⟨g, j * 2 + 1, none⟩ = some (.int .i64 ((ahd t j).t : Int))) ∧ ∀ i, w.frozen? ⟨g, i, none⟩ = false := by
  have h1 := h.at_.ahd
  have h2 : World.ownsRow _ _ _ _ _ _ _ := h.at_.ahd
  rw [e] at h1 h2
  refine ⟨(World.ownsRow.lt h2 g rfl).2, fun j hj => ?_, fun i => ?_⟩
  · obtain ⟨g', c', e', _, hc⟩ := lk_cellsD h1 (by omega)
    simp at e'
    rw [e'.1]; exact hc j (by omega)
  · rw [hl] at h2
    exact h2.frozenAt i
end
end Sv
end Go.Proofs.Ytkjclkelnheheaa
namespace Go.Proofs.Ytkjclkelnheheaa
namespace Sv
open Gr
section
variable {s : Nat} {y : List Int} {N : List Nd} {M : List Lk}
theorem pick_step (t : Tp) (Q : List EdgeI) (i : Nat) (h : i < Q.length) : pick s y N t (Q.drop i) i = if good s y N t Q[i] = true then some (i, Q[i]) else pick s y N t (Q.drop (i + 1)) (i + 1) := by
  rw [List.drop_eq_getElem_cons h]; rfl
theorem pick_end (t : Tp) (Q : List EdgeI) : pick s y N t (Q.drop Q.length) Q.length = none := by
  rw [List.drop_length]; rfl
def labSt (s : Nat) (Q : List EdgeI) (y : List Int) (N : List Nd) (M : List Lk) (L : Tp × Option (Nat × EdgeI)) : Bool → Nat → Tp → Prop
  | true, f, t => (∃ rk, For s N M t rk) ∧ N.length < nz t + 2 * f ∧ L = labF s Q y N M f t
  | false, _, t => L = (t, none)
def inSt (s : Nat) (Q : List EdgeI) (y : List Int) (N : List Nd) (M : List Lk) (L : Tp × Option (Nat × EdgeI)) (f : Nat) (t : Tp) : Bool → Tp → Nat → Prop
  | true, T, _ => labSt s Q y N M L true f T
  | false, T, j => T = t ∧ pick s y N t Q 0 = pick s y N t (Q.drop j) j
theorem labSt0 (s : Nat) (Q : List EdgeI) (y : List Int) (N : List Nd) (M : List Lk) : labSt s Q y N M (labels s Q y N M) true (N.length + 1) (label0 N M) :=
  ⟨⟨_, for0 s N M⟩, by omega, rfl⟩
theorem labSt_fuel {Q : List EdgeI} {L : Tp × Option (Nat × EdgeI)} {f : Nat} {t : Tp} (h : labSt s Q y N M L true f t) : ∃ f', f = f' + 1 := by
  obtain ⟨⟨rk, F⟩, h2, _⟩ := h
  have := nz_le t
  rw [F.l1] at this
  exact ⟨f - 1, by omega⟩
theorem labSt_none {Q : List EdgeI} {L : Tp × Option (Nat × EdgeI)} {f : Nat} {t : Tp} (h : labSt s Q y N M L true (f + 1) t) (hp : pick s y N t Q 0 = none) : L = (t, none) := by
  obtain ⟨_, _, h3⟩ := h
  rw [h3, labF, hp]
theorem labSt_both {Q : List EdgeI} {L : Tp × Option (Nat × EdgeI)} {f i : Nat} {t : Tp} {e : EdgeI} (h : labSt s Q y N M L true (f + 1) t) (hp : pick s y N t Q 0 = some (i, e)) (hb : both N t e = true) : L = (t, some (i, e)) := by
  obtain ⟨_, _, h3⟩ := h
  rw [h3, labF, hp]
  simp [hb]
theorem labSt_grow {Q : List EdgeI} {L : Tp × Option (Nat × EdgeI)} {f i : Nat} {t : Tp} {e : EdgeI} (I : Inv s N M) (hA : e.A.toNat < s) (hB : e.B.toNat < s) (h : labSt s Q y N M L true (f + 1) t) (hp : pick s y N t Q 0 = some (i, e)) (hg : good s y N t e = true) (hb : both N t e = false) : labSt s Q y N M L true f (growE N M t e) := by
  obtain ⟨⟨rk, F⟩, h2, h3⟩ := h
  obtain ⟨g1, g2⟩ := growE_for (y := y) I F hA hB hg hb
  refine ⟨g1, by omega, ?_⟩
  rw [h3, labF, hp]
  simp [hb]
theorem grow_mate {t : Tp} {rk : Nat → Nat} (I : Inv s N M) (F : For s N M t rk) {v : Nat} (hv : v < s) (h0 : lab t (top N v) = 0) : ∃ m, mateOf N M (top N v) = some m ∧ mateD N M (top N v) = m := by
  obtain ⟨m, hm⟩ := bare_mate F (top_is I hv) h0
  exact ⟨m, hm, by unfold mateD; rw [hm]; rfl⟩
theorem mateOf_ends : ∀ {M : List Lk} {p : Nat} {m : Lk}, mateOf N M p = some m → m.f ∈ ends M ∧ m.t ∈ ends M
  | [], p, m, h => by simp [mateOf] at h
  | x :: r, p, m, h => by
    rw [mateOf] at h
    simp only [ends_cons, List.mem_cons]
    split at h
    · simp at h; subst h; exact ⟨.inl rfl, .inr (.inl rfl)⟩
    · split at h
      · simp at h; subst h; exact ⟨.inr (.inl rfl), .inl rfl⟩
      · obtain ⟨h1, h2⟩ := mateOf_ends h
        exact ⟨.inr (.inr h1), .inr (.inr h2)⟩
end
end Sv
end Go.Proofs.Ytkjclkelnheheaa
namespace Go.Proofs.Ytkjclkelnheheaa
namespace Sv
open Go.RowKit Gr
structure GS (w0 W : World) (bt gl ga gr n : Nat) (t : Tp) (gk gm : Nat) (link mate : Lk) : Prop where
  tp : TpW W bt w0.heap.size t (.slice (some ⟨gl, 0, none⟩) n n) (.slice (some ⟨ga, 0, none⟩) n n) (.slice (some ⟨gr, 0, none⟩) n n)
  lk : Blk W gk #[.int .i64 (link.f : Int), .int .i64 (link.t : Int)] 83
  mt : Blk W gm #[.int .i64 (mate.f : Int), .int .i64 (mate.t : Int)] 83
  nk : gk ≠ gl ∧ gk ≠ ga ∧ gk ≠ gr
  nm : gm ≠ gl ∧ gm ≠ ga ∧ gm ≠ gr
  l1 : t.label.length = n
  l2 : t.ahead.length = n
  l3 : t.root.length = n
  bw : Below w0.heap.size w0 W
section
variable {w0 W : World} {bt gl ga gr n : Nat} {t : Tp} {gk gm : Nat} {link mate : Lk}
theorem GS.lab (h : GS w0 W bt gl ga gr n t gk gm link mate) (j u : Nat) : GS w0 (W.setCell ⟨gl, j, none⟩ (.int .i64 (u : Int))) bt gl ga gr n { t with label := t.label.set j u } gk gm link mate := by
  obtain ⟨s1, k1, q1⟩ := h.tp.setLab (j := j) rfl h.l1 u
  exact ⟨s1, h.lk.kept k1 h.nk.1, h.mt.kept k1 h.nm.1, h.nk, h.nm, by simpa using h.l1, h.l2, h.l3, h.bw.trans (k1.below (B := w0.heap.size) h.bw.size (fun i hi => by subst hi; exact q1))⟩
theorem GS.rot (h : GS w0 W bt gl ga gr n t gk gm link mate) (j u : Nat) : GS w0 (W.setCell ⟨gr, j, none⟩ (.int .i64 (u : Int))) bt gl ga gr n { t with root := t.root.set j u } gk gm link mate := by
  obtain ⟨s1, k1, q1⟩ := h.tp.setRot (j := j) rfl h.l3 u
  exact ⟨s1, h.lk.kept k1 h.nk.2.2, h.mt.kept k1 h.nm.2.2, h.nk, h.nm, h.l1, h.l2, by simpa using h.l3, h.bw.trans (k1.below (B := w0.heap.size) h.bw.size (fun i hi => by subst hi; exact q1))⟩
theorem GS.ahd (h : GS w0 W bt gl ga gr n t gk gm link mate) (j : Nat) (x : Lk) : GS w0 ((W.setCell ⟨ga, j * 2, none⟩ (.int .i64 (x.f : Int))).setCell ⟨ga, j * 2 + 1, none⟩ (.int .i64 (x.t : Int))) bt gl ga gr n { t with ahead := t.ahead.set j x } gk gm link mate := by
  obtain ⟨s1, k1, q1⟩ := h.tp.setAhd (j := j) rfl h.l2 x
  exact ⟨s1, h.lk.kept k1 h.nk.2.1, h.mt.kept k1 h.nm.2.1, h.nk, h.nm, h.l1, by simpa using h.l2, h.l3, h.bw.trans (k1.below (B := w0.heap.size) h.bw.size (fun i hi => by subst hi; exact q1))⟩
theorem GS.drew (h : GS w0 W bt gl ga gr n t gk gm link mate) : GS w0 W.drew bt gl ga gr n t gk gm link mate :=
  ⟨h.tp.below (Below.refl _ _).drew, h.lk.drew, h.mt.drew, h.nk, h.nm, h.l1, h.l2, h.l3, h.bw.drew⟩
theorem GS.lc (h : GS w0 W bt gl ga gr n t gk gm link mate) {j : Nat} (hj : j < n) : W.cell? ⟨bt, 0, none⟩ = some (.slice (some ⟨gl, 0, none⟩) n n) ∧ W.cell? ⟨gl, j, none⟩ = some (.int .i64 (Sv.lab t j : Int)) ∧ W.frozen? ⟨gl, j, none⟩ = false :=
  ⟨h.tp.at_.box.cell 0 _ rfl, (h.tp.lc rfl h.l1).2 j hj⟩
theorem GS.rc (h : GS w0 W bt gl ga gr n t gk gm link mate) {j : Nat} (hj : j < n) : W.cell? ⟨bt, 2, none⟩ = some (.slice (some ⟨gr, 0, none⟩) n n) ∧ W.cell? ⟨gr, j, none⟩ = some (.int .i64 (rt t j : Int)) ∧ W.frozen? ⟨gr, j, none⟩ = false :=
  ⟨h.tp.at_.box.cell 2 _ rfl, (h.tp.rc rfl h.l3).2 j hj⟩
theorem GS.ac (h : GS w0 W bt gl ga gr n t gk gm link mate) {j : Nat} (hj : j < n) : W.cell? ⟨bt, 1, none⟩ = some (.slice (some ⟨ga, 0, none⟩) n n) ∧ (W.cell? ⟨ga, j * 2, none⟩ = some (.int .i64 ((Sv.ahd t j).f : Int)) ∧ W.cell? ⟨ga, j * 2 + 1, none⟩ = some (.int .i64 ((Sv.ahd t j).t : Int))) ∧ W.frozen? ⟨ga, j * 2, none⟩ = false ∧ W.frozen? ⟨ga, j * 2 + 1, none⟩ = false :=
  ⟨h.tp.at_.box.cell 1 _ rfl, (h.tp.ac rfl h.l2).2.1 j hj, (h.tp.ac rfl h.l2).2.2 _, (h.tp.ac rfl h.l2).2.2 _⟩
theorem rt_other (t : Tp) {a b : Nat} (u : Nat) (h : a ≠ b) : rt { t with root := t.root.set b u } a = rt t a := by
  unfold rt
  simp only [List.getD_eq_getElem?_getD]
  rw [List.getElem?_set_ne (Ne.symm h)]
end
end Sv
end Go.Proofs.Ytkjclkelnheheaa
