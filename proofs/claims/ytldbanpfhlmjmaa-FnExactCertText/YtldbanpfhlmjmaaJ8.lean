/-
  Texts of this claim, one behind the other: GrImplC, GrImplD, GrSets0, GrMid, GrSets1, GrSets2.
-/
import Derived.Test.YtldbanpfhlmjmaaJ7
import Derived.Test.YtldbanpfhlmjmaaJ4
import Derived.Test.YtldbanpfhlmjmaaJ1
import Derived.Deep.MidRow
import Derived.Deep.WholeRow
import Derived.Laws.ResultCell
import Derived.ChangeKeysEq

/-
  The contract of impl.EdgeAt.
-/
namespace Go.Proofs.Ytldbanpfhlmjmaa
namespace Gr
open Go.RowKit

theorem hit_le {s x y : Int} {e : EdgeI} (he : edgeOk s e = true) (hxy : x ≤ y) : hit x y e = ((e.A == x) && (e.B == y)) := by
  have := (edgeOk_iff s e).1 he
  unfold hit
  by_cases h1 : e.A = x <;> by_cases h2 : e.B = y <;> by_cases h3 : e.A = y <;> by_cases h4 : e.B = x <;> simp [h1, h2, h3, h4] <;> omega

theorem hit_gt {s x y : Int} {e : EdgeI} (he : edgeOk s e = true) (hxy : y < x) : hit x y e = ((e.A == y) && (e.B == x)) := by
  have := (edgeOk_iff s e).1 he
  unfold hit
  by_cases h1 : e.A = x <;> by_cases h2 : e.B = y <;> by_cases h3 : e.A = y <;> by_cases h4 : e.B = x <;> simp [h1, h2, h3, h4] <;> omega

theorem hit_min {s x y : Int} {e : EdgeI} (he : edgeOk s e = true) : hit x y e = ((e.A == min x y) && (e.B == max x y)) := by
  by_cases hxy : x ≤ y
  · rw [hit_le he hxy, Int.min_eq_left hxy, Int.max_eq_right hxy]
  · rw [hit_gt he (by omega), Int.min_eq_right (by omega), Int.max_eq_left (by omega)]

set_option maxRecDepth 100000 in
set_option maxHeartbeats 2000000 in
theorem implEdgeAt_gen (B : Nat) (v : Value) (s : Int) (Q : List EdgeI) (x y : Int) (h1 : Q.length ≤ 1048576) (w : World) (hB : B ≤ w.heap.size) (hv : GrAt w v B s Q) :
    Calls Try.prog 72 #[v, .int .i64 x, .int .i64 y] w fun e w' => e = .returned (.int .i64 (edgeAtV s x y Q)) ∧ Below w.heap.size w w' := by
  have OK := hide (fun w1 (hb : Below w.heap.size w w1) => implGraph_gen B v s Q h1 w1 (by have := hb.size; omega) (hv.below hb hB))
  obtain ⟨a, n, c, rfl, hE⟩ := hv
  obtain ⟨hL, hc⟩ := hE
  have hV : edgeAtV s x y Q = if graphOk s Q = true then atFrom x y 0 Q else -1 := rfl
  have HH : Hid (graphOk s Q = true → ∀ k (h : k < Q.length), hit x y Q[k] = ((Q[k].A == min x y) && (Q[k].B == max x y))) := fun hg k h => by
    obtain ⟨_, _, h2, _⟩ := graph_sound hg
    exact hit_min (h2 _ (List.getElem_mem h))
  have HST := hide (fun k h => atFrom_step x y Q k h)
  have HEND : Hid (atFrom x y n (Q.drop n) = -1) := by show _ = _; rw [← hL, List.drop_length]; rfl
  have H0 : Hid (atFrom x y 0 Q = atFrom x y 0 (Q.drop 0)) := rfl
  have HC := hide hc
  have HL := hide hL
  have HN : Hid (n ≤ 1048576) := by show _ ≤ _; omega
  generalize edgeAtV s x y Q = V at hV ⊢
  generalize atFrom x y 0 Q = r at H0 hV
  generalize graphOk s Q = ok at OK hV HH
  clear h1 hc hL
  obtain ⟨mn, hmn⟩ : ∃ m, m = min x y := ⟨_, rfl⟩
  obtain ⟨mx, hmx⟩ : ∃ m, m = max x y := ⟨_, rfl⟩
  rw [← hmn, ← hmx] at HH
  go_enter Try.func72, Try.ntmps72
  go_wp2_with fail
  obtain ⟨V1, hV1⟩ : ∃ W, W = w.alloc (Obj.cells #[Value.int .i64 s, Value.slice a n c] 37) := ⟨_, rfl⟩
  rw [← hV1]
  have x1 : GBox V1 w.heap.size s (.slice a n c) := by rw [hV1]; exact GBox.new _ _ _
  have b1 : Below w.heap.size w V1 := by rw [hV1]; exact below_new _ _
  clear hV1
  refine (unhide OK V1 b1).mono ?_
  rintro e w2 ⟨rfl, hb2⟩
  have x2 := x1.below hb2
  have b2 := b1.trans (hb2.mono b1.size)
  have hwl := x2.lt
  obtain ⟨p0, p1⟩ := x2.cells
  clear hb2 x1
  cases ok
  · rw [if_neg (by simp)] at hV
    subst hV
    go_wp2
    go_ret
    exact ⟨rfl, b2⟩
  · rw [if_pos rfl] at hV
    subst hV
    have HHT := hide (unhide HH rfl)
    clear HH
    go_wp2_with fail
    go_loopw [15] (fun i wr => ∃ j : Nat, i = .int .i64 (j : Int) ∧ j ≤ n ∧ Hid (V = atFrom x y j (Q.drop j)) ∧ Below w2.heap.size w2 wr) (fun i _ => n - (intOf i).toNat)
    case atStart => exact ⟨0, rfl, Nat.zero_le _, unhide H0, Below.refl _ _⟩
    case round =>
      obtain ⟨j, rfl, hj, HR, hb⟩ := hrel
      have b3 := b2.trans (hb.mono b2.size)
      by_cases hlt : j < n
      · have hjL : j < Q.length := by have := unhide HL; omega
        obtain ⟨b, off, rfl, hbB, c0, c1, c2, c3, c4⟩ := unhide HC j hjL
        rw [← b3.cell (p := ⟨b, off + j * 5, none⟩) (by simp; omega)] at c0
        rw [← b3.cell (p := ⟨b, off + j * 5 + 1, none⟩) (by simp; omega)] at c1
        rw [← b3.cell (p := ⟨b, off + j * 5 + 2, none⟩) (by simp; omega)] at c2
        rw [← b3.cell (p := ⟨b, off + j * 5 + 3, none⟩) (by simp; omega)] at c3
        rw [← b3.cell (p := ⟨b, off + j * 5 + 4, none⟩) (by simp; omega)] at c4
        have hr := (unhide HR).trans (unhide HST j hjL)
        rw [unhide HHT j hjL] at hr
        generalize hrest : atFrom x y (j + 1) (Q.drop (j + 1)) = rest at hr
        have HREST := hide hrest
        have hx0 : (0 : Int) ≤ (j : Int) := by omega
        have hx1 : (j : Int) < (n : Int) := by omega
        have hx2 : (n : Int) ≤ 9223372036854775807 := by have := unhide HN; omega
        have HBN : Hid (Below w2.heap.size w2 (wr.alloc (Obj.cells #[Value.int .i64 Q[j].A, Value.int .i64 Q[j].B, Value.int .i64 Q[j].W1, Value.int .i64 Q[j].W2, Value.int .i64 Q[j].W3] 58))) := hb.alloc hb.size _
        have HBW : Hid (Below w.heap.size w (wr.alloc (Obj.cells #[Value.int .i64 Q[j].A, Value.int .i64 Q[j].B, Value.int .i64 Q[j].W1, Value.int .i64 Q[j].W2, Value.int .i64 Q[j].W3] 58))) := b3.alloc b3.size _
        generalize Q[j] = q at c0 c1 c2 c3 c4 hr HBN HBW
        obtain ⟨y0, y1, y2, y3, y4⟩ := q
        simp only at c0 c1 c2 c3 c4 hr HBN HBW
        clear hrest HR hb b3 b2 b1
        by_cases hxy : x ≤ y
        · rw [Int.min_eq_left hxy] at hmn
          rw [Int.max_eq_right hxy] at hmx
          subst hmn hmx
          cases t0 : (y0 == mn) <;> cases t1 : (y1 == mx)
          all_goals
            rw [t0, t1] at hr
            simp only [Bool.and_true, Bool.and_false, Bool.false_eq_true, if_true, if_false] at hr
            subst hr
            go_wp2
            first
              | (all_goals (go_ret; exact ⟨rfl, unhide HBW⟩))
              | (go_roundw
                 case rel => exact ⟨j + 1, by go_num, by omega, (by show _ = _; rw [unhide HREST]), unhide HBN⟩
                 case measure => simp [intOf]; omega)
        · rw [Int.min_eq_right (by omega)] at hmn
          rw [Int.max_eq_left (by omega)] at hmx
          subst hmn hmx
          have hyx : mn < mx := by omega
          cases t0 : (y0 == mn) <;> cases t1 : (y1 == mx)
          all_goals
            rw [t0, t1] at hr
            simp only [Bool.and_true, Bool.and_false, Bool.false_eq_true, if_true, if_false] at hr
            subst hr
            go_wp2
            first
              | (all_goals (go_ret; exact ⟨rfl, unhide HBW⟩))
              | (go_roundw
                 case rel => exact ⟨j + 1, by go_num, by omega, (by show _ = _; rw [unhide HREST]), unhide HBN⟩
                 case measure => simp [intOf]; omega)
      · obtain rfl : j = n := by omega
        have hr := (unhide HR).trans (unhide HEND)
        subst hr
        go_wp2
        go_ret
        exact ⟨rfl, b3⟩

end Gr
end Go.Proofs.Ytldbanpfhlmjmaa

/-
  The contracts of impl.isAscending and impl.arePlaces; what they tell together.
-/
namespace Go.Proofs.Ytldbanpfhlmjmaa
namespace Gr
open Go.RowKit

/-- Whether a list ascends behind a number. -/
def chainFrom : Option Int → List Int → Bool
  | _, [] => true
  | p, y :: r => (match p with | none => true | some q => decide (q < y)) && chainFrom (some y) r

/-- Whether numbers are vertices. -/
def allIn (s : Int) : List Int → Bool
  | [] => true
  | y :: r => (decide (0 ≤ y) && decide (y < s)) && allIn s r

theorem asc_parts (s : Int) : ∀ (K : List Int) (p : Option Int), ascFrom s p K = (chainFrom p K && allIn s K)
  | [], _ => rfl
  | y :: r, p => by
    unfold ascFrom chainFrom allIn
    rw [asc_parts s r (some y)]
    have e : decide (y ≤ s - 1) = decide (y < s) := by rw [decide_eq_decide]; omega
    rw [e]
    generalize (decide (0 ≤ y) && decide (y < s)) = a
    generalize chainFrom (some y) r = b
    generalize allIn s r = c
    cases p with
    | none => cases a <;> cases b <;> cases c <;> rfl
    | some q =>
      simp only
      generalize decide (q < y) = d
      cases a <;> cases b <;> cases c <;> cases d <;> rfl

theorem chainFrom_step (K : List Int) (k : Nat) (h : k < K.length) (h0 : 0 < k) : chainFrom (prevK K k) (K.drop k) = (decide (K[k - 1] < K[k]) && chainFrom (prevK K (k + 1)) (K.drop (k + 1))) := by
  rw [← List.getElem_cons_drop h]
  have e : prevK K (k + 1) = some K[k] := by unfold prevK; simp [h]
  have e2 : prevK K k = some K[k - 1] := by unfold prevK; rw [if_neg (by omega), List.getElem?_eq_getElem (by omega)]
  rw [e, e2]
  rfl

theorem chainFrom_one (K : List Int) : chainFrom none K = chainFrom (prevK K 1) (K.drop 1) := by
  cases K with
  | nil => rfl
  | cons y r => rfl

theorem chainFrom_end (K : List Int) (k : Nat) (h : K.length ≤ k) : chainFrom (prevK K k) (K.drop k) = true := by
  rw [List.drop_of_length_le h]
  cases prevK K k <;> rfl

set_option maxRecDepth 100000 in
set_option maxHeartbeats 1000000 in
theorem isAsc_any (a : Option Addr) (n c B : Nat) (K : List Int) (hn : n ≤ 1048576) (w : World) (hB : B ≤ w.heap.size) (hK : IntsAt w a n B K) :
    Calls Try.prog 89 #[.slice a n c] w fun e w' => e = .returned (.bool (chainFrom none K)) ∧ Below w.heap.size w w' := by
  obtain ⟨hL, hc⟩ := hK
  have HST := hide (fun k h h0 => chainFrom_step K k h h0)
  have HEND : Hid (∀ k, n ≤ k → chainFrom (prevK K k) (K.drop k) = true) := fun k hk => chainFrom_end K k (by omega)
  have H0 : Hid (chainFrom none K = chainFrom (prevK K 1) (K.drop 1)) := chainFrom_one K
  have HC := hide hc
  have HL := hide hL
  generalize chainFrom none K = r at H0 ⊢
  clear hc hL
  go_enter Try.func89, Try.ntmps89
  go_wp2_with fail
  go_loopw [3] (fun i wr => ∃ k : Nat, i = .int .i64 k ∧ 0 < k ∧ k ≤ n + 1 ∧ Hid (r = chainFrom (prevK K k) (K.drop k)) ∧ Below w.heap.size w wr) (fun i _ => n + 1 - (intOf i).toNat)
  case atStart => exact ⟨1, rfl, by omega, by omega, unhide H0, Below.refl _ _⟩
  case round =>
    obtain ⟨k, rfl, hk0, hk, HR, hb⟩ := hrel
    by_cases hlt : k < n
    · have hkL : k < K.length := by have := unhide HL; omega
      obtain ⟨i, rfl⟩ : ∃ i, k = i + 1 := ⟨k - 1, by omega⟩
      obtain ⟨b, off, rfl, hbB, c1⟩ := unhide HC (i + 1) hkL
      obtain ⟨b', off', e', _, c0⟩ := unhide HC i (by omega)
      simp at e'
      obtain ⟨rfl, rfl⟩ := e'
      have hr := (unhide HR).trans (unhide HST (i + 1) hkL hk0)
      rw [← hb.cell (p := ⟨b, off + (i + 1), none⟩) (by simp; omega)] at c1
      rw [← hb.cell (p := ⟨b, off + i, none⟩) (by simp; omega)] at c0
      generalize hrest : chainFrom (prevK K (i + 1 + 1)) (K.drop (i + 1 + 1)) = rest at hr
      have HREST := hide hrest
      simp only [Nat.add_sub_cancel] at hr
      have hx0 : (0 : Int) ≤ (i : Int) := by omega
      have hx1 : (i : Int) + 1 < (n : Int) := by omega
      have hx3 : (i : Int) < (n : Int) := by omega
      have hx2 : (n : Int) ≤ 9223372036854775807 := by omega
      generalize K[i + 1] = y at c1 hr
      generalize K[i] = z at c0 hr
      clear hrest HR
      by_cases t : z < y
      · rw [decide_eq_true t, Bool.true_and] at hr
        subst hr
        go_upto_region 4 with fail
        go_quiet (fail)
        go_wp2
        go_roundw
        case rel => exact ⟨i + 1 + 1, by go_num, by omega, by omega, (by show _ = _; rw [unhide HREST]), below_drewN hb _⟩
        case measure => simp [intOf]; omega
      · rw [decide_eq_false t, Bool.false_and] at hr
        subst hr
        go_upto_region 4 with fail
        go_quiet (fail)
        go_wp2
        go_ret
        exact ⟨rfl, below_drewN hb _⟩
    · have hr := (unhide HR).trans (unhide HEND k (by omega))
      subst hr
      go_wp2
      go_ret
      exact ⟨rfl, hb⟩

theorem allIn_step (s : Int) (K : List Int) (k : Nat) (h : k < K.length) : allIn s (K.drop k) = ((decide (0 ≤ K[k]) && decide (K[k] < s)) && allIn s (K.drop (k + 1))) := by
  rw [← List.getElem_cons_drop h]
  rfl

set_option maxRecDepth 100000 in
set_option maxHeartbeats 1000000 in
theorem arePlaces_is (a : Option Addr) (n c B : Nat) (K : List Int) (s : Int) (hn : n ≤ 1048576) (w : World) (hK : IntsAt w a n B K) :
    Calls Try.prog 90 #[.slice a n c, .int .i64 s] w fun e w' => e = .returned (.bool (allIn s K)) ∧ w' = w := by
  obtain ⟨hL, hc⟩ := hK
  have HST := hide (fun k h => allIn_step s K k h)
  have HEND : Hid (allIn s (K.drop n) = true) := by show _ = _; rw [← hL, List.drop_length]; rfl
  have H0 : Hid (allIn s K = allIn s (K.drop 0)) := rfl
  have HC := hide hc
  have HL := hide hL
  generalize allIn s K = r at H0 ⊢
  clear hc hL
  go_enter Try.func90, Try.ntmps90
  go_wp2_with fail
  go_loop [9] (fun i => ∃ k : Nat, i = .int .i64 k ∧ k ≤ n ∧ Hid (r = allIn s (K.drop k))) (fun i => n - (intOf i).toNat)
  case atStart => exact ⟨0, rfl, Nat.zero_le _, unhide H0⟩
  case round =>
    obtain ⟨k, rfl, hk, HR⟩ := hrel
    by_cases hlt : k < n
    · have hkL : k < K.length := by have := unhide HL; omega
      obtain ⟨b, off, rfl, hbB, hcell⟩ := unhide HC k hkL
      have hx0 : (0 : Int) ≤ (k : Int) := by omega
      have hx1 : (k : Int) < (n : Int) := by omega
      have hr := (unhide HR).trans (unhide HST k hkL)
      generalize hrest : allIn s (K.drop (k + 1)) = rest at hr
      have HREST := hide hrest
      generalize K[k] = y at hcell hr
      have HP := hide (fun w => isPlace_is y s w)
      generalize (decide (0 ≤ y) && decide (y < s)) = kp at HP hr
      clear hrest HR
      cases kp
      · rw [Bool.false_and] at hr
        subst hr
        go_wp2_with fail
        refine (unhide HP _).mono ?_
        rintro e wk ⟨rfl, rfl⟩
        go_wp2
        go_ret
        exact ⟨rfl, rfl⟩
      · rw [Bool.true_and] at hr
        subst hr
        go_wp2_with fail
        refine (unhide HP _).mono ?_
        rintro e wk ⟨rfl, rfl⟩
        go_wp2
        go_round
        case rel => exact ⟨k + 1, by go_num, by omega, (by show _ = _; rw [unhide HREST])⟩
        case measure => simp [intOf]; omega
    · obtain rfl : k = n := by omega
      have hr := (unhide HR).trans (unhide HEND)
      subst hr
      go_wp2
      go_ret
      exact ⟨rfl, rfl⟩

end Gr
end Go.Proofs.Ytldbanpfhlmjmaa

/-
  Groups as sets of nine flags: what overlaps, how many are set; what the program asks of a proof is what the specification does.
-/
namespace Go.Proofs.Ytldbanpfhlmjmaa
namespace Gr
open Go.RowKit

/-- A list as flags. -/
def onF (M : List Int) : Nat → Bool := fun j => inK M (j : Int)

def all9 (p : Nat → Bool) : Bool := (List.range 9).all p

theorem all9_iff (p : Nat → Bool) : all9 p = true ↔ ∀ j, j < 9 → p j = true := by
  unfold all9
  rw [List.all_eq_true]
  simp only [List.mem_range]

theorem all9_eq_iff (f g : Nat → Bool) : all9 (fun j => f j == g j) = true ↔ ∀ j, j < 9 → f j = g j := by
  rw [all9_iff]
  exact ⟨fun h j hj => by simpa using h j hj, fun h j hj => by simpa using h j hj⟩

/-- Two sets overlap. -/
def ov (f g : Nat → Bool) : Bool :=
  !all9 (fun j => (f j && g j) == f j) && (!all9 (fun j => (f j && g j) == g j) && !all9 (fun j => (f j && g j) == false))

/-- How many of n flags are set. -/
def cntF (f : Nat → Bool) : Nat → Nat
  | 0 => 0
  | n + 1 => cntF f n + (if f n = true then 1 else 0)

theorem cntF_congr {f g : Nat → Bool} : ∀ n, (∀ j, j < n → f j = g j) → cntF f n = cntF g n
  | 0, _ => rfl
  | n + 1, h => by
    unfold cntF
    rw [cntF_congr n (fun j hj => h j (by omega)), h n (by omega)]

theorem cntF_le {f g : Nat → Bool} : ∀ n, (∀ j, j < n → f j = true → g j = true) → cntF f n ≤ cntF g n
  | 0, _ => Nat.le_refl _
  | n + 1, h => by
    have := cntF_le n (fun j hj => h j (by omega))
    have h1 := h n (by omega)
    unfold cntF
    cases hf : f n
    · simp
      omega
    · rw [h1 hf]
      simp
      omega

theorem cntF_eq {f g : Nat → Bool} : ∀ n, (∀ j, j < n → f j = true → g j = true) → cntF f n = cntF g n → ∀ j, j < n → f j = g j
  | 0, _, _, j, hj => absurd hj (by omega)
  | n + 1, h, e, j, hj => by
    have hle := cntF_le n (fun j hj => h j (by omega))
    have h1 := h n (by omega)
    unfold cntF at e
    have e2 : f n = g n ∧ cntF f n = cntF g n := by
      cases hf : f n <;> cases hg : g n <;> simp [hf, hg] at e h1 ⊢ <;> omega
    rcases Nat.lt_or_ge j n with hj' | hj'
    · exact cntF_eq n (fun j hj => h j (by omega)) e2.2 j hj'
    · obtain rfl : j = n := by omega
      exact e2.1

theorem cntF_zero (f : Nat → Bool) : ∀ n, cntF f n = 0 ↔ ∀ j, j < n → f j = false := by
  intro n
  have hz : cntF (fun _ => false) n = 0 := by
    induction n with
    | zero => rfl
    | succ n ih => unfold cntF; simp [ih]
  constructor
  · intro h j hj
    have := cntF_eq (f := fun _ => false) (g := f) n (fun j _ h => by cases h) (by rw [hz, h]) j hj
    exact this.symm
  · intro h
    rw [← hz]
    exact cntF_congr n h

/-- How many of some have a flag. -/
def numQ (q : Nat → Bool) : List Int → Nat
  | [] => 0
  | x :: r => (if q x.toNat = true then 1 else 0) + numQ q r

theorem inK_cons (x : Int) (r : List Int) (y : Int) : inK (x :: r) y = (decide (y = x) || inK r y) := by
  unfold inK
  rw [Bool.eq_iff_iff]
  simp

theorem cntF_cons (x : Int) (r : List Int) (q : Nat → Bool) (hx : 0 ≤ x) (hr : inK r x = false) :
    ∀ n, cntF (fun j => onF (x :: r) j && q j) n = (if x.toNat < n ∧ q x.toNat = true then 1 else 0) + cntF (fun j => onF r j && q j) n
  | 0 => by simp [cntF]
  | n + 1 => by
    unfold cntF
    rw [cntF_cons x r q hx hr n]
    unfold onF
    rw [inK_cons]
    obtain ⟨k, rfl⟩ := Int.eq_ofNat_of_zero_le hx
    rw [Int.toNat_natCast]
    by_cases hn : n = k
    · subst hn
      rw [hr]
      simp
      cases q n <;> simp <;> omega
    · have h1 : ¬ ((n : Int) = (k : Int)) := by omega
      simp only [h1, decide_false, Bool.false_or]
      have h2 : k < n + 1 ↔ k < n := by omega
      simp only [h2]
      omega

theorem numQ_is (q : Nat → Bool) : ∀ (a : List Int), a.Pairwise (· < ·) → (∀ x ∈ a, 0 ≤ x ∧ x < 9) → numQ q a = cntF (fun j => onF a j && q j) 9
  | [], _, _ => by
    have h : cntF (fun j => onF [] j && q j) 9 = 0 := (cntF_zero _ 9).2 (fun j _ => by unfold onF inK; simp)
    rw [h]
    rfl
  | x :: r, hp, hx => by
    have hx0 := hx x List.mem_cons_self
    rw [List.pairwise_cons] at hp
    have hn : inK r x = false := by
      unfold inK
      rw [Bool.eq_false_iff]
      intro h
      have hm : x ∈ r := by simpa using h
      have := hp.1 x hm
      omega
    rw [cntF_cons x r q hx0.1 hn 9, ← numQ_is q r hp.2 (fun y hy => hx y (List.mem_cons_of_mem _ hy))]
    have : x.toNat < 9 := by omega
    rw [show numQ q (x :: r) = (if q x.toNat = true then 1 else 0) + numQ q r from rfl]
    simp [this]

theorem cntIn_is (b : List Int) : ∀ (a : List Int) (n : Nat), (∀ x ∈ a, 0 ≤ x ∧ x < 9) → cntIn b n a = n + numQ (onF b) a
  | [], n, _ => rfl
  | x :: r, n, h => by
    have hx0 := h x List.mem_cons_self
    unfold cntIn numQ
    rw [cntIn_is b r _ (fun y hy => h y (List.mem_cons_of_mem _ hy))]
    have e : onF b x.toNat = inK b x := by unfold onF; rw [Int.toNat_of_nonneg hx0.1]
    rw [e]
    cases inK b x <;> simp <;> omega

theorem length_is : ∀ (a : List Int), a.length = numQ (fun _ => true) a
  | [] => rfl
  | x :: r => by
    unfold numQ
    rw [List.length_cons, length_is r]
    simp
    omega

theorem nested_is {a b : List Int} (ha : a.Pairwise (· < ·)) (hb : b.Pairwise (· < ·)) (ra : ∀ x ∈ a, 0 ≤ x ∧ x < 9) (rb : ∀ x ∈ b, 0 ≤ x ∧ x < 9) : nested a b = !ov (onF b) (onF a) := by
  have e1 : cntIn b 0 a = cntF (fun j => onF b j && onF a j) 9 := by
    rw [cntIn_is b a 0 ra, Nat.zero_add, numQ_is _ a ha ra]
    exact cntF_congr 9 (fun j _ => by simp only [Bool.and_comm])
  have e2 : a.length = cntF (onF a) 9 := by
    rw [length_is, numQ_is _ a ha ra]
    exact cntF_congr 9 (fun j _ => by simp)
  have e3 : b.length = cntF (onF b) 9 := by
    rw [length_is, numQ_is _ b hb rb]
    exact cntF_congr 9 (fun j _ => by simp)
  unfold nested ov
  rw [e1, e2, e3]
  have k1 : decide (cntF (fun j => onF b j && onF a j) 9 = 0) = all9 (fun j => (onF b j && onF a j) == false) := by
    rw [Bool.eq_iff_iff, decide_eq_true_eq, cntF_zero, all9_iff]
    exact ⟨fun h j hj => by rw [h j hj]; rfl, fun h j hj => beq_iff_eq.1 (h j hj)⟩
  have k2 : decide (cntF (fun j => onF b j && onF a j) 9 = cntF (onF a) 9) = all9 (fun j => (onF b j && onF a j) == onF a j) := by
    rw [Bool.eq_iff_iff, decide_eq_true_eq, all9_eq_iff (fun j => onF b j && onF a j) (onF a)]
    exact ⟨fun h => cntF_eq 9 (fun j _ hj => by simp at hj; exact hj.2) h, fun h => cntF_congr 9 h⟩
  have k3 : decide (cntF (fun j => onF b j && onF a j) 9 = cntF (onF b) 9) = all9 (fun j => (onF b j && onF a j) == onF b j) := by
    rw [Bool.eq_iff_iff, decide_eq_true_eq, all9_eq_iff (fun j => onF b j && onF a j) (onF b)]
    exact ⟨fun h => cntF_eq 9 (fun j _ hj => by simp at hj; exact hj.1) h, fun h => cntF_congr 9 h⟩
  rw [k1, k2, k3]
  generalize all9 (fun j => (onF b j && onF a j) == false) = x
  generalize all9 (fun j => (onF b j && onF a j) == onF a j) = y
  generalize all9 (fun j => (onF b j && onF a j) == onF b j) = z
  cases x <;> cases y <;> cases z <;> rfl

theorem mem_asc (s : Int) : ∀ (M : List Int) (p : Option Int), memOk s p M = ascFrom s p M
  | [], _ => by unfold memOk ascFrom; rfl
  | y :: r, p => by unfold memOk ascFrom; rw [mem_asc s r] <;> cases p <;> rfl

theorem ascF_sound (s : Int) : ∀ (M : List Int) (p : Option Int), ascFrom s p M = true → M.Pairwise (· < ·) ∧ (∀ x ∈ M, 0 ≤ x ∧ x ≤ s - 1) ∧ (∀ q, p = some q → ∀ x ∈ M, q < x)
  | [], _, _ => ⟨List.Pairwise.nil, (fun x hx => by simp at hx), (fun _ _ x hx => by simp at hx)⟩
  | y :: r, p, h => by
    unfold ascFrom at h
    simp only [Bool.and_eq_true, decide_eq_true_eq] at h
    obtain ⟨h0, h1, h2⟩ := h
    obtain ⟨i1, i2, i3⟩ := ascF_sound s r (some y) h2
    refine ⟨List.pairwise_cons.2 ⟨fun x hx => i3 y rfl x hx, i1⟩, fun x hx => ?_, fun q hq x hx => ?_⟩
    · rcases List.mem_cons.1 hx with rfl | hx
      · exact h0
      · exact i2 x hx
    · subst hq
      simp only [decide_eq_true_eq] at h1
      rcases List.mem_cons.1 hx with rfl | hx
      · exact h1
      · have := i3 y rfl x hx
        omega

theorem ascF_length (s : Int) : ∀ (M : List Int) (p : Int), ascFrom s (some p) M = true → -1 ≤ p → p ≤ s - 1 → (M.length : Int) ≤ s - 1 - p
  | [], p, _, _, hp => by simp; omega
  | y :: r, p, h, h0, _ => by
    unfold ascFrom at h
    simp only [Bool.and_eq_true, decide_eq_true_eq] at h
    have := ascF_length s r y h.2.2 (by omega) (by omega)
    rw [List.length_cons]
    omega

theorem ascF_length_le {s : Int} {M : List Int} (h : ascFrom s none M = true) (hs : 0 ≤ s) : (M.length : Int) ≤ s := by
  cases M with
  | nil => simpa using hs
  | cons y r =>
    unfold ascFrom at h
    simp only [Bool.and_eq_true, decide_eq_true_eq] at h
    have := ascF_length s r y h.2.2 (by omega) (by omega)
    rw [List.length_cons]
    omega

/-- What the program asks of a group by itself. -/
def isPG (s : Int) (q : GrpI) : Bool := (decide (3 ≤ q.M.length) && (decide (q.M.length % 2 = 1) && (decide (1 ≤ q.Z) && decide (q.Z ≤ 1000000000)))) && ascFrom s none q.M

def allPG (s : Int) : List GrpI → Bool
  | [] => true
  | q :: r => isPG s q && allPG s r

theorem allPG_iff (s : Int) : ∀ G, allPG s G = true ↔ ∀ q ∈ G, isPG s q = true
  | [] => by unfold allPG; simp
  | q :: r => by unfold allPG; rw [Bool.and_eq_true, allPG_iff s r]; simp

theorem isPG_head {s : Int} {q : GrpI} (hs : 0 ≤ s) : isPG s q = (grpHead s q && memOk s none q.M) := by
  rw [mem_asc]
  unfold isPG grpHead
  cases h : ascFrom s none q.M
  · simp
  · have := ascF_length_le h hs
    rw [decide_eq_true this]
    simp

/-- The groups' sets. -/
def setF (G : List GrpI) (i : Nat) : Nat → Bool := onF ((G[i]?).elim [] (·.M))

/-- Some two of eight sets overlap. -/
def doOv (F : Nat → Nat → Bool) : Bool := (List.range 8).any fun i => (List.range i).any fun k => ov (F i) (F k)

theorem doOv_iff (F : Nat → Nat → Bool) : doOv F = true ↔ ∃ i k, i < 8 ∧ k < i ∧ ov (F i) (F k) = true := by
  unfold doOv
  simp only [List.any_eq_true, List.mem_range]
  constructor
  · rintro ⟨i, hi, k, hk, h⟩
    exact ⟨i, k, hi, hk, h⟩
  · rintro ⟨i, k, hi, hk, h⟩
    exact ⟨i, hi, k, hk, h⟩

theorem nestAll_iff (b : List Int) : ∀ D, nestAll b D = true ↔ ∀ x ∈ D, nested x.M b = true
  | [] => by unfold nestAll; simp
  | x :: r => by unfold nestAll; rw [Bool.and_eq_true, nestAll_iff b r]; simp

theorem grpsOk_iff (s : Int) : ∀ (G D : List GrpI), grpsOk s D G = true ↔ (∀ q ∈ G, (grpHead s q && memOk s none q.M) = true) ∧ ∀ i (h : i < G.length), nestAll G[i].M (D ++ G.take i) = true
  | [], D => by unfold grpsOk; simp
  | q :: r, D => by
    unfold grpsOk
    simp only [Bool.and_eq_true]
    rw [grpsOk_iff s r (D ++ [q])]
    constructor
    · rintro ⟨h1, h2, h3, h4, h5⟩
      refine ⟨fun x hx => ?_, fun i hi => ?_⟩
      · rcases List.mem_cons.1 hx with rfl | hx
        · exact ⟨h1, h2⟩
        · simpa using h4 x hx
      · cases i with
        | zero => simpa using h3
        | succ i =>
          have := h5 i (by simpa using hi)
          simpa using this
    · rintro ⟨h1, h2⟩
      have hq := h1 q List.mem_cons_self
      have h20 := h2 0 (by simp)
      rw [List.take_zero, List.append_nil] at h20
      refine ⟨hq.1, hq.2, h20, fun x hx => by simpa using h1 x (List.mem_cons_of_mem _ hx), fun i hi => ?_⟩
      have := h2 (i + 1) (by simpa using hi)
      simpa using this

theorem isPG_sets {s : Int} {q : GrpI} (h9 : s ≤ 9) (h : isPG s q = true) : q.M.Pairwise (· < ·) ∧ ∀ x ∈ q.M, 0 ≤ x ∧ x < 9 := by
  unfold isPG at h
  rw [Bool.and_eq_true] at h
  obtain ⟨i1, i2, _⟩ := ascF_sound s q.M none h.2
  exact ⟨i1, fun x hx => by have := i2 x hx; omega⟩

theorem onF_nil : onF [] = fun _ => false := by
  funext j
  unfold onF inK
  simp

theorem ov_none (f : Nat → Bool) : ov (fun _ => false) f = false ∧ ov f (fun _ => false) = false := by
  unfold ov
  have : all9 (fun _ => false == false) = true := by decide
  simp [all9]

theorem grpsOk_is {s : Int} {G : List GrpI} (hs : 0 ≤ s) (h9 : s ≤ 9) (h8 : G.length ≤ 8) (hG : allPG s G = true) : grpsOk s [] G = !doOv (setF G) := by
  have hpg := (allPG_iff s G).1 hG
  rw [Bool.eq_iff_iff, grpsOk_iff]
  simp only [Bool.not_eq_true', Bool.eq_false_iff, ne_eq, doOv_iff, List.nil_append]
  have hat : ∀ i (h : i < G.length), setF G i = onF G[i].M := fun i h => by unfold setF; simp [h]
  constructor
  · rintro ⟨_, h2⟩ ⟨i, k, hi, hk, ho⟩
    rcases Nat.lt_or_ge i G.length with hl | hl
    · have h3 := (nestAll_iff _ _).1 (h2 i hl) G[k] (by
        rw [List.mem_take_iff_getElem]
        exact ⟨k, by omega, rfl⟩)
      obtain ⟨p1, r1⟩ := isPG_sets h9 (hpg _ (List.getElem_mem (show k < G.length by omega)))
      obtain ⟨p2, r2⟩ := isPG_sets h9 (hpg _ (List.getElem_mem hl))
      rw [nested_is p1 p2 r1 r2] at h3
      rw [hat i hl, hat k (by omega)] at ho
      rw [ho] at h3
      cases h3
    · have : setF G i = fun _ => false := by unfold setF; simp [hl, onF_nil]
      rw [this, (ov_none _).1] at ho
      cases ho
  · intro h
    refine ⟨fun q hq => by rw [← isPG_head hs]; exact hpg q hq, fun i hi => (nestAll_iff _ _).2 (fun x hx => ?_)⟩
    rw [List.mem_take_iff_getElem] at hx
    obtain ⟨k, hk, rfl⟩ := hx
    obtain ⟨p1, r1⟩ := isPG_sets h9 (hpg _ (List.getElem_mem (show k < G.length by omega)))
    obtain ⟨p2, r2⟩ := isPG_sets h9 (hpg _ (List.getElem_mem hi))
    rw [nested_is p1 p2 r1 r2]
    cases ho : ov (onF G[i].M) (onF G[k].M)
    · rfl
    · exact absurd ⟨i, k, by omega, by omega, by rw [hat i hi, hat k (by omega)]; exact ho⟩ h

/-- What the program asks of a proof, in its order. -/
theorem proofOk_is (s : Int) (Q : List EdgeI) (Y : List Int) (G : List GrpI) (hgs : graphOk s Q = true → 0 ≤ s ∧ s ≤ 9) :
    proofOk s Q Y G = (graphOk s Q && ((yOk Y && decide ((Y.length : Int) = s)) && ((allPG s G && decide (G.length ≤ 8)) && (!doOv (setF G) && slacksOk Y G Q)))) := by
  unfold proofOk
  cases hg : graphOk s Q with
  | false => rfl
  | true =>
    obtain ⟨h0, h9⟩ := hgs hg
    have key : (decide (G.length ≤ 8) && grpsOk s [] G) = ((allPG s G && decide (G.length ≤ 8)) && !doOv (setF G)) := by
      by_cases h8 : G.length ≤ 8
      · cases hG : allPG s G with
        | false =>
          have : grpsOk s [] G = false := by
            rw [Bool.eq_false_iff]
            intro h
            have h1 := ((grpsOk_iff s G []).1 h).1
            have : allPG s G = true := (allPG_iff s G).2 (fun q hq => by rw [isPG_head h0]; exact h1 q hq)
            rw [hG] at this
            cases this
          rw [this]
          simp
        | true => rw [grpsOk_is h0 h9 h8 hG]; simp
      · rw [decide_eq_false h8]
        simp
    generalize slacksOk Y G Q = c at *
    generalize doOv (setF G) = d at *
    generalize allPG s G = e at *
    generalize decide (G.length ≤ 8) = f at *
    generalize grpsOk s [] G = x at *
    generalize yOk Y = y at *
    generalize decide ((Y.length : Int) = s) = z at *
    revert key
    cases c <;> cases d <;> cases e <;> cases f <;> cases x <;> cases y <;> cases z <;> decide
end Gr
end Go.Proofs.Ytldbanpfhlmjmaa

/-
  Whole arrays in a block of their own: what is there, what a result's cell holds.
-/
namespace Go.Proofs.Ytldbanpfhlmjmaa
namespace Gr
open Go.RowKit

theorem there_block {w : World} {g : Nat} {C : Array Value} {t : TypeId} (h : w.heap[g]? = some (.cells C t (0, 0))) : w.there g 0 C.size := fun j hj => by
  refine ⟨?_, ?_⟩
  · rw [cell_of_row _ _ _ C t (0, 0) h]; simp [hj]
  · unfold World.frozen?
    simp only []
    rw [h]
    simp

theorem results_cell1 {fn : Func} {p : Tmp} {ty : TypeId} (h : fn.results = #[.cell p ty]) (tmps : Array Value) (P : Program) (w : World) :
    (results fn tmps).run P w = ((asAddr (tmps.getD p undef)).run P w).andThen fun a w₁ => (loadVar ty a).run P w₁ := by
  simp only [results, h]
  simp [Sem.run_bind, Result.andThen]

theorem below_setCells (C b : Nat) (hC : C ≤ b) : ∀ (vs : List Value) (o : Nat) (w w0 : World), Below C w0 w → Below C w0 (w.setCells b o vs)
  | [], _, _, _, h => h
  | v :: vs, o, w, w0, h => by
    rw [World.setCells]
    exact below_setCells C b hC vs (o + 1) _ _ (h.setCell (p := ⟨b, o, none⟩) hC v)

/-- Cells set one behind the other. -/
def setMany (C : Array Value) : Nat → List Value → Array Value
  | _, [] => C
  | o, v :: r => setMany (C.setIfInBounds o v) (o + 1) r

theorem setMany_size : ∀ (vs : List Value) (o : Nat) (C : Array Value), (setMany C o vs).size = C.size
  | [], _, _ => rfl
  | v :: r, o, C => by unfold setMany; rw [setMany_size r]; simp

theorem setMany_at : ∀ (vs : List Value) (o : Nat) (C : Array Value) (i : Nat), (setMany C o vs)[i]? = if o ≤ i ∧ i < o + vs.length ∧ i < C.size then vs[i - o]? else C[i]?
  | [], o, C, i => by
    unfold setMany
    rw [if_neg (by simp; omega)]
  | v :: r, o, C, i => by
    unfold setMany
    rw [setMany_at r (o + 1)]
    simp only [Array.size_setIfInBounds, List.length_cons]
    by_cases h1 : o + 1 ≤ i ∧ i < o + 1 + r.length ∧ i < C.size
    · rw [if_pos h1, if_pos (by omega)]
      obtain ⟨k, rfl⟩ : ∃ k, i = o + 1 + k := ⟨i - (o + 1), by omega⟩
      rw [show o + 1 + k - (o + 1) = k by omega, show o + 1 + k - o = k + 1 by omega]
      simp
    · rw [if_neg h1]
      by_cases h2 : o = i
      · subst h2
        by_cases h3 : o < C.size
        · rw [if_pos (by omega), Array.getElem?_setIfInBounds_self]
          simp [h3]
        · rw [if_neg (by omega), Array.getElem?_setIfInBounds_self]
          simp [h3]
      · rw [Array.getElem?_setIfInBounds_ne h2, if_neg (by omega)]

theorem Blk.many {g : Nat} {t : TypeId} : ∀ (vs : List Value) (o : Nat) {W : World} {C : Array Value}, Blk W g C t → Blk (W.setCells g o vs) g (setMany C o vs) t
  | [], _, _, _, h => h
  | v :: r, o, W, C, h => by
    rw [World.setCells]
    exact Blk.many r (o + 1) (h.set o v)

theorem Blk.many_other {g g' : Nat} {t : TypeId} {C : Array Value} (hne : g ≠ g') : ∀ (vs : List Value) (o : Nat) {W : World}, Blk W g C t → Blk (W.setCells g' o vs) g C t
  | [], _, _, h => h
  | v :: r, o, W, h => by
    rw [World.setCells]
    exact Blk.many_other hne r (o + 1) (h.set_other hne o v)

theorem Blk.there {W : World} {g : Nat} {C : Array Value} {t : TypeId} (h : Blk W g C t) (o n : Nat) (hn : o + n ≤ C.size) : W.there g o n := fun j hj => by
  have := there_block h (o + j) (by omega)
  simpa using this

theorem setMany_all (C D : Array Value) (h : C.size = D.size) : setMany C 0 D.toList = D := by
  apply Array.ext_getElem?
  intro i
  rw [setMany_at]
  simp only [Array.length_toList, Nat.zero_add, Nat.zero_le, true_and, Nat.sub_zero]
  split
  · simp
  · rename_i hh
    rw [Array.getElem?_eq_none (by omega), Array.getElem?_eq_none (by omega)]

/-- The load of a whole array, behind a guard that holds. -/
theorem wpList_load_mid_g {P : Program} {ops : Array Oper} {rest : List Oper} {op : Oper} {a : Act} {w : World} {Q : Exit → Act → World → Prop} (hw : Region.wanted op (yielded ops a.tmps) = true) (ty : TypeId) (x : Operand) (ho : op.op = .load ty x)
    (b o : Nat) (hx : a.eval x = .pointer (some ⟨b, o, none⟩)) (cs : List Value) (d : TypeDesc) (hc : w.rangeAt b o cs)
    (hu : P.underlying ty = some d) (hd : d.isRow = true) (hi : (P.info? ty).map (·.size) = some cs.length)
    (h : wpList P ops Q rest (a.put op.dst (.agg cs.toArray)) w) : wpList P ops Q (op :: rest) a w := by
  unfold wpList
  rw [if_pos hw]
  exact Or.inl (wp_load_mid ty x ho b o hx cs d hc hu hd hi h)

/-- The load of a whole array in a region that draws its order and turns nothing. -/
theorem wpQuiet_load_mid {P : Program} {ops : Array Oper} {C : World → Prop} {Q : Act → Prop} {rest : List Oper} {op : Oper} {a : Act} (hw : Region.wanted op (yielded ops a.tmps) = true) (ty : TypeId) (x : Operand) (ho : op.op = .load ty x)
    (b o : Nat) (hx : a.eval x = .pointer (some ⟨b, o, none⟩)) (cs : List Value) (d : TypeDesc) (hc : ∀ w, C w → w.rangeAt b o cs)
    (hu : P.underlying ty = some d) (hd : d.isRow = true) (hi : (P.info? ty).map (·.size) = some cs.length)
    (h : wpQuiet P ops C Q rest (a.put op.dst (.agg cs.toArray))) : wpQuiet P ops C Q (op :: rest) a := by
  unfold wpQuiet
  rw [if_pos hw]
  refine ⟨.agg cs.toArray, fun w hw' => ?_, h⟩
  unfold Oper.quietAt execOp
  simp only [ho, hx, Instr.loadAt, Instr.sureAddr, Sem.run_bind, Sem.run_pure, Result.andThen_ok, run_loadVar_mid w b o ty cs d (hc w hw') hu hd hi]
  exact ⟨rfl, rfl⟩

theorem Blk.range {W : World} {g : Nat} {C : Array Value} {t : TypeId} (h : Blk W g C t) : W.rangeAt g 0 C.toList := by
  have h1 := World.rangeAt_of_block h 0 C.size
  have e : C.extract 0 (0 + C.size) = C := by rw [Nat.zero_add, Array.extract_size]
  rwa [e] at h1

theorem Blk.part {W : World} {g : Nat} {C : Array Value} {t : TypeId} (h : Blk W g C t) (o : Nat) (D : Array Value) (hd : ∀ j, j < D.size → C[o + j]? = D[j]?) : W.rangeAt g o D.toList := fun j v hv => by
  rw [cell_of_row W g (o + j) C t (0, 0) h]
  have hj : j < D.size := by
    have := (List.getElem?_eq_some_iff.1 hv).1
    simpa using this
  rw [hd j hj]
  simpa using hv

end Gr
end Go.Proofs.Ytldbanpfhlmjmaa

/-
  The contracts of impl.setOf, impl.inBoth.
-/
namespace Go.Proofs.Ytldbanpfhlmjmaa
namespace Gr
open Go.RowKit

/-- Nine flags. -/
def fl (f : Nat → Bool) : Array Value := ((List.range 9).map fun (j : Nat) => Value.bool (f j)).toArray

theorem fl_at (f : Nat → Bool) (k : Nat) (h : k < 9) : (fl f)[k]? = some (.bool (f k)) := by
  unfold fl
  simp [h]

theorem fl_size (f : Nat → Bool) : (fl f).size = 9 := by unfold fl; simp

theorem fl_one (f : Nat → Bool) : (fl f).all (·.oneCell') = true := by
  apply Array.all_eq_true_iff_forall_mem.2
  intro v hv
  unfold fl at hv
  simp only [List.mem_toArray, List.mem_map] at hv
  obtain ⟨j, _, rfl⟩ := hv
  rfl

theorem fl_ext {C : Array Value} {f : Nat → Bool} (h : C.size = 9) (hk : ∀ k : Nat, k < 9 → C[k]? = some (.bool (f k))) : C = fl f := by
  apply Array.ext_getElem?
  intro i
  rcases Nat.lt_or_ge i 9 with h' | h'
  · rw [hk i h', fl_at f i h']
  · rw [Array.getElem?_eq_none (by omega), Array.getElem?_eq_none (by rw [fl_size]; omega)]

theorem fl_congr {f g : Nat → Bool} (h : ∀ j, j < 9 → f j = g j) : fl f = fl g := fl_ext (fl_size f) (fun k hk => by rw [fl_at f k hk, h k hk])

theorem fl_set (f : Nat → Bool) (k : Nat) (b : Bool) : (fl f).setIfInBounds k (.bool b) = fl (fun j => if j = k then b else f j) := by
  refine fl_ext (by simp [fl_size]) (fun i hi => ?_)
  by_cases h : k = i
  · subst h
    rw [Array.getElem?_setIfInBounds_self]
    simp [fl_size, hi]
  · rw [Array.getElem?_setIfInBounds_ne h, fl_at f i hi]
    have : ¬ i = k := fun e => h e.symm
    simp [this]

theorem infoSet : (Try.prog.info? 113).map (·.size) = some 9 := by kernel_rfl

theorem infoSetF (f : Nat → Bool) : (Try.prog.info? 113).map (·.size) = some (fl f).size := by rw [infoSet, fl_size]

theorem infoSetL (f : Nat → Bool) : (Try.prog.info? 113).map (·.size) = some (fl f).toList.length := by rw [Array.length_toList, fl_size]; exact infoSet

theorem zero_set (W : World) : (zeroValue 113).run Try.prog W = .ok (.agg (fl fun _ => false)) W := by kernel_rfl

theorem load_set {W : World} {g : Nat} {f : Nat → Bool} (h : Blk W g (fl f) 113) : (loadVar 113 ⟨g, 0, none⟩).run Try.prog W = .ok (.agg (fl f)) W := by
  have h1 := run_loadVar_mid (P := Try.prog) W g 0 113 (fl f).toList _ h.range Try.underlying113 rfl (infoSetL f)
  rwa [Array.toArray_toList] at h1

set_option maxRecDepth 100000 in
set_option maxHeartbeats 1000000 in
theorem setOf_any (a : Option Addr) (n c B : Nat) (K : List Int) (hn : n ≤ 1048576) (hK9 : ∀ x ∈ K, 0 ≤ x ∧ x < 9) (w : World) (hB : B ≤ w.heap.size) (hK : IntsAt w a n B K) :
    Calls Try.prog 82 #[.slice a n c] w fun e w' => e = .returned (.agg (fl (onF K))) ∧ Below w.heap.size w w' := by
  obtain ⟨hL, hc⟩ := hK
  have HC := hide hc
  have HL := hide hL
  have HK9 := hide hK9
  have HST : Hid (∀ j (h : j < K.length) (k : Nat), K[j] = (k : Int) → (fl (onF (K.take j))).setIfInBounds k (.bool true) = fl (onF (K.take (j + 1)))) := fun j h k hk => by
    rw [fl_set]
    refine fl_congr (fun i hi => ?_)
    unfold onF
    rw [List.take_succ_eq_append_getElem h, hk]
    unfold inK
    by_cases e : i = k
    · subst e; simp
    · have e2 : ¬ ((i : Int) = (k : Int)) := by omega
      simp [e, e2]
  have HAT : Hid (∀ (j k : Nat), k < 9 → ∃ b : Bool, (fl (onF (K.take j)))[k]? = some (.bool b)) := fun j k h => ⟨_, fl_at _ k h⟩
  clear hc hL hK9
  have hzv := zero_set
  have HZ : Hid (Array.size (fl fun _ => false) = 9) := fl_size _
  have H0 : Hid ((fl fun _ => false) = fl (onF (K.take 0))) := fl_congr (fun j _ => by unfold onF inK; simp)
  generalize (fl fun _ => false) = Z at hzv HZ H0
  go_enter Try.func82, Try.ntmps82
  go_wp2_with fail
  obtain ⟨V1, hV1⟩ : ∃ W, W = w.alloc (Obj.cells Z 113) := ⟨_, rfl⟩
  obtain ⟨V2, hV2⟩ : ∃ W, W = V1.alloc (Obj.cells Z 113) := ⟨_, rfl⟩
  rw [← hV1, ← hV2]
  have b2 : Below w.heap.size w V2 := by rw [hV2, hV1]; exact (below_new _ _).alloc (by simp) _
  have HR2 : Hid (Blk V2 w.heap.size Z 113) := by show Blk _ _ _ _; rw [hV2, hV1]; exact Blk.new0.alloc
  have HT2 : Hid (Blk V2 (w.heap.size + 1) (fl (onF (K.take 0))) 113) := by show Blk _ _ _ _; rw [← unhide H0, hV2, hV1]; exact Blk.new1
  clear hV1 hV2 H0
  go_loopw [8] (fun i wr => ∃ j : Nat, i = .int .i64 (j : Int) ∧ j ≤ n ∧ Hid (Blk wr (w.heap.size + 1) (fl (onF (K.take j))) 113) ∧ Hid (Blk wr w.heap.size Z 113) ∧ Below w.heap.size w wr) (fun i _ => n - (intOf i).toNat)
  case atStart => exact ⟨0, rfl, Nat.zero_le _, HT2, HR2, b2⟩
  case round =>
    obtain ⟨j, rfl, hj, HT, HR, hb⟩ := hrel
    by_cases hlt : j < n
    · have hjL : j < K.length := by have := unhide HL; omega
      obtain ⟨b, off, rfl, hbB, c1⟩ := unhide HC j hjL
      rw [← hb.cell (p := ⟨b, off + j, none⟩) (by simp; omega)] at c1
      have h9 := unhide HK9 _ (List.getElem_mem hjL)
      have HS := hide (unhide HST j hjL)
      generalize K[j] = x at c1 h9 HS
      obtain ⟨k, rfl⟩ := Int.eq_ofNat_of_zero_le h9.1
      obtain ⟨b0, hb0⟩ := unhide HAT j k (by omega)
      have q0 := (unhide HT).cell k _ hb0
      have f0 := (unhide HT).froz k
      have hx0 : (0 : Int) ≤ (k : Int) := by omega
      have hx1 : (k : Int) < 9 := by omega
      have hx2 : (j : Int) < (n : Int) := by omega
      have HT3 : Hid (Blk (wr.setCell ⟨w.heap.size + 1, k, none⟩ (.bool true)) (w.heap.size + 1) (fl (onF (K.take (j + 1)))) 113) := by
        show Blk _ _ _ _
        rw [← unhide HS k rfl]
        exact (unhide HT).set k _
      have HR3 : Hid (Blk (wr.setCell ⟨w.heap.size + 1, k, none⟩ (.bool true)) w.heap.size Z 113) := (unhide HR).set_other (by omega) k _
      have hb3 : Below w.heap.size w (wr.setCell ⟨w.heap.size + 1, k, none⟩ (.bool true)) := hb.setCell (p := ⟨w.heap.size + 1, k, none⟩) (by simp) _
      clear hb0 h9 HS
      go_wp2_with fail
      exact ⟨⟨j + 1, by go_num, by omega, HT3, HR3, hb3⟩, by simp [intOf]; omega⟩
    · have hje : K.take j = K := List.take_of_length_le (by have := unhide HL; omega)
      rw [hje] at HT
      clear hje
      have HR1 := hide (unhide HT).range
      have HR5 : Hid (wr.there w.heap.size 0 (fl (onF K)).size) := (unhide HR).there 0 _ (by rw [fl_size, unhide HZ]; omega)
      have hi1 := hide (infoSetL (onF K))
      have hi2 := hide (infoSetF (onF K))
      have h1 := hide (fl_one (onF K))
      have HB : Hid (Blk (wr.setCells w.heap.size 0 (fl (onF K)).toList) w.heap.size (fl (onF K)) 113) := by
        have h := Blk.many (fl (onF K)).toList 0 (unhide HR)
        rwa [setMany_all _ _ (by rw [fl_size, unhide HZ])] at h
      have HLD := hide (load_set (unhide HB))
      generalize hC : fl (onF K) = C at HR1 HR5 hi1 hi2 h1 HLD
      have HCE := hide hC
      clear hC HB
      go_wp2_with (first
        | refine wpList_load_mid rfl 113 _ rfl (w.heap.size + 1) 0 rfl C.toList _ (unhide HR1) Try.underlying113 rfl (unhide hi1) ?_
        | refine wpList_store_mid rfl 113 _ _ rfl w.heap.size 0 C rfl rfl (unhide HR5) (unhide hi2) (unhide h1) ?_)
      refine bodyPost_ret (v := .agg C) ?_ rfl ⟨(by rw [unhide HCE]), below_setCells _ _ (Nat.le_refl _) _ _ _ _ hb⟩
      have hld := unhide HLD
      rw [results_cell1 rfl]
      show ((asAddr (Value.pointer (some ⟨w.heap.size, 0, none⟩))).run Try.prog _).andThen _ = _
      simp [asAddr, Result.andThen, hld]

/-- Flags in both, of the first k. -/
def bothTo (f g : Nat → Bool) (k : Nat) : Nat → Bool := fun j => if j < k then f j && g j else false

theorem bothTo_step (f g : Nat → Bool) (k : Nat) : (fl (bothTo f g k)).setIfInBounds k (.bool (f k && g k)) = fl (bothTo f g (k + 1)) := by
  rw [fl_set]
  refine fl_congr (fun j _ => ?_)
  unfold bothTo
  by_cases h : j = k
  · subst h; simp
  · have : j < k + 1 ↔ j < k := by omega
    simp [h, this]

theorem bothTo_end (f g : Nat → Bool) : fl (bothTo f g 9) = fl (fun j => f j && g j) := fl_congr (fun j hj => by unfold bothTo; simp [hj])

set_option maxRecDepth 100000 in
set_option maxHeartbeats 1000000 in
theorem inBoth_any (f g : Nat → Bool) (w : World) :
    Calls Try.prog 91 #[.agg (fl f), .agg (fl g)] w fun e w' => e = .returned (.agg (fl (fun j => f j && g j))) ∧ Below w.heap.size w w' := by
  have HST := hide (fun k => bothTo_step f g k)
  have HEND := hide (bothTo_end f g)
  have HAF := hide (fl_at f)
  have HAG := hide (fl_at g)
  have HAB : Hid (∀ (j k : Nat), k < 9 → ∃ b : Bool, (fl (bothTo f g j))[k]? = some (.bool b)) := fun j k h => ⟨_, fl_at _ k h⟩
  have hzv := zero_set
  have HZ : Hid (Array.size (fl fun _ => false) = 9) := fl_size _
  have H0 : Hid ((fl fun _ => false) = fl (bothTo f g 0)) := fl_congr (fun j _ => by unfold bothTo; simp)
  generalize (fl fun _ => false) = Z at hzv HZ H0
  generalize fl f = F at HAF ⊢
  generalize fl g = G at HAG ⊢
  go_enter Try.func91, Try.ntmps91
  go_wp2_with fail
  obtain ⟨V0, hV0⟩ : ∃ W, W = w.alloc (Obj.cells F 113) := ⟨_, rfl⟩
  obtain ⟨V1, hV1⟩ : ∃ W, W = V0.alloc (Obj.cells G 113) := ⟨_, rfl⟩
  obtain ⟨V2, hV2⟩ : ∃ W, W = V1.alloc (Obj.cells Z 113) := ⟨_, rfl⟩
  obtain ⟨V3, hV3⟩ : ∃ W, W = V2.alloc (Obj.cells Z 113) := ⟨_, rfl⟩
  rw [← hV0, ← hV1, ← hV2, ← hV3]
  have b3 : Below w.heap.size w V3 := by rw [hV3, hV2, hV1, hV0]; exact (((below_new _ _).alloc (by simp) _).alloc (by simp; omega) _).alloc (by simp; omega) _
  have HF3 : Hid (Blk V3 w.heap.size F 113) := by show Blk _ _ _ _; rw [hV3, hV2, hV1, hV0]; exact Blk.new0.alloc.alloc.alloc
  have HG3 : Hid (Blk V3 (w.heap.size + 1) G 113) := by show Blk _ _ _ _; rw [hV3, hV2, hV1, hV0]; exact Blk.new1.alloc.alloc
  have HR3 : Hid (Blk V3 (w.heap.size + 1 + 1) Z 113) := by show Blk _ _ _ _; rw [hV3, hV2, hV1, hV0]; exact Blk.new2.alloc
  have HT3 : Hid (Blk V3 (w.heap.size + 1 + 1 + 1) (fl (bothTo f g 0)) 113) := by show Blk _ _ _ _; rw [← unhide H0, hV3]; exact Blk.new (by rw [hV2, hV1, hV0]; simp)
  clear hV0 hV1 hV2 hV3 H0
  go_loopw [7] (fun i wr => ∃ k : Nat, i = .int .i64 (k : Int) ∧ k ≤ 9 ∧ Hid (Blk wr (w.heap.size + 1 + 1 + 1) (fl (bothTo f g k)) 113) ∧ Hid (Blk wr (w.heap.size + 1 + 1) Z 113) ∧ Hid (Blk wr (w.heap.size + 1) G 113) ∧ Hid (Blk wr w.heap.size F 113) ∧ Below w.heap.size w wr) (fun i _ => 9 - (intOf i).toNat)
  case atStart => exact ⟨0, rfl, Nat.zero_le _, HT3, HR3, HG3, HF3, b3⟩
  case round =>
    obtain ⟨k, rfl, hk, HT, HR, HG, HF, hb⟩ := hrel
    by_cases hlt : k < 9
    · obtain ⟨b0, hb0⟩ := unhide HAB k k hlt
      have q0 := (unhide HT).cell k _ hb0
      have f0 := (unhide HT).froz k
      have q1 := (unhide HF).cell k _ (unhide HAF k hlt)
      have q2 := (unhide HG).cell k _ (unhide HAG k hlt)
      have hx0 : (0 : Int) ≤ (k : Int) := by omega
      have hx1 : (k : Int) < 9 := by omega
      have HS := hide (unhide HST k)
      clear hb0
      generalize f k = fk at q1 HS
      generalize g k = gk at q2 HS
      have HT4 : Hid (Blk (wr.setCell ⟨w.heap.size + 1 + 1 + 1, k, none⟩ (.bool (fk && gk))) (w.heap.size + 1 + 1 + 1) (fl (bothTo f g (k + 1))) 113) := by
        show Blk _ _ _ _
        rw [← unhide HS]
        exact (unhide HT).set k _
      have HR4 : Hid (Blk (wr.setCell ⟨w.heap.size + 1 + 1 + 1, k, none⟩ (.bool (fk && gk))) (w.heap.size + 1 + 1) Z 113) := (unhide HR).set_other (by omega) k _
      have HG4 : Hid (Blk (wr.setCell ⟨w.heap.size + 1 + 1 + 1, k, none⟩ (.bool (fk && gk))) (w.heap.size + 1) G 113) := (unhide HG).set_other (by omega) k _
      have HF4 : Hid (Blk (wr.setCell ⟨w.heap.size + 1 + 1 + 1, k, none⟩ (.bool (fk && gk))) w.heap.size F 113) := (unhide HF).set_other (by omega) k _
      have hb4 : Below w.heap.size w (wr.setCell ⟨w.heap.size + 1 + 1 + 1, k, none⟩ (.bool (fk && gk))) := hb.setCell (p := ⟨w.heap.size + 1 + 1 + 1, k, none⟩) (by simp; omega) _
      clear HS HT HR HG HF
      cases fk with
      | true =>
        rw [Bool.true_and] at *
        go_wp2_with fail
        exact ⟨⟨k + 1, by go_num, by omega, HT4, HR4, HG4, HF4, hb4⟩, by simp [intOf]; omega⟩
      | false =>
        rw [Bool.false_and] at *
        go_wp2_with fail
        exact ⟨⟨k + 1, by go_num, by omega, HT4, HR4, HG4, HF4, hb4⟩, by simp [intOf]; omega⟩
    · obtain rfl : k = 9 := by omega
      rw [unhide HEND] at HT
      have HR1 := hide (unhide HT).range
      have HR5 : Hid (wr.there (w.heap.size + 1 + 1) 0 (fl (fun j => f j && g j)).size) := (unhide HR).there 0 _ (by rw [fl_size, unhide HZ]; omega)
      have hi1 := hide (infoSetL (fun j => f j && g j))
      have hi2 := hide (infoSetF (fun j => f j && g j))
      have h1 := hide (fl_one (fun j => f j && g j))
      have HB : Hid (Blk (wr.setCells (w.heap.size + 1 + 1) 0 (fl (fun j => f j && g j)).toList) (w.heap.size + 1 + 1) (fl (fun j => f j && g j)) 113) := by
        have h := Blk.many (fl (fun j => f j && g j)).toList 0 (unhide HR)
        rwa [setMany_all _ _ (by rw [fl_size, unhide HZ])] at h
      have HLD := hide (load_set (unhide HB))
      generalize hC : fl (fun j => f j && g j) = C at HR1 HR5 hi1 hi2 h1 HLD
      have HCE := hide hC
      clear hC HB
      go_wp2_with (first
        | refine wpList_load_mid rfl 113 _ rfl (w.heap.size + 1 + 1 + 1) 0 rfl C.toList _ (unhide HR1) Try.underlying113 rfl (unhide hi1) ?_
        | refine wpList_store_mid rfl 113 _ _ rfl (w.heap.size + 1 + 1) 0 C rfl rfl (unhide HR5) (unhide hi2) (unhide h1) ?_)
      refine bodyPost_ret (v := .agg C) ?_ rfl ⟨(by rw [unhide HCE]), below_setCells _ _ (by omega) _ _ _ _ hb⟩
      have hld := unhide HLD
      rw [results_cell1 rfl]
      show ((asAddr (Value.pointer (some ⟨w.heap.size + 1 + 1, 0, none⟩))).run Try.prog _).andThen _ = _
      simp [asAddr, Result.andThen, hld]
end Gr
end Go.Proofs.Ytldbanpfhlmjmaa

/-
  The contracts of impl.memberSet.overlaps and hasEnds.
-/
namespace Go.Proofs.Ytldbanpfhlmjmaa
namespace Gr
open Go.RowKit

theorem cells_bool : Try.prog.cellsOf 4 = 1 := by kernel_rfl

theorem infoB : ∃ i, Try.prog.info? 4 = some i := by
  cases h : Try.prog.info? 4 with
  | some i => exact ⟨i, rfl⟩
  | none =>
    have e : (Try.prog.info? 4).isSome = true := by kernel_rfl
    rw [h] at e
    cases e

theorem part_fl (f : Nat → Bool) (W : World) : ∀ j, j < 9 → (Go.part 4 (fl f) (j * 1)).run Try.prog W = .ok (.bool (f j)) W
  | 0, _ => by kernel_rfl
  | 1, _ => by kernel_rfl
  | 2, _ => by kernel_rfl
  | 3, _ => by kernel_rfl
  | 4, _ => by kernel_rfl
  | 5, _ => by kernel_rfl
  | 6, _ => by kernel_rfl
  | 7, _ => by kernel_rfl
  | 8, _ => by kernel_rfl
  | n + 9, h => absurd h (by omega)

theorem items_fl (f g : Nat → Bool) (d : Nat) (W : World) : ∀ (L : List Nat), (∀ j ∈ L, j < 9) → (Op.eqItems (d + 1) 4 1 (fl f) (fl g) L).run Try.prog W = .ok (L.all fun j => f j == g j) W
  | [], _ => by simp [Op.eqItems]
  | j :: r, h => by
    have h1 := part_fl f W j (h j List.mem_cons_self)
    have h2 := part_fl g W j (h j List.mem_cons_self)
    have h3 := items_fl f g d W r (fun x hx => h x (List.mem_cons_of_mem _ hx))
    simp only [Op.eqItems, Sem.run_bind, h1, h2, Result.andThen_ok, run_equalIn_bool W d 4 (f j) (g j) Try.underlying4, List.all_cons]
    cases (f j == g j)
    · simp
    · simp [h3]

theorem eq_fl (f g : Nat → Bool) (W : World) : (Op.equalIn 10000 113 (.agg (fl f)) (.agg (fl g))).run Try.prog W = .ok (all9 fun j => f j == g j) W := by
  obtain ⟨i, hi⟩ := infoB
  have h := run_equalIn_array W 9999 (fl f) (fl g) Try.underlying113 hi
  rw [show (10000 : Nat) = 9999 + 1 from rfl, h, cells_bool]
  exact items_fl f g 9998 W (List.range 9) (fun j hj => List.mem_range.1 hj)

set_option maxRecDepth 100000 in
set_option maxHeartbeats 1000000 in
theorem overlaps_any (f g : Nat → Bool) (w : World) :
    Calls Try.prog 81 #[.agg (fl f), .agg (fl g)] w fun e w' => e = .returned (.bool (ov f g)) ∧ Below w.heap.size w w' := by
  have IB := hide (fun w => inBoth_any f g w)
  have E1 := hide (eq_fl (fun j => f j && g j) f)
  have E2 := hide (eq_fl (fun j => f j && g j) g)
  have E3 := hide (eq_fl (fun j => f j && g j) (fun _ => false))
  have hR : ov f g = (!all9 (fun j => (f j && g j) == f j) && (!all9 (fun j => (f j && g j) == g j) && !all9 (fun j => (f j && g j) == false))) := rfl
  generalize ov f g = R at hR ⊢
  have hiF := hide (infoSetL f)
  have hiG := hide (infoSetL g)
  have hiC := hide (infoSetL (fun j => f j && g j))
  have hiS := hide (infoSetF (fun j => f j && g j))
  have hC := hide (fl_size (fun j => f j && g j))
  have h1C := hide (fl_one (fun j => f j && g j))
  have hzv := zero_set
  have hZ : Hid (Array.size (fl fun _ => false) = 9) := fl_size _
  generalize (fl fun _ => false) = Z at hzv hZ E3
  generalize fl (fun j => f j && g j) = C at IB E1 E2 E3 hC h1C hiC hiS
  generalize fl f = F at IB E1 hiF ⊢
  generalize fl g = G at IB E2 hiG ⊢
  generalize all9 (fun j => (f j && g j) == f j) = r1 at E1 hR
  generalize all9 (fun j => (f j && g j) == g j) = r2 at E2 hR
  generalize all9 (fun j => (f j && g j) == false) = r3 at E3 hR
  have hu := Try.underlying113
  have HU := hide hu
  clear hu
  go_enter Try.func81, Try.ntmps81
  obtain ⟨V1, hV1⟩ : ∃ W, W = (w.alloc (Obj.cells F 113)).alloc (Obj.cells G 113) := ⟨_, rfl⟩
  have b1 : Below w.heap.size w V1 := by rw [hV1]; exact (below_new _ _).alloc (by simp) _
  have HF1 : Hid (Blk V1 w.heap.size F 113) := by show Blk _ _ _ _; rw [hV1]; exact Blk.new0.alloc
  have HG1 : Hid (Blk V1 (w.heap.size + 1) G 113) := by show Blk _ _ _ _; rw [hV1]; exact Blk.new1
  have l1 := hide (unhide HF1).range
  have l2 := hide (unhide HG1).range
  rw [hV1] at l1 l2
  go_wp2_with (first
    | refine wpList_load_mid rfl 113 _ rfl w.heap.size 0 rfl F.toList _ (unhide l1) (unhide HU) rfl (unhide hiF) ?_
    | refine wpList_load_mid rfl 113 _ rfl (w.heap.size + 1) 0 rfl G.toList _ (unhide l2) (unhide HU) rfl (unhide hiG) ?_)
  rw [← hV1]
  clear hV1 l1 l2
  refine (unhide IB V1).mono ?_
  rintro e w2 ⟨rfl, hb2⟩
  have b2 := b1.trans (hb2.mono b1.size)
  have HF2 := hide ((unhide HF1).below hb2)
  have HG2 := hide ((unhide HG1).below hb2)
  have z2 := (unhide HG2).lt
  obtain ⟨V3, hV3⟩ : ∃ W, W = w2.alloc (Obj.cells Z 113) := ⟨_, rfl⟩
  have HB3 : Hid (Blk V3 w2.heap.size Z 113) := by show Blk _ _ _ _; rw [hV3]; exact Blk.new0
  have t3 : Hid (V3.there w2.heap.size 0 C.size) := (unhide HB3).there 0 _ (by rw [unhide hZ, unhide hC]; omega)
  obtain ⟨V4, hV4⟩ : ∃ W, W = V3.setCells w2.heap.size 0 C.toList := ⟨_, rfl⟩
  have HC4 : Hid (Blk V4 w2.heap.size C 113) := by
    have h := Blk.many C.toList 0 (unhide HB3)
    rw [setMany_all _ _ (by rw [unhide hZ, unhide hC])] at h
    rw [hV4]
    exact h
  have HF4 : Hid (Blk V4 w.heap.size F 113) := by
    show Blk _ _ _ _
    rw [hV4, hV3]
    exact Blk.many_other (by omega) _ _ (unhide HF2).alloc
  have HG4 : Hid (Blk V4 (w.heap.size + 1) G 113) := by
    show Blk _ _ _ _
    rw [hV4, hV3]
    exact Blk.many_other (by omega) _ _ (unhide HG2).alloc
  have b4 : Below w.heap.size w V4 := by rw [hV4, hV3]; exact below_setCells _ _ b2.size _ _ _ _ (b2.alloc b2.size _)
  have l1 := hide (unhide HF4).range
  have l2 := hide (unhide HG4).range
  have l3 := hide (unhide HC4).range
  have e1 := unhide E1 V4
  have e2 := unhide E2 V4
  have e3 := unhide E3 V4
  rw [hV3] at hV4 t3
  rw [hV4] at l1 l2 l3 e1 e2 e3 b4
  clear hV4 hV3 HB3 HF1 HG1 HF2 HG2 HF4 HG4 HC4 hb2 z2 E1 E2 E3 b1 b2
  cases r1 with
  | true =>
    have hR1 : R = false := by rw [hR]; rfl
    clear hR
    subst hR1
    go_wp2_with (first
      | refine wpList_store_mid rfl 113 _ _ rfl w2.heap.size 0 C rfl rfl (unhide t3) (unhide hiS) (unhide h1C) ?_
      | refine wpList_load_mid rfl 113 _ rfl w2.heap.size 0 rfl C.toList _ (unhide l3) (unhide HU) rfl (unhide hiC) ?_
      | refine wpList_load_mid rfl 113 _ rfl w.heap.size 0 rfl F.toList _ (unhide l1) (unhide HU) rfl (unhide hiF) ?_)
    go_ret
    exact ⟨rfl, b4⟩
  | false =>
    cases r2 with
    | true =>
      have hR1 : R = false := by rw [hR]; rfl
      clear hR
      subst hR1
      go_wp2_with (first
        | refine wpList_store_mid rfl 113 _ _ rfl w2.heap.size 0 C rfl rfl (unhide t3) (unhide hiS) (unhide h1C) ?_
        | refine wpList_load_mid_g (by rfl) 113 _ rfl w2.heap.size 0 rfl C.toList _ (unhide l3) (unhide HU) rfl (unhide hiC) ?_
        | refine wpList_load_mid_g (by rfl) 113 _ rfl (w.heap.size + 1) 0 rfl G.toList _ (unhide l2) (unhide HU) rfl (unhide hiG) ?_
        | refine wpList_load_mid_g (by rfl) 113 _ rfl w.heap.size 0 rfl F.toList _ (unhide l1) (unhide HU) rfl (unhide hiF) ?_)
      go_ret
      exact ⟨rfl, b4⟩
    | false =>
      have hR1 : R = !r3 := by rw [hR]; rfl
      clear hR
      subst hR1
      go_wp2_with (first
        | refine wpList_store_mid rfl 113 _ _ rfl w2.heap.size 0 C rfl rfl (unhide t3) (unhide hiS) (unhide h1C) ?_
        | refine wpList_load_mid_g (by rfl) 113 _ rfl w2.heap.size 0 rfl C.toList _ (unhide l3) (unhide HU) rfl (unhide hiC) ?_
        | refine wpList_load_mid_g (by rfl) 113 _ rfl (w.heap.size + 1) 0 rfl G.toList _ (unhide l2) (unhide HU) rfl (unhide hiG) ?_
        | refine wpList_load_mid_g (by rfl) 113 _ rfl w.heap.size 0 rfl F.toList _ (unhide l1) (unhide HU) rfl (unhide hiF) ?_)
      go_ret
      exact ⟨rfl, b4⟩
end Gr
end Go.Proofs.Ytldbanpfhlmjmaa
