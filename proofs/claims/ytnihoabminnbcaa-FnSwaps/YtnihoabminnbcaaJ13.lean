/-
 GrInd, GrMatch, GrBest0, GrSumsMath, GrBestMath, GrEach, GrIndMath.
-/
import Derived.Test.YtnihoabminnbcaaJ12
import Derived.Test.YtnihoabminnbcaaJ6
import Derived.Deep.AppendLies
import Derived.Test.YtnihoabminnbcaaJ3
import Derived.Test.YtnihoabminnbcaaJ2
import Derived.Deep.RegionWith
import Derived.BigQuiet
namespace Go.Proofs.Ytnihoabminnbcaa
namespace Gr
open Go.RowKit
/-- Where a number stands first on a list. -/
def placeFrom (x : Int) : Nat → List Int → Int
  | _, [] => -1
  | k, y :: r => if (y == x) = true then (k : Int) else placeFrom x (k + 1) r
def placeOf (K : List Int) (x : Int) : Int := placeFrom x 0 K
theorem placeFrom_step (x : Int) (K : List Int) (k : Nat) (h : k < K.length) : placeFrom x k (K.drop k) = if (K[k] == x) = true then (k : Int) else placeFrom x (k + 1) (K.drop (k + 1)) := by
  rw [← List.getElem_cons_drop h]
  rfl
set_option maxRecDepth 100000 in
set_option maxHeartbeats 1000000 in
theorem place_any (a : Option Addr) (n c B : Nat) (K : List Int) (x : Int) (hn : n ≤ 1048576) (w : World) (hK : IntsAt w a n B K) :
    Calls Try.prog 60 #[.slice a n c, .int .i64 x] w fun e w' => e = .returned (.int .i64 (placeOf K x)) ∧ w' = w := by
  obtain ⟨hL, hc⟩ := hK
  have HST := hide (fun k h => placeFrom_step x K k h)
  have HEND : Hid (placeFrom x n (K.drop n) = -1) := by show _ = _; rw [← hL, List.drop_length]; rfl
  have H0 : Hid (placeOf K x = placeFrom x 0 (K.drop 0)) := rfl
  have HC := hide hc
  have HL := hide hL
  generalize placeOf K x = r at H0 ⊢
  clear hc hL
  go_enter Try.func60, Try.ntmps60
  go_wp2_with fail
  go_loop [5] (fun i => ∃ k : Nat, i = .int .i64 k ∧ k ≤ n ∧ Hid (r = placeFrom x k (K.drop k))) (fun i => n - (intOf i).toNat)
  case atStart => exact ⟨0, rfl, Nat.zero_le _, unhide H0⟩
  case round =>
    obtain ⟨k, rfl, hk, HR⟩ := hrel
    by_cases hlt : k < n
    · have hkL : k < K.length := by have := unhide HL; omega
      obtain ⟨b, off, rfl, hbB, hcell⟩ := unhide HC k hkL
      have hx0 : (0 : Int) ≤ (k : Int) := by omega
      have hx1 : (k : Int) < (n : Int) := by omega
      have hr := (unhide HR).trans (unhide HST k hkL)
      generalize hrest : placeFrom x (k + 1) (K.drop (k + 1)) = rest at hr
      have HREST := hide hrest
      generalize K[k] = y at hcell hr
      clear hrest HR
      cases t0 : (y == x)
      · rw [t0, if_neg (by simp)] at hr
        subst hr
        go_wp2
        go_round
        case rel => exact ⟨k + 1, by go_num, by omega, (by show _ = _; rw [unhide HREST])⟩
        case measure => simp [intOf]; omega
      · rw [t0, if_pos rfl] at hr
        subst hr
        go_wp2
        go_ret
        exact ⟨rfl, rfl⟩
    · obtain rfl : k = n := by omega
      have hr := (unhide HR).trans (unhide HEND)
      subst hr
      go_wp2
      go_ret
      exact ⟨rfl, rfl⟩
/-- Whether a list ascends, and has vertices alone. -/
def ascFrom (s : Int) : Option Int → List Int → Bool
  | _, [] => true
  | p, y :: r => (decide (0 ≤ y) && decide (y ≤ s - 1)) && ((match p with | none => true | some q => decide (q < y)) && ascFrom s (some y) r)
def prevK (K : List Int) (k : Nat) : Option Int := if k = 0 then none else K[k - 1]?
theorem ascFrom_step (s : Int) (K : List Int) (k : Nat) (h : k < K.length) : ascFrom s (prevK K k) (K.drop k) = ((decide (0 ≤ K[k]) && decide (K[k] ≤ s - 1)) && ((match prevK K k with | none => true | some q => decide (q < K[k])) && ascFrom s (prevK K (k + 1)) (K.drop (k + 1)))) := by
  rw [← List.getElem_cons_drop h]
  have e : prevK K (k + 1) = some K[k] := by unfold prevK; simp [h]
  rw [e]
  rfl
/-- An edge among the vertices of a list. -/
def indE (K : List Int) (e : EdgeI) : Option EdgeI := if 0 ≤ placeOf K e.A ∧ 0 ≤ placeOf K e.B then some ⟨placeOf K e.A, placeOf K e.B, e.W1, e.W2, e.W3⟩ else none
def indL (K : List Int) (Q : List EdgeI) : List EdgeI := Q.filterMap (indE K)
def indOk (s : Int) (Q : List EdgeI) (K : List Int) : Bool := graphOk s Q && ascFrom s none K
def indS (s : Int) (Q : List EdgeI) (K : List Int) : Int := if indOk s Q K = true then (K.length : Int) else 0
def indQ (s : Int) (Q : List EdgeI) (K : List Int) : List EdgeI := if indOk s Q K = true then indL K Q else []
theorem indL_length (K : List Int) (Q : List EdgeI) : (indL K Q).length ≤ Q.length := List.length_filterMap_le _ _
theorem indQ_length (s : Int) (Q : List EdgeI) (K : List Int) : (indQ s Q K).length ≤ Q.length := by
  unfold indQ
  split
  · exact indL_length K Q
  · simp
theorem indL_step (K : List Int) (Q : List EdgeI) (k : Nat) (h : k < Q.length) : indL K (Q.drop k) = (match indE K Q[k] with | none => [] | some x => [x]) ++ indL K (Q.drop (k + 1)) := by
  rw [← List.getElem_cons_drop h]
  unfold indL
  rw [List.filterMap_cons]
  cases indE K Q[k] <;> rfl
/-- What a function answers that hands back a graph and a flag. -/
def GrPost (w : World) (s : Int) (Q : List EdgeI) (b : Bool) (e : Ending) (w' : World) : Prop :=
  (∃ d, e = .returned (.tuple #[d, .bool b]) ∧ GrOwn w' w.heap.size d s Q) ∧ Below w.heap.size w w'
theorem grNil (w : World) (B : Nat) : GrOwn w B (.agg #[.int .i64 0, .slice none 0 0]) 0 [] := ⟨_, rfl, rfl, .inl ⟨rfl, rfl⟩⟩
theorem news_edge (W : World) (a b c d e : Int) (t : TypeId) : ∀ j u, [Value.int .i64 a, Value.int .i64 b, Value.int .i64 c, Value.int .i64 d, Value.int .i64 e][j]? = some u → (W.alloc (Obj.cells #[.int .i64 a, .int .i64 b, .int .i64 c, .int .i64 d, .int .i64 e] t)).cell? ((⟨W.heap.size, 0, none⟩ : Addr).add j) = some u :=
  World.news_of_block (heap_alloc_new W (Obj.cells #[.int .i64 a, .int .i64 b, .int .i64 c, .int .i64 d, .int .i64 e] t))
theorem edge_one (a b c d e : Int) : ∀ u ∈ [Value.int .i64 a, Value.int .i64 b, Value.int .i64 c, Value.int .i64 d, Value.int .i64 e], u.oneCell' = true := by
  intro u hu
  simp at hu
  rcases hu with rfl | rfl | rfl | rfl | rfl <;> rfl
theorem wrap_in (x : Int) (h : -9223372036854775808 ≤ x ∧ x ≤ 9223372036854775807) : IntKind.i64.wrap x = x := by
  have e : IntKind.i64.wrap x = if (9223372036854775808 : Int) ≤ x % 18446744073709551616 then x % 18446744073709551616 - 18446744073709551616 else x % 18446744073709551616 := by
    simp [IntKind.wrap, IntKind.signed, IntKind.bits]
  rw [e]
  split <;> omega
def aheadC (p : Option CoupleI) (x : CoupleI) : Bool := match p with | none => true | some q => decide (q.A < x.A)
/-- Whether couples may stand behind another one, where some vertices are used. -/
def mFrom (Q : List EdgeI) : Option CoupleI → List Int → List CoupleI → Bool
  | _, _, [] => true
  | p, U, x :: r => decide (x.A < x.B) && (aheadC p x && (decide (0 ≤ atFrom x.A x.B 0 Q) && (!inK U x.A && (!inK U x.B && mFrom Q (some x) (U ++ [x.A, x.B]) r))))
/-- Whether couples are a pairing of a graph. -/
def matchOk (s : Int) (Q : List EdgeI) (M : List CoupleI) : Bool := graphOk s Q && (decide (M.length ≤ 9) && mFrom Q none [] M)
def prevC (M : List CoupleI) (k : Nat) : Option CoupleI := if k = 0 then none else M[k - 1]?
theorem mFrom_step (Q : List EdgeI) (M : List CoupleI) (U : List Int) (k : Nat) (h : k < M.length) : mFrom Q (prevC M k) U (M.drop k) = (decide (M[k].A < M[k].B) && (aheadC (prevC M k) M[k] && (decide (0 ≤ atFrom M[k].A M[k].B 0 Q) && (!inK U M[k].A && (!inK U M[k].B && mFrom Q (prevC M (k + 1)) (U ++ [M[k].A, M[k].B]) (M.drop (k + 1))))))) := by
  rw [← List.getElem_cons_drop h]
  have e : prevC M (k + 1) = some M[k] := by unfold prevC; simp [h]
  rw [e]
  rfl
theorem two_int (x y : Int) : ∀ u ∈ [Value.int .i64 x, Value.int .i64 y], u.oneCell' = true := fun u hu => by simp at hu; rcases hu with rfl | rfl <;> rfl
theorem intsV_two (K : List Int) (x y : Int) : intsV (K ++ [x, y]) = intsV K ++ [.int .i64 x, .int .i64 y] := by simp [intsV]
theorem own_slice {w : World} {B e s n : Nat} {v : Value} {xs : List Value} (h : w.ownsRow B e s v n xs) : ∃ A c, v = .slice A n c := by
  rcases h.2 with ⟨rfl, rfl⟩ | ⟨g, cap, cur, rfl, _⟩
  · exact ⟨none, 0, rfl⟩
  · exact ⟨_, cap, rfl⟩
/-- What stands while couples are looked at: the vertices that are used. -/
def MD (w3 : World) (Q : List EdgeI) (M : List CoupleI) (r : Bool) (j : Nat) (used : Value) (wr : World) : Prop :=
  Below w3.heap.size w3 wr ∧ ∃ U : List Int, U.length = 2 * j ∧ r = mFrom Q (prevC M j) U (M.drop j) ∧ wr.ownsRow w3.heap.size 3 1 used U.length (intsV U)
set_option maxRecDepth 100000 in
set_option maxHeartbeats 4000000 in
theorem specMatch_any (v : Value) (B : Nat) (s : Int) (Q : List EdgeI) (a : Option Addr) (n c : Nat) (M : List CoupleI) (h1 : Q.length ≤ 1048576) (h2 : n ≤ 1048576) (w : World) (hB : B ≤ w.heap.size) (hv : GrAt w v B s Q) (hM : couplesAt w a n B M) :
    Calls Try.prog 14 #[v, .slice a n c] w fun e w' => e = .returned (.bool (matchOk s Q M)) ∧ Below w.heap.size w w' := by
  have OK := hide (fun w1 (hb : Below w.heap.size w w1) => specGraph_any v B s Q h1 w1 (by have := hb.size; omega) (hv.below hb hB))
  have AT := hide (fun x y w1 (hb : Below w.heap.size w w1) => specAt_any v B s x y Q h1 w1 (by have := hb.size; omega) (hv.below hb hB))
  obtain ⟨a0, n0, c0, rfl, _⟩ := hv
  obtain ⟨i0, hi, hz0, hz1, hz2⟩ := info_parts info3
  have hmk : matchOk s Q M = (graphOk s Q && (decide (M.length ≤ 9) && mFrom Q none [] M)) := rfl
  generalize graphOk s Q = gk at OK hmk
  obtain ⟨hL, hc⟩ := hM
  have HC := hide hc
  have HL := hide hL
  generalize hR : matchOk s Q M = R at hmk
  clear hR hc hL h1
  go_enter Try.func14, Try.ntmps14
  go_wp2_with fail
  obtain ⟨V1, hV1⟩ : ∃ W, W = w.alloc (Obj.cells #[Value.int .i64 s, Value.slice a0 n0 c0] 26) := ⟨_, rfl⟩
  rw [← hV1]
  have x1 : GBox V1 w.heap.size s (.slice a0 n0 c0) := by rw [hV1]; exact GBox.new _ _ _
  have b1 : Below w.heap.size w V1 := by rw [hV1]; exact below_new _ _
  clear hV1
  refine (unhide OK V1 b1).mono ?_
  rintro e w2 ⟨rfl, hb2⟩
  have x2 := x1.below hb2
  have b2 : Below w.heap.size w w2 := b1.trans (hb2.mono b1.size)
  have hx2 := x2.lt
  clear hb2 b1 x1
  cases gk
  · rw [Bool.false_and] at hmk
    subst hmk
    go_wp2
    go_ret
    exact ⟨rfl, b2⟩
  · rw [Bool.true_and] at hmk
    by_cases h9 : (9 : Int) < (n : Int)
    · rw [decide_eq_false (show ¬ M.length ≤ 9 by have := unhide HL; omega), Bool.false_and] at hmk
      subst hmk
      go_wp2
      go_ret
      exact ⟨rfl, b2⟩
    · rw [decide_eq_true (show M.length ≤ 9 by have := unhide HL; omega), Bool.true_and] at hmk
      have HST := hide (fun U k h => mFrom_step Q M U k h)
      have HEND : Hid (∀ U, mFrom Q (prevC M n) U (M.drop n) = true) := fun U => by rw [← unhide HL, List.drop_length]; cases prevC M M.length <;> rfl
      have H0 : Hid (R = mFrom Q (prevC M 0) [] (M.drop 0)) := hmk
      have HX2 := hide x2
      clear hmk x2
      go_wp2_with fail
      go_loopw [5, 6] (fun used i wr => ∃ j : Nat, i = .int .i64 (j : Int) ∧ j ≤ n ∧ MD w2 Q M R j used wr) (fun _ i _ => n - (intOf i).toNat)
      case atStart =>
        refine ⟨0, rfl, Nat.zero_le _, below_new w2 _, [], rfl, unhide H0, ?_⟩
        exact World.ownsRow_made w2 #[] 0 (by omega) (Nat.zero_le _) rfl
      case round =>
        obtain ⟨j, rfl, hj, hb3, U, hU, hR, own3⟩ := hrel
        have HR := hide hR
        have HU := hide hU
        clear hR hU
        have b3 : Below w.heap.size w wr := b2.trans (hb3.mono b2.size)
        by_cases hlt : j < n
        · obtain ⟨A5, C5, hu5⟩ := own_slice own3
          subst hu5
          have hjL : j < M.length := by have := unhide HL; omega
          obtain ⟨b, off, rfl, hbB, c1, c2⟩ := unhide HC j hjL
          rw [← b3.cell (p := ⟨b, off + j * 2, none⟩) (by simp; omega)] at c1
          rw [← b3.cell (p := ⟨b, off + j * 2 + 1, none⟩) (by simp; omega)] at c2
          have HPR : Hid (∀ q, prevC M j = some q → 0 < j ∧ wr.cell? ⟨b, off + (j - 1) * 2, none⟩ = some (.int .i64 q.A)) := fun q hq => by
            unfold prevC at hq
            split at hq
            · cases hq
            · have hj1 : j - 1 < M.length := by omega
              obtain ⟨b', off', e', _, k0, _⟩ := unhide HC (j - 1) hj1
              simp at e'
              obtain ⟨rfl, rfl⟩ := e'
              rw [List.getElem?_eq_getElem hj1] at hq
              obtain rfl := Option.some.inj hq
              exact ⟨by omega, by rw [b3.cell (p := ⟨b, off + (j - 1) * 2, none⟩) (by simp; omega)]; exact k0⟩
          have HPZ : Hid (prevC M j = none → j = 0) := fun h => by
            unfold prevC at h
            split at h
            · assumption
            · rw [List.getElem?_eq_getElem (show j - 1 < M.length by omega)] at h; cases h
          have hr := (unhide HR).trans (unhide HST U j hjL)
          generalize hpe : prevC M j = pe at hr HPR HPZ
          have HNX : Hid (∀ x : CoupleI, M[j] = x → mFrom Q (prevC M (j + 1)) (U ++ [M[j].A, M[j].B]) (M.drop (j + 1)) = mFrom Q (prevC M (j + 1)) (U ++ [x.A, x.B]) (M.drop (j + 1))) := fun x hx => by rw [hx]
          generalize hq : M[j] = q at c1 c2 hr HNX
          obtain ⟨y0, y1⟩ := q
          simp only at c1 c2 hr
          have HNX2 := unhide HNX ⟨y0, y1⟩ rfl
          simp only at HNX2
          generalize hrest : mFrom Q (prevC M (j + 1)) (U ++ [y0, y1]) (M.drop (j + 1)) = rest at hr
          have HREST := hide hrest
          have AT1 := hide (unhide AT y0 y1)
          generalize atFrom y0 y1 0 Q = at1 at AT1 hr
          have IN0 := hide (fun w' (hb : Below wr.heap.size wr w') => l03In_any A5 U.length C5 wr.heap.size U y0 (by have := unhide HU; omega) w' ((by obtain ⟨a', c', e', h'⟩ := intsAt_of_own own3; simp at e'; obtain ⟨rfl, rfl⟩ := e'; exact h' : IntsAt wr A5 U.length wr.heap.size U).below hb (Nat.le_refl _)))
          have IN1 := hide (fun w' (hb : Below wr.heap.size wr w') => l03In_any A5 U.length C5 wr.heap.size U y1 (by have := unhide HU; omega) w' ((by obtain ⟨a', c', e', h'⟩ := intsAt_of_own own3; simp at e'; obtain ⟨rfl, rfl⟩ := e'; exact h' : IntsAt wr A5 U.length wr.heap.size U).below hb (Nat.le_refl _)))
          generalize inK U y0 = k0 at IN0 hr
          generalize inK U y1 = k1 at IN1 hr
          have HOW := hide own3
          have HB3 := hide hb3
          have x4 := (unhide HX2).below hb3
          have hx0 : (0 : Int) ≤ (j : Int) := by omega
          have hx1 : (j : Int) < (n : Int) := by omega
          have hx9 : (n : Int) ≤ 9 := by omega
          have hz4 := hb3.size
          clear hpe hq hrest HNX HNX2 HR own3 hb3
          go_upto_region 8 with fail
          obtain ⟨W, hW⟩ : ∃ W, W = wr.alloc (Obj.cells #[Value.int .i64 y0, Value.int .i64 y1] 58) := ⟨_, rfl⟩
          rw [← hW]
          have bW : Below wr.heap.size wr W := by rw [hW]; exact below_new _ _
          have eW : W.heap[wr.heap.size]? = some (.cells #[Value.int .i64 y0, Value.int .i64 y1] 58 (0, 0)) := by rw [hW]; exact heap_alloc_new _ _
          obtain ⟨f0, f1, _⟩ := cells_of_two eW
          obtain ⟨p0, p1⟩ := (x4.below bW).cells
          have hfW : wr.heap.size < W.heap.size := by rw [hW]; simp
          have hgW : w.heap.size < W.heap.size := (x4.below bW).lt
          have hbW : b < W.heap.size := by omega
          have cW : Below w.heap.size w W := b3.trans (bW.mono b3.size)
          have HPR2 : Hid (∀ q, pe = some q → 0 < j ∧ W.cell? ⟨b, off + (j - 1) * 2, none⟩ = some (.int .i64 q.A)) := fun q hq => ⟨(unhide HPR q hq).1, (bW.cell (p := ⟨b, off + (j - 1) * 2, none⟩) (show b < wr.heap.size by omega)).trans (unhide HPR q hq).2⟩
          have HCW := hide cW
          have HGB : Hid (∀ d : Grown W.heap.size W, Below wr.heap.size wr d.w) := fun d => bW.trans (d.below.mono bW.size)
          have HGC : Hid (∀ d : Grown W.heap.size W, Below w.heap.size w d.w) := fun d => cW.trans (d.below.mono cW.size)
          clear hW eW x4 c1 c2 HPR
          by_cases t1 : y1 ≤ y0
          · rw [decide_eq_false (show ¬ y0 < y1 by omega), Bool.false_and] at hr
            subst hr
            clear HPR2
            go_quiet (fail)
            go_wp2
            go_ret
            exact ⟨rfl, below_drewN (unhide HCW) _⟩
          · rw [decide_eq_true (show y0 < y1 by omega), Bool.true_and] at hr
            have e1 : decide (y1 ≤ y0) = false := decide_eq_false t1
            cases pe with
            | none =>
              obtain rfl : j = 0 := unhide HPZ rfl
              change R = (true && _) at hr
              rw [Bool.true_and] at hr
              clear HPR2
              by_cases t3 : at1 < 0
              · rw [decide_eq_false (show ¬ 0 ≤ at1 by omega), Bool.false_and] at hr
                subst hr
                have gf0 : ∀ d : Grown W.heap.size W, d.w.cell? ⟨wr.heap.size, 0, none⟩ = some (.int .i64 y0) := fun d => d.cell hfW f0
                have gf1 : ∀ d : Grown W.heap.size W, d.w.cell? ⟨wr.heap.size, 1, none⟩ = some (.int .i64 y1) := fun d => d.cell hfW f1
                have gp0 : ∀ d : Grown W.heap.size W, d.w.cell? ⟨w.heap.size, 0, none⟩ = some (.int .i64 s) := fun d => d.cell hgW p0
                have gp1 : ∀ d : Grown W.heap.size W, d.w.cell? ⟨w.heap.size, 1, none⟩ = some (.slice a0 n0 c0) := fun d => d.cell hgW p1
                clear f0 f1 p0 p1
                refine wp_region_grown W.heap.size (by kernel_rfl) (by kernel_rfl) ?_
                repeat (go_big_quiet_step (first
                  | (go_at_call 33; exact Calls.grown (Nat.le_refl _) (unhide AT1 _ (unhide HGC _)))
                  | (go_at_call_of 32 (Value.int IntKind.i64 y0); exact Calls.grown_same (unhide IN0 _ (unhide HGB _)))
                  | (go_at_call_of 32 (Value.int IntKind.i64 y1); exact Calls.grown_same (unhide IN1 _ (unhide HGB _)))))
                refine wpQuiet_nil ?_
                rintro w5 ⟨d5, rfl⟩
                have bw5 := unhide HGB d5
                have zw5 := d5.below.size
                go_wp2
                go_ret
                exact ⟨rfl, b3.trans (bw5.mono b3.size)⟩
              · rw [decide_eq_true (show 0 ≤ at1 by omega), Bool.true_and] at hr
                have e3 : decide (at1 < 0) = false := decide_eq_false t3
                cases k0
                · rw [Bool.not_false, Bool.true_and] at hr
                  cases k1
                  · rw [Bool.not_false, Bool.true_and] at hr
                    have gf0 : ∀ d : Grown W.heap.size W, d.w.cell? ⟨wr.heap.size, 0, none⟩ = some (.int .i64 y0) := fun d => d.cell hfW f0
                    have gf1 : ∀ d : Grown W.heap.size W, d.w.cell? ⟨wr.heap.size, 1, none⟩ = some (.int .i64 y1) := fun d => d.cell hfW f1
                    have gp0 : ∀ d : Grown W.heap.size W, d.w.cell? ⟨w.heap.size, 0, none⟩ = some (.int .i64 s) := fun d => d.cell hgW p0
                    have gp1 : ∀ d : Grown W.heap.size W, d.w.cell? ⟨w.heap.size, 1, none⟩ = some (.slice a0 n0 c0) := fun d => d.cell hgW p1
                    clear f0 f1 p0 p1
                    refine wp_region_grown W.heap.size (by kernel_rfl) (by kernel_rfl) ?_
                    repeat (go_big_quiet_step (first
                      | (go_at_call 33; exact Calls.grown (Nat.le_refl _) (unhide AT1 _ (unhide HGC _)))
                      | (go_at_call_of 32 (Value.int IntKind.i64 y0); exact Calls.grown_same (unhide IN0 _ (unhide HGB _)))
                      | (go_at_call_of 32 (Value.int IntKind.i64 y1); exact Calls.grown_same (unhide IN1 _ (unhide HGB _)))))
                    refine wpQuiet_nil ?_
                    rintro w5 ⟨d5, rfl⟩
                    have bw5 := unhide HGB d5
                    have zw5 := d5.below.size
                    have own5 := own_below (unhide HOW) bw5
                    have cU : U.length ≤ 18 := by have := unhide HU; omega
                    go_wp2_with (at_builtin; refine wpList_append_own _ rfl _ _ 30 rfl w2.heap.size 3 i0 (.int .i64 0) 1 8 Try.underlying30 hi hz0 hz1 hz2 rfl (by decide) _ _ _ rfl (own5.alloc _) ⟨d5.w.heap.size, 0, none⟩ 2 2 [.int .i64 y0, .int .i64 y1] rfl rfl (World.news_of_block (heap_alloc_new _ _)) (two_int _ _) ?_ ?_ ?_ ?_)
                    · unfold maxLen; omega
                    · omega
                    · first | omega | (simp; omega)
                    intro v' w7 hown' hgrow _
                    have HMD : Hid (MD w2 Q M R (0 + 1) v' w7) := ⟨below_append ((unhide HB3).trans (bw5.mono (unhide HB3).size)) (Nat.le_refl _) own5 hgrow, U ++ [y0, y1], by rw [List.length_append, unhide HU]; first | rfl | omega | (simp; omega), hr.trans (unhide HREST).symm, by rw [List.length_append, intsV_two]; exact hown'⟩
                    clear hown' hgrow own5 cU
                    go_wp2
                    go_roundw
                    case rel => exact ⟨0 + 1, by go_num, by omega, unhide HMD⟩
                    case measure => simp [intOf]; omega
                  · rw [Bool.not_true, Bool.false_and] at hr
                    subst hr
                    have gf0 : ∀ d : Grown W.heap.size W, d.w.cell? ⟨wr.heap.size, 0, none⟩ = some (.int .i64 y0) := fun d => d.cell hfW f0
                    have gf1 : ∀ d : Grown W.heap.size W, d.w.cell? ⟨wr.heap.size, 1, none⟩ = some (.int .i64 y1) := fun d => d.cell hfW f1
                    have gp0 : ∀ d : Grown W.heap.size W, d.w.cell? ⟨w.heap.size, 0, none⟩ = some (.int .i64 s) := fun d => d.cell hgW p0
                    have gp1 : ∀ d : Grown W.heap.size W, d.w.cell? ⟨w.heap.size, 1, none⟩ = some (.slice a0 n0 c0) := fun d => d.cell hgW p1
                    clear f0 f1 p0 p1
                    refine wp_region_grown W.heap.size (by kernel_rfl) (by kernel_rfl) ?_
                    repeat (go_big_quiet_step (first
                      | (go_at_call 33; exact Calls.grown (Nat.le_refl _) (unhide AT1 _ (unhide HGC _)))
                      | (go_at_call_of 32 (Value.int IntKind.i64 y0); exact Calls.grown_same (unhide IN0 _ (unhide HGB _)))
                      | (go_at_call_of 32 (Value.int IntKind.i64 y1); exact Calls.grown_same (unhide IN1 _ (unhide HGB _)))))
                    refine wpQuiet_nil ?_
                    rintro w5 ⟨d5, rfl⟩
                    have bw5 := unhide HGB d5
                    have zw5 := d5.below.size
                    go_wp2
                    go_ret
                    exact ⟨rfl, b3.trans (bw5.mono b3.size)⟩
                · rw [Bool.not_true, Bool.false_and] at hr
                  subst hr
                  have gf0 : ∀ d : Grown W.heap.size W, d.w.cell? ⟨wr.heap.size, 0, none⟩ = some (.int .i64 y0) := fun d => d.cell hfW f0
                  have gf1 : ∀ d : Grown W.heap.size W, d.w.cell? ⟨wr.heap.size, 1, none⟩ = some (.int .i64 y1) := fun d => d.cell hfW f1
                  have gp0 : ∀ d : Grown W.heap.size W, d.w.cell? ⟨w.heap.size, 0, none⟩ = some (.int .i64 s) := fun d => d.cell hgW p0
                  have gp1 : ∀ d : Grown W.heap.size W, d.w.cell? ⟨w.heap.size, 1, none⟩ = some (.slice a0 n0 c0) := fun d => d.cell hgW p1
                  clear f0 f1 p0 p1
                  refine wp_region_grown W.heap.size (by kernel_rfl) (by kernel_rfl) ?_
                  repeat (go_big_quiet_step (first
                    | (go_at_call 33; exact Calls.grown (Nat.le_refl _) (unhide AT1 _ (unhide HGC _)))
                    | (go_at_call_of 32 (Value.int IntKind.i64 y0); exact Calls.grown_same (unhide IN0 _ (unhide HGB _)))
                    | (go_at_call_of 32 (Value.int IntKind.i64 y1); exact Calls.grown_same (unhide IN1 _ (unhide HGB _)))))
                  refine wpQuiet_nil ?_
                  rintro w5 ⟨d5, rfl⟩
                  have bw5 := unhide HGB d5
                  have zw5 := d5.below.size
                  go_wp2
                  go_ret
                  exact ⟨rfl, b3.trans (bw5.mono b3.size)⟩
            | some q =>
              obtain ⟨hj0, d0⟩ := unhide HPR2 q rfl
              obtain ⟨i, rfl⟩ : ∃ i, j = i + 1 := ⟨j - 1, by omega⟩
              rw [Nat.add_sub_cancel] at d0
              obtain ⟨q0, q1⟩ := q
              simp only at d0
              change R = (decide (q0 < y0) && _) at hr
              have hj1 : (0 : Int) < (i : Int) + 1 := by omega
              have hi0 : (0 : Int) ≤ (i : Int) := by omega
              have hi1 : (i : Int) < (n : Int) := by omega
              have hi2 : (i : Int) + 1 - 1 = (i : Int) := by omega
              have hi3 : IntKind.i64.wrap ((i : Int) + 1 - 1) = (i : Int) := by rw [hi2]; exact wrap_in _ (by omega)
              have hi4 : IntKind.i64.wrap (i : Int) = (i : Int) := wrap_in _ (by omega)
              have hi5 : IntKind.i64.wrap ((i : Int) + 1) = (i : Int) + 1 := wrap_in _ (by omega)
              clear HPR2
              by_cases t2 : y0 ≤ q0
              · rw [decide_eq_false (show ¬ q0 < y0 by omega), Bool.false_and] at hr
                subst hr
                go_quiet (fail)
                go_wp2
                go_ret
                exact ⟨rfl, below_drewN (unhide HCW) _⟩
              · rw [decide_eq_true (show q0 < y0 by omega), Bool.true_and] at hr
                have e2 : decide (y0 ≤ q0) = false := decide_eq_false t2
                by_cases t3 : at1 < 0
                · rw [decide_eq_false (show ¬ 0 ≤ at1 by omega), Bool.false_and] at hr
                  subst hr
                  have gf0 : ∀ d : Grown W.heap.size W, d.w.cell? ⟨wr.heap.size, 0, none⟩ = some (.int .i64 y0) := fun d => d.cell hfW f0
                  have gf1 : ∀ d : Grown W.heap.size W, d.w.cell? ⟨wr.heap.size, 1, none⟩ = some (.int .i64 y1) := fun d => d.cell hfW f1
                  have gp0 : ∀ d : Grown W.heap.size W, d.w.cell? ⟨w.heap.size, 0, none⟩ = some (.int .i64 s) := fun d => d.cell hgW p0
                  have gp1 : ∀ d : Grown W.heap.size W, d.w.cell? ⟨w.heap.size, 1, none⟩ = some (.slice a0 n0 c0) := fun d => d.cell hgW p1
                  have gd0 : ∀ d : Grown W.heap.size W, d.w.cell? ⟨b, off + i * 2, none⟩ = some (.int .i64 q0) := fun d => d.cell hbW d0
                  clear f0 f1 p0 p1 d0
                  refine wp_region_grown W.heap.size (by kernel_rfl) (by kernel_rfl) ?_
                  repeat (go_big_quiet_step (first
                    | (go_at_call 33; exact Calls.grown (Nat.le_refl _) (unhide AT1 _ (unhide HGC _)))
                    | (go_at_call_of 32 (Value.int IntKind.i64 y0); exact Calls.grown_same (unhide IN0 _ (unhide HGB _)))
                    | (go_at_call_of 32 (Value.int IntKind.i64 y1); exact Calls.grown_same (unhide IN1 _ (unhide HGB _)))))
                  refine wpQuiet_nil ?_
                  rintro w5 ⟨d5, rfl⟩
                  have bw5 := unhide HGB d5
                  have zw5 := d5.below.size
                  go_wp2
                  go_ret
                  exact ⟨rfl, b3.trans (bw5.mono b3.size)⟩
                · rw [decide_eq_true (show 0 ≤ at1 by omega), Bool.true_and] at hr
                  have e3 : decide (at1 < 0) = false := decide_eq_false t3
                  cases k0
                  · rw [Bool.not_false, Bool.true_and] at hr
                    cases k1
                    · rw [Bool.not_false, Bool.true_and] at hr
                      have gf0 : ∀ d : Grown W.heap.size W, d.w.cell? ⟨wr.heap.size, 0, none⟩ = some (.int .i64 y0) := fun d => d.cell hfW f0
                      have gf1 : ∀ d : Grown W.heap.size W, d.w.cell? ⟨wr.heap.size, 1, none⟩ = some (.int .i64 y1) := fun d => d.cell hfW f1
                      have gp0 : ∀ d : Grown W.heap.size W, d.w.cell? ⟨w.heap.size, 0, none⟩ = some (.int .i64 s) := fun d => d.cell hgW p0
                      have gp1 : ∀ d : Grown W.heap.size W, d.w.cell? ⟨w.heap.size, 1, none⟩ = some (.slice a0 n0 c0) := fun d => d.cell hgW p1
                      have gd0 : ∀ d : Grown W.heap.size W, d.w.cell? ⟨b, off + i * 2, none⟩ = some (.int .i64 q0) := fun d => d.cell hbW d0
                      clear f0 f1 p0 p1 d0
                      refine wp_region_grown W.heap.size (by kernel_rfl) (by kernel_rfl) ?_
                      repeat (go_big_quiet_step (first
                        | (go_at_call 33; exact Calls.grown (Nat.le_refl _) (unhide AT1 _ (unhide HGC _)))
                        | (go_at_call_of 32 (Value.int IntKind.i64 y0); exact Calls.grown_same (unhide IN0 _ (unhide HGB _)))
                        | (go_at_call_of 32 (Value.int IntKind.i64 y1); exact Calls.grown_same (unhide IN1 _ (unhide HGB _)))))
                      refine wpQuiet_nil ?_
                      rintro w5 ⟨d5, rfl⟩
                      have bw5 := unhide HGB d5
                      have zw5 := d5.below.size
                      have own5 := own_below (unhide HOW) bw5
                      have cU : U.length ≤ 18 := by have := unhide HU; omega
                      go_wp2_with (at_builtin; refine wpList_append_own _ rfl _ _ 30 rfl w2.heap.size 3 i0 (.int .i64 0) 1 8 Try.underlying30 hi hz0 hz1 hz2 rfl (by decide) _ _ _ rfl (own5.alloc _) ⟨d5.w.heap.size, 0, none⟩ 2 2 [.int .i64 y0, .int .i64 y1] rfl rfl (World.news_of_block (heap_alloc_new _ _)) (two_int _ _) ?_ ?_ ?_ ?_)
                      · unfold maxLen; omega
                      · omega
                      · first | omega | (simp; omega)
                      intro v' w7 hown' hgrow _
                      have HMD : Hid (MD w2 Q M R (i + 1 + 1) v' w7) := ⟨below_append ((unhide HB3).trans (bw5.mono (unhide HB3).size)) (Nat.le_refl _) own5 hgrow, U ++ [y0, y1], by rw [List.length_append, unhide HU]; first | rfl | omega | (simp; omega), hr.trans (unhide HREST).symm, by rw [List.length_append, intsV_two]; exact hown'⟩
                      clear hown' hgrow own5 cU
                      go_wp2
                      go_roundw
                      case rel => exact ⟨i + 1 + 1, by go_num, by omega, unhide HMD⟩
                      case measure => simp [intOf]; omega
                    · rw [Bool.not_true, Bool.false_and] at hr
                      subst hr
                      have gf0 : ∀ d : Grown W.heap.size W, d.w.cell? ⟨wr.heap.size, 0, none⟩ = some (.int .i64 y0) := fun d => d.cell hfW f0
                      have gf1 : ∀ d : Grown W.heap.size W, d.w.cell? ⟨wr.heap.size, 1, none⟩ = some (.int .i64 y1) := fun d => d.cell hfW f1
                      have gp0 : ∀ d : Grown W.heap.size W, d.w.cell? ⟨w.heap.size, 0, none⟩ = some (.int .i64 s) := fun d => d.cell hgW p0
                      have gp1 : ∀ d : Grown W.heap.size W, d.w.cell? ⟨w.heap.size, 1, none⟩ = some (.slice a0 n0 c0) := fun d => d.cell hgW p1
                      have gd0 : ∀ d : Grown W.heap.size W, d.w.cell? ⟨b, off + i * 2, none⟩ = some (.int .i64 q0) := fun d => d.cell hbW d0
                      clear f0 f1 p0 p1 d0
                      refine wp_region_grown W.heap.size (by kernel_rfl) (by kernel_rfl) ?_
                      repeat (go_big_quiet_step (first
                        | (go_at_call 33; exact Calls.grown (Nat.le_refl _) (unhide AT1 _ (unhide HGC _)))
                        | (go_at_call_of 32 (Value.int IntKind.i64 y0); exact Calls.grown_same (unhide IN0 _ (unhide HGB _)))
                        | (go_at_call_of 32 (Value.int IntKind.i64 y1); exact Calls.grown_same (unhide IN1 _ (unhide HGB _)))))
                      refine wpQuiet_nil ?_
                      rintro w5 ⟨d5, rfl⟩
                      have bw5 := unhide HGB d5
                      have zw5 := d5.below.size
                      go_wp2
                      go_ret
                      exact ⟨rfl, b3.trans (bw5.mono b3.size)⟩
                  · rw [Bool.not_true, Bool.false_and] at hr
                    subst hr
                    have gf0 : ∀ d : Grown W.heap.size W, d.w.cell? ⟨wr.heap.size, 0, none⟩ = some (.int .i64 y0) := fun d => d.cell hfW f0
                    have gf1 : ∀ d : Grown W.heap.size W, d.w.cell? ⟨wr.heap.size, 1, none⟩ = some (.int .i64 y1) := fun d => d.cell hfW f1
                    have gp0 : ∀ d : Grown W.heap.size W, d.w.cell? ⟨w.heap.size, 0, none⟩ = some (.int .i64 s) := fun d => d.cell hgW p0
                    have gp1 : ∀ d : Grown W.heap.size W, d.w.cell? ⟨w.heap.size, 1, none⟩ = some (.slice a0 n0 c0) := fun d => d.cell hgW p1
                    have gd0 : ∀ d : Grown W.heap.size W, d.w.cell? ⟨b, off + i * 2, none⟩ = some (.int .i64 q0) := fun d => d.cell hbW d0
                    clear f0 f1 p0 p1 d0
                    refine wp_region_grown W.heap.size (by kernel_rfl) (by kernel_rfl) ?_
                    repeat (go_big_quiet_step (first
                      | (go_at_call 33; exact Calls.grown (Nat.le_refl _) (unhide AT1 _ (unhide HGC _)))
                      | (go_at_call_of 32 (Value.int IntKind.i64 y0); exact Calls.grown_same (unhide IN0 _ (unhide HGB _)))
                      | (go_at_call_of 32 (Value.int IntKind.i64 y1); exact Calls.grown_same (unhide IN1 _ (unhide HGB _)))))
                    refine wpQuiet_nil ?_
                    rintro w5 ⟨d5, rfl⟩
                    have bw5 := unhide HGB d5
                    have zw5 := d5.below.size
                    go_wp2
                    go_ret
                    exact ⟨rfl, b3.trans (bw5.mono b3.size)⟩
        · obtain rfl : j = n := by omega
          obtain rfl := (unhide HR).trans (unhide HEND U)
          go_wp2
          go_ret
          exact ⟨rfl, b3⟩
/-- Sums and the worths of an edge. -/
def addS (s : SumsI) (e : EdgeI) : SumsI := ⟨s.W1 + e.W1, s.W2 + e.W2, s.W3 + e.W3⟩
/-- The i-th edge. -/
def edgeN (Q : List EdgeI) (i : Int) : EdgeI := Q.getD i.toNat ⟨0, 0, 0, 0, 0⟩
def sumsFrom (Q : List EdgeI) : SumsI → List CoupleI → SumsI
  | s, [] => s
  | s, x :: r => sumsFrom Q (addS s (edgeN Q (atFrom x.A x.B 0 Q))) r
/-- The sums of a pairing. -/
def sums (Q : List EdgeI) (M : List CoupleI) : SumsI := sumsFrom Q ⟨0, 0, 0⟩ M
/-- Sums of at most n right edges. -/
def SB (s : SumsI) (n : Int) : Prop := (0 ≤ s.W1 ∧ s.W1 ≤ 50 * n) ∧ (0 ≤ s.W2 ∧ s.W2 ≤ 50 * n) ∧ (0 ≤ s.W3 ∧ s.W3 ≤ 50 * n)
theorem SB.mono {s : SumsI} {n m : Int} (h : SB s n) (hm : n ≤ m) : SB s m := by
  unfold SB at *
  omega
theorem worth_range {x : Int} (h : worthOk x = true) : 0 ≤ x ∧ x ≤ 50 := by
  unfold worthOk at h
  simpa using h
theorem SB.add {s : SumsI} {n : Int} {g : Int} {e : EdgeI} (h : SB s n) (he : edgeOk g e = true) : SB (addS s e) (n + 1) := by
  obtain ⟨_, _, _, h1, h2, h3⟩ := (edgeOk_iff g e).1 he
  have := worth_range h1
  have := worth_range h2
  have := worth_range h3
  unfold SB addS at *
  simp only
  omega
theorem SB.zero (n : Int) (h : 0 ≤ n) : SB ⟨0, 0, 0⟩ n := by
  unfold SB
  simp only
  omega
theorem at_range (x y : Int) : ∀ (Q : List EdgeI) (k : Nat), 0 ≤ atFrom x y k Q → ∃ i, ∃ h : i < Q.length, atFrom x y k Q = ((k + i : Nat) : Int) ∧ hit x y Q[i] = true
  | [], _, h => by unfold atFrom at h; omega
  | q :: r, k, h => by
    unfold atFrom at h ⊢
    by_cases hq : hit x y q = true
    · rw [if_pos hq]
      exact ⟨0, by simp, rfl, hq⟩
    · rw [if_neg hq] at h ⊢
      obtain ⟨i, hi, e, hh⟩ := at_range x y r (k + 1) h
      exact ⟨i + 1, by simp; omega, by rw [e]; omega, by simpa using hh⟩
theorem edgeN_at {x y : Int} {Q : List EdgeI} (h : 0 ≤ atFrom x y 0 Q) : ∃ i, ∃ h' : i < Q.length, atFrom x y 0 Q = (i : Int) ∧ edgeN Q (atFrom x y 0 Q) = Q[i] ∧ hit x y Q[i] = true := by
  obtain ⟨i, hi, e, hh⟩ := at_range x y Q 0 h
  rw [Nat.zero_add] at e
  refine ⟨i, hi, e, ?_, hh⟩
  unfold edgeN
  rw [e, Int.toNat_natCast, List.getD_eq_getElem?_getD, List.getElem?_eq_getElem hi]
  rfl
theorem edgeN_ok {s x y : Int} {Q : List EdgeI} (hg : graphOk s Q = true) (h : 0 ≤ atFrom x y 0 Q) : edgeOk s (edgeN Q (atFrom x y 0 Q)) = true := by
  obtain ⟨i, hi, _, e, _⟩ := edgeN_at h
  rw [e]
  exact (graph_sound hg).2.2.1 _ (List.getElem_mem hi)
/-- One vertex b looked at as the fellow of f. -/
def bstep (Q : List EdgeI) (f : Int) (U : List Int) (rec : List Int → SumsI × Int) (acc : SumsI × Int) (b : Int) : SumsI × Int :=
  if atFrom f b 0 Q < 0 ∨ inK U b = true then acc
  else (if better (addS (rec (U ++ [b])).1 (edgeN Q (atFrom f b 0 Q))) acc.1 = true then addS (rec (U ++ [b])).1 (edgeN Q (atFrom f b 0 Q)) else acc.1, acc.2 + (rec (U ++ [b])).2)
/-- m vertices from b on. -/
def bloop (Q : List EdgeI) (f : Int) (U : List Int) (rec : List Int → SumsI × Int) : Nat → Int → SumsI × Int → SumsI × Int
  | 0, _, acc => acc
  | m + 1, b, acc => bloop Q f U rec m (b + 1) (bstep Q f U rec acc b)
/-- The best sums of all pairings of the last n vertices that are not used, and how many there are. -/
def best (Q : List EdgeI) (s : Int) : Nat → List Int → SumsI × Int
  | 0, _ => (⟨0, 0, 0⟩, 1)
  | n + 1, U => if inK U (s - ((n + 1 : Nat) : Int)) = true then best Q s n U else bloop Q (s - ((n + 1 : Nat) : Int)) U (fun V => best Q s n V) n (s - (n : Int)) (best Q s n U)
theorem best_skip (Q : List EdgeI) (s : Int) (n : Nat) (U : List Int) (h : inK U (s - ((n + 1 : Nat) : Int)) = true) : best Q s (n + 1) U = best Q s n U := by
  rw [best, if_pos h]
theorem best_loop (Q : List EdgeI) (s : Int) (n : Nat) (U : List Int) (h : inK U (s - ((n + 1 : Nat) : Int)) = false) : best Q s (n + 1) U = bloop Q (s - ((n + 1 : Nat) : Int)) U (fun V => best Q s n V) n (s - (n : Int)) (best Q s n U) := by
  rw [best, if_neg (by rw [h]; simp)]
theorem bstep_bounds {Q : List EdgeI} {s f : Int} {U : List Int} {rec : List Int → SumsI × Int} {k : Int} {F : Int} (hg : graphOk s Q = true) (hk : ∀ V, SB (rec V).1 k) (hF : ∀ V, 1 ≤ (rec V).2 ∧ (rec V).2 ≤ F) {acc : SumsI × Int} (h1 : SB acc.1 (k + 1)) (b : Int) :
    SB (bstep Q f U rec acc b).1 (k + 1) ∧ acc.2 ≤ (bstep Q f U rec acc b).2 ∧ (bstep Q f U rec acc b).2 ≤ acc.2 + F := by
  have hFF := hF (U ++ [b])
  unfold bstep
  split
  · exact ⟨h1, Int.le_refl _, by omega⟩
  · rename_i h
    have h0 : 0 ≤ atFrom f b 0 Q := by omega
    refine ⟨?_, by simp only; omega, by simp only; omega⟩
    simp only
    split
    · exact (hk (U ++ [b])).add (edgeN_ok hg h0)
    · exact h1
theorem bloop_bounds {Q : List EdgeI} {s f : Int} {U : List Int} {rec : List Int → SumsI × Int} {k : Int} {F : Int} (hg : graphOk s Q = true) (hk : ∀ V, SB (rec V).1 k) (hF : ∀ V, 1 ≤ (rec V).2 ∧ (rec V).2 ≤ F) :
    ∀ (m : Nat) (b : Int) (acc : SumsI × Int), SB acc.1 (k + 1) → SB (bloop Q f U rec m b acc).1 (k + 1) ∧ acc.2 ≤ (bloop Q f U rec m b acc).2 ∧ (bloop Q f U rec m b acc).2 ≤ acc.2 + (m : Int) * F
  | 0, b, acc, h => by
    refine ⟨h, Int.le_refl _, ?_⟩
    show acc.2 ≤ acc.2 + ((0 : Nat) : Int) * F
    simp
  | m + 1, b, acc, h => by
    obtain ⟨i1, i2, i3⟩ := bstep_bounds (f := f) (U := U) hg hk hF h b
    obtain ⟨j1, j2, j3⟩ := bloop_bounds (f := f) (U := U) hg hk hF m (b + 1) _ i1
    refine ⟨j1, Int.le_trans i2 j2, ?_⟩
    have e : ((m + 1 : Nat) : Int) * F = (m : Int) * F + F := by
      rw [Int.natCast_add, Int.add_mul]
      simp
    rw [e]
    show (bloop Q f U rec m (b + 1) (bstep Q f U rec acc b)).2 ≤ _
    omega
theorem best_bounds {Q : List EdgeI} {s : Int} (hg : graphOk s Q = true) : ∀ (n : Nat) (U : List Int), n ≤ 9 → SB (best Q s n U).1 (n : Int) ∧ 1 ≤ (best Q s n U).2 ∧ (best Q s n U).2 ≤ 10 ^ n
  | 0, U, _ => by
    refine ⟨SB.zero _ (by omega), Int.le_refl _, ?_⟩
    show (1 : Int) ≤ 10 ^ 0
    simp
  | n + 1, U, hn => by
    have ih := fun V => best_bounds hg n V (by omega)
    have hp : (1 : Int) ≤ 10 ^ n := Int.le_trans (ih []).2.1 (ih []).2.2
    have hp2 : (10 : Int) ^ (n + 1) = 10 ^ n * 10 := Int.pow_succ _ _
    cases hu : inK U (s - ((n + 1 : Nat) : Int)) with
    | true =>
      rw [best_skip Q s n U hu, hp2]
      obtain ⟨h1, h2, h3⟩ := ih U
      exact ⟨h1.mono (by omega), h2, by omega⟩
    | false =>
      rw [best_loop Q s n U hu, hp2]
      obtain ⟨h1, h2, h3⟩ := bloop_bounds (f := s - ((n + 1 : Nat) : Int)) (U := U) (rec := fun V => best Q s n V) (k := (n : Int)) (F := 10 ^ n) hg (fun V => (ih V).1) (fun V => (ih V).2) n (s - (n : Int)) (best Q s n U) ((ih U).1.mono (by omega))
      refine ⟨by rw [Int.natCast_add]; exact h1, Int.le_trans (ih U).2.1 h2, Int.le_trans h3 ?_⟩
      have h9 : (n : Int) * 10 ^ n ≤ 9 * 10 ^ n := Int.mul_le_mul_of_nonneg_right (by omega) (by omega)
      have := (ih U).2.2
      omega
theorem pow_big : ∀ n : Nat, n ≤ 9 → (10 : Int) ^ n ≤ 1000000000 := by decide
theorem sumsFrom_step (Q : List EdgeI) (M : List CoupleI) (s : SumsI) (k : Nat) (h : k < M.length) : sumsFrom Q s (M.drop k) = sumsFrom Q (addS s (edgeN Q (atFrom M[k].A M[k].B 0 Q))) (M.drop (k + 1)) := by
  rw [← List.getElem_cons_drop h]
  rfl
theorem mFrom_at (Q : List EdgeI) : ∀ (M : List CoupleI) (p : Option CoupleI) (U : List Int), mFrom Q p U M = true → ∀ x ∈ M, 0 ≤ atFrom x.A x.B 0 Q
  | [], _, _, _ => by simp
  | y :: r, p, U, h => by
    unfold mFrom at h
    simp only [Bool.and_eq_true, decide_eq_true_eq] at h
    intro x hx
    rcases List.mem_cons.1 hx with rfl | hx
    · exact h.2.2.1
    · exact mFrom_at Q r _ _ h.2.2.2.2.2 x hx
theorem match_sound {s : Int} {Q : List EdgeI} {M : List CoupleI} (h : matchOk s Q M = true) : graphOk s Q = true ∧ M.length ≤ 9 ∧ mFrom Q none [] M = true := by
  unfold matchOk at h
  simpa using h
/-- Sums as one number. -/
def wsum (t : SumsI) : Int := 90000 * t.W1 + 300 * t.W2 + t.W3
theorem wsum_add {t : SumsI} {n s : Int} {e : EdgeI} (h : SB t n) (hn : 0 ≤ n ∧ n ≤ 9) (he : edgeOk s e = true) : wsum (addS t e) = wsum t + scal e ∧ 0 ≤ scal e ∧ scal e ≤ 4515050 ∧ 0 ≤ wsum t ∧ wsum t ≤ 45150500 := by
  obtain ⟨_, _, _, h1, h2, h3⟩ := (edgeOk_iff s e).1 he
  have e1 := worth_range h1
  have e2 := worth_range h2
  have e3 := worth_range h3
  have hs : scal e = 90000 * e.W1 + 300 * e.W2 + e.W3 := by
    unfold scal
    rw [wrap_mod]
    omega
  unfold SB at h
  rw [hs]
  unfold wsum addS
  simp only
  omega
/-- Not better. -/
def LE (a b : SumsI) : Prop := a.W1 < b.W1 ∨ a.W1 = b.W1 ∧ (a.W2 < b.W2 ∨ a.W2 = b.W2 ∧ a.W3 ≤ b.W3)
theorem better_iff (a b : SumsI) : better a b = true ↔ b.W1 < a.W1 ∨ b.W1 = a.W1 ∧ (b.W2 < a.W2 ∨ b.W2 = a.W2 ∧ b.W3 < a.W3) := by
  unfold better
  split
  · simp; omega
  · split
    · simp; omega
    · simp; omega
theorem le_iff (a b : SumsI) : better a b = false ↔ LE a b := by
  have h := better_iff a b
  unfold LE
  cases hb : better a b with
  | true => rw [hb] at h; simp at h ⊢; omega
  | false => rw [hb] at h; simp at h ⊢; omega
theorem LE.refl (a : SumsI) : LE a a := by unfold LE; omega
theorem LE.trans {a b c : SumsI} (h : LE a b) (k : LE b c) : LE a c := by unfold LE at *; omega
theorem LE.add {a b : SumsI} (e : EdgeI) (h : LE a b) : LE (addS a e) (addS b e) := by unfold LE addS at *; simp only; omega
/-- Of two sums at most one is better, and one is where they are not the same. -/
theorem better_other {a b : SumsI} (h : better a b = false) : better b a = !(decide (b = a)) := by
  have h1 := (le_iff a b).1 h
  have h2 := better_iff b a
  obtain ⟨a1, a2, a3⟩ := a
  obtain ⟨b1, b2, b3⟩ := b
  unfold LE at h1
  simp only [SumsI.mk.injEq] at h1 h2 ⊢
  cases hb : better ⟨b1, b2, b3⟩ ⟨a1, a2, a3⟩ with
  | true => rw [hb] at h2; simp at h2 ⊢; omega
  | false => rw [hb] at h2; simp at h2 ⊢; omega
theorem sumsFrom_add (Q : List EdgeI) : ∀ (M : List CoupleI) (t : SumsI) (e : EdgeI), sumsFrom Q (addS t e) M = addS (sumsFrom Q t M) e
  | [], _, _ => rfl
  | x :: r, t, e => by
    unfold sumsFrom
    rw [← sumsFrom_add Q r _ e]
    congr 1
    unfold addS
    simp only [SumsI.mk.injEq]
    omega
theorem sums_cons (Q : List EdgeI) (x : CoupleI) (r : List CoupleI) : sums Q (x :: r) = addS (sums Q r) (edgeN Q (atFrom x.A x.B 0 Q)) := by
  unfold sums
  rw [sumsFrom, sumsFrom_add]
theorem bstep_le (Q : List EdgeI) (f : Int) (U : List Int) (rec : List Int → SumsI × Int) (hF : ∀ V, 1 ≤ (rec V).2) (acc : SumsI × Int) (b : Int) : LE acc.1 (bstep Q f U rec acc b).1 ∧ acc.2 ≤ (bstep Q f U rec acc b).2 := by
  have hFF := hF (U ++ [b])
  unfold bstep
  split
  · exact ⟨LE.refl _, Int.le_refl _⟩
  · refine ⟨?_, by simp only; omega⟩
    simp only
    split
    · rename_i h
      have := (better_iff _ _).1 h
      unfold LE
      omega
    · exact LE.refl _
theorem bloop_le (Q : List EdgeI) (f : Int) (U : List Int) (rec : List Int → SumsI × Int) (hF : ∀ V, 1 ≤ (rec V).2) : ∀ (m : Nat) (b : Int) (acc : SumsI × Int), LE acc.1 (bloop Q f U rec m b acc).1 ∧ acc.2 ≤ (bloop Q f U rec m b acc).2
  | 0, _, acc => ⟨LE.refl _, Int.le_refl _⟩
  | m + 1, b, acc => by
    obtain ⟨h1, h2⟩ := bstep_le Q f U rec hF acc b
    obtain ⟨k1, k2⟩ := bloop_le Q f U rec hF m (b + 1) (bstep Q f U rec acc b)
    exact ⟨h1.trans k1, Int.le_trans h2 k2⟩
theorem bloop_in (Q : List EdgeI) (f : Int) (U : List Int) (rec : List Int → SumsI × Int) (hF : ∀ V, 1 ≤ (rec V).2) (x : Int) (hx : 0 ≤ atFrom f x 0 Q) (hU : inK U x = false) :
    ∀ (m : Nat) (b : Int) (acc : SumsI × Int), b ≤ x → x < b + (m : Int) → LE (addS (rec (U ++ [x])).1 (edgeN Q (atFrom f x 0 Q))) (bloop Q f U rec m b acc).1 ∧ acc.2 + (rec (U ++ [x])).2 ≤ (bloop Q f U rec m b acc).2
  | 0, b, acc, h1, h2 => by omega
  | m + 1, b, acc, h1, h2 => by
    show LE _ (bloop Q f U rec m (b + 1) (bstep Q f U rec acc b)).1 ∧ _ ≤ (bloop Q f U rec m (b + 1) (bstep Q f U rec acc b)).2
    by_cases hb : b = x
    · subst hb
      obtain ⟨k1, k2⟩ := bloop_le Q f U rec hF m (b + 1) (bstep Q f U rec acc b)
      have hs : bstep Q f U rec acc b = (if better (addS (rec (U ++ [b])).1 (edgeN Q (atFrom f b 0 Q))) acc.1 = true then addS (rec (U ++ [b])).1 (edgeN Q (atFrom f b 0 Q)) else acc.1, acc.2 + (rec (U ++ [b])).2) := by
        unfold bstep
        rw [if_neg (by rw [hU]; simp; omega)]
      rw [hs] at k1 k2 ⊢
      refine ⟨LE.trans ?_ k1, k2⟩
      simp only
      split
      · exact LE.refl _
      · rename_i h
        exact (le_iff _ _).1 (by simpa using h)
    · obtain ⟨j1, j2⟩ := bstep_le Q f U rec hF acc b
      obtain ⟨k1, k2⟩ := bloop_in Q f U rec hF x hx hU m (b + 1) (bstep Q f U rec acc b) (by omega) (by omega)
      exact ⟨k1, by omega⟩
/-- Couples of the last n vertices, none of them used. -/
def Pm (Q : List EdgeI) (s : Int) (n : Nat) (U : List Int) (M : List CoupleI) : Prop :=
  (∀ x ∈ M, s - (n : Int) ≤ x.A ∧ x.A < x.B ∧ x.B < s ∧ 0 ≤ atFrom x.A x.B 0 Q ∧ inK U x.A = false ∧ inK U x.B = false) ∧ M.Pairwise (fun x y => x.A < y.A ∧ y.A ≠ x.B ∧ y.B ≠ x.B)
theorem best_pos (Q : List EdgeI) (s : Int) : ∀ (n : Nat) (U : List Int), 1 ≤ (best Q s n U).2
  | 0, _ => Int.le_refl _
  | n + 1, U => by
    have ih := fun V => best_pos Q s n V
    cases hu : inK U (s - ((n + 1 : Nat) : Int)) with
    | true => rw [best_skip Q s n U hu]; exact ih U
    | false => rw [best_loop Q s n U hu]; exact Int.le_trans (ih U) (bloop_le Q _ U _ ih n _ _).2
theorem inK_snoc_false {U : List Int} {x y : Int} (h : inK U y = false) (hne : y ≠ x) : inK (U ++ [x]) y = false := by
  unfold inK at *
  simp at h ⊢
  exact ⟨h, hne⟩
theorem best_top (Q : List EdgeI) (s : Int) : ∀ (n : Nat) (U : List Int) (M : List CoupleI), Pm Q s n U M → LE (sums Q M) (best Q s n U).1 ∧ (M.length : Int) + 1 ≤ (best Q s n U).2
  | 0, U, M, h => by
    cases M with
    | nil => exact ⟨LE.refl _, Int.le_refl _⟩
    | cons x r => have := h.1 x List.mem_cons_self; omega
  | n + 1, U, M, h => by
    have hF := fun V => best_pos Q s n V
    cases hu : inK U (s - ((n + 1 : Nat) : Int)) with
    | true =>
      rw [best_skip Q s n U hu]
      refine best_top Q s n U M ⟨fun x hx => ?_, h.2⟩
      obtain ⟨h1, h2, h3, h4, h5, h6⟩ := h.1 x hx
      refine ⟨?_, h2, h3, h4, h5, h6⟩
      have : x.A ≠ s - ((n + 1 : Nat) : Int) := fun e => by rw [e, hu] at h5; cases h5
      omega
    | false =>
      rw [best_loop Q s n U hu]
      have hle := bloop_le Q (s - ((n + 1 : Nat) : Int)) U (fun V => best Q s n V) hF n (s - (n : Int)) (best Q s n U)
      by_cases hx : ∃ x r, M = x :: r ∧ x.A = s - ((n + 1 : Nat) : Int)
      · obtain ⟨x, r, rfl, hA⟩ := hx
        obtain ⟨h1, h2, h3, h4, h5, h6⟩ := h.1 x List.mem_cons_self
        have hp := List.pairwise_cons.1 h.2
        obtain ⟨i1, i2⟩ := best_top Q s n (U ++ [x.B]) r ⟨fun y hy => by
          obtain ⟨g1, g2, g3, g4, g5, g6⟩ := h.1 y (List.mem_cons_of_mem _ hy)
          have := hp.1 y hy
          exact ⟨by omega, g2, g3, g4, inK_snoc_false g5 this.2.1, inK_snoc_false g6 this.2.2⟩, hp.2⟩
        obtain ⟨j1, j2⟩ := bloop_in Q (s - ((n + 1 : Nat) : Int)) U (fun V => best Q s n V) hF x.B (by rw [← hA]; exact h4) h6 n (s - (n : Int)) (best Q s n U) (by omega) (by omega)
        have hb := hF U
        refine ⟨?_, ?_⟩
        · rw [sums_cons, hA]
          exact (i1.add _).trans j1
        · have e : (((x :: r).length : Nat) : Int) = (r.length : Int) + 1 := by simp
          rw [e]
          omega
      · obtain ⟨i1, i2⟩ := best_top Q s n U M ⟨fun y hy => by
          obtain ⟨g1, g2⟩ := h.1 y hy
          refine ⟨?_, g2⟩
          cases M with
          | nil => simp at hy
          | cons x r =>
            have hx1 := (h.1 x List.mem_cons_self).1
            have hx2 : x.A ≠ s - ((n + 1 : Nat) : Int) := fun e => hx ⟨x, r, rfl, e⟩
            rcases List.mem_cons.1 hy with rfl | hy
            · omega
            · have := (List.pairwise_cons.1 h.2).1 y hy
              omega, h.2⟩
        exact ⟨i1.trans hle.1, Int.le_trans i2 hle.2⟩
theorem inK_two {U : List Int} {a b x : Int} (h : inK (U ++ [a, b]) x = false) : inK U x = false ∧ x ≠ a ∧ x ≠ b := by
  unfold inK at *
  simp at h ⊢
  exact h
theorem match_pm {s : Int} {Q : List EdgeI} (hg : graphOk s Q = true) : ∀ (M : List CoupleI) (p : Option CoupleI) (U : List Int), mFrom Q p U M = true → (∀ x ∈ M, 0 ≤ x.A ∧ x.A < x.B ∧ x.B < s ∧ 0 ≤ atFrom x.A x.B 0 Q ∧ inK U x.A = false ∧ inK U x.B = false) ∧ M.Pairwise (fun x y => x.A < y.A ∧ y.A ≠ x.B ∧ y.B ≠ x.B) ∧ ∀ q, p = some q → ∀ x ∈ M, q.A < x.A
  | [], _, _, _ => ⟨by simp, List.Pairwise.nil, by simp⟩
  | x :: r, p, U, h => by
    unfold mFrom at h
    simp only [Bool.and_eq_true, decide_eq_true_eq, Bool.not_eq_true'] at h
    obtain ⟨h1, h2, h3, h4, h5, h6⟩ := h
    obtain ⟨i1, i2, i3⟩ := match_pm hg r (some x) (U ++ [x.A, x.B]) h6
    obtain ⟨i, hi, _, _, hh⟩ := edgeN_at h3
    have hek := (graph_sound hg).2.2.1 _ (List.getElem_mem hi)
    have he := (edgeOk_iff s _).1 hek
    have hh2 := ((hit_iff hek h1).1).1 hh
    refine ⟨fun y hy => ?_, List.Pairwise.cons (fun y hy => ?_) i2, fun q hq y hy => ?_⟩
    · rcases List.mem_cons.1 hy with rfl | hy
      · exact ⟨by omega, h1, by omega, h3, h4, h5⟩
      · obtain ⟨g1, g2, g3, g4, g5, g6⟩ := i1 y hy
        exact ⟨g1, g2, g3, g4, (inK_two g5).1, (inK_two g6).1⟩
    · obtain ⟨g1, g2, g3, g4, g5, g6⟩ := i1 y hy
      exact ⟨i3 x rfl y hy, (inK_two g5).2.2, (inK_two g6).2.2⟩
    · subst hq
      have h2' : q.A < x.A := by simpa [aheadC] using h2
      rcases List.mem_cons.1 hy with rfl | hy
      · exact h2'
      · have := i3 x rfl y hy
        omega
/-- No pairing is better than the best of all, and there are more pairings than couples in one. -/
theorem best_of_all {s : Int} {Q : List EdgeI} {M : List CoupleI} (h : matchOk s Q M = true) : better (sums Q M) (best Q s s.toNat []).1 = false ∧ (M.length : Int) < (best Q s s.toNat []).2 := by
  obtain ⟨hg, _, hm⟩ := match_sound h
  obtain ⟨h0, h9, _, _⟩ := graph_sound hg
  obtain ⟨i1, i2, _⟩ := match_pm hg M none [] hm
  obtain ⟨j1, j2⟩ := best_top Q s s.toNat [] M ⟨fun x hx => by
    obtain ⟨g1, g2⟩ := i1 x hx
    exact ⟨by omega, g2⟩, i2⟩
  exact ⟨(le_iff _ _).2 j1, by omega⟩
/-- The better of two sums. -/
def mx (a b : SumsI) : SumsI := if better b a = true then b else a
theorem LE.antisymm {a b : SumsI} (h : LE a b) (k : LE b a) : a = b := by
  obtain ⟨a1, a2, a3⟩ := a
  obtain ⟨b1, b2, b3⟩ := b
  unfold LE at h k
  simp only at h k
  have : a1 = b1 ∧ a2 = b2 ∧ a3 = b3 := by omega
  obtain ⟨rfl, rfl, rfl⟩ := this
  rfl
theorem LE.total (a b : SumsI) : LE a b ∨ LE b a := by unfold LE; omega
theorem le_of_better {a b : SumsI} (h : better b a = true) : LE a b := by
  have := (better_iff b a).1 h
  unfold LE
  omega
theorem mx_le {a b c : SumsI} : LE (mx a b) c ↔ LE a c ∧ LE b c := by
  unfold mx
  cases h : better b a with
  | true => exact ⟨fun k => ⟨(le_of_better h).trans k, k⟩, fun k => k.2⟩
  | false => exact ⟨fun k => ⟨k, ((le_iff b a).1 h).trans k⟩, fun k => k.1⟩
theorem le_mx_left (a b : SumsI) : LE a (mx a b) := (mx_le.1 (LE.refl _)).1
theorem le_mx_right (a b : SumsI) : LE b (mx a b) := (mx_le.1 (LE.refl _)).2
theorem mx_eq {a b c : SumsI} (h : ∀ d, LE c d ↔ LE a d ∧ LE b d) : mx a b = c :=
  LE.antisymm (mx_le.2 ((h c).1 (LE.refl _))) ((h _).2 (mx_le.1 (LE.refl _)))
theorem mx_comm (a b : SumsI) : mx a b = mx b a := mx_eq fun d => by rw [mx_le]; exact And.comm
theorem mx_assoc (a b c : SumsI) : mx (mx a b) c = mx a (mx b c) := mx_eq fun d => by rw [mx_le, mx_le, mx_le]; exact and_assoc.symm
theorem mx_of_le {a b : SumsI} (h : LE a b) : mx a b = b := mx_eq fun _ => ⟨fun k => ⟨h.trans k, k⟩, fun k => k.2⟩
theorem mx_of_ge {a b : SumsI} (h : LE b a) : mx a b = a := by rw [mx_comm]; exact mx_of_le h
/-- Two sums together. -/
def plus (s t : SumsI) : SumsI := ⟨s.W1 + t.W1, s.W2 + t.W2, s.W3 + t.W3⟩
theorem plus_le {s a b : SumsI} : LE (plus s a) (plus s b) ↔ LE a b := by unfold LE plus; simp only; omega
theorem plus_zero (s : SumsI) : plus s ⟨0, 0, 0⟩ = s := by unfold plus; simp
theorem zero_plus (s : SumsI) : plus ⟨0, 0, 0⟩ s = s := by unfold plus; simp
theorem plus_add (s t : SumsI) (e : EdgeI) : plus (addS s e) t = plus s (addS t e) := by
  unfold plus addS
  simp only [SumsI.mk.injEq]
  omega
theorem plus_mx (s a b : SumsI) : plus s (mx a b) = mx (plus s a) (plus s b) := by
  rcases LE.total a b with h | h
  · rw [mx_of_le h, mx_of_le (plus_le.2 h)]
  · rw [mx_of_ge h, mx_of_ge (plus_le.2 h)]
/-- The best sums and the number of two heaps of pairings together. -/
def comb (a b : SumsI × Int) : SumsI × Int := (mx a.1 b.1, a.2 + b.2)
theorem comb_comm (a b : SumsI × Int) : comb a b = comb b a := by unfold comb; rw [mx_comm, Int.add_comm]
theorem comb_assoc (a b c : SumsI × Int) : comb (comb a b) c = comb a (comb b c) := by unfold comb; simp only; rw [mx_assoc, Int.add_assoc]
/-- The same pairings, with an edge more in each. -/
def addP (x : SumsI × Int) (e : EdgeI) : SumsI × Int := (addS x.1 e, x.2)
/-- Whether an edge's vertices are not used. -/
def freeE (U : List Int) (e : EdgeI) : Bool := !(inK U e.A || inK U e.B)
/-- The best sums of all pairings by these edges that use no used vertex, and how many there are. -/
def each : List EdgeI → List Int → SumsI × Int
  | [], _ => (⟨0, 0, 0⟩, 1)
  | e :: r, U => if freeE U e = true then comb (each r U) (addP (each r (U ++ [e.A, e.B])) e) else each r U
theorem inK_app (U V : List Int) (x : Int) : inK (U ++ V) x = (inK U x || inK V x) := by
  unfold inK
  rw [Bool.eq_iff_iff]
  simp
theorem each_congr : ∀ (r : List EdgeI) (U V : List Int), (∀ e ∈ r, inK U e.A = inK V e.A ∧ inK U e.B = inK V e.B) → each r U = each r V
  | [], _, _, _ => rfl
  | e :: r, U, V, h => by
    have h0 := h e List.mem_cons_self
    have hr := fun x hx => h x (List.mem_cons_of_mem _ hx)
    have hf : freeE U e = freeE V e := by unfold freeE; rw [h0.1, h0.2]
    unfold each
    rw [hf, each_congr r U V hr, each_congr r (U ++ [e.A, e.B]) (V ++ [e.A, e.B]) (fun x hx => by
      rw [inK_app, inK_app, inK_app, inK_app, (hr x hx).1, (hr x hx).2]
      exact ⟨rfl, rfl⟩)]
theorem each_pos : ∀ (r : List EdgeI) (U : List Int), 1 ≤ (each r U).2
  | [], _ => Int.le_refl _
  | e :: r, U => by
    unfold each
    split
    · have := each_pos r U
      have := each_pos r (U ++ [e.A, e.B])
      show 1 ≤ (each r U).2 + (each r (U ++ [e.A, e.B])).2
      omega
    · exact each_pos r U
theorem each_mono (e : EdgeI) (r : List EdgeI) (U : List Int) : LE (each r U).1 (each (e :: r) U).1 := by
  rw [each]
  split
  · exact le_mx_left _ _
  · exact LE.refl _
/-- Where one vertex of the first edges is used, they are as if they were not there. -/
theorem each_skip : ∀ (b r : List EdgeI) (U : List Int), (∀ e ∈ b, freeE U e = false) → each (b ++ r) U = each r U
  | [], _, _, _ => rfl
  | e :: b, r, U, h => by
    rw [List.cons_append, each, if_neg (by rw [h e List.mem_cons_self]; simp)]
    exact each_skip b r U (fun x hx => h x (List.mem_cons_of_mem _ hx))
/-- The edges from (f, b) on. -/
def since (f b : Int) (e : EdgeI) : Bool := decide (f < e.A ∨ e.A = f ∧ b ≤ e.B)
theorem since_iff (f b : Int) (e : EdgeI) : since f b e = true ↔ f < e.A ∨ e.A = f ∧ b ≤ e.B := by unfold since; simp
theorem filter_same {α : Type} (p q : α → Bool) : ∀ l : List α, (∀ x ∈ l, p x = q x) → l.filter p = l.filter q
  | [], _ => rfl
  | x :: l, h => by
    rw [List.filter_cons, List.filter_cons, h x List.mem_cons_self, filter_same p q l (fun y hy => h y (List.mem_cons_of_mem _ hy))]
theorem since_next (f b : Int) : ∀ (Q : List EdgeI), Q.Pairwise (fun a b => ahead a b = true) →
    (∀ e ∈ Q, e.A = f → e.B = b → Q.filter (since f b) = e :: Q.filter (since f (b + 1))) ∧ ((∀ e ∈ Q, ¬ (e.A = f ∧ e.B = b)) → Q.filter (since f b) = Q.filter (since f (b + 1)))
  | [], _ => ⟨fun e he => by simp at he, fun _ => rfl⟩
  | q :: r, h => by
    rw [List.pairwise_cons] at h
    obtain ⟨h1, h2⟩ := h
    obtain ⟨i1, i2⟩ := since_next f b r h2
    constructor
    · intro e he hA hB
      rcases List.mem_cons.1 he with rfl | her
      · have t : since f b e = true := (since_iff _ _ _).2 (Or.inr ⟨hA, by omega⟩)
        have t' : since f (b + 1) e = false := by
          rw [Bool.eq_false_iff]
          intro k
          have := (since_iff _ _ _).1 k
          omega
        rw [List.filter_cons, if_pos t, List.filter_cons, if_neg (by rw [t']; simp), i2 (fun x hx hh => by
          have := (ahead_iff _ _).1 (h1 x hx)
          omega)]
      · have ha := (ahead_iff _ _).1 (h1 e her)
        have t : since f b q = false := by
          rw [Bool.eq_false_iff]
          intro k
          have := (since_iff _ _ _).1 k
          omega
        have t' : since f (b + 1) q = false := by
          rw [Bool.eq_false_iff]
          intro k
          have := (since_iff _ _ _).1 k
          omega
        rw [List.filter_cons, if_neg (by rw [t]; simp), List.filter_cons, if_neg (by rw [t']; simp)]
        exact i1 e her hA hB
    · intro hno
      refine filter_same _ _ _ (fun x hx => ?_)
      have := hno x hx
      rw [Bool.eq_iff_iff, since_iff, since_iff]
      omega
/-- The loop over one vertex's fellows is the way through its edges. -/
theorem bloop_each {s : Int} {Q : List EdgeI} (hg : graphOk s Q = true) (f : Int) (U : List Int) (hU : inK U f = false) :
    ∀ (m : Nat) (b : Int) (Y : SumsI × Int), f < b → b + (m : Int) = s →
      bloop Q f U (fun V => each (Q.filter (since f s)) V) m b (comb Y (each (Q.filter (since f s)) U)) = comb Y (each (Q.filter (since f b)) U)
  | 0, b, Y, hb, hm => by
    have : b = s := by omega
    subst this
    rfl
  | m + 1, b, Y, hb, hm => by
    obtain ⟨hs0, hs9, hok, hpw⟩ := graph_sound hg
    obtain ⟨n1, n2⟩ := since_next f b Q hpw
    have IH := fun Y => bloop_each hg f U hU m (b + 1) Y (by omega) (by omega)
    show bloop Q f U _ m (b + 1) (bstep Q f U _ _ b) = _
    by_cases hx : ∃ e ∈ Q, hit f b e = true
    · obtain ⟨i, e, hi, hh, ha⟩ := at_some f b Q 0 hx
      rw [Nat.zero_add] at ha
      have heQ : e ∈ Q := List.mem_of_getElem? hi
      obtain ⟨eA, eB⟩ := (hit_iff (hok e heQ) hb).1.1 hh
      have hE : edgeN Q (atFrom f b 0 Q) = e := by
        unfold edgeN
        rw [ha, Int.toNat_natCast, List.getD_eq_getElem?_getD, hi]
        rfl
      rw [n1 e heQ eA eB]
      cases hub : inK U b with
      | true =>
        have hs : bstep Q f U (fun V => each (Q.filter (since f s)) V) (comb Y (each (Q.filter (since f s)) U)) b = comb Y (each (Q.filter (since f s)) U) := by
          unfold bstep
          rw [if_pos (Or.inr hub)]
        rw [hs, IH, each, if_neg (by unfold freeE; rw [eB, hub]; simp)]
      | false =>
        have hs : bstep Q f U (fun V => each (Q.filter (since f s)) V) (comb Y (each (Q.filter (since f s)) U)) b = comb (comb Y (addP (each (Q.filter (since f s)) (U ++ [b])) e)) (each (Q.filter (since f s)) U) := by
          rw [comb_assoc, comb_comm (addP _ _), ← comb_assoc]
          unfold bstep
          rw [if_neg (by rw [hub]; simp; omega), hE]
          rfl
        have hk : each (Q.filter (since f (b + 1))) (U ++ [e.A, e.B]) = each (Q.filter (since f s)) (U ++ [b]) := by
          have hsk : ∀ (k : Nat) (c : Int), f < c → c + (k : Int) = s → each (Q.filter (since f c)) (U ++ [e.A, e.B]) = each (Q.filter (since f s)) (U ++ [e.A, e.B]) := by
            intro k
            induction k with
            | zero => intro c _ hc; have : c = s := by omega
                      subst this; rfl
            | succ k ih =>
              intro c hc hcs
              obtain ⟨m1, m2⟩ := since_next f c Q hpw
              rw [← ih (c + 1) (by omega) (by omega)]
              by_cases hy : ∃ x ∈ Q, x.A = f ∧ x.B = c
              · obtain ⟨x, hxQ, xA, xB⟩ := hy
                rw [m1 x hxQ xA xB, each, if_neg (by unfold freeE; rw [inK_app, xA, eA]; simp [inK])]
              · rw [m2 (fun x hxQ hh => hy ⟨x, hxQ, hh⟩)]
          rw [hsk m (b + 1) (by omega) (by omega)]
          refine each_congr _ _ _ (fun x hx => ?_)
          obtain ⟨hxQ, hxs⟩ := List.mem_filter.1 hx
          obtain ⟨x0, x1, x2, _⟩ := (edgeOk_iff s x).1 (hok x hxQ)
          have := (since_iff _ _ _).1 hxs
          have hfA : x.A ≠ f := by omega
          have hfB : x.B ≠ f := by omega
          rw [inK_app, inK_app, inK_app, inK_app, eA, eB]
          unfold inK
          simp [hfA, hfB]
        rw [hs, IH, each, if_pos (by unfold freeE; rw [eA, eB, hU, hub]; rfl), hk, comb_assoc, comb_comm (addP _ _)]
    · have hno : ∀ e ∈ Q, ¬ hit f b e = true := fun e he hh => hx ⟨e, he, hh⟩
      have hat := at_none f b Q 0 hno
      have hs : bstep Q f U (fun V => each (Q.filter (since f s)) V) (comb Y (each (Q.filter (since f s)) U)) b = comb Y (each (Q.filter (since f s)) U) := by
        unfold bstep
        rw [if_pos (Or.inl (by omega))]
      rw [hs, IH, n2 (fun e he hh => hno e he ((hit_iff (hok e he) hb).1.2 hh))]
theorem each_since_mono {Q : List EdgeI} (hpw : Q.Pairwise (fun a b => ahead a b = true)) (f : Int) (U : List Int) : ∀ (k : Nat) (c : Int), LE (each (Q.filter (since f (c + (k : Int)))) U).1 (each (Q.filter (since f c)) U).1
  | 0, c => by
    have : c + ((0 : Nat) : Int) = c := by omega
    rw [this]
    exact LE.refl _
  | k + 1, c => by
    have e : c + ((k + 1 : Nat) : Int) = (c + 1) + (k : Int) := by omega
    rw [e]
    refine (each_since_mono hpw f U k (c + 1)).trans ?_
    obtain ⟨m1, m2⟩ := since_next f c Q hpw
    by_cases hy : ∃ x ∈ Q, x.A = f ∧ x.B = c
    · obtain ⟨x, hxQ, xA, xB⟩ := hy
      rw [m1 x hxQ xA xB]
      exact each_mono _ _ _
    · rw [m2 (fun x hxQ hh => hy ⟨x, hxQ, hh⟩)]
      exact LE.refl _
/-- Vertex by vertex is edge by edge. -/
theorem best_each {s : Int} {Q : List EdgeI} (hg : graphOk s Q = true) : ∀ (n : Nat) (U : List Int), (n : Int) ≤ s → best Q s n U = each (Q.filter (since (s - (n : Int)) (s - (n : Int)))) U
  | 0, U, _ => by
    obtain ⟨hs0, hs9, hok, hpw⟩ := graph_sound hg
    have : Q.filter (since (s - ((0 : Nat) : Int)) (s - ((0 : Nat) : Int))) = [] := by
      rw [List.filter_eq_nil_iff]
      intro e he
      obtain ⟨x0, x1, x2, _⟩ := (edgeOk_iff s e).1 (hok e he)
      rw [since_iff]
      omega
    rw [this]
    rfl
  | n + 1, U, hn => by
    obtain ⟨hs0, hs9, hok, hpw⟩ := graph_sound hg
    have IH := fun V => best_each hg n V (by omega)
    generalize hf : s - ((n + 1 : Nat) : Int) = f
    have hf1 : s - (n : Int) = f + 1 := by omega
    have E1 : Q.filter (since (f + 1) (f + 1)) = Q.filter (since f s) := by
      refine filter_same _ _ _ (fun x hx => ?_)
      obtain ⟨x0, x1, x2, _⟩ := (edgeOk_iff s x).1 (hok x hx)
      rw [Bool.eq_iff_iff, since_iff, since_iff]
      omega
    have E2 : Q.filter (since f f) = Q.filter (since f (f + 1)) := by
      refine filter_same _ _ _ (fun x hx => ?_)
      obtain ⟨x0, x1, x2, _⟩ := (edgeOk_iff s x).1 (hok x hx)
      rw [Bool.eq_iff_iff, since_iff, since_iff]
      omega
    have IH' : ∀ V, best Q s n V = each (Q.filter (since f s)) V := fun V => by rw [IH V, hf1, E1]
    cases hu : inK U f with
    | true =>
      rw [best_skip Q s n U (by rw [hf]; exact hu), IH', E2]
      have hsk : ∀ (k : Nat) (c : Int), f < c → c + (k : Int) = s → each (Q.filter (since f c)) U = each (Q.filter (since f s)) U := by
        intro k
        induction k with
        | zero => intro c _ hc; have : c = s := by omega
                  subst this; rfl
        | succ k ih =>
          intro c hc hcs
          obtain ⟨m1, m2⟩ := since_next f c Q hpw
          rw [← ih (c + 1) (by omega) (by omega)]
          by_cases hy : ∃ x ∈ Q, x.A = f ∧ x.B = c
          · obtain ⟨x, hxQ, xA, xB⟩ := hy
            rw [m1 x hxQ xA xB, each, if_neg (by unfold freeE; rw [xA, hu]; simp)]
          · rw [m2 (fun x hxQ hh => hy ⟨x, hxQ, hh⟩)]
      exact (hsk n (f + 1) (by omega) (by omega)).symm
    | false =>
      rw [best_loop Q s n U (by rw [hf]; exact hu), hf, hf1, E2]
      have hfun : (fun V => best Q s n V) = (fun V => each (Q.filter (since f s)) V) := funext IH'
      rw [hfun, IH' U]
      generalize hR : each (Q.filter (since f s)) U = R
      have h0 : comb (R.1, 0) R = R := by
        unfold comb
        simp only
        rw [mx_of_le (LE.refl _)]
        simp
      have hB := bloop_each hg f U hu n (f + 1) (R.1, 0) (by omega) (by omega)
      rw [hR, h0] at hB
      rw [hB]
      have hm := each_since_mono hpw f U n (f + 1)
      have e1 : f + 1 + (n : Int) = s := by omega
      rw [e1, hR] at hm
      unfold comb
      simp only
      rw [mx_of_le hm]
      simp
theorem best_is_each {s : Int} {Q : List EdgeI} (hg : graphOk s Q = true) : best Q s s.toNat [] = each Q [] := by
  obtain ⟨hs0, hs9, hok, hpw⟩ := graph_sound hg
  rw [best_each hg s.toNat [] (by omega)]
  have : Q.filter (since (s - (s.toNat : Int)) (s - (s.toNat : Int))) = Q := by
    rw [List.filter_eq_self]
    intro e he
    obtain ⟨x0, x1, x2, _⟩ := (edgeOk_iff s e).1 (hok e he)
    rw [since_iff]
    omega
  rw [this]
/-- One edge looked at: what the program reckons. -/
theorem each_drop (Q : List EdgeI) (U : List Int) (i : Nat) (h : i < Q.length) : each (Q.drop i) U = if freeE U Q[i] = true then comb (each (Q.drop (i + 1)) U) (addP (each (Q.drop (i + 1)) (U ++ [Q[i].A, Q[i].B])) Q[i]) else each (Q.drop (i + 1)) U := by
  rw [List.drop_eq_getElem_cons h, each]
theorem asc_of (s : Int) : ∀ (K : List Int) (p : Option Int), K.Pairwise (· < ·) → (∀ x ∈ K, 0 ≤ x ∧ x ≤ s - 1) → (∀ q, p = some q → ∀ x ∈ K, q < x) → ascFrom s p K = true
  | [], _, _, _, _ => rfl
  | y :: r, p, h1, h2, h3 => by
    rw [List.pairwise_cons] at h1
    have hy := h2 y List.mem_cons_self
    have hr := asc_of s r (some y) h1.2 (fun x hx => h2 x (List.mem_cons_of_mem _ hx)) (fun q hq x hx => by obtain rfl := Option.some.inj hq; exact h1.1 x hx)
    unfold ascFrom
    rw [hr, decide_eq_true hy.1, decide_eq_true hy.2]
    cases p with
    | none => rfl
    | some q => simp; exact h3 q rfl y List.mem_cons_self
theorem place_mem (x : Int) : ∀ (K : List Int) (k : Nat), x ∈ K → ∃ i, K[i]? = some x ∧ placeFrom x k K = ((k + i : Nat) : Int)
  | [], _, h => by simp at h
  | y :: r, k, h => by
    unfold placeFrom
    by_cases e : (y == x) = true
    · rw [if_pos e]
      exact ⟨0, by simpa using e, rfl⟩
    · rw [if_neg e]
      have hx : x ∈ r := by
        rcases List.mem_cons.1 h with rfl | h
        · simp at e
        · exact h
      obtain ⟨i, h1, h2⟩ := place_mem x r (k + 1) hx
      exact ⟨i + 1, by simpa using h1, by rw [h2]; omega⟩
theorem place_not (x : Int) : ∀ (K : List Int) (k : Nat), x ∉ K → placeFrom x k K = -1
  | [], _, _ => rfl
  | y :: r, k, h => by
    unfold placeFrom
    rw [List.mem_cons, not_or] at h
    rw [if_neg (by simp; exact fun e => h.1 e.symm)]
    exact place_not x r (k + 1) h.2
/-- Where a number stands on a list that ascends. -/
theorem place_iff {K : List Int} (h : K.Pairwise (· < ·)) (x : Int) (i : Nat) : placeOf K x = (i : Int) ↔ K[i]? = some x := by
  constructor
  · intro e
    by_cases hx : x ∈ K
    · obtain ⟨j, h1, h2⟩ := place_mem x K 0 hx
      have : j = i := by
        unfold placeOf at e
        rw [h2] at e
        omega
      rw [← this]
      exact h1
    · unfold placeOf at e
      rw [place_not x K 0 hx] at e
      omega
  · intro e
    obtain ⟨j, h1, h2⟩ := place_mem x K 0 (List.mem_of_getElem? e)
    have : i = j := ((mono_at h e h1).2).2 rfl
    unfold placeOf
    rw [h2, this]
    omega
theorem place_nonneg {K : List Int} {x : Int} (h : 0 ≤ placeOf K x) : ∃ i : Nat, K[i]? = some x ∧ placeOf K x = (i : Int) := by
  by_cases hx : x ∈ K
  · obtain ⟨i, h1, h2⟩ := place_mem x K 0 hx
    exact ⟨i, h1, by unfold placeOf; rw [h2]; omega⟩
  · unfold placeOf at h
    rw [place_not x K 0 hx] at h
    omega
theorem indE_some {K : List Int} {e x : EdgeI} (h : indE K e = some x) : ∃ i j : Nat, K[i]? = some e.A ∧ K[j]? = some e.B ∧ x = ⟨(i : Int), (j : Int), e.W1, e.W2, e.W3⟩ := by
  unfold indE at h
  split at h
  · rename_i hp
    obtain ⟨i, hi, ei⟩ := place_nonneg hp.1
    obtain ⟨j, hj, ej⟩ := place_nonneg hp.2
    refine ⟨i, j, hi, hj, ?_⟩
    rw [ei, ej] at h
    exact (Option.some.inj h).symm
  · cases h
theorem indE_of {K : List Int} (hK : K.Pairwise (· < ·)) {e : EdgeI} {i j : Nat} (hi : K[i]? = some e.A) (hj : K[j]? = some e.B) : indE K e = some ⟨(i : Int), (j : Int), e.W1, e.W2, e.W3⟩ := by
  unfold indE
  rw [(place_iff hK e.A i).2 hi, (place_iff hK e.B j).2 hj, if_pos (by omega)]
theorem ind_ok {s : Int} {Q : List EdgeI} {K : List Int} (hg : graphOk s Q = true) (hK : K.Pairwise (· < ·)) (hl : (K.length : Int) ≤ s) : graphOk (K.length : Int) (indL K Q) = true := by
  obtain ⟨h0, h1, h2, h3⟩ := graph_sound hg
  refine graph_of (by omega) (by omega) (fun x hx => ?_) ?_
  · obtain ⟨e, he, hex⟩ := List.mem_filterMap.1 hx
    obtain ⟨i, j, hi, hj, rfl⟩ := indE_some hex
    have hee := (edgeOk_iff s e).1 (h2 e he)
    have hij := ((mono_at hK hi hj).1).2 hee.2.1
    have hjl := lt_of_at hj
    rw [edgeOk_iff]
    refine ⟨?_, ?_, ?_, hee.2.2.2⟩
    · show (0 : Int) ≤ (i : Int); omega
    · show (i : Int) < (j : Int); omega
    · show (j : Int) < (K.length : Int); omega
  · unfold indL
    rw [List.pairwise_filterMap]
    refine h3.imp (fun {p e} hpe x hx y hy => ?_)
    obtain ⟨i, j, hi, hj, rfl⟩ := indE_some hx
    obtain ⟨i', j', hi', hj', rfl⟩ := indE_some hy
    rw [ahead_iff] at hpe ⊢
    have m1 := mono_at hK hi hi'
    have m2 := mono_at hK hj hj'
    rcases hpe with h | ⟨h, h'⟩
    · left
      have := m1.1.2 h
      show (i : Int) < (i' : Int)
      omega
    · right
      have := m1.2.2 h
      have := m2.1.2 h'
      refine ⟨?_, ?_⟩
      · show (i : Int) = (i' : Int); omega
      · show (j : Int) < (j' : Int); omega
/-- What EdgeAt tells of two vertices in a graph, and of their places in the induced one. -/
theorem pair_fact {s : Int} {Q : List EdgeI} {K : List Int} (hg : graphOk s Q = true) (hK : K.Pairwise (· < ·)) (hl : (K.length : Int) ≤ s) {a b : Nat} {x y : Int} (hab : a < b) (hx : K[a]? = some x) (hy : K[b]? = some y) :
    (∃ (i j : Nat) (p e : EdgeI), Q[i]? = some p ∧ (indL K Q)[j]? = some e ∧ edgeAtV s x y Q = (i : Int) ∧ edgeAtV (K.length : Int) (b : Int) (a : Int) (indL K Q) = (j : Int) ∧ scal p = scal e ∧ e.A = (a : Int) ∧ e.B = (b : Int)) ∨
    (edgeAtV s x y Q = -1 ∧ edgeAtV (K.length : Int) (b : Int) (a : Int) (indL K Q) = -1 ∧ ∀ e ∈ indL K Q, ¬ (e.A = (a : Int) ∧ e.B = (b : Int))) := by
  obtain ⟨h0, h1, h2, h3⟩ := graph_sound hg
  have hi := ind_ok hg hK hl
  obtain ⟨_, _, i2, i3⟩ := graph_sound hi
  have hxy := ((mono_at hK hx hy).1).1 hab
  have habI : (a : Int) < (b : Int) := by omega
  unfold edgeAtV
  rw [hg, hi, if_pos rfl, if_pos rfl]
  by_cases hex : ∃ p ∈ Q, p.A = x ∧ p.B = y
  · left
    obtain ⟨p, hp, hpA, hpB⟩ := hex
    obtain ⟨i, p', q1, q2, q3⟩ := at_some x y Q 0 ⟨p, hp, ((hit_iff (h2 p hp) hxy).1).2 ⟨hpA, hpB⟩⟩
    have hp' := List.mem_of_getElem? q1
    obtain ⟨r1, r2⟩ := ((hit_iff (h2 p' hp') hxy).1).1 q2
    have hie : indE K p' = some ⟨(a : Int), (b : Int), p'.W1, p'.W2, p'.W3⟩ := indE_of hK (by rw [r1]; exact hx) (by rw [r2]; exact hy)
    have hm : (⟨(a : Int), (b : Int), p'.W1, p'.W2, p'.W3⟩ : EdgeI) ∈ indL K Q := List.mem_filterMap.2 ⟨p', hp', hie⟩
    obtain ⟨j, e, t1, t2, t3⟩ := at_some (b : Int) (a : Int) (indL K Q) 0 ⟨_, hm, ((hit_iff (i2 _ hm) habI).2).2 ⟨rfl, rfl⟩⟩
    have he := List.mem_of_getElem? t1
    obtain ⟨v1, v2⟩ := ((hit_iff (i2 e he) habI).2).1 t2
    have hee := same_edge i3 he hm v1 v2
    refine ⟨i, j, p', e, q1, t1, by rw [q3]; simp, by rw [t3]; simp, ?_, v1, v2⟩
    rw [hee]
    rfl
  · right
    have hno : ∀ e ∈ indL K Q, ¬ (e.A = (a : Int) ∧ e.B = (b : Int)) := by
      rintro e he ⟨hA, hB⟩
      obtain ⟨p, hp, hpe⟩ := List.mem_filterMap.1 he
      obtain ⟨i, j, hi', hj', rfl⟩ := indE_some hpe
      have ea : i = a := by have : (i : Int) = (a : Int) := hA; omega
      have eb : j = b := by have : (j : Int) = (b : Int) := hB; omega
      subst ea eb
      rw [hx] at hi'
      rw [hy] at hj'
      exact hex ⟨p, hp, (Option.some.inj hi').symm, (Option.some.inj hj').symm⟩
    refine ⟨at_none x y Q 0 (fun e he hh => hex ⟨e, he, ((hit_iff (h2 e he) hxy).1).1 hh⟩), at_none _ _ _ 0 (fun e he hh => hno e he (((hit_iff (i2 e he) habI).2).1 hh)), hno⟩
/-- How many edges stand ahead of (a, b). -/
def cnt (H : List EdgeI) (a b : Int) : Nat := H.countP (fun e => decide (e.A < a ∨ e.A = a ∧ e.B < b))
theorem cnt_miss {H : List EdgeI} {a b : Int} (h : ∀ e ∈ H, ¬ (e.A = a ∧ e.B = b)) : cnt H a (b + 1) = cnt H a b := by
  unfold cnt
  refine List.countP_congr (fun e he => ?_)
  have := h e he
  simp only [decide_eq_true_eq]
  omega
theorem cnt_hit : ∀ {H : List EdgeI} {a b : Int}, H.Pairwise (fun p e => ahead p e = true) → (∃ e ∈ H, e.A = a ∧ e.B = b) → cnt H a (b + 1) = cnt H a b + 1
  | [], _, _, _, h => by simp at h
  | q :: r, a, b, hp, h => by
    rw [List.pairwise_cons] at hp
    unfold cnt
    rw [List.countP_cons, List.countP_cons]
    by_cases hq : q.A = a ∧ q.B = b
    · have hm : cnt r a (b + 1) = cnt r a b := cnt_miss (fun e he hh => by have := (ahead_iff _ _).1 (hp.1 e he); omega)
      unfold cnt at hm
      rw [hm, if_pos (by simp; omega), if_neg (by simp; omega)]
    · have hr : ∃ e ∈ r, e.A = a ∧ e.B = b := by
        obtain ⟨e, he, hh⟩ := h
        rcases List.mem_cons.1 he with rfl | he
        · exact absurd hh hq
        · exact ⟨e, he, hh⟩
      have hi := cnt_hit hp.2 hr
      unfold cnt at hi
      rw [hi]
      have e1 : decide (q.A < a ∨ q.A = a ∧ q.B < b + 1) = decide (q.A < a ∨ q.A = a ∧ q.B < b) := by
        rw [decide_eq_decide]
        omega
      rw [e1]
      omega
theorem cnt_row {H : List EdgeI} {n a : Int} (h : ∀ e ∈ H, edgeOk n e = true) : cnt H a n = cnt H (a + 1) (a + 1 + 1) := by
  unfold cnt
  refine List.countP_congr (fun e he => ?_)
  have := (edgeOk_iff n e).1 (h e he)
  simp only [decide_eq_true_eq]
  omega
theorem cnt_start {H : List EdgeI} {n : Int} (h : ∀ e ∈ H, edgeOk n e = true) : cnt H 0 1 = 0 := by
  unfold cnt
  rw [List.countP_eq_zero]
  intro e he
  have := (edgeOk_iff n e).1 (h e he)
  simp only [decide_eq_true_eq]
  omega
theorem cnt_end {H : List EdgeI} {n : Int} (h : ∀ e ∈ H, edgeOk n e = true) : cnt H n (n + 1) = H.length := by
  unfold cnt
  rw [List.countP_eq_length]
  intro e he
  have := (edgeOk_iff n e).1 (h e he)
  simp only [decide_eq_true_eq]
  omega
end Gr
end Go.Proofs.Ytnihoabminnbcaa
