/-
 GrInd, GrMatch, GrBest0, GrSumsMath, GrBestMath, GrDraw, GrPlaces, GrIndMath, GrEach.
-/
import Derived.Test.YtkjclkelnheheaaJ9
import Derived.Test.YtkjclkelnheheaaJ5
import Derived.Deep.AppendLies
import Derived.Test.YtkjclkelnheheaaJ3
import Derived.Test.YtkjclkelnheheaaJ2
import Derived.Deep.RegionWith
import Derived.BigQuiet
namespace Go.Proofs.Ytkjclkelnheheaa
namespace Gr
open Go.RowKit
def placeFrom (x : Int) : Nat → List Int → Int
  | _, [] => -1
  | k, y :: r => if (y == x) = true then (k : Int) else placeFrom x (k + 1) r
def placeOf (K : List Int) (x : Int) : Int := placeFrom x 0 K
theorem placeFrom_step (x : Int) (K : List Int) (k : Nat) (h : k < K.length) : placeFrom x k (K.drop k) = if (K[k] == x) = true then (k : Int) else placeFrom x (k + 1) (K.drop (k + 1)) := by
  rw [← List.getElem_cons_drop h]
  rfl
set_option maxRecDepth 100000 in
set_option maxHeartbeats 1000000 in
theorem place_any (a : Option Addr) (n c B : Nat) (K : List Int) (x : Int) (hn : n ≤ 1048576) (w : World) (hK : IntsAt w a n B K) :
    Calls Try.prog 81 #[.slice a n c, .int .i64 x] w fun e w' => e = .returned (.int .i64 (placeOf K x)) ∧ w' = w := by
  obtain ⟨hL, hc⟩ := hK
  have HST := hide (fun k h => placeFrom_step x K k h)
  have HEND : Hid (placeFrom x n (K.drop n) = -1) := by show _ = _; rw [← hL, List.drop_length]; rfl
  have H0 : Hid (placeOf K x = placeFrom x 0 (K.drop 0)) := rfl
  have HC := hide hc
  have HL := hide hL
  generalize placeOf K x = r at H0 ⊢
  clear hc hL
  go_enter Try.func81, Try.ntmps81
  go_wp2_with fail
  go_loop [5] (fun i => ∃ k : Nat, i = .int .i64 k ∧ k ≤ n ∧ Hid (r = placeFrom x k (K.drop k))) (fun i => n - (intOf i).toNat)
  case atStart => exact ⟨0, rfl, Nat.zero_le _, unhide H0⟩
  case round =>
    obtain ⟨k, rfl, hk, HR⟩ := hrel
    by_cases hlt : k < n
    · have hkL : k < K.length := by have := unhide HL; omega
      obtain ⟨b, off, rfl, hbB, hcell⟩ := unhide HC k hkL
      have hx0 : (0 : Int) ≤ (k : Int) := by omega
      have hx1 : (k : Int) < (n : Int) := by omega
      have hr := (unhide HR).trans (unhide HST k hkL)
      generalize hrest : placeFrom x (k + 1) (K.drop (k + 1)) = rest at hr
      have HREST := hide hrest
      generalize K[k] = y at hcell hr
      clear hrest HR
      cases t0 : (y == x)
      · rw [t0, if_neg (by simp)] at hr
        subst hr
        go_wp2
        go_round
        case rel => exact ⟨k + 1, by go_num, by omega, (by show _ = _; rw [unhide HREST])⟩
        case measure => simp [intOf]; omega
      · rw [t0, if_pos rfl] at hr
        subst hr
        go_wp2
        go_ret
        exact ⟨rfl, rfl⟩
    · obtain rfl : k = n := by omega
      have hr := (unhide HR).trans (unhide HEND)
      subst hr
      go_wp2
      go_ret
      exact ⟨rfl, rfl⟩
def ascFrom (s : Int) : Option Int → List Int → Bool
  | _, [] => true
  | p, y :: r => (decide (0 ≤ y) && decide (y ≤ s - 1)) && ((match p with | none => true | some q => decide (q < y)) && ascFrom s (some y) r)
def prevK (K : List Int) (k : Nat) : Option Int := if k = 0 then none else K[k - 1]?
theorem wrap_in (x : Int) (h : -9223372036854775808 ≤ x ∧ x ≤ 9223372036854775807) : IntKind.i64.wrap x = x := by
  have e : IntKind.i64.wrap x = if (9223372036854775808 : Int) ≤ x % 18446744073709551616 then x % 18446744073709551616 - 18446744073709551616 else x % 18446744073709551616 := by
    simp [IntKind.wrap, IntKind.signed, IntKind.bits]
  rw [e]
  split <;> omega
def aheadC (p : Option CoupleI) (x : CoupleI) : Bool := match p with | none => true | some q => decide (q.A < x.A)
def mFrom (Q : List EdgeI) : Option CoupleI → List Int → List CoupleI → Bool
  | _, _, [] => true
  | p, U, x :: r => decide (x.A < x.B) && (aheadC p x && (decide (0 ≤ atFrom x.A x.B 0 Q) && (!inK U x.A && (!inK U x.B && mFrom Q (some x) (U ++ [x.A, x.B]) r))))
def matchOk (s : Int) (Q : List EdgeI) (M : List CoupleI) : Bool := graphOk s Q && (decide (M.length ≤ 9) && mFrom Q none [] M)
def prevC (M : List CoupleI) (k : Nat) : Option CoupleI := if k = 0 then none else M[k - 1]?
theorem mFrom_step (Q : List EdgeI) (M : List CoupleI) (U : List Int) (k : Nat) (h : k < M.length) : mFrom Q (prevC M k) U (M.drop k) = (decide (M[k].A < M[k].B) && (aheadC (prevC M k) M[k] && (decide (0 ≤ atFrom M[k].A M[k].B 0 Q) && (!inK U M[k].A && (!inK U M[k].B && mFrom Q (prevC M (k + 1)) (U ++ [M[k].A, M[k].B]) (M.drop (k + 1))))))) := by
  rw [← List.getElem_cons_drop h]
  have e : prevC M (k + 1) = some M[k] := by unfold prevC; simp [h]
  rw [e]
  rfl
theorem two_int (x y : Int) : ∀ u ∈ [Value.int .i64 x, Value.int .i64 y], u.oneCell' = true := fun u hu => by simp at hu; rcases hu with rfl | rfl <;> rfl
theorem intsV_two (K : List Int) (x y : Int) : intsV (K ++ [x, y]) = intsV K ++ [.int .i64 x, .int .i64 y] := by simp [intsV]
theorem own_slice {w : World} {B e s n : Nat} {v : Value} {xs : List Value} (h : w.ownsRow B e s v n xs) : ∃ A c, v = .slice A n c := by
  rcases h.2 with ⟨rfl, rfl⟩ | ⟨g, cap, cur, rfl, _⟩
  · exact ⟨none, 0, rfl⟩
  · exact ⟨_, cap, rfl⟩
def MD (w3 : World) (Q : List EdgeI) (M : List CoupleI) (r : Bool) (j : Nat) (used : Value) (wr : World) : Prop :=
  Below w3.heap.size w3 wr ∧ ∃ U : List Int, U.length = 2 * j ∧ r = mFrom Q (prevC M j) U (M.drop j) ∧ wr.ownsRow w3.heap.size 3 1 used U.length (intsV U)
set_option maxRecDepth 100000 in
set_option maxHeartbeats 4000000 in
theorem specMatch_any (v : Value) (B : Nat) (s : Int) (Q : List EdgeI) (a : Option Addr) (n c : Nat) (M : List CoupleI) (h1 : Q.length ≤ 1048576) (h2 : n ≤ 1048576) (w : World) (hB : B ≤ w.heap.size) (hv : GrAt w v B s Q) (hM : couplesAt w a n B M) :
    Calls Try.prog 15 #[v, .slice a n c] w fun e w' => e = .returned (.bool (matchOk s Q M)) ∧ Below w.heap.size w w' := by
  have OK := hide (fun w1 (hb : Below w.heap.size w w1) => specGraph_any v B s Q h1 w1 (by have := hb.size; omega) (hv.below hb hB))
  have AT := hide (fun x y w1 (hb : Below w.heap.size w w1) => specAt_any v B s x y Q h1 w1 (by have := hb.size; omega) (hv.below hb hB))
  obtain ⟨a0, n0, c0, rfl, _⟩ := hv
  obtain ⟨i0, hi, hz0, hz1, hz2⟩ := info_parts info3
  have hmk : matchOk s Q M = (graphOk s Q && (decide (M.length ≤ 9) && mFrom Q none [] M)) := rfl
  generalize graphOk s Q = gk at OK hmk
  obtain ⟨hL, hc⟩ := hM
  have HC := hide hc
  have HL := hide hL
  generalize hR : matchOk s Q M = R at hmk
  clear hR hc hL h1
  go_enter Try.func15, Try.ntmps15
  go_wp2_with fail
  obtain ⟨V1, hV1⟩ : ∃ W, W = w.alloc (Obj.cells #[Value.int .i64 s, Value.slice a0 n0 c0] 26) := ⟨_, rfl⟩
  rw [← hV1]
  have x1 : GBox V1 w.heap.size s (.slice a0 n0 c0) := by rw [hV1]; exact GBox.new _ _ _
  have b1 : Below w.heap.size w V1 := by rw [hV1]; exact below_new _ _
  clear hV1
  refine (unhide OK V1 b1).mono ?_
  rintro e w2 ⟨rfl, hb2⟩
  have x2 := x1.below hb2
  have b2 : Below w.heap.size w w2 := b1.trans (hb2.mono b1.size)
  have hx2 := x2.lt
  clear hb2 b1 x1
  cases gk
  · rw [Bool.false_and] at hmk
    subst hmk
    go_wp2
    go_ret
    exact ⟨rfl, b2⟩
  · rw [Bool.true_and] at hmk
    by_cases h9 : (9 : Int) < (n : Int)
    · rw [decide_eq_false (show ¬ M.length ≤ 9 by have := unhide HL; omega), Bool.false_and] at hmk
      subst hmk
      go_wp2
      go_ret
      exact ⟨rfl, b2⟩
    · rw [decide_eq_true (show M.length ≤ 9 by have := unhide HL; omega), Bool.true_and] at hmk
      have HST := hide (fun U k h => mFrom_step Q M U k h)
      have HEND : Hid (∀ U, mFrom Q (prevC M n) U (M.drop n) = true) := fun U => by rw [← unhide HL, List.drop_length]; cases prevC M M.length <;> rfl
      have H0 : Hid (R = mFrom Q (prevC M 0) [] (M.drop 0)) := hmk
      have HX2 := hide x2
      clear hmk x2
      go_wp2_with fail
      go_loopw [5, 6] (fun used i wr => ∃ j : Nat, i = .int .i64 (j : Int) ∧ j ≤ n ∧ MD w2 Q M R j used wr) (fun _ i _ => n - (intOf i).toNat)
      case atStart =>
        refine ⟨0, rfl, Nat.zero_le _, below_new w2 _, [], rfl, unhide H0, ?_⟩
        exact World.ownsRow_made w2 #[] 0 (by omega) (Nat.zero_le _) rfl
      case round =>
        obtain ⟨j, rfl, hj, hb3, U, hU, hR, own3⟩ := hrel
        have HR := hide hR
        have HU := hide hU
        clear hR hU
        have b3 : Below w.heap.size w wr := b2.trans (hb3.mono b2.size)
        by_cases hlt : j < n
        · obtain ⟨A5, C5, hu5⟩ := own_slice own3
          subst hu5
          have hjL : j < M.length := by have := unhide HL; omega
          obtain ⟨b, off, rfl, hbB, c1, c2⟩ := unhide HC j hjL
          rw [← b3.cell (p := ⟨b, off + j * 2, none⟩) (by simp; omega)] at c1
          rw [← b3.cell (p := ⟨b, off + j * 2 + 1, none⟩) (by simp; omega)] at c2
          have HPR : Hid (∀ q, prevC M j = some q → 0 < j ∧ wr.cell? ⟨b, off + (j - 1) * 2, none⟩ = some (.int .i64 q.A)) := fun q hq => by
            unfold prevC at hq
            split at hq
            · cases hq
            · have hj1 : j - 1 < M.length := by omega
              obtain ⟨b', off', e', _, k0, _⟩ := unhide HC (j - 1) hj1
              simp at e'
              obtain ⟨rfl, rfl⟩ := e'
              rw [List.getElem?_eq_getElem hj1] at hq
              obtain rfl := Option.some.inj hq
              exact ⟨by omega, by rw [b3.cell (p := ⟨b, off + (j - 1) * 2, none⟩) (by simp; omega)]; exact k0⟩
          have HPZ : Hid (prevC M j = none → j = 0) := fun h => by
            unfold prevC at h
            split at h
            · assumption
            · rw [List.getElem?_eq_getElem (show j - 1 < M.length by omega)] at h; cases h
          have hr := (unhide HR).trans (unhide HST U j hjL)
          generalize hpe : prevC M j = pe at hr HPR HPZ
          have HNX : Hid (∀ x : CoupleI, M[j] = x → mFrom Q (prevC M (j + 1)) (U ++ [M[j].A, M[j].B]) (M.drop (j + 1)) = mFrom Q (prevC M (j + 1)) (U ++ [x.A, x.B]) (M.drop (j + 1))) := fun x hx => by rw [hx]
          generalize hq : M[j] = q at c1 c2 hr HNX
          obtain ⟨y0, y1⟩ := q
          simp only at c1 c2 hr
          have HNX2 := unhide HNX ⟨y0, y1⟩ rfl
          simp only at HNX2
          generalize hrest : mFrom Q (prevC M (j + 1)) (U ++ [y0, y1]) (M.drop (j + 1)) = rest at hr
          have HREST := hide hrest
          have AT1 := hide (unhide AT y0 y1)
          generalize atFrom y0 y1 0 Q = at1 at AT1 hr
          have IN0 := hide (fun w' (hb : Below wr.heap.size wr w') => l03In_any A5 U.length C5 wr.heap.size U y0 (by have := unhide HU; omega) w' ((by obtain ⟨a', c', e', h'⟩ := intsAt_of_own own3; simp at e'; obtain ⟨rfl, rfl⟩ := e'; exact h' : IntsAt wr A5 U.length wr.heap.size U).below hb (Nat.le_refl _)))
          have IN1 := hide (fun w' (hb : Below wr.heap.size wr w') => l03In_any A5 U.length C5 wr.heap.size U y1 (by have := unhide HU; omega) w' ((by obtain ⟨a', c', e', h'⟩ := intsAt_of_own own3; simp at e'; obtain ⟨rfl, rfl⟩ := e'; exact h' : IntsAt wr A5 U.length wr.heap.size U).below hb (Nat.le_refl _)))
          generalize inK U y0 = k0 at IN0 hr
          generalize inK U y1 = k1 at IN1 hr
          have HOW := hide own3
          have HB3 := hide hb3
          have x4 := (unhide HX2).below hb3
          have hx0 : (0 : Int) ≤ (j : Int) := by omega
          have hx1 : (j : Int) < (n : Int) := by omega
          have hx9 : (n : Int) ≤ 9 := by omega
          have hz4 := hb3.size
          clear hpe hq hrest HNX HNX2 HR own3 hb3
          go_upto_region 8 with fail
          obtain ⟨W, hW⟩ : ∃ W, W = wr.alloc (Obj.cells #[Value.int .i64 y0, Value.int .i64 y1] 85) := ⟨_, rfl⟩
          rw [← hW]
          have bW : Below wr.heap.size wr W := by rw [hW]; exact below_new _ _
          have eW : W.heap[wr.heap.size]? = some (.cells #[Value.int .i64 y0, Value.int .i64 y1] 85 (0, 0)) := by rw [hW]; exact heap_alloc_new _ _
          obtain ⟨f0, f1, _⟩ := cells_of_two eW
          obtain ⟨p0, p1⟩ := (x4.below bW).cells
          have hfW : wr.heap.size < W.heap.size := by rw [hW]; simp
          have hgW : w.heap.size < W.heap.size := (x4.below bW).lt
          have hbW : b < W.heap.size := by omega
          have cW : Below w.heap.size w W := b3.trans (bW.mono b3.size)
          have HPR2 : Hid (∀ q, pe = some q → 0 < j ∧ W.cell? ⟨b, off + (j - 1) * 2, none⟩ = some (.int .i64 q.A)) := fun q hq => ⟨(unhide HPR q hq).1, (bW.cell (p := ⟨b, off + (j - 1) * 2, none⟩) (show b < wr.heap.size by omega)).trans (unhide HPR q hq).2⟩
          have HCW := hide cW
          have HGB : Hid (∀ d : Grown W.heap.size W, Below wr.heap.size wr d.w) := fun d => bW.trans (d.below.mono bW.size)
          have HGC : Hid (∀ d : Grown W.heap.size W, Below w.heap.size w d.w) := fun d => cW.trans (d.below.mono cW.size)
          clear hW eW x4 c1 c2 HPR
          by_cases t1 : y1 ≤ y0
          · rw [decide_eq_false (show ¬ y0 < y1 by omega), Bool.false_and] at hr
            subst hr
            clear HPR2
            go_quiet (fail)
            go_wp2
            go_ret
            exact ⟨rfl, below_drewN (unhide HCW) _⟩
          · rw [decide_eq_true (show y0 < y1 by omega), Bool.true_and] at hr
            have e1 : decide (y1 ≤ y0) = false := decide_eq_false t1
            cases pe with
            | none =>
              obtain rfl : j = 0 := unhide HPZ rfl
              change R = (true && _) at hr
              rw [Bool.true_and] at hr
              clear HPR2
              by_cases t3 : at1 < 0
              · rw [decide_eq_false (show ¬ 0 ≤ at1 by omega), Bool.false_and] at hr
                subst hr
                have gf0 : ∀ d : Grown W.heap.size W, d.w.cell? ⟨wr.heap.size, 0, none⟩ = some (.int .i64 y0) := fun d => d.cell hfW f0
                have gf1 : ∀ d : Grown W.heap.size W, d.w.cell? ⟨wr.heap.size, 1, none⟩ = some (.int .i64 y1) := fun d => d.cell hfW f1
                have gp0 : ∀ d : Grown W.heap.size W, d.w.cell? ⟨w.heap.size, 0, none⟩ = some (.int .i64 s) := fun d => d.cell hgW p0
                have gp1 : ∀ d : Grown W.heap.size W, d.w.cell? ⟨w.heap.size, 1, none⟩ = some (.slice a0 n0 c0) := fun d => d.cell hgW p1
                clear f0 f1 p0 p1
                refine wp_region_grown W.heap.size (by kernel_rfl) (by kernel_rfl) ?_
                repeat (go_big_quiet_step (first
                  | (go_at_call 43; exact Calls.grown (Nat.le_refl _) (unhide AT1 _ (unhide HGC _)))
                  | (go_at_call_of 44 (Value.int IntKind.i64 y0); exact Calls.grown_same (unhide IN0 _ (unhide HGB _)))
                  | (go_at_call_of 44 (Value.int IntKind.i64 y1); exact Calls.grown_same (unhide IN1 _ (unhide HGB _)))))
                refine wpQuiet_nil ?_
                rintro w5 ⟨d5, rfl⟩
                have bw5 := unhide HGB d5
                have zw5 := d5.below.size
                go_wp2
                go_ret
                exact ⟨rfl, b3.trans (bw5.mono b3.size)⟩
              · rw [decide_eq_true (show 0 ≤ at1 by omega), Bool.true_and] at hr
                have e3 : decide (at1 < 0) = false := decide_eq_false t3
                cases k0
                · rw [Bool.not_false, Bool.true_and] at hr
                  cases k1
                  · rw [Bool.not_false, Bool.true_and] at hr
                    have gf0 : ∀ d : Grown W.heap.size W, d.w.cell? ⟨wr.heap.size, 0, none⟩ = some (.int .i64 y0) := fun d => d.cell hfW f0
                    have gf1 : ∀ d : Grown W.heap.size W, d.w.cell? ⟨wr.heap.size, 1, none⟩ = some (.int .i64 y1) := fun d => d.cell hfW f1
                    have gp0 : ∀ d : Grown W.heap.size W, d.w.cell? ⟨w.heap.size, 0, none⟩ = some (.int .i64 s) := fun d => d.cell hgW p0
                    have gp1 : ∀ d : Grown W.heap.size W, d.w.cell? ⟨w.heap.size, 1, none⟩ = some (.slice a0 n0 c0) := fun d => d.cell hgW p1
                    clear f0 f1 p0 p1
                    refine wp_region_grown W.heap.size (by kernel_rfl) (by kernel_rfl) ?_
                    repeat (go_big_quiet_step (first
                      | (go_at_call 43; exact Calls.grown (Nat.le_refl _) (unhide AT1 _ (unhide HGC _)))
                      | (go_at_call_of 44 (Value.int IntKind.i64 y0); exact Calls.grown_same (unhide IN0 _ (unhide HGB _)))
                      | (go_at_call_of 44 (Value.int IntKind.i64 y1); exact Calls.grown_same (unhide IN1 _ (unhide HGB _)))))
                    refine wpQuiet_nil ?_
                    rintro w5 ⟨d5, rfl⟩
                    have bw5 := unhide HGB d5
                    have zw5 := d5.below.size
                    have own5 := own_below (unhide HOW) bw5
                    have cU : U.length ≤ 18 := by have := unhide HU; omega
                    go_wp2_with (at_builtin; refine wpList_append_own _ rfl _ _ 27 rfl w2.heap.size 3 i0 (.int .i64 0) 1 8 Try.underlying27 hi hz0 hz1 hz2 rfl (by decide) _ _ _ rfl (own5.alloc _) ⟨d5.w.heap.size, 0, none⟩ 2 2 [.int .i64 y0, .int .i64 y1] rfl rfl (World.news_of_block (heap_alloc_new _ _)) (two_int _ _) ?_ ?_ ?_ ?_)
                    · unfold maxLen; omega
                    · omega
                    · first | omega | (simp; omega)
                    intro v' w7 hown' hgrow _
                    have HMD : Hid (MD w2 Q M R (0 + 1) v' w7) := ⟨below_append ((unhide HB3).trans (bw5.mono (unhide HB3).size)) (Nat.le_refl _) own5 hgrow, U ++ [y0, y1], by rw [List.length_append, unhide HU]; first | rfl | omega | (simp; omega), hr.trans (unhide HREST).symm, by rw [List.length_append, intsV_two]; exact hown'⟩
                    clear hown' hgrow own5 cU
                    go_wp2
                    go_roundw
                    case rel => exact ⟨0 + 1, by go_num, by omega, unhide HMD⟩
                    case measure => simp [intOf]; omega
                  · rw [Bool.not_true, Bool.false_and] at hr
                    subst hr
                    have gf0 : ∀ d : Grown W.heap.size W, d.w.cell? ⟨wr.heap.size, 0, none⟩ = some (.int .i64 y0) := fun d => d.cell hfW f0
                    have gf1 : ∀ d : Grown W.heap.size W, d.w.cell? ⟨wr.heap.size, 1, none⟩ = some (.int .i64 y1) := fun d => d.cell hfW f1
                    have gp0 : ∀ d : Grown W.heap.size W, d.w.cell? ⟨w.heap.size, 0, none⟩ = some (.int .i64 s) := fun d => d.cell hgW p0
                    have gp1 : ∀ d : Grown W.heap.size W, d.w.cell? ⟨w.heap.size, 1, none⟩ = some (.slice a0 n0 c0) := fun d => d.cell hgW p1
                    clear f0 f1 p0 p1
                    refine wp_region_grown W.heap.size (by kernel_rfl) (by kernel_rfl) ?_
                    repeat (go_big_quiet_step (first
                      | (go_at_call 43; exact Calls.grown (Nat.le_refl _) (unhide AT1 _ (unhide HGC _)))
                      | (go_at_call_of 44 (Value.int IntKind.i64 y0); exact Calls.grown_same (unhide IN0 _ (unhide HGB _)))
                      | (go_at_call_of 44 (Value.int IntKind.i64 y1); exact Calls.grown_same (unhide IN1 _ (unhide HGB _)))))
                    refine wpQuiet_nil ?_
                    rintro w5 ⟨d5, rfl⟩
                    have bw5 := unhide HGB d5
                    have zw5 := d5.below.size
                    go_wp2
                    go_ret
                    exact ⟨rfl, b3.trans (bw5.mono b3.size)⟩
                · rw [Bool.not_true, Bool.false_and] at hr
                  subst hr
                  have gf0 : ∀ d : Grown W.heap.size W, d.w.cell? ⟨wr.heap.size, 0, none⟩ = some (.int .i64 y0) := fun d => d.cell hfW f0
                  have gf1 : ∀ d : Grown W.heap.size W, d.w.cell? ⟨wr.heap.size, 1, none⟩ = some (.int .i64 y1) := fun d => d.cell hfW f1
                  have gp0 : ∀ d : Grown W.heap.size W, d.w.cell? ⟨w.heap.size, 0, none⟩ = some (.int .i64 s) := fun d => d.cell hgW p0
                  have gp1 : ∀ d : Grown W.heap.size W, d.w.cell? ⟨w.heap.size, 1, none⟩ = some (.slice a0 n0 c0) := fun d => d.cell hgW p1
                  clear f0 f1 p0 p1
                  refine wp_region_grown W.heap.size (by kernel_rfl) (by kernel_rfl) ?_
                  repeat (go_big_quiet_step (first
                    | (go_at_call 43; exact Calls.grown (Nat.le_refl _) (unhide AT1 _ (unhide HGC _)))
                    | (go_at_call_of 44 (Value.int IntKind.i64 y0); exact Calls.grown_same (unhide IN0 _ (unhide HGB _)))
                    | (go_at_call_of 44 (Value.int IntKind.i64 y1); exact Calls.grown_same (unhide IN1 _ (unhide HGB _)))))
                  refine wpQuiet_nil ?_
                  rintro w5 ⟨d5, rfl⟩
                  have bw5 := unhide HGB d5
                  have zw5 := d5.below.size
                  go_wp2
                  go_ret
                  exact ⟨rfl, b3.trans (bw5.mono b3.size)⟩
            | some q =>
              obtain ⟨hj0, d0⟩ := unhide HPR2 q rfl
              obtain ⟨i, rfl⟩ : ∃ i, j = i + 1 := ⟨j - 1, by omega⟩
              rw [Nat.add_sub_cancel] at d0
              obtain ⟨q0, q1⟩ := q
              simp only at d0
              change R = (decide (q0 < y0) && _) at hr
              have hj1 : (0 : Int) < (i : Int) + 1 := by omega
              have hi0 : (0 : Int) ≤ (i : Int) := by omega
              have hi1 : (i : Int) < (n : Int) := by omega
              have hi2 : (i : Int) + 1 - 1 = (i : Int) := by omega
              have hi3 : IntKind.i64.wrap ((i : Int) + 1 - 1) = (i : Int) := by rw [hi2]; exact wrap_in _ (by omega)
              have hi4 : IntKind.i64.wrap (i : Int) = (i : Int) := wrap_in _ (by omega)
              have hi5 : IntKind.i64.wrap ((i : Int) + 1) = (i : Int) + 1 := wrap_in _ (by omega)
              clear HPR2
              by_cases t2 : y0 ≤ q0
              · rw [decide_eq_false (show ¬ q0 < y0 by omega), Bool.false_and] at hr
                subst hr
                go_quiet (fail)
                go_wp2
                go_ret
                exact ⟨rfl, below_drewN (unhide HCW) _⟩
              · rw [decide_eq_true (show q0 < y0 by omega), Bool.true_and] at hr
                have e2 : decide (y0 ≤ q0) = false := decide_eq_false t2
                by_cases t3 : at1 < 0
                · rw [decide_eq_false (show ¬ 0 ≤ at1 by omega), Bool.false_and] at hr
                  subst hr
                  have gf0 : ∀ d : Grown W.heap.size W, d.w.cell? ⟨wr.heap.size, 0, none⟩ = some (.int .i64 y0) := fun d => d.cell hfW f0
                  have gf1 : ∀ d : Grown W.heap.size W, d.w.cell? ⟨wr.heap.size, 1, none⟩ = some (.int .i64 y1) := fun d => d.cell hfW f1
                  have gp0 : ∀ d : Grown W.heap.size W, d.w.cell? ⟨w.heap.size, 0, none⟩ = some (.int .i64 s) := fun d => d.cell hgW p0
                  have gp1 : ∀ d : Grown W.heap.size W, d.w.cell? ⟨w.heap.size, 1, none⟩ = some (.slice a0 n0 c0) := fun d => d.cell hgW p1
                  have gd0 : ∀ d : Grown W.heap.size W, d.w.cell? ⟨b, off + i * 2, none⟩ = some (.int .i64 q0) := fun d => d.cell hbW d0
                  clear f0 f1 p0 p1 d0
                  refine wp_region_grown W.heap.size (by kernel_rfl) (by kernel_rfl) ?_
                  repeat (go_big_quiet_step (first
                    | (go_at_call 43; exact Calls.grown (Nat.le_refl _) (unhide AT1 _ (unhide HGC _)))
                    | (go_at_call_of 44 (Value.int IntKind.i64 y0); exact Calls.grown_same (unhide IN0 _ (unhide HGB _)))
                    | (go_at_call_of 44 (Value.int IntKind.i64 y1); exact Calls.grown_same (unhide IN1 _ (unhide HGB _)))))
                  refine wpQuiet_nil ?_
                  rintro w5 ⟨d5, rfl⟩
                  have bw5 := unhide HGB d5
                  have zw5 := d5.below.size
                  go_wp2
                  go_ret
                  exact ⟨rfl, b3.trans (bw5.mono b3.size)⟩
                · rw [decide_eq_true (show 0 ≤ at1 by omega), Bool.true_and] at hr
                  have e3 : decide (at1 < 0) = false := decide_eq_false t3
                  cases k0
                  · rw [Bool.not_false, Bool.true_and] at hr
                    cases k1
                    · rw [Bool.not_false, Bool.true_and] at hr
                      have gf0 : ∀ d : Grown W.heap.size W, d.w.cell? ⟨wr.heap.size, 0, none⟩ = some (.int .i64 y0) := fun d => d.cell hfW f0
                      have gf1 : ∀ d : Grown W.heap.size W, d.w.cell? ⟨wr.heap.size, 1, none⟩ = some (.int .i64 y1) := fun d => d.cell hfW f1
                      have gp0 : ∀ d : Grown W.heap.size W, d.w.cell? ⟨w.heap.size, 0, none⟩ = some (.int .i64 s) := fun d => d.cell hgW p0
                      have gp1 : ∀ d : Grown W.heap.size W, d.w.cell? ⟨w.heap.size, 1, none⟩ = some (.slice a0 n0 c0) := fun d => d.cell hgW p1
                      have gd0 : ∀ d : Grown W.heap.size W, d.w.cell? ⟨b, off + i * 2, none⟩ = some (.int .i64 q0) := fun d => d.cell hbW d0
                      clear f0 f1 p0 p1 d0
                      refine wp_region_grown W.heap.size (by kernel_rfl) (by kernel_rfl) ?_
                      repeat (go_big_quiet_step (first
                        | (go_at_call 43; exact Calls.grown (Nat.le_refl _) (unhide AT1 _ (unhide HGC _)))
                        | (go_at_call_of 44 (Value.int IntKind.i64 y0); exact Calls.grown_same (unhide IN0 _ (unhide HGB _)))
                        | (go_at_call_of 44 (Value.int IntKind.i64 y1); exact Calls.grown_same (unhide IN1 _ (unhide HGB _)))))
                      refine wpQuiet_nil ?_
                      rintro w5 ⟨d5, rfl⟩
                      have bw5 := unhide HGB d5
                      have zw5 := d5.below.size
                      have own5 := own_below (unhide HOW) bw5
                      have cU : U.length ≤ 18 := by have := unhide HU; omega
                      go_wp2_with (at_builtin; refine wpList_append_own _ rfl _ _ 27 rfl w2.heap.size 3 i0 (.int .i64 0) 1 8 Try.underlying27 hi hz0 hz1 hz2 rfl (by decide) _ _ _ rfl (own5.alloc _) ⟨d5.w.heap.size, 0, none⟩ 2 2 [.int .i64 y0, .int .i64 y1] rfl rfl (World.news_of_block (heap_alloc_new _ _)) (two_int _ _) ?_ ?_ ?_ ?_)
                      · unfold maxLen; omega
                      · omega
                      · first | omega | (simp; omega)
                      intro v' w7 hown' hgrow _
                      have HMD : Hid (MD w2 Q M R (i + 1 + 1) v' w7) := ⟨below_append ((unhide HB3).trans (bw5.mono (unhide HB3).size)) (Nat.le_refl _) own5 hgrow, U ++ [y0, y1], by rw [List.length_append, unhide HU]; first | rfl | omega | (simp; omega), hr.trans (unhide HREST).symm, by rw [List.length_append, intsV_two]; exact hown'⟩
                      clear hown' hgrow own5 cU
                      go_wp2
                      go_roundw
                      case rel => exact ⟨i + 1 + 1, by go_num, by omega, unhide HMD⟩
                      case measure => simp [intOf]; omega
                    · rw [Bool.not_true, Bool.false_and] at hr
                      subst hr
                      have gf0 : ∀ d : Grown W.heap.size W, d.w.cell? ⟨wr.heap.size, 0, none⟩ = some (.int .i64 y0) := fun d => d.cell hfW f0
                      have gf1 : ∀ d : Grown W.heap.size W, d.w.cell? ⟨wr.heap.size, 1, none⟩ = some (.int .i64 y1) := fun d => d.cell hfW f1
                      have gp0 : ∀ d : Grown W.heap.size W, d.w.cell? ⟨w.heap.size, 0, none⟩ = some (.int .i64 s) := fun d => d.cell hgW p0
                      have gp1 : ∀ d : Grown W.heap.size W, d.w.cell? ⟨w.heap.size, 1, none⟩ = some (.slice a0 n0 c0) := fun d => d.cell hgW p1
                      have gd0 : ∀ d : Grown W.heap.size W, d.w.cell? ⟨b, off + i * 2, none⟩ = some (.int .i64 q0) := fun d => d.cell hbW d0
                      clear f0 f1 p0 p1 d0
                      refine wp_region_grown W.heap.size (by kernel_rfl) (by kernel_rfl) ?_
                      repeat (go_big_quiet_step (first
                        | (go_at_call 43; exact Calls.grown (Nat.le_refl _) (unhide AT1 _ (unhide HGC _)))
                        | (go_at_call_of 44 (Value.int IntKind.i64 y0); exact Calls.grown_same (unhide IN0 _ (unhide HGB _)))
                        | (go_at_call_of 44 (Value.int IntKind.i64 y1); exact Calls.grown_same (unhide IN1 _ (unhide HGB _)))))
                      refine wpQuiet_nil ?_
                      rintro w5 ⟨d5, rfl⟩
                      have bw5 := unhide HGB d5
                      have zw5 := d5.below.size
                      go_wp2
                      go_ret
                      exact ⟨rfl, b3.trans (bw5.mono b3.size)⟩
                  · rw [Bool.not_true, Bool.false_and] at hr
                    subst hr
                    have gf0 : ∀ d : Grown W.heap.size W, d.w.cell? ⟨wr.heap.size, 0, none⟩ = some (.int .i64 y0) := fun d => d.cell hfW f0
                    have gf1 : ∀ d : Grown W.heap.size W, d.w.cell? ⟨wr.heap.size, 1, none⟩ = some (.int .i64 y1) := fun d => d.cell hfW f1
                    have gp0 : ∀ d : Grown W.heap.size W, d.w.cell? ⟨w.heap.size, 0, none⟩ = some (.int .i64 s) := fun d => d.cell hgW p0
                    have gp1 : ∀ d : Grown W.heap.size W, d.w.cell? ⟨w.heap.size, 1, none⟩ = some (.slice a0 n0 c0) := fun d => d.cell hgW p1
                    have gd0 : ∀ d : Grown W.heap.size W, d.w.cell? ⟨b, off + i * 2, none⟩ = some (.int .i64 q0) := fun d => d.cell hbW d0
                    clear f0 f1 p0 p1 d0
                    refine wp_region_grown W.heap.size (by kernel_rfl) (by kernel_rfl) ?_
                    repeat (go_big_quiet_step (first
                      | (go_at_call 43; exact Calls.grown (Nat.le_refl _) (unhide AT1 _ (unhide HGC _)))
                      | (go_at_call_of 44 (Value.int IntKind.i64 y0); exact Calls.grown_same (unhide IN0 _ (unhide HGB _)))
                      | (go_at_call_of 44 (Value.int IntKind.i64 y1); exact Calls.grown_same (unhide IN1 _ (unhide HGB _)))))
                    refine wpQuiet_nil ?_
                    rintro w5 ⟨d5, rfl⟩
                    have bw5 := unhide HGB d5
                    have zw5 := d5.below.size
                    go_wp2
                    go_ret
                    exact ⟨rfl, b3.trans (bw5.mono b3.size)⟩
        · obtain rfl : j = n := by omega
          obtain rfl := (unhide HR).trans (unhide HEND U)
          go_wp2
          go_ret
          exact ⟨rfl, b3⟩
def addS (s : SumsI) (e : EdgeI) : SumsI := ⟨s.W1 + e.W1, s.W2 + e.W2, s.W3 + e.W3⟩
def edgeN (Q : List EdgeI) (i : Int) : EdgeI := Q.getD i.toNat ⟨0, 0, 0, 0, 0⟩
def sumsFrom (Q : List EdgeI) : SumsI → List CoupleI → SumsI
  | s, [] => s
  | s, x :: r => sumsFrom Q (addS s (edgeN Q (atFrom x.A x.B 0 Q))) r
def sums (Q : List EdgeI) (M : List CoupleI) : SumsI := sumsFrom Q ⟨0, 0, 0⟩ M
def SB (s : SumsI) (n : Int) : Prop := (0 ≤ s.W1 ∧ s.W1 ≤ 50 * n) ∧ (0 ≤ s.W2 ∧ s.W2 ≤ 50 * n) ∧ (0 ≤ s.W3 ∧ s.W3 ≤ 50 * n)
theorem SB.mono {s : SumsI} {n m : Int} (h : SB s n) (hm : n ≤ m) : SB s m := by
  unfold SB at *
  omega
theorem worth_range {x : Int} (h : worthOk x = true) : 0 ≤ x ∧ x ≤ 50 := by
  unfold worthOk at h
  simpa using h
theorem SB.add {s : SumsI} {n : Int} {g : Int} {e : EdgeI} (h : SB s n) (he : edgeOk g e = true) : SB (addS s e) (n + 1) := by
  obtain ⟨_, _, _, h1, h2, h3⟩ := (edgeOk_iff g e).1 he
  have := worth_range h1
  have := worth_range h2
  have := worth_range h3
  unfold SB addS at *
  simp only
  omega
theorem SB.zero (n : Int) (h : 0 ≤ n) : SB ⟨0, 0, 0⟩ n := by
  unfold SB
  simp only
  omega
theorem at_range (x y : Int) : ∀ (Q : List EdgeI) (k : Nat), 0 ≤ atFrom x y k Q → ∃ i, ∃ h : i < Q.length, atFrom x y k Q = ((k + i : Nat) : Int) ∧ hit x y Q[i] = true
  | [], _, h => by unfold atFrom at h; omega
  | q :: r, k, h => by
    unfold atFrom at h ⊢
    by_cases hq : hit x y q = true
    · rw [if_pos hq]
      exact ⟨0, by simp, rfl, hq⟩
    · rw [if_neg hq] at h ⊢
      obtain ⟨i, hi, e, hh⟩ := at_range x y r (k + 1) h
      exact ⟨i + 1, by simp; omega, by rw [e]; omega, by simpa using hh⟩
theorem edgeN_at {x y : Int} {Q : List EdgeI} (h : 0 ≤ atFrom x y 0 Q) : ∃ i, ∃ h' : i < Q.length, atFrom x y 0 Q = (i : Int) ∧ edgeN Q (atFrom x y 0 Q) = Q[i] ∧ hit x y Q[i] = true := by
  obtain ⟨i, hi, e, hh⟩ := at_range x y Q 0 h
  rw [Nat.zero_add] at e
  refine ⟨i, hi, e, ?_, hh⟩
  unfold edgeN
  rw [e, Int.toNat_natCast, List.getD_eq_getElem?_getD, List.getElem?_eq_getElem hi]
  rfl
theorem edgeN_ok {s x y : Int} {Q : List EdgeI} (hg : graphOk s Q = true) (h : 0 ≤ atFrom x y 0 Q) : edgeOk s (edgeN Q (atFrom x y 0 Q)) = true := by
  obtain ⟨i, hi, _, e, _⟩ := edgeN_at h
  rw [e]
  exact (graph_sound hg).2.2.1 _ (List.getElem_mem hi)
theorem sumsFrom_step (Q : List EdgeI) (M : List CoupleI) (s : SumsI) (k : Nat) (h : k < M.length) : sumsFrom Q s (M.drop k) = sumsFrom Q (addS s (edgeN Q (atFrom M[k].A M[k].B 0 Q))) (M.drop (k + 1)) := by
  rw [← List.getElem_cons_drop h]
  rfl
theorem mFrom_at (Q : List EdgeI) : ∀ (M : List CoupleI) (p : Option CoupleI) (U : List Int), mFrom Q p U M = true → ∀ x ∈ M, 0 ≤ atFrom x.A x.B 0 Q
  | [], _, _, _ => by simp
  | y :: r, p, U, h => by
    unfold mFrom at h
    simp only [Bool.and_eq_true, decide_eq_true_eq] at h
    intro x hx
    rcases List.mem_cons.1 hx with rfl | hx
    · exact h.2.2.1
    · exact mFrom_at Q r _ _ h.2.2.2.2.2 x hx
theorem match_sound {s : Int} {Q : List EdgeI} {M : List CoupleI} (h : matchOk s Q M = true) : graphOk s Q = true ∧ M.length ≤ 9 ∧ mFrom Q none [] M = true := by
  unfold matchOk at h
  simpa using h
def wsum (t : SumsI) : Int := 90000 * t.W1 + 300 * t.W2 + t.W3
theorem wsum_add {t : SumsI} {n s : Int} {e : EdgeI} (h : SB t n) (hn : 0 ≤ n ∧ n ≤ 9) (he : edgeOk s e = true) : wsum (addS t e) = wsum t + scal e ∧ 0 ≤ scal e ∧ scal e ≤ 4515050 ∧ 0 ≤ wsum t ∧ wsum t ≤ 45150500 := by
  obtain ⟨_, _, _, h1, h2, h3⟩ := (edgeOk_iff s e).1 he
  have e1 := worth_range h1
  have e2 := worth_range h2
  have e3 := worth_range h3
  have hs : scal e = 90000 * e.W1 + 300 * e.W2 + e.W3 := by
    unfold scal
    rw [wrap_mod]
    omega
  unfold SB at h
  rw [hs]
  unfold wsum addS
  simp only
  omega
def LE (a b : SumsI) : Prop := a.W1 < b.W1 ∨ a.W1 = b.W1 ∧ (a.W2 < b.W2 ∨ a.W2 = b.W2 ∧ a.W3 ≤ b.W3)
theorem LE.refl (a : SumsI) : LE a a := by unfold LE; omega
theorem LE.trans {a b c : SumsI} (h : LE a b) (k : LE b c) : LE a c := by unfold LE at *; omega
theorem LE.add {a b : SumsI} (e : EdgeI) (h : LE a b) : LE (addS a e) (addS b e) := by unfold LE addS at *; simp only; omega
def Pm (Q : List EdgeI) (s : Int) (n : Nat) (U : List Int) (M : List CoupleI) : Prop :=
  (∀ x ∈ M, s - (n : Int) ≤ x.A ∧ x.A < x.B ∧ x.B < s ∧ 0 ≤ atFrom x.A x.B 0 Q ∧ inK U x.A = false ∧ inK U x.B = false) ∧ M.Pairwise (fun x y => x.A < y.A ∧ y.A ≠ x.B ∧ y.B ≠ x.B)
theorem inK_two {U : List Int} {a b x : Int} (h : inK (U ++ [a, b]) x = false) : inK U x = false ∧ x ≠ a ∧ x ≠ b := by
  unfold inK at *
  simp at h ⊢
  exact h
theorem match_pm {s : Int} {Q : List EdgeI} (hg : graphOk s Q = true) : ∀ (M : List CoupleI) (p : Option CoupleI) (U : List Int), mFrom Q p U M = true → (∀ x ∈ M, 0 ≤ x.A ∧ x.A < x.B ∧ x.B < s ∧ 0 ≤ atFrom x.A x.B 0 Q ∧ inK U x.A = false ∧ inK U x.B = false) ∧ M.Pairwise (fun x y => x.A < y.A ∧ y.A ≠ x.B ∧ y.B ≠ x.B) ∧ ∀ q, p = some q → ∀ x ∈ M, q.A < x.A
  | [], _, _, _ => ⟨by simp, List.Pairwise.nil, by simp⟩
  | x :: r, p, U, h => by
    unfold mFrom at h
    simp only [Bool.and_eq_true, decide_eq_true_eq, Bool.not_eq_true'] at h
    obtain ⟨h1, h2, h3, h4, h5, h6⟩ := h
    obtain ⟨i1, i2, i3⟩ := match_pm hg r (some x) (U ++ [x.A, x.B]) h6
    obtain ⟨i, hi, _, _, hh⟩ := edgeN_at h3
    have hek := (graph_sound hg).2.2.1 _ (List.getElem_mem hi)
    have he := (edgeOk_iff s _).1 hek
    have hh2 := ((hit_iff hek h1).1).1 hh
    refine ⟨fun y hy => ?_, List.Pairwise.cons (fun y hy => ?_) i2, fun q hq y hy => ?_⟩
    · rcases List.mem_cons.1 hy with rfl | hy
      · exact ⟨by omega, h1, by omega, h3, h4, h5⟩
      · obtain ⟨g1, g2, g3, g4, g5, g6⟩ := i1 y hy
        exact ⟨g1, g2, g3, g4, (inK_two g5).1, (inK_two g6).1⟩
    · obtain ⟨g1, g2, g3, g4, g5, g6⟩ := i1 y hy
      exact ⟨i3 x rfl y hy, (inK_two g5).2.2, (inK_two g6).2.2⟩
    · subst hq
      have h2' : q.A < x.A := by simpa [aheadC] using h2
      rcases List.mem_cons.1 hy with rfl | hy
      · exact h2'
      · have := i3 x rfl y hy
        omega
theorem okFrom_snoc (s : Int) (x : EdgeI) (hx : edgeOk s x = true) : ∀ (Q : List EdgeI) (p : Option EdgeI), okFrom s p Q = true → (∀ e ∈ Q, ahead e x = true) → (Q = [] → aheadOf p x = true) → okFrom s p (Q ++ [x]) = true
  | [], p, _, _, hp => by
    show (edgeOk s x && (aheadOf p x && true)) = true
    rw [hx, hp rfl]
    rfl
  | e :: r, p, h, ha, _ => by
    have h' : (edgeOk s e && (aheadOf p e && okFrom s (some e) r)) = true := h
    show (edgeOk s e && (aheadOf p e && okFrom s (some e) (r ++ [x]))) = true
    simp only [Bool.and_eq_true] at h' ⊢
    exact ⟨h'.1, h'.2.1, okFrom_snoc s x hx r (some e) h'.2.2 (fun y hy => ha y (List.mem_cons_of_mem _ hy)) (fun _ => ha e List.mem_cons_self)⟩
def GQ (s A B : Int) (n : Nat) (l : Nat) (Q : List EdgeI) : Prop := l = Q.length ∧ l ≤ n ∧ okFrom s none Q = true ∧ ∀ e ∈ Q, e.A < A ∨ e.A = A ∧ e.B < B
theorem GQ.step {s A B : Int} {n l : Nat} {Q : List EdgeI} (h : GQ s A B n l Q) (x : EdgeI) (hx : edgeOk s x = true) (hA : x.A = A) (hB : x.B = B) : GQ s A (B + 1) (n + 1) (l + 1) (Q ++ [x]) := by
  obtain ⟨h1, h2, h3, h4⟩ := h
  refine ⟨by rw [List.length_append, ← h1]; rfl, by omega, okFrom_snoc s x hx Q none h3 (fun e he => ?_) (fun _ => rfl), fun e he => ?_⟩
  · unfold ahead
    rcases h4 e he with h | ⟨h, h'⟩
    · rw [decide_eq_true (show e.A < x.A by omega)]; rfl
    · rw [decide_eq_true (show e.A = x.A by omega), decide_eq_true (show e.B < x.B by omega)]; simp
  · rcases List.mem_append.1 he with he | he
    · rcases h4 e he with h | ⟨h, h'⟩
      · exact .inl h
      · exact .inr ⟨h, by omega⟩
    · obtain rfl := List.mem_singleton.1 he
      exact .inr ⟨hA, by omega⟩
theorem GQ.skip {s A B B' : Int} {n n' l : Nat} {Q : List EdgeI} (h : GQ s A B n l Q) (hB : B ≤ B') (hn : n ≤ n') : GQ s A B' n' l Q :=
  ⟨h.1, Nat.le_trans h.2.1 hn, h.2.2.1, fun e he => by rcases h.2.2.2 e he with h | ⟨h, h'⟩; exact .inl h; exact .inr ⟨h, by omega⟩⟩
theorem GQ.next {s A B : Int} {n n' l : Nat} {Q : List EdgeI} (h : GQ s A B n l Q) (hn : n ≤ n') : GQ s (A + 1) 0 n' l Q :=
  ⟨h.1, Nat.le_trans h.2.1 hn, h.2.2.1, fun e he => by rcases h.2.2.2 e he with h | ⟨h, h'⟩ <;> exact .inl (by omega)⟩
def GD (a : Option Addr) (len cap g B : Nat) (w : World) (g3 : Nat) (s A Bq : Int) (n : Nat) (wr : World) : Prop :=
  CC a len cap g B wr ∧ GBox wr w.heap.size 0 (.slice none 0 0) ∧ Kept (fun k => k = g) w wr ∧ ∃ (l : Nat) (Q : List EdgeI) (P : Option Addr) (C : Nat), GQ s A Bq n l Q ∧ GBox wr g3 s (.slice P l C) ∧ wr.ownsRow (g3 + 1) 68 5 (.slice P l C) l (edgesV Q)
theorem GD.drawn {a : Option Addr} {len cap g B : Nat} {w : World} {g3 : Nat} {s A Bq : Int} {n : Nat} {wr w' : World} (h : GD a len cap g B w g3 s A Bq n wr) (hg : g < w.heap.size) (h3 : w.heap.size < g3) (hc : CC a len cap g B w') (hk : Kept (fun k => k = g) wr w') : GD a len cap g B w g3 s A Bq n w' := by
  obtain ⟨_, h1, h2, l, Q, P, C, hq, hb, ho⟩ := h
  exact ⟨hc, h1.kept hk (by omega), h2.trans hk, l, Q, P, C, hq, hb.kept hk (by omega), hk.own ho (fun k hk e => by have := (ho.lt k hk).1; omega)⟩
theorem GD.skip {a : Option Addr} {len cap g B : Nat} {w : World} {g3 : Nat} {s A Bq Bq' : Int} {n n' : Nat} {wr : World} (h : GD a len cap g B w g3 s A Bq n wr) (hB : Bq ≤ Bq') (hn : n ≤ n') : GD a len cap g B w g3 s A Bq' n' wr := by
  obtain ⟨h0, h1, h2, l, Q, P, C, hq, hb, ho⟩ := h
  exact ⟨h0, h1, h2, l, Q, P, C, hq.skip hB hn, hb, ho⟩
theorem GD.next {a : Option Addr} {len cap g B : Nat} {w : World} {g3 : Nat} {s A Bq : Int} {n n' : Nat} {wr : World} (h : GD a len cap g B w g3 s A Bq n wr) (hn : n ≤ n') : GD a len cap g B w g3 s (A + 1) 0 n' wr := by
  obtain ⟨h0, h1, h2, l, Q, P, C, hq, hb, ho⟩ := h
  exact ⟨h0, h1, h2, l, Q, P, C, hq.next hn, hb, ho⟩
theorem news_edge5 (W : World) (a b c d e : Int) (t : TypeId) : ∀ j u, [Value.int .i64 a, Value.int .i64 b, Value.int .i64 c, Value.int .i64 d, Value.int .i64 e][j]? = some u → (W.alloc (Obj.cells #[.int .i64 a, .int .i64 b, .int .i64 c, .int .i64 d, .int .i64 e] t)).cell? ((⟨W.heap.size, 0, none⟩ : Addr).add j) = some u :=
  World.news_of_block (heap_alloc_new W (Obj.cells #[.int .i64 a, .int .i64 b, .int .i64 c, .int .i64 d, .int .i64 e] t))
theorem edge5_one (a b c d e : Int) : ∀ u ∈ [Value.int .i64 a, Value.int .i64 b, Value.int .i64 c, Value.int .i64 d, Value.int .i64 e], u.oneCell' = true := by
  intro u hu
  simp at hu
  rcases hu with rfl | rfl | rfl | rfl | rfl <;> rfl
set_option maxRecDepth 100000 in
set_option maxHeartbeats 4000000 in
theorem l08Graph_any (a : Option Addr) (len cap g B : Nat) (hl : len ≤ 1048576) (hB : B ≤ g) (w : World) (hcc : CC a len cap g B w) :
    Calls Try.prog 19 #[.pointer (some ⟨g, 0, none⟩)] w fun e w' => (∃ d, e = .returned d ∧ ∃ s Q, GrOwn w' w.heap.size d s Q ∧ graphOk s Q = true ∧ Q.length ≤ 90) ∧ CC a len cap g B w' ∧ Kept (fun k => k = g) w w' := by
  have BE := hide (fun n (h0 : 0 < n) w1 (h : CC a len cap g B w1) => below_cc a len cap g B n hl hB h0 w1 h)
  have ON := hide (fun n (h0 : 0 < n) w1 (h : CC a len cap g B w1) => once_cc a len cap g B n hl hB h0 w1 h)
  have PI := hide (fun b (hb : b ≠ g) w1 (h : CC a len cap g B w1) (hx : w1.heap[b]? = some (.cells #[.int .i64 2, .int .i64 4, .int .i64 51] 3 (0, 0))) => pick_cc (fun x => x = 2 ∨ x = 4 ∨ x = 51) a len cap g B b 2 4 51 hl hB hb w1 h hx (by omega) (by omega) (by omega))
  obtain ⟨i1, hi1, hz0, hz1, hz2⟩ := info_parts infoEdge
  have hg := hcc.lt
  have HCC := hide hcc
  clear hcc
  go_enter Try.func19, Try.ntmps19
  go_wp2_with fail
  obtain ⟨V1, hV1⟩ : ∃ W, W = w.alloc (Obj.cells #[Value.int .i64 0, Value.slice none 0 0] 26) := ⟨_, rfl⟩
  rw [← hV1]
  have b1 : Below w.heap.size w V1 := by rw [hV1]; exact below_new _ _
  have y1 : GBox V1 w.heap.size 0 (.slice none 0 0) := by rw [hV1]; exact GBox.new _ _ _
  have cc1 := (unhide HCC).below b1 hB
  clear hV1
  refine (unhide BE 10 (by omega) V1 cc1).mono ?_
  rintro e w2 ⟨⟨s, rfl, hs0, hs1⟩, cc2, hk2⟩
  have y2 := y1.kept hk2 (by omega)
  have k2 : Kept (fun k => k = g) w w2 := (Kept.of_below b1).trans hk2
  have hy2 := y2.lt
  clear hk2 cc1 y1 b1
  obtain ⟨V3, hV3⟩ : ∃ W, W = w2.alloc (Obj.cells #[Value.int .i64 s, Value.slice none 0 0] 26) := ⟨_, rfl⟩
  have b3 : Below w2.heap.size w2 V3 := by rw [hV3]; exact below_new _ _
  have u3 : GBox V3 w2.heap.size s (.slice none 0 0) := by rw [hV3]; exact GBox.new _ _ _
  have GD3 : Hid (GD a len cap g B w w2.heap.size s 0 0 0 V3) := ⟨cc2.below b3 hB, y2.below b3, k2.trans (Kept.of_below b3), 0, [], none, 0, ⟨rfl, Nat.le_refl _, rfl, by simp⟩, u3, ⟨rfl, .inl ⟨rfl, rfl⟩⟩⟩
  go_wp2_with fail
  rw [← hV3]
  have h3 : w.heap.size < w2.heap.size := hy2
  have z3 : w2.heap.size < V3.heap.size := u3.lt
  clear hV3 b3 u3 y2 k2 cc2
  refine (unhide BE 3 (by omega) V3 (unhide GD3).1).mono ?_
  rintro e w4 ⟨⟨d, rfl, hd0, hd1⟩, cc4, hk4⟩
  have GD4 := hide ((unhide GD3).drawn hg h3 cc4 hk4)
  have z4 : V3.heap.size ≤ w4.heap.size := hk4.2.2.2.1
  clear cc4 hk4
  go_wp2_with fail
  obtain ⟨V5, hV5⟩ : ∃ W, W = w4.alloc (Obj.cells #[Value.int .i64 2, Value.int .i64 4, Value.int .i64 51] 3) := ⟨_, rfl⟩
  rw [← hV5]
  have b5 : Below w4.heap.size w4 V5 := by rw [hV5]; exact below_new _ _
  have e5 : V5.heap[w4.heap.size]? = some (.cells #[.int .i64 2, .int .i64 4, .int .i64 51] 3 (0, 0)) := by rw [hV5]; exact heap_alloc_new _ _
  have GD5 : Hid (GD a len cap g B w w2.heap.size s 0 0 0 V5) := by
    obtain ⟨h0, h1, h2, l, Q, P, C, hq, hb, ho⟩ := unhide GD4
    exact ⟨h0.below b5 hB, h1.below b5, h2.trans (Kept.of_below b5), l, Q, P, C, hq, hb.below b5, own_below ho b5⟩
  have z5 := b5.size
  clear hV5 b5
  refine (unhide PI w4.heap.size (by omega) V5 (unhide GD5).1 e5).mono ?_
  rintro e w6 ⟨⟨m, rfl, hm⟩, cc6, hk6⟩
  have GD6 := hide ((unhide GD5).drawn hg h3 cc6 hk6)
  have hm0 : 0 < m := by omega
  have hm1 : m ≤ 51 := by omega
  clear cc6 hk6 e5 GD3 GD4 GD5
  obtain ⟨g3, hg3⟩ : ∃ g3, g3 = w2.heap.size := ⟨_, rfl⟩
  rw [← hg3] at GD6 h3 ⊢
  clear hg3 z3 z4 z5 hy2
  go_wp2_with fail
  go_loopw [6] (fun i wr => ∃ A : Nat, i = .int .i64 (A : Int) ∧ (A : Int) ≤ s ∧ GD a len cap g B w g3 s (A : Int) 0 (9 * A) wr) (fun i _ => s.toNat - (intOf i).toNat)
  case atStart => exact ⟨0, rfl, by omega, unhide GD6⟩
  case round =>
    obtain ⟨A, rfl, hA, hgd⟩ := hrel
    have HGD := hide hgd
    obtain ⟨_, y7, k7, l7, Q7, P7, C7, q7, u7, o7⟩ := hgd
    obtain ⟨p0, p1⟩ := u7.cells
    by_cases hlt : (A : Int) < s
    · clear y7 k7 q7 u7 o7
      go_wp2_with fail
      go_loopw [7] (fun i wr => ∃ b : Nat, i = .int .i64 (b : Int) ∧ (b : Int) ≤ s ∧ A + 1 ≤ b ∧ GD a len cap g B w g3 s (A : Int) (b : Int) (9 * A + b) wr) (fun i _ => s.toNat - (intOf i).toNat)
      case atStart => exact ⟨A + 1, by go_num, by omega, Nat.le_refl _, (unhide HGD).skip (by omega) (by omega)⟩
      case round =>
        obtain ⟨b, rfl, hb, hAb, hgd⟩ := hrel
        have HGE := hide hgd
        obtain ⟨cc8, y8, k8, l8, Q8, P8, C8, q8, u8, o8⟩ := hgd
        obtain ⟨p2, p3⟩ := u8.cells
        clear HGD p0 p1
        by_cases hltb : (b : Int) < s
        · have HON := hide (unhide ON (1 + d + 1) (by omega) wr cc8)
          have hd2 : 1 + d + 1 ≤ 9223372036854775807 := by omega
          clear y8 k8 q8 u8 o8 cc8
          go_wp2_with fail
          refine (unhide HON).mono ?_
          rintro e w9 ⟨⟨t, rfl⟩, cc9, hk9⟩
          have HGF := hide ((unhide HGE).drawn hg h3 cc9 hk9)
          clear cc9 hk9 HON HGE p2 p3
          cases t
          · go_wp2_with fail
            refine (unhide BE m hm0 w9 (unhide HGF).1).mono ?_
            rintro e w10 ⟨⟨x1, rfl, hx10, hx11⟩, cc10, hk10⟩
            have HGG := hide ((unhide HGF).drawn hg h3 cc10 hk10)
            clear cc10 hk10 HGF
            go_wp2_with fail
            refine (unhide BE m hm0 w10 (unhide HGG).1).mono ?_
            rintro e w11 ⟨⟨x2, rfl, hx20, hx21⟩, cc11, hk11⟩
            have HGH := hide ((unhide HGG).drawn hg h3 cc11 hk11)
            clear cc11 hk11 HGG
            go_wp2_with fail
            refine (unhide BE m hm0 w11 (unhide HGH).1).mono ?_
            rintro e w12 ⟨⟨x3, rfl, hx30, hx31⟩, cc12, hk12⟩
            have HGI := hide ((unhide HGH).drawn hg h3 cc12 hk12)
            clear cc12 hk12 HGH
            obtain ⟨cc13, y13, k13, l13, Q13, P13, C13, q13, u13, o13⟩ := unhide HGI
            have HQ13 := hide q13
            have hl13 := q13.2.1
            have HY13 := hide y13
            have HU13 := hide u13
            have HO13 := hide o13
            have HC13 := hide cc13
            have HK13 := hide k13
            have z13 := u13.lt
            have hgl : ∀ k, (Value.slice P13 l13 C13).ownBlock = some k → g3 < k := fun k hk => by have := (o13.lt k hk).1; omega
            have HGL := hide hgl
            clear q13 y13 u13 o13 cc13 k13 HGI hgl
            cases hm4 : (m == 4)
            · go_upto_region 15 with fail
              obtain ⟨V9, hV9⟩ : ∃ W, W = w12.alloc (Obj.cells #[Value.int .i64 (A : Int), Value.int .i64 (b : Int), Value.int .i64 x1, Value.int .i64 x2, Value.int .i64 x3] 68) := ⟨_, rfl⟩
              rw [← hV9]
              have e9 : V9.heap[w12.heap.size]? = some (.cells #[Value.int .i64 (A : Int), Value.int .i64 (b : Int), Value.int .i64 x1, Value.int .i64 x2, Value.int .i64 x3] 68 (0, 0)) := by rw [hV9]; exact heap_alloc_new _ _
              have bw9 : Below w12.heap.size w12 V9 := by rw [hV9]; exact below_new _ _
              have u9 := (unhide HU13).below bw9
              have y9 := (unhide HY13).below bw9
              have o9 := own_below (unhide HO13) bw9
              have c9 := (unhide HC13).below bw9 hB
              have k9 : Kept (fun k => k = g) w V9 := (unhide HK13).trans (Kept.of_below bw9)
              have f0 : V9.cell? ⟨w12.heap.size, 0, none⟩ = some (.int .i64 (A : Int)) := by rw [cell_of_row V9 w12.heap.size 0 _ 68 (0, 0) e9]; rfl
              have f1 : V9.cell? ⟨w12.heap.size, 1, none⟩ = some (.int .i64 (b : Int)) := by rw [cell_of_row V9 w12.heap.size 1 _ 68 (0, 0) e9]; rfl
              have f2 : V9.cell? ⟨w12.heap.size, 2, none⟩ = some (.int .i64 x1) := by rw [cell_of_row V9 w12.heap.size 2 _ 68 (0, 0) e9]; rfl
              have f3 : V9.cell? ⟨w12.heap.size, 3, none⟩ = some (.int .i64 x2) := by rw [cell_of_row V9 w12.heap.size 3 _ 68 (0, 0) e9]; rfl
              have f4 : V9.cell? ⟨w12.heap.size, 4, none⟩ = some (.int .i64 x3) := by rw [cell_of_row V9 w12.heap.size 4 _ 68 (0, 0) e9]; rfl
              obtain ⟨q0, q1⟩ := u9.cells
              have HU9 := hide u9
              have HY9 := hide y9
              have HC9 := hide c9
              have HK9 := hide k9
              have z9 : g3 < V9.heap.size := u9.lt
              have hw9 : w12.heap.size < V9.heap.size := by rw [hV9]; simp
              clear hV9 e9 bw9 u9 y9 c9 k9
              go_wp2_with (at_builtin; refine wpList_append_own _ rfl _ _ 24 rfl (g3 + 1) 68 i1 (.agg #[.int .i64 0, .int .i64 0, .int .i64 0, .int .i64 0, .int .i64 0]) 5 40 Try.underlying24 hi1 hz0 hz1 hz2 rfl (by decide) _ l13 _ rfl (o9.alloc _) ⟨V9.heap.size, 0, none⟩ 1 1 [.int .i64 (A : Int), .int .i64 (b : Int), .int .i64 x1, .int .i64 x2, .int .i64 x3] rfl rfl (news_edge5 _ _ _ _ _ _ _) (edge5_one _ _ _ _ _) ?_ ?_ ?_ ?_)
              · unfold maxLen; omega
              · omega
              · simp; omega
              intro v4 w14 hown4 hgrow4 _
              have bn := below_new V9 (Obj.cells #[Value.int .i64 (A : Int), Value.int .i64 (b : Int), Value.int .i64 x1, Value.int .i64 x2, Value.int .i64 x3] 68)
              have hkg := Kept.of_grown hgrow4
              have u14 : GBox w14 g3 s (.slice P13 l13 C13) := ((unhide HU9).below bn).kept hkg (fun e => by have := unhide HGL _ e; omega)
              have y14 : GBox w14 w.heap.size 0 (.slice none 0 0) := ((unhide HY9).below bn).kept hkg (fun e => by have := unhide HGL _ e; omega)
              have c14 : CC a len cap g B w14 := ((unhide HC9).below bn hB).kept hkg hB (fun k e => by have := unhide HGL _ e; omega)
              have k14 : Kept (fun k => k = g) w w14 := by
                have k15 := (unhide HK9).trans (Kept.of_below bn)
                exact ⟨hkg.1.trans k15.1, hkg.2.1.trans k15.2.1, hkg.2.2.1.trans k15.2.2.1, Nat.le_trans k15.2.2.2.1 hkg.2.2.2.1, fun i hi hn => (hkg.2.2.2.2 i (Nat.lt_of_lt_of_le hi k15.2.2.2.1) (fun e => by have := unhide HGL _ e; omega)).trans (k15.2.2.2.2 i hi hn)⟩
              obtain ⟨A4, C4, rfl⟩ : ∃ A c, v4 = .slice A (l13 + 1) c := by
                rcases hown4.2 with ⟨rfl, h0⟩ | ⟨g, cap, cur, rfl, _⟩
                · omega
                · exact ⟨_, _, rfl⟩
              have hsn2 : edgesV Q13 ++ [.int .i64 (A : Int), .int .i64 (b : Int), .int .i64 x1, .int .i64 x2, .int .i64 x3] = edgesV (Q13 ++ [⟨(A : Int), (b : Int), x1, x2, x3⟩]) := (edgesV_snoc Q13 ⟨(A : Int), (b : Int), x1, x2, x3⟩).symm
              rw [hsn2] at hown4
              have hko : Kept (fun i => i = g3) w14 (w14.setCell ⟨g3, 1, none⟩ (.slice A4 (l13 + 1) C4)) := Kept.set (S := fun i => i = g3) _ _ _ _ rfl
              have hex : edgeOk s ⟨(A : Int), (b : Int), x1, x2, x3⟩ = true := by
                unfold edgeOk worthOk
                simp
                omega
              have HGN : Hid (GD a len cap g B w g3 s (A : Int) ((b : Int) + 1) (9 * A + b + 1) (w14.setCell ⟨g3, 1, none⟩ (.slice A4 (l13 + 1) C4))) :=
                ⟨c14.kept hko hB (fun k hk => by omega), y14.kept hko (by omega), ⟨hko.1.trans k14.1, hko.2.1.trans k14.2.1, hko.2.2.1.trans k14.2.2.1, Nat.le_trans k14.2.2.2.1 hko.2.2.2.1, fun i hi hn => (hko.2.2.2.2 i (Nat.lt_of_lt_of_le hi k14.2.2.2.1) (by omega)).trans (k14.2.2.2.2 i hi hn)⟩, l13 + 1, _, A4, C4, (unhide HQ13).step _ hex rfl rfl, u14.one _, hko.own hown4 (fun k hk e => by have := (hown4.lt k hk).1; omega)⟩
              obtain ⟨r0, r1⟩ := u14.cells
              have rf := u14.froz
              clear hown4 hgrow4 hko bn hkg u14 y14 c14 k14 o9 q0 q1 f0 f1 f2 f3 f4 hsn2 hex
              go_wp2
              go_roundw
              case rel => exact ⟨b + 1, by go_num, by omega, by omega, by rw [Int.natCast_add]; exact unhide HGN⟩
              case measure => simp [intOf]; omega
            · go_upto_region 15 with fail
              obtain ⟨V9, hV9⟩ : ∃ W, W = w12.alloc (Obj.cells #[Value.int .i64 (A : Int), Value.int .i64 (b : Int), Value.int .i64 x1, Value.int .i64 0, Value.int .i64 0] 68) := ⟨_, rfl⟩
              rw [← hV9]
              have e9 : V9.heap[w12.heap.size]? = some (.cells #[Value.int .i64 (A : Int), Value.int .i64 (b : Int), Value.int .i64 x1, Value.int .i64 0, Value.int .i64 0] 68 (0, 0)) := by rw [hV9]; exact heap_alloc_new _ _
              have bw9 : Below w12.heap.size w12 V9 := by rw [hV9]; exact below_new _ _
              have u9 := (unhide HU13).below bw9
              have y9 := (unhide HY13).below bw9
              have o9 := own_below (unhide HO13) bw9
              have c9 := (unhide HC13).below bw9 hB
              have k9 : Kept (fun k => k = g) w V9 := (unhide HK13).trans (Kept.of_below bw9)
              have f0 : V9.cell? ⟨w12.heap.size, 0, none⟩ = some (.int .i64 (A : Int)) := by rw [cell_of_row V9 w12.heap.size 0 _ 68 (0, 0) e9]; rfl
              have f1 : V9.cell? ⟨w12.heap.size, 1, none⟩ = some (.int .i64 (b : Int)) := by rw [cell_of_row V9 w12.heap.size 1 _ 68 (0, 0) e9]; rfl
              have f2 : V9.cell? ⟨w12.heap.size, 2, none⟩ = some (.int .i64 x1) := by rw [cell_of_row V9 w12.heap.size 2 _ 68 (0, 0) e9]; rfl
              have f3 : V9.cell? ⟨w12.heap.size, 3, none⟩ = some (.int .i64 0) := by rw [cell_of_row V9 w12.heap.size 3 _ 68 (0, 0) e9]; rfl
              have f4 : V9.cell? ⟨w12.heap.size, 4, none⟩ = some (.int .i64 0) := by rw [cell_of_row V9 w12.heap.size 4 _ 68 (0, 0) e9]; rfl
              obtain ⟨q0, q1⟩ := u9.cells
              have HU9 := hide u9
              have HY9 := hide y9
              have HC9 := hide c9
              have HK9 := hide k9
              have z9 : g3 < V9.heap.size := u9.lt
              have hw9 : w12.heap.size < V9.heap.size := by rw [hV9]; simp
              clear hV9 e9 bw9 u9 y9 c9 k9
              go_wp2_with (at_builtin; refine wpList_append_own _ rfl _ _ 24 rfl (g3 + 1) 68 i1 (.agg #[.int .i64 0, .int .i64 0, .int .i64 0, .int .i64 0, .int .i64 0]) 5 40 Try.underlying24 hi1 hz0 hz1 hz2 rfl (by decide) _ l13 _ rfl (o9.alloc _) ⟨V9.heap.size, 0, none⟩ 1 1 [.int .i64 (A : Int), .int .i64 (b : Int), .int .i64 x1, .int .i64 0, .int .i64 0] rfl rfl (news_edge5 _ _ _ _ _ _ _) (edge5_one _ _ _ _ _) ?_ ?_ ?_ ?_)
              · unfold maxLen; omega
              · omega
              · simp; omega
              intro v4 w14 hown4 hgrow4 _
              have bn := below_new V9 (Obj.cells #[Value.int .i64 (A : Int), Value.int .i64 (b : Int), Value.int .i64 x1, Value.int .i64 0, Value.int .i64 0] 68)
              have hkg := Kept.of_grown hgrow4
              have u14 : GBox w14 g3 s (.slice P13 l13 C13) := ((unhide HU9).below bn).kept hkg (fun e => by have := unhide HGL _ e; omega)
              have y14 : GBox w14 w.heap.size 0 (.slice none 0 0) := ((unhide HY9).below bn).kept hkg (fun e => by have := unhide HGL _ e; omega)
              have c14 : CC a len cap g B w14 := ((unhide HC9).below bn hB).kept hkg hB (fun k e => by have := unhide HGL _ e; omega)
              have k14 : Kept (fun k => k = g) w w14 := by
                have k15 := (unhide HK9).trans (Kept.of_below bn)
                exact ⟨hkg.1.trans k15.1, hkg.2.1.trans k15.2.1, hkg.2.2.1.trans k15.2.2.1, Nat.le_trans k15.2.2.2.1 hkg.2.2.2.1, fun i hi hn => (hkg.2.2.2.2 i (Nat.lt_of_lt_of_le hi k15.2.2.2.1) (fun e => by have := unhide HGL _ e; omega)).trans (k15.2.2.2.2 i hi hn)⟩
              obtain ⟨A4, C4, rfl⟩ : ∃ A c, v4 = .slice A (l13 + 1) c := by
                rcases hown4.2 with ⟨rfl, h0⟩ | ⟨g, cap, cur, rfl, _⟩
                · omega
                · exact ⟨_, _, rfl⟩
              have hsn2 : edgesV Q13 ++ [.int .i64 (A : Int), .int .i64 (b : Int), .int .i64 x1, .int .i64 0, .int .i64 0] = edgesV (Q13 ++ [⟨(A : Int), (b : Int), x1, 0, 0⟩]) := (edgesV_snoc Q13 ⟨(A : Int), (b : Int), x1, 0, 0⟩).symm
              rw [hsn2] at hown4
              have hko : Kept (fun i => i = g3) w14 (w14.setCell ⟨g3, 1, none⟩ (.slice A4 (l13 + 1) C4)) := Kept.set (S := fun i => i = g3) _ _ _ _ rfl
              have hex : edgeOk s ⟨(A : Int), (b : Int), x1, 0, 0⟩ = true := by
                unfold edgeOk worthOk
                simp
                omega
              have HGN : Hid (GD a len cap g B w g3 s (A : Int) ((b : Int) + 1) (9 * A + b + 1) (w14.setCell ⟨g3, 1, none⟩ (.slice A4 (l13 + 1) C4))) :=
                ⟨c14.kept hko hB (fun k hk => by omega), y14.kept hko (by omega), ⟨hko.1.trans k14.1, hko.2.1.trans k14.2.1, hko.2.2.1.trans k14.2.2.1, Nat.le_trans k14.2.2.2.1 hko.2.2.2.1, fun i hi hn => (hko.2.2.2.2 i (Nat.lt_of_lt_of_le hi k14.2.2.2.1) (by omega)).trans (k14.2.2.2.2 i hi hn)⟩, l13 + 1, _, A4, C4, (unhide HQ13).step _ hex rfl rfl, u14.one _, hko.own hown4 (fun k hk e => by have := (hown4.lt k hk).1; omega)⟩
              obtain ⟨r0, r1⟩ := u14.cells
              have rf := u14.froz
              clear hown4 hgrow4 hko bn hkg u14 y14 c14 k14 o9 q0 q1 f0 f1 f2 f3 f4 hsn2 hex
              go_wp2
              go_roundw
              case rel => exact ⟨b + 1, by go_num, by omega, by omega, by rw [Int.natCast_add]; exact unhide HGN⟩
              case measure => simp [intOf]; omega
          · by_cases hd3 : 1 + d = 3
            · have hd4 : ((1 + d) == 3) = true := by simpa using hd3
              clear hd3
              go_wp2_with fail
              refine (unhide BE m hm0 w9 (unhide HGF).1).mono ?_
              rintro e w10 ⟨⟨x1, rfl, hx10, hx11⟩, cc10, hk10⟩
              have HGG := hide ((unhide HGF).drawn hg h3 cc10 hk10)
              clear cc10 hk10 HGF
              go_wp2_with fail
              refine (unhide BE m hm0 w10 (unhide HGG).1).mono ?_
              rintro e w11 ⟨⟨x2, rfl, hx20, hx21⟩, cc11, hk11⟩
              have HGH := hide ((unhide HGG).drawn hg h3 cc11 hk11)
              clear cc11 hk11 HGG
              go_wp2_with fail
              refine (unhide BE m hm0 w11 (unhide HGH).1).mono ?_
              rintro e w12 ⟨⟨x3, rfl, hx30, hx31⟩, cc12, hk12⟩
              have HGI := hide ((unhide HGH).drawn hg h3 cc12 hk12)
              clear cc12 hk12 HGH
              obtain ⟨cc13, y13, k13, l13, Q13, P13, C13, q13, u13, o13⟩ := unhide HGI
              have HQ13 := hide q13
              have hl13 := q13.2.1
              have HY13 := hide y13
              have HU13 := hide u13
              have HO13 := hide o13
              have HC13 := hide cc13
              have HK13 := hide k13
              have z13 := u13.lt
              have hgl : ∀ k, (Value.slice P13 l13 C13).ownBlock = some k → g3 < k := fun k hk => by have := (o13.lt k hk).1; omega
              have HGL := hide hgl
              clear q13 y13 u13 o13 cc13 k13 HGI hgl
              cases hm4 : (m == 4)
              · go_upto_region 15 with fail
                obtain ⟨V9, hV9⟩ : ∃ W, W = w12.alloc (Obj.cells #[Value.int .i64 (A : Int), Value.int .i64 (b : Int), Value.int .i64 x1, Value.int .i64 x2, Value.int .i64 x3] 68) := ⟨_, rfl⟩
                rw [← hV9]
                have e9 : V9.heap[w12.heap.size]? = some (.cells #[Value.int .i64 (A : Int), Value.int .i64 (b : Int), Value.int .i64 x1, Value.int .i64 x2, Value.int .i64 x3] 68 (0, 0)) := by rw [hV9]; exact heap_alloc_new _ _
                have bw9 : Below w12.heap.size w12 V9 := by rw [hV9]; exact below_new _ _
                have u9 := (unhide HU13).below bw9
                have y9 := (unhide HY13).below bw9
                have o9 := own_below (unhide HO13) bw9
                have c9 := (unhide HC13).below bw9 hB
                have k9 : Kept (fun k => k = g) w V9 := (unhide HK13).trans (Kept.of_below bw9)
                have f0 : V9.cell? ⟨w12.heap.size, 0, none⟩ = some (.int .i64 (A : Int)) := by rw [cell_of_row V9 w12.heap.size 0 _ 68 (0, 0) e9]; rfl
                have f1 : V9.cell? ⟨w12.heap.size, 1, none⟩ = some (.int .i64 (b : Int)) := by rw [cell_of_row V9 w12.heap.size 1 _ 68 (0, 0) e9]; rfl
                have f2 : V9.cell? ⟨w12.heap.size, 2, none⟩ = some (.int .i64 x1) := by rw [cell_of_row V9 w12.heap.size 2 _ 68 (0, 0) e9]; rfl
                have f3 : V9.cell? ⟨w12.heap.size, 3, none⟩ = some (.int .i64 x2) := by rw [cell_of_row V9 w12.heap.size 3 _ 68 (0, 0) e9]; rfl
                have f4 : V9.cell? ⟨w12.heap.size, 4, none⟩ = some (.int .i64 x3) := by rw [cell_of_row V9 w12.heap.size 4 _ 68 (0, 0) e9]; rfl
                obtain ⟨q0, q1⟩ := u9.cells
                have HU9 := hide u9
                have HY9 := hide y9
                have HC9 := hide c9
                have HK9 := hide k9
                have z9 : g3 < V9.heap.size := u9.lt
                have hw9 : w12.heap.size < V9.heap.size := by rw [hV9]; simp
                clear hV9 e9 bw9 u9 y9 c9 k9
                go_wp2_with (at_builtin; refine wpList_append_own _ rfl _ _ 24 rfl (g3 + 1) 68 i1 (.agg #[.int .i64 0, .int .i64 0, .int .i64 0, .int .i64 0, .int .i64 0]) 5 40 Try.underlying24 hi1 hz0 hz1 hz2 rfl (by decide) _ l13 _ rfl (o9.alloc _) ⟨V9.heap.size, 0, none⟩ 1 1 [.int .i64 (A : Int), .int .i64 (b : Int), .int .i64 x1, .int .i64 x2, .int .i64 x3] rfl rfl (news_edge5 _ _ _ _ _ _ _) (edge5_one _ _ _ _ _) ?_ ?_ ?_ ?_)
                · unfold maxLen; omega
                · omega
                · simp; omega
                intro v4 w14 hown4 hgrow4 _
                have bn := below_new V9 (Obj.cells #[Value.int .i64 (A : Int), Value.int .i64 (b : Int), Value.int .i64 x1, Value.int .i64 x2, Value.int .i64 x3] 68)
                have hkg := Kept.of_grown hgrow4
                have u14 : GBox w14 g3 s (.slice P13 l13 C13) := ((unhide HU9).below bn).kept hkg (fun e => by have := unhide HGL _ e; omega)
                have y14 : GBox w14 w.heap.size 0 (.slice none 0 0) := ((unhide HY9).below bn).kept hkg (fun e => by have := unhide HGL _ e; omega)
                have c14 : CC a len cap g B w14 := ((unhide HC9).below bn hB).kept hkg hB (fun k e => by have := unhide HGL _ e; omega)
                have k14 : Kept (fun k => k = g) w w14 := by
                  have k15 := (unhide HK9).trans (Kept.of_below bn)
                  exact ⟨hkg.1.trans k15.1, hkg.2.1.trans k15.2.1, hkg.2.2.1.trans k15.2.2.1, Nat.le_trans k15.2.2.2.1 hkg.2.2.2.1, fun i hi hn => (hkg.2.2.2.2 i (Nat.lt_of_lt_of_le hi k15.2.2.2.1) (fun e => by have := unhide HGL _ e; omega)).trans (k15.2.2.2.2 i hi hn)⟩
                obtain ⟨A4, C4, rfl⟩ : ∃ A c, v4 = .slice A (l13 + 1) c := by
                  rcases hown4.2 with ⟨rfl, h0⟩ | ⟨g, cap, cur, rfl, _⟩
                  · omega
                  · exact ⟨_, _, rfl⟩
                have hsn2 : edgesV Q13 ++ [.int .i64 (A : Int), .int .i64 (b : Int), .int .i64 x1, .int .i64 x2, .int .i64 x3] = edgesV (Q13 ++ [⟨(A : Int), (b : Int), x1, x2, x3⟩]) := (edgesV_snoc Q13 ⟨(A : Int), (b : Int), x1, x2, x3⟩).symm
                rw [hsn2] at hown4
                have hko : Kept (fun i => i = g3) w14 (w14.setCell ⟨g3, 1, none⟩ (.slice A4 (l13 + 1) C4)) := Kept.set (S := fun i => i = g3) _ _ _ _ rfl
                have hex : edgeOk s ⟨(A : Int), (b : Int), x1, x2, x3⟩ = true := by
                  unfold edgeOk worthOk
                  simp
                  omega
                have HGN : Hid (GD a len cap g B w g3 s (A : Int) ((b : Int) + 1) (9 * A + b + 1) (w14.setCell ⟨g3, 1, none⟩ (.slice A4 (l13 + 1) C4))) :=
                  ⟨c14.kept hko hB (fun k hk => by omega), y14.kept hko (by omega), ⟨hko.1.trans k14.1, hko.2.1.trans k14.2.1, hko.2.2.1.trans k14.2.2.1, Nat.le_trans k14.2.2.2.1 hko.2.2.2.1, fun i hi hn => (hko.2.2.2.2 i (Nat.lt_of_lt_of_le hi k14.2.2.2.1) (by omega)).trans (k14.2.2.2.2 i hi hn)⟩, l13 + 1, _, A4, C4, (unhide HQ13).step _ hex rfl rfl, u14.one _, hko.own hown4 (fun k hk e => by have := (hown4.lt k hk).1; omega)⟩
                obtain ⟨r0, r1⟩ := u14.cells
                have rf := u14.froz
                clear hown4 hgrow4 hko bn hkg u14 y14 c14 k14 o9 q0 q1 f0 f1 f2 f3 f4 hsn2 hex
                go_wp2
                go_roundw
                case rel => exact ⟨b + 1, by go_num, by omega, by omega, by rw [Int.natCast_add]; exact unhide HGN⟩
                case measure => simp [intOf]; omega
              · go_upto_region 15 with fail
                obtain ⟨V9, hV9⟩ : ∃ W, W = w12.alloc (Obj.cells #[Value.int .i64 (A : Int), Value.int .i64 (b : Int), Value.int .i64 x1, Value.int .i64 0, Value.int .i64 0] 68) := ⟨_, rfl⟩
                rw [← hV9]
                have e9 : V9.heap[w12.heap.size]? = some (.cells #[Value.int .i64 (A : Int), Value.int .i64 (b : Int), Value.int .i64 x1, Value.int .i64 0, Value.int .i64 0] 68 (0, 0)) := by rw [hV9]; exact heap_alloc_new _ _
                have bw9 : Below w12.heap.size w12 V9 := by rw [hV9]; exact below_new _ _
                have u9 := (unhide HU13).below bw9
                have y9 := (unhide HY13).below bw9
                have o9 := own_below (unhide HO13) bw9
                have c9 := (unhide HC13).below bw9 hB
                have k9 : Kept (fun k => k = g) w V9 := (unhide HK13).trans (Kept.of_below bw9)
                have f0 : V9.cell? ⟨w12.heap.size, 0, none⟩ = some (.int .i64 (A : Int)) := by rw [cell_of_row V9 w12.heap.size 0 _ 68 (0, 0) e9]; rfl
                have f1 : V9.cell? ⟨w12.heap.size, 1, none⟩ = some (.int .i64 (b : Int)) := by rw [cell_of_row V9 w12.heap.size 1 _ 68 (0, 0) e9]; rfl
                have f2 : V9.cell? ⟨w12.heap.size, 2, none⟩ = some (.int .i64 x1) := by rw [cell_of_row V9 w12.heap.size 2 _ 68 (0, 0) e9]; rfl
                have f3 : V9.cell? ⟨w12.heap.size, 3, none⟩ = some (.int .i64 0) := by rw [cell_of_row V9 w12.heap.size 3 _ 68 (0, 0) e9]; rfl
                have f4 : V9.cell? ⟨w12.heap.size, 4, none⟩ = some (.int .i64 0) := by rw [cell_of_row V9 w12.heap.size 4 _ 68 (0, 0) e9]; rfl
                obtain ⟨q0, q1⟩ := u9.cells
                have HU9 := hide u9
                have HY9 := hide y9
                have HC9 := hide c9
                have HK9 := hide k9
                have z9 : g3 < V9.heap.size := u9.lt
                have hw9 : w12.heap.size < V9.heap.size := by rw [hV9]; simp
                clear hV9 e9 bw9 u9 y9 c9 k9
                go_wp2_with (at_builtin; refine wpList_append_own _ rfl _ _ 24 rfl (g3 + 1) 68 i1 (.agg #[.int .i64 0, .int .i64 0, .int .i64 0, .int .i64 0, .int .i64 0]) 5 40 Try.underlying24 hi1 hz0 hz1 hz2 rfl (by decide) _ l13 _ rfl (o9.alloc _) ⟨V9.heap.size, 0, none⟩ 1 1 [.int .i64 (A : Int), .int .i64 (b : Int), .int .i64 x1, .int .i64 0, .int .i64 0] rfl rfl (news_edge5 _ _ _ _ _ _ _) (edge5_one _ _ _ _ _) ?_ ?_ ?_ ?_)
                · unfold maxLen; omega
                · omega
                · simp; omega
                intro v4 w14 hown4 hgrow4 _
                have bn := below_new V9 (Obj.cells #[Value.int .i64 (A : Int), Value.int .i64 (b : Int), Value.int .i64 x1, Value.int .i64 0, Value.int .i64 0] 68)
                have hkg := Kept.of_grown hgrow4
                have u14 : GBox w14 g3 s (.slice P13 l13 C13) := ((unhide HU9).below bn).kept hkg (fun e => by have := unhide HGL _ e; omega)
                have y14 : GBox w14 w.heap.size 0 (.slice none 0 0) := ((unhide HY9).below bn).kept hkg (fun e => by have := unhide HGL _ e; omega)
                have c14 : CC a len cap g B w14 := ((unhide HC9).below bn hB).kept hkg hB (fun k e => by have := unhide HGL _ e; omega)
                have k14 : Kept (fun k => k = g) w w14 := by
                  have k15 := (unhide HK9).trans (Kept.of_below bn)
                  exact ⟨hkg.1.trans k15.1, hkg.2.1.trans k15.2.1, hkg.2.2.1.trans k15.2.2.1, Nat.le_trans k15.2.2.2.1 hkg.2.2.2.1, fun i hi hn => (hkg.2.2.2.2 i (Nat.lt_of_lt_of_le hi k15.2.2.2.1) (fun e => by have := unhide HGL _ e; omega)).trans (k15.2.2.2.2 i hi hn)⟩
                obtain ⟨A4, C4, rfl⟩ : ∃ A c, v4 = .slice A (l13 + 1) c := by
                  rcases hown4.2 with ⟨rfl, h0⟩ | ⟨g, cap, cur, rfl, _⟩
                  · omega
                  · exact ⟨_, _, rfl⟩
                have hsn2 : edgesV Q13 ++ [.int .i64 (A : Int), .int .i64 (b : Int), .int .i64 x1, .int .i64 0, .int .i64 0] = edgesV (Q13 ++ [⟨(A : Int), (b : Int), x1, 0, 0⟩]) := (edgesV_snoc Q13 ⟨(A : Int), (b : Int), x1, 0, 0⟩).symm
                rw [hsn2] at hown4
                have hko : Kept (fun i => i = g3) w14 (w14.setCell ⟨g3, 1, none⟩ (.slice A4 (l13 + 1) C4)) := Kept.set (S := fun i => i = g3) _ _ _ _ rfl
                have hex : edgeOk s ⟨(A : Int), (b : Int), x1, 0, 0⟩ = true := by
                  unfold edgeOk worthOk
                  simp
                  omega
                have HGN : Hid (GD a len cap g B w g3 s (A : Int) ((b : Int) + 1) (9 * A + b + 1) (w14.setCell ⟨g3, 1, none⟩ (.slice A4 (l13 + 1) C4))) :=
                  ⟨c14.kept hko hB (fun k hk => by omega), y14.kept hko (by omega), ⟨hko.1.trans k14.1, hko.2.1.trans k14.2.1, hko.2.2.1.trans k14.2.2.1, Nat.le_trans k14.2.2.2.1 hko.2.2.2.1, fun i hi hn => (hko.2.2.2.2 i (Nat.lt_of_lt_of_le hi k14.2.2.2.1) (by omega)).trans (k14.2.2.2.2 i hi hn)⟩, l13 + 1, _, A4, C4, (unhide HQ13).step _ hex rfl rfl, u14.one _, hko.own hown4 (fun k hk e => by have := (hown4.lt k hk).1; omega)⟩
                obtain ⟨r0, r1⟩ := u14.cells
                have rf := u14.froz
                clear hown4 hgrow4 hko bn hkg u14 y14 c14 k14 o9 q0 q1 f0 f1 f2 f3 f4 hsn2 hex
                go_wp2
                go_roundw
                case rel => exact ⟨b + 1, by go_num, by omega, by omega, by rw [Int.natCast_add]; exact unhide HGN⟩
                case measure => simp [intOf]; omega
            · have hd4 : ((1 + d) == 3) = false := by simpa using hd3
              go_wp2
              go_roundw
              case rel => exact ⟨b + 1, by go_num, by omega, by omega, (unhide HGF).skip (by omega) (by omega)⟩
              case measure => simp [intOf]; omega
        · go_wp2
          go_roundw
          case rel => exact ⟨A + 1, by go_num, by omega, (unhide HGE).next (by omega)⟩
          case measure => simp [intOf]; omega
    · have HY7 := hide y7
      have HO7 := hide o7
      have HU7 := hide u7
      obtain ⟨t0, t1⟩ := y7.cells
      have tf := y7.froz
      obtain ⟨hq0, hq1, hq2, hq3⟩ := q7
      have HQ := hide hq2
      have HLQ := hide hq0
      have HCC7 := hide (unhide HGD).1
      clear y7 o7 u7 hq0 hq2 hq3
      go_wp2
      (try simp only [Exit.inBlock, Exit.then])
      have hk9 : Kept (fun i => i = w.heap.size) wr ((wr.setCell ⟨w.heap.size, 0, none⟩ (.int .i64 s)).setCell ⟨w.heap.size, 1, none⟩ (.slice P7 l7 C7)) :=
        (Kept.set (S := fun i => i = w.heap.size) _ _ _ _ rfl).trans (Kept.set (S := fun i => i = w.heap.size) _ _ _ _ rfl)
      refine bodyPost_ret (results_graph1 Try.results19 _ _ w.heap.size _ _ rfl ((unhide HY7).two s (.slice P7 l7 C7))) rfl ?_
      refine ⟨⟨_, rfl, s, Q7, ⟨_, rfl, ?_⟩, ?_, (by have := unhide HLQ; omega)⟩, (unhide HCC7).kept hk9 hB (fun k hk => by omega), ⟨hk9.1.trans k7.1, hk9.2.1.trans k7.2.1, hk9.2.2.1.trans k7.2.2.1, Nat.le_trans k7.2.2.2.1 hk9.2.2.2.1, fun i hi hn => (hk9.2.2.2.2 i (Nat.lt_of_lt_of_le hi k7.2.2.2.1) (by omega)).trans (k7.2.2.2.2 i hi hn)⟩⟩
      · rw [← unhide HLQ]
        exact own_lower (by omega) (hk9.own (unhide HO7) (fun k hk e => by have := ((unhide HO7).lt k hk).1; omega))
      · unfold graphOk
        rw [unhide HQ, decide_eq_true hs0, decide_eq_true (show s ≤ 9 by omega)]
        rfl
set_option maxRecDepth 100000 in
theorem drawGraph_any (a : Option Addr) (len cap : Nat) (hl : len ≤ 1048576) (w : World) (hd : Code a len w.heap.size w) :
    Calls Try.prog 17 #[.slice a len cap] w fun e w' => (∃ d, e = .returned d ∧ ∃ s Q, GrOwn w' w.heap.size d s Q ∧ graphOk s Q = true ∧ Q.length ≤ 90) ∧ Below w.heap.size w w' := by
  have HD := hide hd
  clear hd
  go_enter Try.func17, Try.ntmps17
  go_wp2_with fail
  obtain ⟨V1, hV1⟩ : ∃ W, W = w.alloc (Obj.cells #[Value.int .i64 0, Value.slice none 0 0] 26) := ⟨_, rfl⟩
  rw [← hV1]
  have b1 : Below w.heap.size w V1 := by rw [hV1]; exact below_new _ _
  have y1 : GBox V1 w.heap.size 0 (.slice none 0 0) := by rw [hV1]; exact GBox.new _ _ _
  clear hV1
  have hy1 := y1.lt
  have hd1 : Code a len V1.heap.size V1 := fun j hj => by
    obtain ⟨b, off, z, e, hb, hc, hz⟩ := unhide HD j hj
    exact ⟨b, off, z, e, by omega, by rw [b1.cell (p := ⟨b, off + j, none⟩) (by simpa using hb)]; exact hc, hz⟩
  refine (new_any a len cap hl V1 hd1).mono ?_
  rintro e w2 ⟨rfl, hcu, hb2⟩
  have hco : Code a len V1.heap.size w2 := fun j hj => by
    obtain ⟨b, off, z, e, hb, hc, hz⟩ := hd1 j hj
    exact ⟨b, off, z, e, hb, by rw [hb2.cell (p := ⟨b, off + j, none⟩) (by simpa using hb)]; exact hc, hz⟩
  have HG := hide (l08Graph_any a len cap V1.heap.size V1.heap.size hl (Nat.le_refl _) w2 ⟨hcu, hco⟩)
  have y2 := y1.below hb2
  have b2 : Below w.heap.size w w2 := b1.trans (hb2.mono b1.size)
  have hs2 := hb2.size
  clear hcu hco hd1 b1 y1 hb2
  go_wp2_with fail
  refine (unhide HG).mono ?_
  rintro e w3 ⟨⟨v, rfl, s, Q, ho, hok⟩, _, hk3⟩
  have y3 := y2.kept hk3 (by omega)
  have b3 : Below w.heap.size w w3 := b2.trans (hk3.below b2.size (fun i hi => by omega))
  obtain ⟨v1, rfl, hr⟩ := ho
  obtain ⟨P, C, rfl, _⟩ := edgesAt.of_own hr
  have HY3 := hide y3
  have HR := hide hr
  obtain ⟨t0, t1⟩ := y3.cells
  have tf := y3.froz
  clear hr y3 y2 hk3 HG b2
  go_wp2
  (try simp only [Exit.inBlock, Exit.then])
  have hk9 : Kept (fun i => i = w.heap.size) w3 ((w3.setCell ⟨w.heap.size, 0, none⟩ (.int .i64 s)).setCell ⟨w.heap.size, 1, none⟩ (.slice P Q.length C)) :=
    (Kept.set (S := fun i => i = w.heap.size) _ _ _ _ rfl).trans (Kept.set (S := fun i => i = w.heap.size) _ _ _ _ rfl)
  refine bodyPost_ret (results_graph1 Try.results17 _ _ w.heap.size _ _ rfl ((unhide HY3).two s (.slice P Q.length C))) rfl ?_
  exact ⟨⟨_, rfl, s, Q, ⟨_, rfl, own_lower (by omega) (hk9.own (unhide HR) (fun k hk e => by have := ((unhide HR).lt k hk).1; omega))⟩, hok⟩, b3.trans (hk9.below b3.size (fun i hi => by omega))⟩
theorem big_is (a : Option Addr) (len cap : Nat) (w : World) :
    Calls Try.prog 5 #[.slice a len cap] w fun e w' => e = .returned (.bool (decide ((1048576 : Int) < (len : Int)))) ∧ w' = w := by
  go_enter Try.func5, Try.ntmps5
  go_wp2
  go_ret
  exact ⟨rfl, rfl⟩
theorem one_int (x : Int) : ∀ u ∈ [Value.int .i64 x], u.oneCell' = true := fun u hu => by simp at hu; rw [hu]; rfl
def cnt (H : List EdgeI) (a b : Int) : Nat := H.countP (fun e => decide (e.A < a ∨ e.A = a ∧ e.B < b))
def mx (a b : SumsI) : SumsI := if better b a = true then b else a
def comb (a b : SumsI × Int) : SumsI × Int := (mx a.1 b.1, a.2 + b.2)
def addP (x : SumsI × Int) (e : EdgeI) : SumsI × Int := (addS x.1 e, x.2)
def freeE (U : List Int) (e : EdgeI) : Bool := !(inK U e.A || inK U e.B)
def each : List EdgeI → List Int → SumsI × Int
  | [], _ => (⟨0, 0, 0⟩, 1)
  | e :: r, U => if freeE U e = true then comb (each r U) (addP (each r (U ++ [e.A, e.B])) e) else each r U
theorem inK_app (U V : List Int) (x : Int) : inK (U ++ V) x = (inK U x || inK V x) := by
  unfold inK
  rw [Bool.eq_iff_iff]
  simp
end Gr
end Go.Proofs.Ytkjclkelnheheaa
