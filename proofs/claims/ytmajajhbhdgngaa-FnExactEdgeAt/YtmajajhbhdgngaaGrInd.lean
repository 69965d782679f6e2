/-
  The contract of spec.Induced.
-/
import Derived.Test.YtmajajhbhdgngaaGrEdgeAt
import Derived.Test.YtmajajhbhdgngaaGrInts
import Derived.Deep.AppendLies
namespace Go.Proofs.Ytmajajhbhdgngaa
namespace Gr
open Go.RowKit

/-- Where a number stands first on a list. -/
def placeFrom (x : Int) : Nat → List Int → Int
  | _, [] => -1
  | k, y :: r => if (y == x) = true then (k : Int) else placeFrom x (k + 1) r

def placeOf (K : List Int) (x : Int) : Int := placeFrom x 0 K

theorem placeFrom_step (x : Int) (K : List Int) (k : Nat) (h : k < K.length) : placeFrom x k (K.drop k) = if (K[k] == x) = true then (k : Int) else placeFrom x (k + 1) (K.drop (k + 1)) := by
  rw [← List.getElem_cons_drop h]
  rfl

set_option maxRecDepth 100000 in
set_option maxHeartbeats 1000000 in
theorem place_any (a : Option Addr) (n c B : Nat) (K : List Int) (x : Int) (hn : n ≤ 1048576) (w : World) (hK : IntsAt w a n B K) :
    Calls Try.prog 37 #[.slice a n c, .int .i64 x] w fun e w' => e = .returned (.int .i64 (placeOf K x)) ∧ w' = w := by
  obtain ⟨hL, hc⟩ := hK
  have HST := hide (fun k h => placeFrom_step x K k h)
  have HEND : Hid (placeFrom x n (K.drop n) = -1) := by show _ = _; rw [← hL, List.drop_length]; rfl
  have H0 : Hid (placeOf K x = placeFrom x 0 (K.drop 0)) := rfl
  have HC := hide hc
  have HL := hide hL
  generalize placeOf K x = r at H0 ⊢
  clear hc hL
  go_enter Try.func37, Try.ntmps37
  go_wp2_with fail
  go_loop [5] (fun i => ∃ k : Nat, i = .int .i64 k ∧ k ≤ n ∧ Hid (r = placeFrom x k (K.drop k))) (fun i => n - (intOf i).toNat)
  case atStart => exact ⟨0, rfl, Nat.zero_le _, unhide H0⟩
  case round =>
    obtain ⟨k, rfl, hk, HR⟩ := hrel
    by_cases hlt : k < n
    · have hkL : k < K.length := by have := unhide HL; omega
      obtain ⟨b, off, rfl, hbB, hcell⟩ := unhide HC k hkL
      have hx0 : (0 : Int) ≤ (k : Int) := by omega
      have hx1 : (k : Int) < (n : Int) := by omega
      have hr := (unhide HR).trans (unhide HST k hkL)
      generalize hrest : placeFrom x (k + 1) (K.drop (k + 1)) = rest at hr
      have HREST := hide hrest
      generalize K[k] = y at hcell hr
      clear hrest HR
      cases t0 : (y == x)
      · rw [t0, if_neg (by simp)] at hr
        subst hr
        go_wp2
        go_round
        case rel => exact ⟨k + 1, by go_num, by omega, (by show _ = _; rw [unhide HREST])⟩
        case measure => simp [intOf]; omega
      · rw [t0, if_pos rfl] at hr
        subst hr
        go_wp2
        go_ret
        exact ⟨rfl, rfl⟩
    · obtain rfl : k = n := by omega
      have hr := (unhide HR).trans (unhide HEND)
      subst hr
      go_wp2
      go_ret
      exact ⟨rfl, rfl⟩

/-- Whether a list ascends, and has vertices alone. -/
def ascFrom (s : Int) : Option Int → List Int → Bool
  | _, [] => true
  | p, y :: r => (decide (0 ≤ y) && decide (y ≤ s - 1)) && ((match p with | none => true | some q => decide (q < y)) && ascFrom s (some y) r)

def prevK (K : List Int) (k : Nat) : Option Int := if k = 0 then none else K[k - 1]?

theorem ascFrom_step (s : Int) (K : List Int) (k : Nat) (h : k < K.length) : ascFrom s (prevK K k) (K.drop k) = ((decide (0 ≤ K[k]) && decide (K[k] ≤ s - 1)) && ((match prevK K k with | none => true | some q => decide (q < K[k])) && ascFrom s (prevK K (k + 1)) (K.drop (k + 1)))) := by
  rw [← List.getElem_cons_drop h]
  have e : prevK K (k + 1) = some K[k] := by unfold prevK; simp [h]
  rw [e]
  rfl

/-- An edge among the vertices of a list. -/
def indE (K : List Int) (e : EdgeI) : Option EdgeI := if 0 ≤ placeOf K e.A ∧ 0 ≤ placeOf K e.B then some ⟨placeOf K e.A, placeOf K e.B, e.W1, e.W2, e.W3⟩ else none

def indL (K : List Int) (Q : List EdgeI) : List EdgeI := Q.filterMap (indE K)

def indOk (s : Int) (Q : List EdgeI) (K : List Int) : Bool := graphOk s Q && ascFrom s none K

def indS (s : Int) (Q : List EdgeI) (K : List Int) : Int := if indOk s Q K = true then (K.length : Int) else 0
def indQ (s : Int) (Q : List EdgeI) (K : List Int) : List EdgeI := if indOk s Q K = true then indL K Q else []

theorem indL_length (K : List Int) (Q : List EdgeI) : (indL K Q).length ≤ Q.length := List.length_filterMap_le _ _

theorem indQ_length (s : Int) (Q : List EdgeI) (K : List Int) : (indQ s Q K).length ≤ Q.length := by
  unfold indQ
  split
  · exact indL_length K Q
  · simp

theorem indL_step (K : List Int) (Q : List EdgeI) (k : Nat) (h : k < Q.length) : indL K (Q.drop k) = (match indE K Q[k] with | none => [] | some x => [x]) ++ indL K (Q.drop (k + 1)) := by
  rw [← List.getElem_cons_drop h]
  unfold indL
  rw [List.filterMap_cons]
  cases indE K Q[k] <;> rfl

/-- What a function answers that hands back a graph and a flag. -/
def GrPost (w : World) (s : Int) (Q : List EdgeI) (b : Bool) (e : Ending) (w' : World) : Prop :=
  (∃ d, e = .returned (.tuple #[d, .bool b]) ∧ GrOwn w' w.heap.size d s Q) ∧ Below w.heap.size w w'

theorem grNil (w : World) (B : Nat) : GrOwn w B (.agg #[.int .i64 0, .slice none 0 0]) 0 [] := ⟨_, rfl, rfl, .inl ⟨rfl, rfl⟩⟩

theorem news_edge (W : World) (a b c d e : Int) (t : TypeId) : ∀ j u, [Value.int .i64 a, Value.int .i64 b, Value.int .i64 c, Value.int .i64 d, Value.int .i64 e][j]? = some u → (W.alloc (Obj.cells #[.int .i64 a, .int .i64 b, .int .i64 c, .int .i64 d, .int .i64 e] t)).cell? ((⟨W.heap.size, 0, none⟩ : Addr).add j) = some u :=
  World.news_of_block (heap_alloc_new W (Obj.cells #[.int .i64 a, .int .i64 b, .int .i64 c, .int .i64 d, .int .i64 e] t))

theorem edge_one (a b c d e : Int) : ∀ u ∈ [Value.int .i64 a, Value.int .i64 b, Value.int .i64 c, Value.int .i64 d, Value.int .i64 e], u.oneCell' = true := by
  intro u hu
  simp at hu
  rcases hu with rfl | rfl | rfl | rfl | rfl <;> rfl

set_option maxRecDepth 100000 in
set_option maxHeartbeats 4000000 in
theorem specInd_any (v : Value) (B : Nat) (s : Int) (Q : List EdgeI) (a : Option Addr) (m c : Nat) (K : List Int) (h1 : Q.length ≤ 1048576) (h2 : m ≤ 1048576) (w : World) (hB : B ≤ w.heap.size) (hv : GrAt w v B s Q) (hK : IntsAt w a m B K) :
    Calls Try.prog 18 #[v, .slice a m c] w fun e w' => GrPost w (indS s Q K) (indQ s Q K) (indOk s Q K) e w' := by
  have OK := hide (fun w1 (hb : Below w.heap.size w w1) => specGraph_any v B s Q h1 w1 (by have := hb.size; omega) (hv.below hb hB))
  have PL := hide (fun x w1 (hb : Below w.heap.size w w1) => place_any a m c B K x h2 w1 (hK.below hb hB))
  obtain ⟨a0, n, c0, rfl, hE⟩ := hv
  obtain ⟨hL, hc⟩ := hE
  obtain ⟨hLK, hcK⟩ := hK
  have hgs : graphOk s Q = true → 0 ≤ s ∧ s ≤ 9 := fun h => by
    unfold graphOk at h
    simp at h
    omega
  have HGS := hide hgs
  have HST := hide (fun k h => ascFrom_step s K k h)
  have HEND : Hid (ascFrom s (prevK K m) (K.drop m) = true) := by show _ = _; rw [← hLK, List.drop_length]; cases prevK K K.length <;> rfl
  have HIK : Hid (indOk s Q K = (graphOk s Q && ascFrom s (prevK K 0) (K.drop 0))) := rfl
  have HS : Hid (indS s Q K = if indOk s Q K = true then (m : Int) else 0) := by show _ = _; rw [← hLK]; rfl
  have HQ : Hid (indQ s Q K = if indOk s Q K = true then indL K (Q.drop 0) else []) := rfl
  have HIL := hide (fun k h => indL_step K Q k h)
  have HC := hide hc
  have HL := hide hL
  have HCK := hide hcK
  have HLK := hide hLK
  generalize indOk s Q K = ok at HIK HS HQ ⊢
  generalize indS s Q K = rs at HS ⊢
  generalize indQ s Q K = rq at HQ ⊢
  generalize graphOk s Q = gk at OK HIK HGS
  clear hc hL hgs hLK hcK
  go_enter Try.func18, Try.ntmps18
  go_wp2_with fail
  obtain ⟨V1, hV1⟩ : ∃ W, W = w.alloc (Obj.cells #[Value.int .i64 s, Value.slice a0 n c0] 29) := ⟨_, rfl⟩
  obtain ⟨V2, hV2⟩ : ∃ W, W = V1.alloc (Obj.cells #[Value.int .i64 0, Value.slice none 0 0] 29) := ⟨_, rfl⟩
  rw [← hV1, ← hV2]
  have z1 : V1.heap.size = w.heap.size + 1 := by rw [hV1]; simp
  have z2 : V2.heap.size = w.heap.size + 1 + 1 := by rw [hV2]; simp [z1]
  have x1 : GBox V1 w.heap.size s (.slice a0 n c0) := by rw [hV1]; exact GBox.new _ _ _
  have x2 : GBox V2 w.heap.size s (.slice a0 n c0) := by rw [hV2]; exact x1.below (below_new _ _)
  have y2 : GBox V2 (w.heap.size + 1) 0 (.slice none 0 0) := by rw [hV2, ← z1]; exact GBox.new _ _ _
  have b1 : Below w.heap.size w V1 := by rw [hV1]; exact below_new _ _
  have b2 : Below w.heap.size w V2 := by rw [hV2]; exact b1.alloc b1.size _
  clear hV1 hV2 b1 x1 z1
  refine (unhide OK V2 b2).mono ?_
  rintro e w3 ⟨rfl, hb3⟩
  have x3 := x2.below hb3
  have y3 := y2.below hb3
  have b3 : Below w.heap.size w w3 := b2.trans (hb3.mono b2.size)
  have z3 := hb3.size
  clear hb3 b2 x2 y2
  have HX3 := hide x3
  have HY3 := hide y3
  go_wp2_with fail
  go_loopw [6, 7] (fun o i wr => ∃ (j : Nat) (b : Bool), i = .int .i64 (j : Int) ∧ j ≤ m ∧ o = .bool b ∧ (b = true → gk = true ∧ ok = ascFrom s (prevK K j) (K.drop j)) ∧ (b = false → ok = false) ∧ Below w3.heap.size w3 wr) (fun _ i _ => m - (intOf i).toNat)
  case atStart =>
    refine ⟨0, gk, rfl, Nat.zero_le _, rfl, fun h => ⟨h, by rw [unhide HIK, h, Bool.true_and]⟩, fun h => by rw [unhide HIK, h, Bool.false_and], Below.refl _ _⟩
  case round =>
    obtain ⟨j, b, rfl, hj, rfl, hT, hF, hb⟩ := hrel
    have x4 := (unhide HX3).below hb
    have y4 := (unhide HY3).below hb
    have b4 : Below w.heap.size w wr := b3.trans (hb.mono b3.size)
    have hs4 := hb.size
    cases b with
    | false =>
      obtain rfl := hF rfl
      have ers := unhide HS
      have erq := unhide HQ
      rw [if_neg (by simp)] at ers erq
      subst ers erq
      have HY4 := hide y4
      obtain ⟨t0, t1⟩ := y4.cells
      have tf := y4.froz
      clear hT hF x4 y4 HS HQ HIK
      have hk5 : Kept (fun k => k = w.heap.size + 1) wr ((wr.setCell ⟨w.heap.size + 1, 0, none⟩ (.int .i64 0)).setCell ⟨w.heap.size + 1, 1, none⟩ (.slice none 0 0)) :=
        (Kept.set (S := fun k => k = w.heap.size + 1) _ _ _ _ rfl).trans (Kept.set (S := fun k => k = w.heap.size + 1) _ _ _ _ rfl)
      have HB5 := hide (b4.trans (hk5.below b4.size (fun i hi => by omega)))
      clear hk5 hb b4
      by_cases hlt : j < m
      all_goals
        go_wp2
        (try simp only [Exit.inBlock, Exit.then])
        refine bodyPost_ret (results_graph Try.results18 _ _ (w.heap.size + 1) _ _ rfl ((unhide HY4).two 0 (.slice none 0 0))) rfl ?_
        exact ⟨⟨_, rfl, grNil _ _⟩, unhide HB5⟩
    | true =>
      obtain ⟨hgk, hok⟩ := hT rfl
      obtain ⟨hs0, hs9⟩ := unhide HGS hgk
      have HOK := hide hok
      clear hT hF hok
      by_cases hlt : j < m
      · have hjL : j < K.length := by have := unhide HLK; omega
        obtain ⟨b, off, rfl, hbB, c1⟩ := unhide HCK j hjL
        rw [← b4.cell (p := ⟨b, off + j, none⟩) (by simp; omega)] at c1
        have HPR : Hid (∀ q, prevK K j = some q → 0 < j ∧ wr.cell? ⟨b, off + (j - 1), none⟩ = some (.int .i64 q)) := fun q hq => by
          unfold prevK at hq
          split at hq
          · cases hq
          · have hj1 : j - 1 < K.length := by omega
            obtain ⟨b', off', e', _, k0⟩ := unhide HCK (j - 1) hj1
            simp at e'
            obtain ⟨rfl, rfl⟩ := e'
            rw [List.getElem?_eq_getElem hj1] at hq
            obtain rfl := Option.some.inj hq
            exact ⟨by omega, by rw [b4.cell (p := ⟨b, off + (j - 1), none⟩) (by simp; omega)]; exact k0⟩
        have HPZ : Hid (prevK K j = none → j = 0) := fun h => by
          unfold prevK at h
          split at h
          · assumption
          · rw [List.getElem?_eq_getElem (show j - 1 < K.length by omega)] at h; cases h
        have hr := (unhide HOK).trans (unhide HST j hjL)
        generalize hrest : ascFrom s (prevK K (j + 1)) (K.drop (j + 1)) = rest at hr
        have HREST := hide hrest
        generalize hpe : prevK K j = pe at hr HPR HPZ
        generalize K[j] = y at c1 hr
        have HIN := hide (fun w => l01In_is y 0 (s - 1) w)
        generalize (decide (0 ≤ y) && decide (y ≤ s - 1)) = kb at HIN hr
        have hx0 : (0 : Int) ≤ (j : Int) := by omega
        have hx1 : (j : Int) < (m : Int) := by omega
        have hx2 : (m : Int) ≤ 9223372036854775807 := by omega
        obtain ⟨p0, p1⟩ := x4.cells
        clear hrest hpe HOK x4 y4 b4
        go_upto_region 5 with fail
        cases kb with
        | false =>
          rw [Bool.false_and] at hr
          subst hr
          go_quiet ((go_at_call 29; exact Calls.quiet_of_same (unhide HIN _)))
          go_wp2
          go_roundw
          case rel => exact ⟨j + 1, false, by go_num, by omega, rfl, fun h => by (cases h), (by intro _; first | rfl | trivial), below_drewN hb _⟩
          case measure => simp [intOf]; omega
        | true =>
          rw [Bool.true_and] at hr
          cases pe with
          | none =>
            have hz : ((j : Int) == 0) = true := by rw [unhide HPZ rfl]; rfl
            change ok = rest at hr
            go_quiet ((go_at_call 29; exact Calls.quiet_of_same (unhide HIN _)))
            go_wp2
            go_roundw
            case rel => exact ⟨j + 1, true, by go_num, by omega, rfl, fun _ => ⟨hgk, by rw [unhide HREST]; exact hr⟩, fun h => by (cases h), below_drewN hb _⟩
            case measure => simp [intOf]; omega
          | some q =>
            obtain ⟨hj0, d0⟩ := unhide HPR q rfl
            obtain ⟨i, rfl⟩ : ∃ i, j = i + 1 := ⟨j - 1, by omega⟩
            rw [Nat.add_sub_cancel] at d0
            change ok = (decide (q < y) && rest) at hr
            have hz : (((i : Int) + 1) == 0) = false := by simp; omega
            have hi0 : (0 : Int) ≤ (i : Int) := by omega
            have hi1 : (i : Int) < (m : Int) := by omega
            by_cases t3 : q < y
            · rw [decide_eq_true t3, Bool.true_and] at hr
              go_quiet ((go_at_call 29; exact Calls.quiet_of_same (unhide HIN _)))
              go_wp2
              go_roundw
              case rel => exact ⟨i + 1 + 1, true, by go_num, by omega, rfl, fun _ => ⟨hgk, by rw [unhide HREST]; exact hr⟩, fun h => by (cases h), below_drewN hb _⟩
              case measure => simp [intOf]; omega
            · rw [decide_eq_false t3, Bool.false_and] at hr
              subst hr
              go_quiet ((go_at_call 29; exact Calls.quiet_of_same (unhide HIN _)))
              go_wp2
              go_roundw
              case rel => exact ⟨i + 1 + 1, false, by go_num, by omega, rfl, fun h => by (cases h), (by intro _; first | rfl | trivial), below_drewN hb _⟩
              case measure => simp [intOf]; omega
      · obtain rfl : j = m := by omega
        obtain rfl := (unhide HOK).trans (unhide HEND)
        obtain ⟨W4, hW4⟩ : ∃ W, W = wr := ⟨_, rfl⟩
        subst hW4 hgk
        have ers := unhide HS
        have erq := unhide HQ
        rw [if_pos rfl] at ers erq
        subst ers
        have HX4 := hide x4
        have HY4 := hide y4
        have hx4l := x4.lt
        have hy4l := y4.lt
        have HT0 : Hid (rq = [] ++ indL K (Q.drop 0)) := erq
        have HEN : Hid (indL K (Q.drop n) = []) := by show _ = _; rw [← unhide HL, List.drop_length]; rfl
        have hN : n ≤ 1048576 := by have := unhide HL; omega
        obtain ⟨i1, hi1, hz0, hz1, hz2⟩ := info_parts infoEdge
        clear erq x4 y4 hb HS HQ HIK HOK
        go_wp2_with fail
        obtain ⟨V5, hV5⟩ : ∃ W, W = W4.alloc (Obj.cells #[Value.int .i64 (j : Int), Value.slice none 0 0] 29) := ⟨_, rfl⟩
        rw [← hV5]
        have b5 : Below W4.heap.size W4 V5 := by rw [hV5]; exact below_new _ _
        have u5 : GBox V5 W4.heap.size (j : Int) (.slice none 0 0) := by rw [hV5]; exact GBox.new _ _ _
        have HU5 := hide u5
        clear hV5 u5
        go_loopw [9] (fun i wx => ∃ (k : Nat), i = .int .i64 (k : Int) ∧ k ≤ n ∧ Below W4.heap.size W4 wx ∧ ∃ (l : Nat), l ≤ k ∧ ∃ (out : List EdgeI), Hid (l = out.length) ∧ Hid (rq = out ++ indL K (Q.drop k)) ∧ ∃ (A : Option Addr) (C : Nat), GBox wx W4.heap.size (j : Int) (.slice A l C) ∧ wx.ownsRow (W4.heap.size + 1) 36 5 (.slice A l C) l (edgesV out)) (fun i _ => n - (intOf i).toNat)
        case atStart => exact ⟨0, rfl, Nat.zero_le _, b5, 0, Nat.le_refl _, [], rfl, unhide HT0, none, 0, unhide HU5, ⟨rfl, .inl ⟨rfl, rfl⟩⟩⟩
        case round =>
          obtain ⟨k, rfl, hk, hb6, l, hlk, out, HLO, HR, A, C, u6, o6⟩ := hrel
          have x6 := (unhide HX4).below hb6
          have y6 := (unhide HY4).below hb6
          have b6 : Below w.heap.size w wr := b4.trans (hb6.mono b4.size)
          have hs6 := u6.lt
          obtain ⟨p0, p1⟩ := x6.cells
          obtain ⟨u0, u1⟩ := u6.cells
          have uf := u6.froz
          by_cases hlt2 : k < n
          · have hkL : k < Q.length := by have := unhide HL; omega
            obtain ⟨b, off, rfl, hbB, c0, c1, c2, c3, c4⟩ := unhide HC k hkL
            rw [← b6.cell (p := ⟨b, off + k * 5, none⟩) (by simp; omega)] at c0
            rw [← b6.cell (p := ⟨b, off + k * 5 + 1, none⟩) (by simp; omega)] at c1
            rw [← b6.cell (p := ⟨b, off + k * 5 + 2, none⟩) (by simp; omega)] at c2
            rw [← b6.cell (p := ⟨b, off + k * 5 + 3, none⟩) (by simp; omega)] at c3
            rw [← b6.cell (p := ⟨b, off + k * 5 + 4, none⟩) (by simp; omega)] at c4
            have hr := (unhide HR).trans (by rw [unhide HIL k hkL])
            have hq0 : (0 : Int) ≤ (k : Int) := by omega
            have hq1 : (k : Int) < (n : Int) := by omega
            have hq2 : (n : Int) ≤ 9223372036854775807 := by omega
            generalize Q[k] = q at c0 c1 c2 c3 c4 hr
            obtain ⟨y0, y1, y2, y3, y4⟩ := q
            simp only at c0 c1 c2 c3 c4
            have hie : indE K ⟨y0, y1, y2, y3, y4⟩ = if 0 ≤ placeOf K y0 ∧ 0 ≤ placeOf K y1 then some ⟨placeOf K y0, placeOf K y1, y2, y3, y4⟩ else none := rfl
            have P0 := hide (unhide PL y0)
            have P1 := hide (unhide PL y1)
            generalize placeOf K y0 = a1 at P0 hie
            generalize placeOf K y1 = a2 at P1 hie
            generalize indE K ⟨y0, y1, y2, y3, y4⟩ = ie at hie hr
            have HO6 := hide o6
            have HU6 := hide u6
            clear HR o6 u6 x6 y6
            go_wp2_with fail
            obtain ⟨V7, hV7⟩ : ∃ W, W = wr.alloc (Obj.cells #[Value.int .i64 y0, Value.int .i64 y1, Value.int .i64 y2, Value.int .i64 y3, Value.int .i64 y4] 36) := ⟨_, rfl⟩
            rw [← hV7]
            have b7 : Below w.heap.size w V7 := by rw [hV7]; exact b6.alloc b6.size _
            refine (unhide P0 V7 b7).mono ?_
            rintro e w8 ⟨rfl, rfl⟩
            rw [hV7]
            go_wp2_with fail
            rw [← hV7]
            refine (unhide P1 w8 b7).mono ?_
            rintro e w9 ⟨rfl, rfl⟩
            rw [hV7]
            have HEN7 : Hid (Below W4.heap.size W4 (wr.alloc (Obj.cells #[Value.int .i64 y0, Value.int .i64 y1, Value.int .i64 y2, Value.int .i64 y3, Value.int .i64 y4] 36))) := hb6.alloc hb6.size _
            have HU7 : Hid (GBox (wr.alloc (Obj.cells #[Value.int .i64 y0, Value.int .i64 y1, Value.int .i64 y2, Value.int .i64 y3, Value.int .i64 y4] 36)) W4.heap.size (j : Int) (.slice A l C)) := (unhide HU6).below (below_new _ _)
            have HO7 : Hid ((wr.alloc (Obj.cells #[Value.int .i64 y0, Value.int .i64 y1, Value.int .i64 y2, Value.int .i64 y3, Value.int .i64 y4] 36)).ownsRow (W4.heap.size + 1) 36 5 (.slice A l C) l (edgesV out)) := own_below (unhide HO6) (below_new _ _)
            clear hV7 b7 P0 P1
            by_cases ha1 : 0 ≤ a1
            · by_cases ha2 : 0 ≤ a2
              · rw [if_pos ⟨ha1, ha2⟩] at hie
                subst hie
                have HRN := hide hr
                clear hr
                go_upto_region 18 with fail
                obtain ⟨V9, hV9⟩ : ∃ W, W = wr.alloc (Obj.cells #[Value.int .i64 a1, Value.int .i64 a2, Value.int .i64 y2, Value.int .i64 y3, Value.int .i64 y4] 36) := ⟨_, rfl⟩
                rw [← hV9]
                have z9 : V9.heap.size = wr.heap.size + 1 := by rw [hV9]; simp
                have e9 : V9.heap[wr.heap.size]? = some (.cells #[Value.int .i64 a1, Value.int .i64 a2, Value.int .i64 y2, Value.int .i64 y3, Value.int .i64 y4] 36 (0, 0)) := by rw [hV9]; exact heap_alloc_new _ _
                have bw9 : Below wr.heap.size wr V9 := by rw [hV9]; exact below_new _ _
                have b9 : Below W4.heap.size W4 V9 := hb6.trans (bw9.mono hb6.size)
                have u9 := (unhide HU6).below bw9
                have o9 := own_below (unhide HO6) bw9
                have f0 : V9.cell? ⟨wr.heap.size, 0, none⟩ = some (.int .i64 a1) := by rw [cell_of_row V9 wr.heap.size 0 _ 36 (0, 0) e9]; rfl
                have f1 : V9.cell? ⟨wr.heap.size, 1, none⟩ = some (.int .i64 a2) := by rw [cell_of_row V9 wr.heap.size 1 _ 36 (0, 0) e9]; rfl
                have f2 : V9.cell? ⟨wr.heap.size, 2, none⟩ = some (.int .i64 y2) := by rw [cell_of_row V9 wr.heap.size 2 _ 36 (0, 0) e9]; rfl
                have f3 : V9.cell? ⟨wr.heap.size, 3, none⟩ = some (.int .i64 y3) := by rw [cell_of_row V9 wr.heap.size 3 _ 36 (0, 0) e9]; rfl
                have f4 : V9.cell? ⟨wr.heap.size, 4, none⟩ = some (.int .i64 y4) := by rw [cell_of_row V9 wr.heap.size 4 _ 36 (0, 0) e9]; rfl
                obtain ⟨q0, q1⟩ := u9.cells
                have hl5 : l ≤ 1048576 := by omega
                have HU9 := hide u9
                have hgl : ∀ g, (Value.slice A l C).ownBlock = some g → W4.heap.size < g := fun g hg => by have := (o9.lt g hg).1; omega
                have hz9 : wr.heap.size < V9.heap.size := by omega
                clear hV9 HU7 HO7 HEN7 e9 bw9 z9
                go_wp2_with (at_builtin; refine wpList_append_own _ rfl _ _ 27 rfl (W4.heap.size + 1) 36 i1 (.agg #[.int .i64 0, .int .i64 0, .int .i64 0, .int .i64 0, .int .i64 0]) 5 40 Try.underlying27 hi1 hz0 hz1 hz2 rfl (by decide) _ l _ rfl (o9.alloc _) ⟨V9.heap.size, 0, none⟩ 1 1 [.int .i64 a1, .int .i64 a2, .int .i64 y2, .int .i64 y3, .int .i64 y4] rfl rfl (news_edge _ _ _ _ _ _ _) (edge_one _ _ _ _ _) ?_ ?_ ?_ ?_)
                · unfold maxLen; omega
                · omega
                · simp; omega
                intro v4 w4 hown4 hgrow4 _
                have bl4 := below_append (B := W4.heap.size + 1) (w := V9) (wr := V9) (Below.refl _ _) (by omega) o9 hgrow4
                have u10 : GBox w4 W4.heap.size (j : Int) (.slice A l C) := by
                  have h := (unhide HU9).below (below_new V9 (Obj.cells #[Value.int .i64 a1, Value.int .i64 a2, Value.int .i64 y2, Value.int .i64 y3, Value.int .i64 y4] 36))
                  exact h.kept (Kept.of_grown hgrow4) (fun e => by have := hgl _ e; omega)
                obtain ⟨A4, C4, rfl⟩ : ∃ A c, v4 = .slice A (l + 1) c := by
                  rcases hown4.2 with ⟨rfl, h0⟩ | ⟨g, cap, cur, rfl, _⟩
                  · omega
                  · exact ⟨_, _, rfl⟩
                have hsn : edgesV out ++ [.int .i64 a1, .int .i64 a2, .int .i64 y2, .int .i64 y3, .int .i64 y4] = edgesV (out ++ [⟨a1, a2, y2, y3, y4⟩]) := (edgesV_snoc out ⟨a1, a2, y2, y3, y4⟩).symm
                rw [hsn] at hown4
                have hk11 : Kept (fun i => i = W4.heap.size) w4 (w4.setCell ⟨W4.heap.size, 1, none⟩ (.slice A4 (l + 1) C4)) := Kept.set (S := fun i => i = W4.heap.size) _ _ _ _ rfl
                have HU11 := hide (u10.one (.slice A4 (l + 1) C4))
                have HO11 := hide (hk11.own hown4 (fun g hg e => by have := (hown4.lt g hg).1; omega))
                have b10 : Below W4.heap.size W4 w4 := b9.trans (bl4.mono (by omega))
                have HB11 := hide (b10.trans (hk11.below b10.size (fun i hi => by omega)))
                have HL11 : Hid (l + 1 = (out ++ [(⟨a1, a2, y2, y3, y4⟩ : EdgeI)]).length) := by show _ = _; rw [List.length_append, ← unhide HLO]; rfl
                have HR11 : Hid (rq = (out ++ [⟨a1, a2, y2, y3, y4⟩]) ++ indL K (Q.drop (k + 1))) := by show _ = _; rw [unhide HRN, List.append_assoc]
                obtain ⟨r0, r1⟩ := u10.cells
                have rf := u10.froz
                clear hown4 hgrow4 hk11 b10 bl4 u10 o9 u9 q0 q1 f0 f1 f2 f3 f4 hsn b9 hgl
                go_wp2
                go_roundw
                case rel => exact ⟨k + 1, by go_num, by omega, unhide HB11, l + 1, by omega, out ++ [⟨a1, a2, y2, y3, y4⟩], HL11, HR11, A4, C4, unhide HU11, unhide HO11⟩
                case measure => simp [intOf]; omega
              · rw [if_neg (by omega)] at hie
                subst hie
                have HRN := hide hr
                clear hr
                go_wp2
                go_roundw
                case rel => exact ⟨k + 1, by go_num, by omega, unhide HEN7, l, by omega, out, HLO, unhide HRN, A, C, unhide HU7, unhide HO7⟩
                case measure => simp [intOf]; omega
            · rw [if_neg (by omega)] at hie
              subst hie
              have HRN := hide hr
              clear hr
              go_wp2
              go_roundw
              case rel => exact ⟨k + 1, by go_num, by omega, unhide HEN7, l, by omega, out, HLO, unhide HRN, A, C, unhide HU7, unhide HO7⟩
              case measure => simp [intOf]; omega
          · obtain rfl : k = n := by omega
            have hr := unhide HR
            rw [unhide HEN, List.append_nil] at hr
            subst hr
            have HY6 := hide y6
            have HO6 := hide o6
            obtain ⟨t0, t1⟩ := y6.cells
            have tf := y6.froz
            have hy6 := y6.lt
            clear HR o6 y6 x6 u6
            go_wp2
            (try simp only [Exit.inBlock, Exit.then])
            have hk7 : Kept (fun i => i = w.heap.size + 1) wr ((wr.setCell ⟨w.heap.size + 1, 0, none⟩ (.int .i64 (j : Int))).setCell ⟨w.heap.size + 1, 1, none⟩ (.slice A l C)) :=
              (Kept.set (S := fun i => i = w.heap.size + 1) _ _ _ _ rfl).trans (Kept.set (S := fun i => i = w.heap.size + 1) _ _ _ _ rfl)
            refine bodyPost_ret (results_graph Try.results18 _ _ (w.heap.size + 1) _ _ rfl ((unhide HY6).two (j : Int) (.slice A l C))) rfl ?_
            refine ⟨⟨_, rfl, _, rfl, ?_⟩, b6.trans (hk7.below b6.size (fun i hi => by omega))⟩
            rw [← unhide HLO]
            exact own_lower (by have := b4.size; omega) (hk7.own (unhide HO6) (fun g hg e => by have := (unhide HO6).lt g hg; omega))
end Gr
end Go.Proofs.Ytmajajhbhdgngaa
