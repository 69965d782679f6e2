/-
  The contract of impl.tableOf: the worths of a right graph's edges, in rows by vertices.
-/
import Derived.Test.YtmajajhbhdgngaaGrImplD
import Derived.Test.YtmajajhbhdgngaaGrTabMath
import Derived.Test.YtmajajhbhdgngaaStepCall
import Derived.Deep.MidRow
import Derived.Deep.WholeRow
import Derived.Laws.ResultCell
namespace Go.Proofs.Ytmajajhbhdgngaa
namespace Gr
open Go.RowKit

/-- 243 cells of numbers. -/
def TabC (C : Array Value) (f : Nat → Int) : Prop := C.size = 243 ∧ ∀ i, i < 243 → C[i]? = some (.int .i64 (f i))

theorem TabC.congr {C : Array Value} {f f' : Nat → Int} (h : TabC C f) (e : ∀ i, i < 243 → f i = f' i) : TabC C f' :=
  ⟨h.1, fun i hi => by rw [← e i hi]; exact h.2 i hi⟩

theorem TabC.set {C : Array Value} {f : Nat → Int} (h : TabC C f) (k : Nat) (x : Int) : TabC (C.setIfInBounds k (.int .i64 x)) (fun i => if i = k then x else f i) := by
  refine ⟨by rw [Array.size_setIfInBounds]; exact h.1, fun i hi => ?_⟩
  rw [Array.getElem?_setIfInBounds]
  by_cases e : k = i
  · subst e
    rw [if_pos rfl, if_pos (by rw [h.1]; exact hi)]
    simp
  · rw [if_neg e]
    have e2 : ¬ i = k := fun h => e h.symm
    simp only [e2, if_false]
    exact h.2 i hi

theorem TabC.one {C : Array Value} {f : Nat → Int} (h : TabC C f) : C.all (·.oneCell') = true := by
  apply Array.all_eq_true_iff_forall_mem.2
  intro v hv
  obtain ⟨i, hi, rfl⟩ := Array.getElem_of_mem hv
  have := h.2 i (by rw [← h.1]; exact hi)
  rw [Array.getElem?_eq_getElem hi] at this
  rw [Option.some.inj this]
  rfl

/-- A table's variable in memory. -/
def TBox (w : World) (g : Nat) (f : Nat → Int) : Prop := ∃ C, w.heap[g]? = some (.cells C 67 (0, 0)) ∧ TabC C f

theorem TBox.lt {w : World} {g : Nat} {f : Nat → Int} (h : TBox w g f) : g < w.heap.size := by
  obtain ⟨C, hC, _⟩ := h
  rcases Nat.lt_or_ge g w.heap.size with h1 | h1
  · exact h1
  · rw [Array.getElem?_eq_none h1] at hC; cases hC

theorem TBox.below {w w' : World} {g : Nat} {f : Nat → Int} (h : TBox w g f) (hb : Below w.heap.size w w') : TBox w' g f := by
  have hl := h.lt
  obtain ⟨C, hC, hT⟩ := h
  exact ⟨C, (hb.block g hl).trans hC, hT⟩

theorem TBox.congr {w : World} {g : Nat} {f f' : Nat → Int} (h : TBox w g f) (e : ∀ i, i < 243 → f i = f' i) : TBox w g f' := by
  obtain ⟨C, hC, hT⟩ := h
  exact ⟨C, hC, hT.congr e⟩

theorem TBox.set {w : World} {g : Nat} {f : Nat → Int} (h : TBox w g f) (k : Nat) (x : Int) : TBox (w.setCell ⟨g, k, none⟩ (.int .i64 x)) g (fun i => if i = k then x else f i) := by
  obtain ⟨C, hC, hT⟩ := h
  exact ⟨_, heap_setCell_same w g k _ _ _ hC, hT.set k x⟩

theorem TBox.cell {w : World} {g : Nat} {f : Nat → Int} (h : TBox w g f) (k : Nat) (hk : k < 243) : w.cell? ⟨g, k, none⟩ = some (.int .i64 (f k)) := by
  obtain ⟨C, hC, hT⟩ := h
  rw [cell_of_row w g k C _ (0, 0) hC]
  exact hT.2 k hk

theorem TBox.froz {w : World} {g : Nat} {f : Nat → Int} (h : TBox w g f) (k : Nat) : w.frozen? ⟨g, k, none⟩ = false := by
  obtain ⟨C, hC, hT⟩ := h
  unfold World.frozen?
  simp only []
  rw [hC]
  simp

theorem there_block {w : World} {g : Nat} {C : Array Value} {t : TypeId} (h : w.heap[g]? = some (.cells C t (0, 0))) : w.there g 0 C.size := fun j hj => by
  refine ⟨?_, ?_⟩
  · rw [cell_of_row _ _ _ C t (0, 0) h]; simp [hj]
  · unfold World.frozen?
    simp only []
    rw [h]
    simp

theorem results_cell1 {fn : Func} {p : Tmp} {ty : TypeId} (h : fn.results = #[.cell p ty]) (tmps : Array Value) (P : Program) (w : World) :
    (results fn tmps).run P w = ((asAddr (tmps.getD p undef)).run P w).andThen fun a w₁ => (loadVar ty a).run P w₁ := by
  simp only [results, h]
  simp [Sem.run_bind, Result.andThen]

theorem below_setCells (C b : Nat) (hC : C ≤ b) : ∀ (vs : List Value) (o : Nat) (w w0 : World), Below C w0 w → Below C w0 (w.setCells b o vs)
  | [], _, _, _, h => h
  | v :: vs, o, w, w0, h => by
    rw [World.setCells]
    exact below_setCells C b hC vs (o + 1) _ _ (h.setCell (p := ⟨b, o, none⟩) hC v)

theorem infoTable : (Try.prog.info? 67).map (·.size) = some 243 := by kernel_rfl

theorem zero_tab : ∃ Z, TabC Z (fun _ => 0) ∧ ∀ W : World, (zeroValue 67).run Try.prog W = .ok (.agg Z) W := by
  refine ⟨Array.replicate 243 (Value.int .i64 0), ⟨by simp, fun i hi => by simp [hi]⟩, fun W => by kernel_rfl⟩

/-- What stands in a table while it is made empty. -/
def fillF (k : Nat) : Nat → Int := fun i => if i < 3 * k then -1 else 0

/-- What stands in the table of edges. -/
def tabF (Q : List EdgeI) : Nat → Int := fun i =>
  if i % 3 = 0 then (tab Q ((i / 27 : Nat) : Int) ((i / 3 % 9 : Nat) : Int)).1 else if i % 3 = 1 then (tab Q ((i / 27 : Nat) : Int) ((i / 3 % 9 : Nat) : Int)).2.1 else (tab Q ((i / 27 : Nat) : Int) ((i / 3 % 9 : Nat) : Int)).2.2

theorem fill_step (k i : Nat) : (if i = 3 * k + 2 then (-1 : Int) else if i = 3 * k + 1 then -1 else if i = 3 * k then -1 else fillF k i) = fillF (k + 1) i := by
  unfold fillF
  repeat' split
  all_goals omega

theorem fill_all (i : Nat) (h : i < 243) : fillF 81 i = tabF [] i := by
  unfold fillF tabF
  rw [if_pos (by omega)]
  simp only [tab_nil]
  repeat' split
  all_goals rfl

theorem tab_step (Q : List EdgeI) (e : EdgeI) (p q : Nat) (hp : e.A = (p : Int)) (hq : e.B = (q : Int)) (hq9 : q < 9) (i : Nat) :
    (if i = p * 27 + q * 3 + 2 then e.W3 else if i = p * 27 + q * 3 + 1 then e.W2 else if i = p * 27 + q * 3 then e.W1 else tabF Q i) = tabF (Q ++ [e]) i := by
  unfold tabF
  simp only [tab_snoc, hp, hq]
  by_cases h : p = i / 27 ∧ q = i / 3 % 9
  · have h1 : ((p : Int) = ((i / 27 : Nat) : Int) ∧ (q : Int) = ((i / 3 % 9 : Nat) : Int)) := by omega
    rw [if_pos h1]
    repeat' split
    all_goals first | rfl | omega
  · have h1 : ¬ ((p : Int) = ((i / 27 : Nat) : Int) ∧ (q : Int) = ((i / 3 % 9 : Nat) : Int)) := by omega
    rw [if_neg h1]
    rw [if_neg (by omega), if_neg (by omega), if_neg (by omega)]

theorem tab_look (Q : List EdgeI) (p q : Nat) (hq : q < 9) : tabF Q (p * 27 + q * 3) = (tab Q (p : Int) (q : Int)).1 ∧ tabF Q (p * 27 + q * 3 + 1) = (tab Q (p : Int) (q : Int)).2.1 ∧ tabF Q (p * 27 + q * 3 + 2) = (tab Q (p : Int) (q : Int)).2.2 := by
  have e1 : (p * 27 + q * 3) / 27 = p := by omega
  have e2 : (p * 27 + q * 3) / 3 % 9 = q := by omega
  have e3 : (p * 27 + q * 3 + 1) / 27 = p := by omega
  have e4 : (p * 27 + q * 3 + 1) / 3 % 9 = q := by omega
  have e5 : (p * 27 + q * 3 + 2) / 27 = p := by omega
  have e6 : (p * 27 + q * 3 + 2) / 3 % 9 = q := by omega
  unfold tabF
  rw [e1, e2, e3, e4, e5, e6, if_pos (by omega), if_neg (by omega), if_pos (by omega), if_neg (by omega), if_neg (by omega)]
  exact ⟨rfl, rfl, rfl⟩

theorem enterNoWorths (vs : Array Value) (w : World) : (callFunc 41 vs).run Try.prog w = .ok (.enter 41 vs) w := by kernel_rfl
theorem enterWorthsOf (vs : Array Value) (w : World) : (callFunc 35 vs).run Try.prog w = .ok (.enter 35 vs) w := by kernel_rfl
theorem enterEdgeOf (vs : Array Value) (w : World) : (callFunc 42 vs).run Try.prog w = .ok (.enter 42 vs) w := by kernel_rfl

set_option maxRecDepth 100000 in
set_option maxHeartbeats 2000000 in
theorem tableOf_any (v : Value) (B : Nat) (s : Int) (Q : List EdgeI) (hg : graphOk s Q = true) (h1 : Q.length ≤ 1048576) (w : World) (hB : B ≤ w.heap.size) (hv : GrAt w v B s Q) :
    Calls Try.prog 40 #[v] w fun e w' => (∃ C, e = .returned (.agg C) ∧ TabC C (tabF Q)) ∧ Below w.heap.size w w' := by
  obtain ⟨a, n, c, rfl, hE⟩ := hv
  obtain ⟨hL, hc⟩ := hE
  have HC := hide hc
  have HL := hide hL
  have HN : Hid (n ≤ 1048576) := by show _ ≤ _; omega
  have HOK : Hid (∀ k (h : k < Q.length), 0 ≤ Q[k].A ∧ Q[k].A < 9 ∧ 0 ≤ Q[k].B ∧ Q[k].B < 9) := fun k h => by
    obtain ⟨g0, g1, g2, _⟩ := graph_sound hg
    have := (edgeOk_iff s _).1 (g2 _ (List.getElem_mem h))
    omega
  clear hc hL hg h1
  have NW := hide (fun w => noWorths_any w)
  unfold w3 at NW
  obtain ⟨Z, hZ, hzv⟩ := zero_tab
  have HZ := hide hZ
  clear hZ
  go_enter Try.func40, Try.ntmps40
  go_wp2_with fail
  obtain ⟨V1, hV1⟩ : ∃ W, W = w.alloc (Obj.cells #[Value.int .i64 s, Value.slice a n c] 29) := ⟨_, rfl⟩
  obtain ⟨V2, hV2⟩ : ∃ W, W = V1.alloc (Obj.cells Z 67) := ⟨_, rfl⟩
  obtain ⟨V3, hV3⟩ : ∃ W, W = V2.alloc (Obj.cells Z 67) := ⟨_, rfl⟩
  rw [← hV1, ← hV2, ← hV3]
  have z1 : V1.heap.size = w.heap.size + 1 := by rw [hV1]; simp
  have z2 : V2.heap.size = w.heap.size + 1 + 1 := by rw [hV2]; simp [z1]
  have z3 : V3.heap.size = w.heap.size + 1 + 1 + 1 := by rw [hV3]; simp [z2]
  have b1 : Below w.heap.size w V1 := by rw [hV1]; exact below_new _ _
  have b2 : Below w.heap.size w V2 := by rw [hV2]; exact b1.alloc b1.size _
  have b3 : Below w.heap.size w V3 := by rw [hV3]; exact b2.alloc b2.size _
  have x1 : GBox V1 w.heap.size s (.slice a n c) := by rw [hV1]; exact GBox.new _ _ _
  have x2 : GBox V2 w.heap.size s (.slice a n c) := by rw [hV2]; exact x1.below (below_new _ _)
  have x3 : GBox V3 w.heap.size s (.slice a n c) := by rw [hV3]; exact x2.below (below_new _ _)
  have r2 : V2.heap[w.heap.size + 1]? = some (.cells Z 67 (0, 0)) := by rw [hV2, ← z1]; exact heap_alloc_new _ _
  have r3 : V3.heap[w.heap.size + 1]? = some (.cells Z 67 (0, 0)) := by rw [hV3, (below_new V2 _).block _ (by omega)]; exact r2
  have t3 : TBox V3 (w.heap.size + 1 + 1) (fun _ => 0) := ⟨Z, by rw [hV3, ← z2]; exact heap_alloc_new _ _, unhide HZ⟩
  have HT3 : Hid (TBox V3 (w.heap.size + 1 + 1) (fillF 0)) := t3.congr (fun i _ => by unfold fillF; rw [if_neg (by omega)])
  have HX3 := hide x3
  have HR3 := hide r3
  clear hV1 hV2 hV3 b1 b2 x1 x2 r2 t3 x3 r3 z1 z2
  go_loopw [8] (fun i wr => ∃ j : Nat, i = .int .i64 (j : Int) ∧ j ≤ 9 ∧ TBox wr (w.heap.size + 1 + 1) (fillF (j * 9)) ∧ Below (w.heap.size + 2) V3 wr) (fun i _ => 9 - (intOf i).toNat)
  case atStart => exact ⟨0, rfl, Nat.zero_le _, unhide HT3, Below.refl _ _⟩
  case round =>
    obtain ⟨j, rfl, hj, ht, hb⟩ := hrel
    by_cases hlt : j < 9
    · have HT := hide ht
      have hx0 : (0 : Int) ≤ (j : Int) := by omega
      have hx1 : (j : Int) < 9 := by omega
      obtain ⟨W4, rfl⟩ : ∃ x, x = wr := ⟨wr, rfl⟩
      clear ht
      go_wp2_with fail
      go_loopw [11] (fun i wr => ∃ k : Nat, i = .int .i64 (k : Int) ∧ k ≤ 9 ∧ TBox wr (w.heap.size + 1 + 1) (fillF (j * 9 + k)) ∧ Below (w.heap.size + 2) V3 wr) (fun i _ => 9 - (intOf i).toNat)
      case atStart => exact ⟨0, rfl, Nat.zero_le _, unhide HT, hb⟩
      case round =>
        obtain ⟨k, rfl, hk, ht, hb5⟩ := hrel
        by_cases hlt2 : k < 9
        · have HT5 := hide ht
          have hl5 := ht.lt
          have hx2 : (0 : Int) ≤ (k : Int) := by omega
          have hx3 : (k : Int) < 9 := by omega
          clear ht
          have hs5 := hb5.size
          go_upto_region 8 with fail
          go_region_law
            (first
              | (refine step_call (by rfl) 41 _ _ (by rfl) #[] (by first | rfl | (simp [Act.put]; done)) enterNoWorths _ (unhide NW _) ?_; rintro e w6 ⟨rfl, hb6⟩; refine ⟨_, rfl, ?_⟩; have HT6 : Hid (TBox w6 (w.heap.size + 1 + 1) (fillF (j * 9 + k))) := (unhide HT5).below ((Below.refl _ _).drew.trans hb6); have q0 := (unhide HT6).cell (j * 27 + k * 3) (by omega); have q1 := (unhide HT6).cell (j * 27 + k * 3 + 1) (by omega); have q2 := (unhide HT6).cell (j * 27 + k * 3 + 2) (by omega); have f0 := (unhide HT6).froz (j * 27 + k * 3); have f1 := (unhide HT6).froz (j * 27 + k * 3 + 1); have f2 := (unhide HT6).froz (j * 27 + k * 3 + 2); have HB6 : Hid (Below (w.heap.size + 2) V3 w6) := hb5.drew.trans (hb6.mono (by show _ ≤ wr.heap.size; omega)); clear hb6))
          all_goals
            have HT7 := hide ((((unhide HT6).set (j * 27 + k * 3) (-1)).set (j * 27 + k * 3 + 1) (-1)).set (j * 27 + k * 3 + 2) (-1))
            have HT8 : Hid (TBox (((w6.setCell ⟨w.heap.size + 1 + 1, j * 27 + k * 3, none⟩ (.int .i64 (-1))).setCell ⟨w.heap.size + 1 + 1, j * 27 + k * 3 + 1, none⟩ (.int .i64 (-1))).setCell ⟨w.heap.size + 1 + 1, j * 27 + k * 3 + 2, none⟩ (.int .i64 (-1))) (w.heap.size + 1 + 1) (fillF (j * 9 + (k + 1)))) := (unhide HT7).congr (fun i _ => by
              have h := fill_step (j * 9 + k) i
              rw [show 3 * (j * 9 + k) = j * 27 + k * 3 by omega, show j * 9 + k + 1 = j * 9 + (k + 1) by omega] at h
              exact h)
            have HB8 : Hid (Below (w.heap.size + 2) V3 (((w6.setCell ⟨w.heap.size + 1 + 1, j * 27 + k * 3, none⟩ (.int .i64 (-1))).setCell ⟨w.heap.size + 1 + 1, j * 27 + k * 3 + 1, none⟩ (.int .i64 (-1))).setCell ⟨w.heap.size + 1 + 1, j * 27 + k * 3 + 2, none⟩ (.int .i64 (-1)))) := (((unhide HB6).setCell (p := ⟨w.heap.size + 1 + 1, j * 27 + k * 3, none⟩) (by simp) _).setCell (p := ⟨w.heap.size + 1 + 1, j * 27 + k * 3 + 1, none⟩) (by simp) _).setCell (p := ⟨w.heap.size + 1 + 1, j * 27 + k * 3 + 2, none⟩) (by simp) _
            clear HT7 HT6 HB6 q0 q1 q2 f0 f1 f2
            go_wp2
            go_roundw
            case rel => exact ⟨k + 1, by go_num, by omega, unhide HT8, unhide HB8⟩
            case measure => simp [intOf]; omega
        · obtain rfl : k = 9 := by omega
          have HT5 := hide ht
          clear ht
          go_wp2
          go_roundw
          case rel => exact ⟨j + 1, by go_num, by omega, (by rw [show (j + 1) * 9 = j * 9 + 9 by omega]; exact unhide HT5), hb5⟩
          case measure => simp [intOf]; omega
    · have hj9 : j * 9 = 81 := by omega
      rw [hj9] at ht
      have HT : Hid (TBox wr (w.heap.size + 1 + 1) (tabF (Q.take 0))) := ht.congr (fun i hi => by rw [List.take_zero]; exact fill_all i hi)
      obtain ⟨W4, rfl⟩ : ∃ x, x = wr := ⟨wr, rfl⟩
      have hs4 := hb.size
      have x4 : GBox W4 w.heap.size s (.slice a n c) := by unfold GBox; rw [hb.block _ (by omega)]; exact unhide HX3
      have HR4 : Hid (W4.heap[w.heap.size + 1]? = some (.cells Z 67 (0, 0))) := by show _ = _; rw [hb.block _ (by omega)]; exact unhide HR3
      have b4 : Below w.heap.size w W4 := b3.trans (hb.mono (by omega))
      obtain ⟨p0, p1⟩ := x4.cells
      clear ht HX3 HR3 hb b3
      go_wp2_with fail
      go_loopw [24] (fun i wr => ∃ j : Nat, i = .int .i64 (j : Int) ∧ j ≤ n ∧ TBox wr (w.heap.size + 1 + 1) (tabF (Q.take j)) ∧ Below (w.heap.size + 2) W4 wr) (fun i _ => n - (intOf i).toNat)
      case atStart => exact ⟨0, rfl, Nat.zero_le _, unhide HT, Below.refl _ _⟩
      case round =>
        obtain ⟨j, rfl, hj, ht, hb⟩ := hrel
        have hs5 := hb.size
        have b5 : Below w.heap.size w wr := b4.trans (hb.mono (by omega))
        by_cases hlt : j < n
        · have hjL : j < Q.length := by have := unhide HL; omega
          obtain ⟨b, off, rfl, hbB, c0, c1, c2, c3, c4⟩ := unhide HC j hjL
          rw [← b5.cell (p := ⟨b, off + j * 5, none⟩) (by simp; omega)] at c0
          rw [← b5.cell (p := ⟨b, off + j * 5 + 1, none⟩) (by simp; omega)] at c1
          rw [← b5.cell (p := ⟨b, off + j * 5 + 2, none⟩) (by simp; omega)] at c2
          rw [← b5.cell (p := ⟨b, off + j * 5 + 3, none⟩) (by simp; omega)] at c3
          rw [← b5.cell (p := ⟨b, off + j * 5 + 4, none⟩) (by simp; omega)] at c4
          have hab := unhide HOK j hjL
          have HSN := hide (show Q.take (j + 1) = Q.take j ++ [Q[j]] from List.take_succ_eq_append_getElem hjL)
          have HWO := hide (fun w => worthsOf_any Q[j] w)
          have hx0 : (0 : Int) ≤ (j : Int) := by omega
          have hx1 : (j : Int) < (n : Int) := by omega
          have hx2 : (n : Int) ≤ 9223372036854775807 := by have := unhide HN; omega
          generalize Q[j] = q at c0 c1 c2 c3 c4 hab HSN HWO
          unfold EdgeI.v w3 at HWO
          obtain ⟨y0, y1, y2, y3, y4⟩ := q
          simp only at c0 c1 c2 c3 c4 hab HWO
          obtain ⟨h0, h1, h2, h3⟩ := hab
          obtain ⟨p, rfl⟩ := Int.eq_ofNat_of_zero_le h0
          obtain ⟨q, rfl⟩ := Int.eq_ofNat_of_zero_le h2
          have HT5 := hide ht
          have hl5 := ht.lt
          clear ht
          go_upto_region 14 with fail
          obtain ⟨V6, hV6⟩ : ∃ W, W = wr.alloc (Obj.cells #[Value.int .i64 (p : Int), Value.int .i64 (q : Int), Value.int .i64 y2, Value.int .i64 y3, Value.int .i64 y4] 36) := ⟨_, rfl⟩
          rw [← hV6]
          have z6 : V6.heap.size = wr.heap.size + 1 := by rw [hV6]; simp
          have e6 : V6.heap[wr.heap.size]? = some (.cells #[Value.int .i64 (p : Int), Value.int .i64 (q : Int), Value.int .i64 y2, Value.int .i64 y3, Value.int .i64 y4] 36 (0, 0)) := by rw [hV6]; exact heap_alloc_new _ _
          have hn6 : Below wr.heap.size wr V6 := by rw [hV6]; exact below_new _ _
          have HT6 := hide ((unhide HT5).below hn6)
          have b6 : Below (w.heap.size + 2) W4 V6 := hb.trans (hn6.mono (by omega))
          have k0 : V6.cell? ⟨wr.heap.size, 0, none⟩ = some (.int .i64 (p : Int)) := by rw [cell_of_row V6 wr.heap.size 0 _ 36 (0, 0) e6]; rfl
          have k1 : V6.cell? ⟨wr.heap.size, 1, none⟩ = some (.int .i64 (q : Int)) := by rw [cell_of_row V6 wr.heap.size 1 _ 36 (0, 0) e6]; rfl
          have k2 : V6.cell? ⟨wr.heap.size, 2, none⟩ = some (.int .i64 y2) := by rw [cell_of_row V6 wr.heap.size 2 _ 36 (0, 0) e6]; rfl
          have k3 : V6.cell? ⟨wr.heap.size, 3, none⟩ = some (.int .i64 y3) := by rw [cell_of_row V6 wr.heap.size 3 _ 36 (0, 0) e6]; rfl
          have k4 : V6.cell? ⟨wr.heap.size, 4, none⟩ = some (.int .i64 y4) := by rw [cell_of_row V6 wr.heap.size 4 _ 36 (0, 0) e6]; rfl
          clear hV6 e6 hn6 c0 c1 c2 c3 c4
          have hk6 : wr.heap.size < V6.heap.size := by omega
          have hne : ¬ wr.heap.size = w.heap.size + 1 + 1 := by omega
          have hne' : ¬ w.heap.size + 1 + 1 = wr.heap.size := by omega
          go_region_held3 (fun u => u.cell? ⟨wr.heap.size, 0, none⟩ = some (.int .i64 (p : Int)) ∧ u.cell? ⟨wr.heap.size, 1, none⟩ = some (.int .i64 (q : Int)) ∧ u.cell? ⟨wr.heap.size, 2, none⟩ = some (.int .i64 y2) ∧ u.cell? ⟨wr.heap.size, 3, none⟩ = some (.int .i64 y3) ∧ u.cell? ⟨wr.heap.size, 4, none⟩ = some (.int .i64 y4))
            (first | go_keep | exact ⟨(hb7.cell (p := ⟨wr.heap.size, 0, none⟩) hk6).trans k0, (hb7.cell (p := ⟨wr.heap.size, 1, none⟩) hk6).trans k1, (hb7.cell (p := ⟨wr.heap.size, 2, none⟩) hk6).trans k2, (hb7.cell (p := ⟨wr.heap.size, 3, none⟩) hk6).trans k3, (hb7.cell (p := ⟨wr.heap.size, 4, none⟩) hk6).trans k4⟩)
            ((go_at_call 35; refine (unhide HWO _).mono ?_; rintro e w7 ⟨rfl, hb7⟩; have HT7 : Hid (TBox w7 (w.heap.size + 1 + 1) (tabF (Q.take j))) := (unhide HT6).below ((Below.refl _ _).drew.trans hb7); have q0 := (unhide HT7).cell (p * 27 + q * 3) (by omega); have q1 := (unhide HT7).cell (p * 27 + q * 3 + 1) (by omega); have q2 := (unhide HT7).cell (p * 27 + q * 3 + 2) (by omega); have f0 := (unhide HT7).froz (p * 27 + q * 3); have f1 := (unhide HT7).froz (p * 27 + q * 3 + 1); have f2 := (unhide HT7).froz (p * 27 + q * 3 + 2)))
          have HB7 : Hid (Below (w.heap.size + 2) W4 w7) := b6.drew.trans (hb7.mono (by show _ ≤ V6.heap.size; omega))
          have HT8 : Hid (TBox (((w7.setCell ⟨w.heap.size + 1 + 1, p * 27 + q * 3, none⟩ (.int .i64 y2)).setCell ⟨w.heap.size + 1 + 1, p * 27 + q * 3 + 1, none⟩ (.int .i64 y3)).setCell ⟨w.heap.size + 1 + 1, p * 27 + q * 3 + 2, none⟩ (.int .i64 y4)) (w.heap.size + 1 + 1) (tabF (Q.take (j + 1)))) := ((((unhide HT7).set (p * 27 + q * 3) y2).set (p * 27 + q * 3 + 1) y3).set (p * 27 + q * 3 + 2) y4).congr (fun i _ => by
            rw [unhide HSN]
            exact tab_step (Q.take j) ⟨(p : Int), (q : Int), y2, y3, y4⟩ p q rfl rfl (by omega) i)
          have HB8 : Hid (Below (w.heap.size + 2) W4 (((w7.setCell ⟨w.heap.size + 1 + 1, p * 27 + q * 3, none⟩ (.int .i64 y2)).setCell ⟨w.heap.size + 1 + 1, p * 27 + q * 3 + 1, none⟩ (.int .i64 y3)).setCell ⟨w.heap.size + 1 + 1, p * 27 + q * 3 + 2, none⟩ (.int .i64 y4))) := (((unhide HB7).setCell (p := ⟨w.heap.size + 1 + 1, p * 27 + q * 3, none⟩) (by simp) _).setCell (p := ⟨w.heap.size + 1 + 1, p * 27 + q * 3 + 1, none⟩) (by simp) _).setCell (p := ⟨w.heap.size + 1 + 1, p * 27 + q * 3 + 2, none⟩) (by simp) _
          clear HT7 HB7 hb7 q0 q1 q2 f0 f1 f2
          go_wp2
          go_roundw
          case rel => exact ⟨j + 1, by go_num, by omega, unhide HT8, unhide HB8⟩
          case measure => simp [intOf]; omega
        · have hje : Q.take j = Q := List.take_of_length_le (by have := unhide HL; omega)
          rw [hje] at ht
          clear hje
          obtain ⟨C, hC, hT⟩ := ht
          have hr1 : wr.rangeAt (w.heap.size + 1 + 1) 0 C.toList := by
            have h := World.rangeAt_of_block hC 0 243
            have e : C.extract 0 (0 + 243) = C := by rw [Nat.zero_add, ← hT.1, Array.extract_size]
            rwa [e] at h
          have HR5 : Hid (wr.there (w.heap.size + 1) 0 C.size) := by
            have h := there_block (show wr.heap[w.heap.size + 1]? = some (.cells Z 67 (0, 0)) by rw [hb.block _ (by omega)]; exact unhide HR4)
            rw [(unhide HZ).1] at h
            show wr.there _ _ _
            rw [hT.1]
            exact h
          have HR1 := hide hr1
          have hi1 : Hid ((Try.prog.info? 67).map (·.size) = some C.toList.length) := by show _ = _; rw [infoTable, Array.length_toList, hT.1]
          have hi2 : Hid ((Try.prog.info? 67).map (·.size) = some C.size) := by show _ = _; rw [infoTable, hT.1]
          have h1 := hide hT.one
          have HCT := hide hT
          clear hr1 hT hC hb b4
          go_wp2_with (first
            | refine wpList_load_mid rfl 67 _ rfl (w.heap.size + 1 + 1) 0 rfl C.toList _ (unhide HR1) Try.underlying67 rfl (unhide hi1) ?_
            | refine wpList_store_mid rfl 67 _ _ rfl (w.heap.size + 1) 0 C rfl rfl (unhide HR5) (unhide hi2) (unhide h1) ?_)
          have hld : (loadVar 67 ⟨w.heap.size + 1, 0, none⟩).run Try.prog (wr.setCells (w.heap.size + 1) 0 C.toList) = .ok (.agg C) (wr.setCells (w.heap.size + 1) 0 C.toList) := by
            have h := run_loadVar_mid (P := Try.prog) (wr.setCells (w.heap.size + 1) 0 C.toList) (w.heap.size + 1) 0 67 C.toList _ (World.rangeAt_setCells_same _ _ _ _ (by rw [Array.length_toList]; exact unhide HR5)) Try.underlying67 rfl (unhide hi1)
            rwa [Array.toArray_toList] at h
          refine bodyPost_ret (v := .agg C) ?_ rfl ⟨⟨C, rfl, unhide HCT⟩, below_setCells _ _ (by omega) _ _ _ _ b5⟩
          rw [results_cell1 rfl]
          show ((asAddr (Value.pointer (some ⟨w.heap.size + 1, 0, none⟩))).run Try.prog _).andThen _ = _
          simp [asAddr, Result.andThen, hld]
end Gr
end Go.Proofs.Ytmajajhbhdgngaa
