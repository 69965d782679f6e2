/-
 GrDraw, GrPlaces.
-/
import Derived.Test.YtnihoabminnbcaaJ6
import Derived.Test.YtnihoabminnbcaaJ12
namespace Go.Proofs.Ytnihoabminnbcaa
namespace Gr
open Go.RowKit
theorem okFrom_snoc (s : Int) (x : EdgeI) (hx : edgeOk s x = true) : ∀ (Q : List EdgeI) (p : Option EdgeI), okFrom s p Q = true → (∀ e ∈ Q, ahead e x = true) → (Q = [] → aheadOf p x = true) → okFrom s p (Q ++ [x]) = true
  | [], p, _, _, hp => by
    show (edgeOk s x && (aheadOf p x && true)) = true
    rw [hx, hp rfl]
    rfl
  | e :: r, p, h, ha, _ => by
    have h' : (edgeOk s e && (aheadOf p e && okFrom s (some e) r)) = true := h
    show (edgeOk s e && (aheadOf p e && okFrom s (some e) (r ++ [x]))) = true
    simp only [Bool.and_eq_true] at h' ⊢
    exact ⟨h'.1, h'.2.1, okFrom_snoc s x hx r (some e) h'.2.2 (fun y hy => ha y (List.mem_cons_of_mem _ hy)) (fun _ => ha e List.mem_cons_self)⟩
/-- The edges that are drawn so far: right, and all ahead of (A, B). -/
def GQ (s A B : Int) (n : Nat) (l : Nat) (Q : List EdgeI) : Prop := l = Q.length ∧ l ≤ n ∧ okFrom s none Q = true ∧ ∀ e ∈ Q, e.A < A ∨ e.A = A ∧ e.B < B
theorem GQ.step {s A B : Int} {n l : Nat} {Q : List EdgeI} (h : GQ s A B n l Q) (x : EdgeI) (hx : edgeOk s x = true) (hA : x.A = A) (hB : x.B = B) : GQ s A (B + 1) (n + 1) (l + 1) (Q ++ [x]) := by
  obtain ⟨h1, h2, h3, h4⟩ := h
  refine ⟨by rw [List.length_append, ← h1]; rfl, by omega, okFrom_snoc s x hx Q none h3 (fun e he => ?_) (fun _ => rfl), fun e he => ?_⟩
  · unfold ahead
    rcases h4 e he with h | ⟨h, h'⟩
    · rw [decide_eq_true (show e.A < x.A by omega)]; rfl
    · rw [decide_eq_true (show e.A = x.A by omega), decide_eq_true (show e.B < x.B by omega)]; simp
  · rcases List.mem_append.1 he with he | he
    · rcases h4 e he with h | ⟨h, h'⟩
      · exact .inl h
      · exact .inr ⟨h, by omega⟩
    · obtain rfl := List.mem_singleton.1 he
      exact .inr ⟨hA, by omega⟩
theorem GQ.skip {s A B B' : Int} {n n' l : Nat} {Q : List EdgeI} (h : GQ s A B n l Q) (hB : B ≤ B') (hn : n ≤ n') : GQ s A B' n' l Q :=
  ⟨h.1, Nat.le_trans h.2.1 hn, h.2.2.1, fun e he => by rcases h.2.2.2 e he with h | ⟨h, h'⟩; exact .inl h; exact .inr ⟨h, by omega⟩⟩
theorem GQ.next {s A B : Int} {n n' l : Nat} {Q : List EdgeI} (h : GQ s A B n l Q) (hn : n ≤ n') : GQ s (A + 1) 0 n' l Q :=
  ⟨h.1, Nat.le_trans h.2.1 hn, h.2.2.1, fun e he => by rcases h.2.2.2 e he with h | ⟨h, h'⟩ <;> exact .inl (by omega)⟩
/-- What stands while edges are drawn: the cursor; the result's variable; the graph, in block g3. -/
def GD (a : Option Addr) (len cap g B : Nat) (w : World) (g3 : Nat) (s A Bq : Int) (n : Nat) (wr : World) : Prop :=
  CC a len cap g B wr ∧ GBox wr w.heap.size 0 (.slice none 0 0) ∧ Kept (fun k => k = g) w wr ∧ ∃ (l : Nat) (Q : List EdgeI) (P : Option Addr) (C : Nat), GQ s A Bq n l Q ∧ GBox wr g3 s (.slice P l C) ∧ wr.ownsRow (g3 + 1) 70 5 (.slice P l C) l (edgesV Q)
theorem GD.drawn {a : Option Addr} {len cap g B : Nat} {w : World} {g3 : Nat} {s A Bq : Int} {n : Nat} {wr w' : World} (h : GD a len cap g B w g3 s A Bq n wr) (hg : g < w.heap.size) (h3 : w.heap.size < g3) (hc : CC a len cap g B w') (hk : Kept (fun k => k = g) wr w') : GD a len cap g B w g3 s A Bq n w' := by
  obtain ⟨_, h1, h2, l, Q, P, C, hq, hb, ho⟩ := h
  exact ⟨hc, h1.kept hk (by omega), h2.trans hk, l, Q, P, C, hq, hb.kept hk (by omega), hk.own ho (fun k hk e => by have := (ho.lt k hk).1; omega)⟩
theorem GD.skip {a : Option Addr} {len cap g B : Nat} {w : World} {g3 : Nat} {s A Bq Bq' : Int} {n n' : Nat} {wr : World} (h : GD a len cap g B w g3 s A Bq n wr) (hB : Bq ≤ Bq') (hn : n ≤ n') : GD a len cap g B w g3 s A Bq' n' wr := by
  obtain ⟨h0, h1, h2, l, Q, P, C, hq, hb, ho⟩ := h
  exact ⟨h0, h1, h2, l, Q, P, C, hq.skip hB hn, hb, ho⟩
theorem GD.next {a : Option Addr} {len cap g B : Nat} {w : World} {g3 : Nat} {s A Bq : Int} {n n' : Nat} {wr : World} (h : GD a len cap g B w g3 s A Bq n wr) (hn : n ≤ n') : GD a len cap g B w g3 s (A + 1) 0 n' wr := by
  obtain ⟨h0, h1, h2, l, Q, P, C, hq, hb, ho⟩ := h
  exact ⟨h0, h1, h2, l, Q, P, C, hq.next hn, hb, ho⟩
theorem news_edge5 (W : World) (a b c d e : Int) (t : TypeId) : ∀ j u, [Value.int .i64 a, Value.int .i64 b, Value.int .i64 c, Value.int .i64 d, Value.int .i64 e][j]? = some u → (W.alloc (Obj.cells #[.int .i64 a, .int .i64 b, .int .i64 c, .int .i64 d, .int .i64 e] t)).cell? ((⟨W.heap.size, 0, none⟩ : Addr).add j) = some u :=
  World.news_of_block (heap_alloc_new W (Obj.cells #[.int .i64 a, .int .i64 b, .int .i64 c, .int .i64 d, .int .i64 e] t))
theorem edge5_one (a b c d e : Int) : ∀ u ∈ [Value.int .i64 a, Value.int .i64 b, Value.int .i64 c, Value.int .i64 d, Value.int .i64 e], u.oneCell' = true := by
  intro u hu
  simp at hu
  rcases hu with rfl | rfl | rfl | rfl | rfl <;> rfl
set_option maxRecDepth 100000 in
set_option maxHeartbeats 4000000 in
theorem l08Graph_any (a : Option Addr) (len cap g B : Nat) (hl : len ≤ 1048576) (hB : B ≤ g) (w : World) (hcc : CC a len cap g B w) :
    Calls Try.prog 12 #[.pointer (some ⟨g, 0, none⟩)] w fun e w' => (∃ d, e = .returned d ∧ ∃ s Q, GrOwn w' w.heap.size d s Q ∧ graphOk s Q = true ∧ Q.length ≤ 90) ∧ CC a len cap g B w' ∧ Kept (fun k => k = g) w w' := by
  have BE := hide (fun n (h0 : 0 < n) w1 (h : CC a len cap g B w1) => below_cc a len cap g B n hl hB h0 w1 h)
  have ON := hide (fun n (h0 : 0 < n) w1 (h : CC a len cap g B w1) => once_cc a len cap g B n hl hB h0 w1 h)
  have PI := hide (fun b (hb : b ≠ g) w1 (h : CC a len cap g B w1) (hx : w1.heap[b]? = some (.cells #[.int .i64 2, .int .i64 4, .int .i64 51] 3 (0, 0))) => pick_cc (fun x => x = 2 ∨ x = 4 ∨ x = 51) a len cap g B b 2 4 51 hl hB hb w1 h hx (by omega) (by omega) (by omega))
  obtain ⟨i1, hi1, hz0, hz1, hz2⟩ := info_parts infoEdge
  have hg := hcc.lt
  have HCC := hide hcc
  clear hcc
  go_enter Try.func12, Try.ntmps12
  go_wp2_with fail
  obtain ⟨V1, hV1⟩ : ∃ W, W = w.alloc (Obj.cells #[Value.int .i64 0, Value.slice none 0 0] 26) := ⟨_, rfl⟩
  rw [← hV1]
  have b1 : Below w.heap.size w V1 := by rw [hV1]; exact below_new _ _
  have y1 : GBox V1 w.heap.size 0 (.slice none 0 0) := by rw [hV1]; exact GBox.new _ _ _
  have cc1 := (unhide HCC).below b1 hB
  clear hV1
  refine (unhide BE 10 (by omega) V1 cc1).mono ?_
  rintro e w2 ⟨⟨s, rfl, hs0, hs1⟩, cc2, hk2⟩
  have y2 := y1.kept hk2 (by omega)
  have k2 : Kept (fun k => k = g) w w2 := (Kept.of_below b1).trans hk2
  have hy2 := y2.lt
  clear hk2 cc1 y1 b1
  obtain ⟨V3, hV3⟩ : ∃ W, W = w2.alloc (Obj.cells #[Value.int .i64 s, Value.slice none 0 0] 26) := ⟨_, rfl⟩
  have b3 : Below w2.heap.size w2 V3 := by rw [hV3]; exact below_new _ _
  have u3 : GBox V3 w2.heap.size s (.slice none 0 0) := by rw [hV3]; exact GBox.new _ _ _
  have GD3 : Hid (GD a len cap g B w w2.heap.size s 0 0 0 V3) := ⟨cc2.below b3 hB, y2.below b3, k2.trans (Kept.of_below b3), 0, [], none, 0, ⟨rfl, Nat.le_refl _, rfl, by simp⟩, u3, ⟨rfl, .inl ⟨rfl, rfl⟩⟩⟩
  go_wp2_with fail
  rw [← hV3]
  have h3 : w.heap.size < w2.heap.size := hy2
  have z3 : w2.heap.size < V3.heap.size := u3.lt
  clear hV3 b3 u3 y2 k2 cc2
  refine (unhide BE 3 (by omega) V3 (unhide GD3).1).mono ?_
  rintro e w4 ⟨⟨d, rfl, hd0, hd1⟩, cc4, hk4⟩
  have GD4 := hide ((unhide GD3).drawn hg h3 cc4 hk4)
  have z4 : V3.heap.size ≤ w4.heap.size := hk4.2.2.2.1
  clear cc4 hk4
  go_wp2_with fail
  obtain ⟨V5, hV5⟩ : ∃ W, W = w4.alloc (Obj.cells #[Value.int .i64 2, Value.int .i64 4, Value.int .i64 51] 3) := ⟨_, rfl⟩
  rw [← hV5]
  have b5 : Below w4.heap.size w4 V5 := by rw [hV5]; exact below_new _ _
  have e5 : V5.heap[w4.heap.size]? = some (.cells #[.int .i64 2, .int .i64 4, .int .i64 51] 3 (0, 0)) := by rw [hV5]; exact heap_alloc_new _ _
  have GD5 : Hid (GD a len cap g B w w2.heap.size s 0 0 0 V5) := by
    obtain ⟨h0, h1, h2, l, Q, P, C, hq, hb, ho⟩ := unhide GD4
    exact ⟨h0.below b5 hB, h1.below b5, h2.trans (Kept.of_below b5), l, Q, P, C, hq, hb.below b5, own_below ho b5⟩
  have z5 := b5.size
  clear hV5 b5
  refine (unhide PI w4.heap.size (by omega) V5 (unhide GD5).1 e5).mono ?_
  rintro e w6 ⟨⟨m, rfl, hm⟩, cc6, hk6⟩
  have GD6 := hide ((unhide GD5).drawn hg h3 cc6 hk6)
  have hm0 : 0 < m := by omega
  have hm1 : m ≤ 51 := by omega
  clear cc6 hk6 e5 GD3 GD4 GD5
  obtain ⟨g3, hg3⟩ : ∃ g3, g3 = w2.heap.size := ⟨_, rfl⟩
  rw [← hg3] at GD6 h3 ⊢
  clear hg3 z3 z4 z5 hy2
  go_wp2_with fail
  go_loopw [6] (fun i wr => ∃ A : Nat, i = .int .i64 (A : Int) ∧ (A : Int) ≤ s ∧ GD a len cap g B w g3 s (A : Int) 0 (9 * A) wr) (fun i _ => s.toNat - (intOf i).toNat)
  case atStart => exact ⟨0, rfl, by omega, unhide GD6⟩
  case round =>
    obtain ⟨A, rfl, hA, hgd⟩ := hrel
    have HGD := hide hgd
    obtain ⟨_, y7, k7, l7, Q7, P7, C7, q7, u7, o7⟩ := hgd
    obtain ⟨p0, p1⟩ := u7.cells
    by_cases hlt : (A : Int) < s
    · clear y7 k7 q7 u7 o7
      go_wp2_with fail
      go_loopw [7] (fun i wr => ∃ b : Nat, i = .int .i64 (b : Int) ∧ (b : Int) ≤ s ∧ A + 1 ≤ b ∧ GD a len cap g B w g3 s (A : Int) (b : Int) (9 * A + b) wr) (fun i _ => s.toNat - (intOf i).toNat)
      case atStart => exact ⟨A + 1, by go_num, by omega, Nat.le_refl _, (unhide HGD).skip (by omega) (by omega)⟩
      case round =>
        obtain ⟨b, rfl, hb, hAb, hgd⟩ := hrel
        have HGE := hide hgd
        obtain ⟨cc8, y8, k8, l8, Q8, P8, C8, q8, u8, o8⟩ := hgd
        obtain ⟨p2, p3⟩ := u8.cells
        clear HGD p0 p1
        by_cases hltb : (b : Int) < s
        · have HON := hide (unhide ON (1 + d + 1) (by omega) wr cc8)
          have hd2 : 1 + d + 1 ≤ 9223372036854775807 := by omega
          clear y8 k8 q8 u8 o8 cc8
          go_wp2_with fail
          refine (unhide HON).mono ?_
          rintro e w9 ⟨⟨t, rfl⟩, cc9, hk9⟩
          have HGF := hide ((unhide HGE).drawn hg h3 cc9 hk9)
          clear cc9 hk9 HON HGE p2 p3
          cases t
          · go_wp2_with fail
            refine (unhide BE m hm0 w9 (unhide HGF).1).mono ?_
            rintro e w10 ⟨⟨x1, rfl, hx10, hx11⟩, cc10, hk10⟩
            have HGG := hide ((unhide HGF).drawn hg h3 cc10 hk10)
            clear cc10 hk10 HGF
            go_wp2_with fail
            refine (unhide BE m hm0 w10 (unhide HGG).1).mono ?_
            rintro e w11 ⟨⟨x2, rfl, hx20, hx21⟩, cc11, hk11⟩
            have HGH := hide ((unhide HGG).drawn hg h3 cc11 hk11)
            clear cc11 hk11 HGG
            go_wp2_with fail
            refine (unhide BE m hm0 w11 (unhide HGH).1).mono ?_
            rintro e w12 ⟨⟨x3, rfl, hx30, hx31⟩, cc12, hk12⟩
            have HGI := hide ((unhide HGH).drawn hg h3 cc12 hk12)
            clear cc12 hk12 HGH
            obtain ⟨cc13, y13, k13, l13, Q13, P13, C13, q13, u13, o13⟩ := unhide HGI
            have HQ13 := hide q13
            have hl13 := q13.2.1
            have HY13 := hide y13
            have HU13 := hide u13
            have HO13 := hide o13
            have HC13 := hide cc13
            have HK13 := hide k13
            have z13 := u13.lt
            have hgl : ∀ k, (Value.slice P13 l13 C13).ownBlock = some k → g3 < k := fun k hk => by have := (o13.lt k hk).1; omega
            have HGL := hide hgl
            clear q13 y13 u13 o13 cc13 k13 HGI hgl
            cases hm4 : (m == 4)
            · go_upto_region 15 with fail
              obtain ⟨V9, hV9⟩ : ∃ W, W = w12.alloc (Obj.cells #[Value.int .i64 (A : Int), Value.int .i64 (b : Int), Value.int .i64 x1, Value.int .i64 x2, Value.int .i64 x3] 70) := ⟨_, rfl⟩
              rw [← hV9]
              have e9 : V9.heap[w12.heap.size]? = some (.cells #[Value.int .i64 (A : Int), Value.int .i64 (b : Int), Value.int .i64 x1, Value.int .i64 x2, Value.int .i64 x3] 70 (0, 0)) := by rw [hV9]; exact heap_alloc_new _ _
              have bw9 : Below w12.heap.size w12 V9 := by rw [hV9]; exact below_new _ _
              have u9 := (unhide HU13).below bw9
              have y9 := (unhide HY13).below bw9
              have o9 := own_below (unhide HO13) bw9
              have c9 := (unhide HC13).below bw9 hB
              have k9 : Kept (fun k => k = g) w V9 := (unhide HK13).trans (Kept.of_below bw9)
              have f0 : V9.cell? ⟨w12.heap.size, 0, none⟩ = some (.int .i64 (A : Int)) := by rw [cell_of_row V9 w12.heap.size 0 _ 70 (0, 0) e9]; rfl
              have f1 : V9.cell? ⟨w12.heap.size, 1, none⟩ = some (.int .i64 (b : Int)) := by rw [cell_of_row V9 w12.heap.size 1 _ 70 (0, 0) e9]; rfl
              have f2 : V9.cell? ⟨w12.heap.size, 2, none⟩ = some (.int .i64 x1) := by rw [cell_of_row V9 w12.heap.size 2 _ 70 (0, 0) e9]; rfl
              have f3 : V9.cell? ⟨w12.heap.size, 3, none⟩ = some (.int .i64 x2) := by rw [cell_of_row V9 w12.heap.size 3 _ 70 (0, 0) e9]; rfl
              have f4 : V9.cell? ⟨w12.heap.size, 4, none⟩ = some (.int .i64 x3) := by rw [cell_of_row V9 w12.heap.size 4 _ 70 (0, 0) e9]; rfl
              obtain ⟨q0, q1⟩ := u9.cells
              have HU9 := hide u9
              have HY9 := hide y9
              have HC9 := hide c9
              have HK9 := hide k9
              have z9 : g3 < V9.heap.size := u9.lt
              have hw9 : w12.heap.size < V9.heap.size := by rw [hV9]; simp
              clear hV9 e9 bw9 u9 y9 c9 k9
              go_wp2_with (at_builtin; refine wpList_append_own _ rfl _ _ 24 rfl (g3 + 1) 70 i1 (.agg #[.int .i64 0, .int .i64 0, .int .i64 0, .int .i64 0, .int .i64 0]) 5 40 Try.underlying24 hi1 hz0 hz1 hz2 rfl (by decide) _ l13 _ rfl (o9.alloc _) ⟨V9.heap.size, 0, none⟩ 1 1 [.int .i64 (A : Int), .int .i64 (b : Int), .int .i64 x1, .int .i64 x2, .int .i64 x3] rfl rfl (news_edge5 _ _ _ _ _ _ _) (edge5_one _ _ _ _ _) ?_ ?_ ?_ ?_)
              · unfold maxLen; omega
              · omega
              · simp; omega
              intro v4 w14 hown4 hgrow4 _
              have bn := below_new V9 (Obj.cells #[Value.int .i64 (A : Int), Value.int .i64 (b : Int), Value.int .i64 x1, Value.int .i64 x2, Value.int .i64 x3] 70)
              have hkg := Kept.of_grown hgrow4
              have u14 : GBox w14 g3 s (.slice P13 l13 C13) := ((unhide HU9).below bn).kept hkg (fun e => by have := unhide HGL _ e; omega)
              have y14 : GBox w14 w.heap.size 0 (.slice none 0 0) := ((unhide HY9).below bn).kept hkg (fun e => by have := unhide HGL _ e; omega)
              have c14 : CC a len cap g B w14 := ((unhide HC9).below bn hB).kept hkg hB (fun k e => by have := unhide HGL _ e; omega)
              have k14 : Kept (fun k => k = g) w w14 := by
                have k15 := (unhide HK9).trans (Kept.of_below bn)
                exact ⟨hkg.1.trans k15.1, hkg.2.1.trans k15.2.1, hkg.2.2.1.trans k15.2.2.1, Nat.le_trans k15.2.2.2.1 hkg.2.2.2.1, fun i hi hn => (hkg.2.2.2.2 i (Nat.lt_of_lt_of_le hi k15.2.2.2.1) (fun e => by have := unhide HGL _ e; omega)).trans (k15.2.2.2.2 i hi hn)⟩
              obtain ⟨A4, C4, rfl⟩ : ∃ A c, v4 = .slice A (l13 + 1) c := by
                rcases hown4.2 with ⟨rfl, h0⟩ | ⟨g, cap, cur, rfl, _⟩
                · omega
                · exact ⟨_, _, rfl⟩
              have hsn2 : edgesV Q13 ++ [.int .i64 (A : Int), .int .i64 (b : Int), .int .i64 x1, .int .i64 x2, .int .i64 x3] = edgesV (Q13 ++ [⟨(A : Int), (b : Int), x1, x2, x3⟩]) := (edgesV_snoc Q13 ⟨(A : Int), (b : Int), x1, x2, x3⟩).symm
              rw [hsn2] at hown4
              have hko : Kept (fun i => i = g3) w14 (w14.setCell ⟨g3, 1, none⟩ (.slice A4 (l13 + 1) C4)) := Kept.set (S := fun i => i = g3) _ _ _ _ rfl
              have hex : edgeOk s ⟨(A : Int), (b : Int), x1, x2, x3⟩ = true := by
                unfold edgeOk worthOk
                simp
                omega
              have HGN : Hid (GD a len cap g B w g3 s (A : Int) ((b : Int) + 1) (9 * A + b + 1) (w14.setCell ⟨g3, 1, none⟩ (.slice A4 (l13 + 1) C4))) :=
                ⟨c14.kept hko hB (fun k hk => by omega), y14.kept hko (by omega), ⟨hko.1.trans k14.1, hko.2.1.trans k14.2.1, hko.2.2.1.trans k14.2.2.1, Nat.le_trans k14.2.2.2.1 hko.2.2.2.1, fun i hi hn => (hko.2.2.2.2 i (Nat.lt_of_lt_of_le hi k14.2.2.2.1) (by omega)).trans (k14.2.2.2.2 i hi hn)⟩, l13 + 1, _, A4, C4, (unhide HQ13).step _ hex rfl rfl, u14.one _, hko.own hown4 (fun k hk e => by have := (hown4.lt k hk).1; omega)⟩
              obtain ⟨r0, r1⟩ := u14.cells
              have rf := u14.froz
              clear hown4 hgrow4 hko bn hkg u14 y14 c14 k14 o9 q0 q1 f0 f1 f2 f3 f4 hsn2 hex
              go_wp2
              go_roundw
              case rel => exact ⟨b + 1, by go_num, by omega, by omega, by rw [Int.natCast_add]; exact unhide HGN⟩
              case measure => simp [intOf]; omega
            · go_upto_region 15 with fail
              obtain ⟨V9, hV9⟩ : ∃ W, W = w12.alloc (Obj.cells #[Value.int .i64 (A : Int), Value.int .i64 (b : Int), Value.int .i64 x1, Value.int .i64 0, Value.int .i64 0] 70) := ⟨_, rfl⟩
              rw [← hV9]
              have e9 : V9.heap[w12.heap.size]? = some (.cells #[Value.int .i64 (A : Int), Value.int .i64 (b : Int), Value.int .i64 x1, Value.int .i64 0, Value.int .i64 0] 70 (0, 0)) := by rw [hV9]; exact heap_alloc_new _ _
              have bw9 : Below w12.heap.size w12 V9 := by rw [hV9]; exact below_new _ _
              have u9 := (unhide HU13).below bw9
              have y9 := (unhide HY13).below bw9
              have o9 := own_below (unhide HO13) bw9
              have c9 := (unhide HC13).below bw9 hB
              have k9 : Kept (fun k => k = g) w V9 := (unhide HK13).trans (Kept.of_below bw9)
              have f0 : V9.cell? ⟨w12.heap.size, 0, none⟩ = some (.int .i64 (A : Int)) := by rw [cell_of_row V9 w12.heap.size 0 _ 70 (0, 0) e9]; rfl
              have f1 : V9.cell? ⟨w12.heap.size, 1, none⟩ = some (.int .i64 (b : Int)) := by rw [cell_of_row V9 w12.heap.size 1 _ 70 (0, 0) e9]; rfl
              have f2 : V9.cell? ⟨w12.heap.size, 2, none⟩ = some (.int .i64 x1) := by rw [cell_of_row V9 w12.heap.size 2 _ 70 (0, 0) e9]; rfl
              have f3 : V9.cell? ⟨w12.heap.size, 3, none⟩ = some (.int .i64 0) := by rw [cell_of_row V9 w12.heap.size 3 _ 70 (0, 0) e9]; rfl
              have f4 : V9.cell? ⟨w12.heap.size, 4, none⟩ = some (.int .i64 0) := by rw [cell_of_row V9 w12.heap.size 4 _ 70 (0, 0) e9]; rfl
              obtain ⟨q0, q1⟩ := u9.cells
              have HU9 := hide u9
              have HY9 := hide y9
              have HC9 := hide c9
              have HK9 := hide k9
              have z9 : g3 < V9.heap.size := u9.lt
              have hw9 : w12.heap.size < V9.heap.size := by rw [hV9]; simp
              clear hV9 e9 bw9 u9 y9 c9 k9
              go_wp2_with (at_builtin; refine wpList_append_own _ rfl _ _ 24 rfl (g3 + 1) 70 i1 (.agg #[.int .i64 0, .int .i64 0, .int .i64 0, .int .i64 0, .int .i64 0]) 5 40 Try.underlying24 hi1 hz0 hz1 hz2 rfl (by decide) _ l13 _ rfl (o9.alloc _) ⟨V9.heap.size, 0, none⟩ 1 1 [.int .i64 (A : Int), .int .i64 (b : Int), .int .i64 x1, .int .i64 0, .int .i64 0] rfl rfl (news_edge5 _ _ _ _ _ _ _) (edge5_one _ _ _ _ _) ?_ ?_ ?_ ?_)
              · unfold maxLen; omega
              · omega
              · simp; omega
              intro v4 w14 hown4 hgrow4 _
              have bn := below_new V9 (Obj.cells #[Value.int .i64 (A : Int), Value.int .i64 (b : Int), Value.int .i64 x1, Value.int .i64 0, Value.int .i64 0] 70)
              have hkg := Kept.of_grown hgrow4
              have u14 : GBox w14 g3 s (.slice P13 l13 C13) := ((unhide HU9).below bn).kept hkg (fun e => by have := unhide HGL _ e; omega)
              have y14 : GBox w14 w.heap.size 0 (.slice none 0 0) := ((unhide HY9).below bn).kept hkg (fun e => by have := unhide HGL _ e; omega)
              have c14 : CC a len cap g B w14 := ((unhide HC9).below bn hB).kept hkg hB (fun k e => by have := unhide HGL _ e; omega)
              have k14 : Kept (fun k => k = g) w w14 := by
                have k15 := (unhide HK9).trans (Kept.of_below bn)
                exact ⟨hkg.1.trans k15.1, hkg.2.1.trans k15.2.1, hkg.2.2.1.trans k15.2.2.1, Nat.le_trans k15.2.2.2.1 hkg.2.2.2.1, fun i hi hn => (hkg.2.2.2.2 i (Nat.lt_of_lt_of_le hi k15.2.2.2.1) (fun e => by have := unhide HGL _ e; omega)).trans (k15.2.2.2.2 i hi hn)⟩
              obtain ⟨A4, C4, rfl⟩ : ∃ A c, v4 = .slice A (l13 + 1) c := by
                rcases hown4.2 with ⟨rfl, h0⟩ | ⟨g, cap, cur, rfl, _⟩
                · omega
                · exact ⟨_, _, rfl⟩
              have hsn2 : edgesV Q13 ++ [.int .i64 (A : Int), .int .i64 (b : Int), .int .i64 x1, .int .i64 0, .int .i64 0] = edgesV (Q13 ++ [⟨(A : Int), (b : Int), x1, 0, 0⟩]) := (edgesV_snoc Q13 ⟨(A : Int), (b : Int), x1, 0, 0⟩).symm
              rw [hsn2] at hown4
              have hko : Kept (fun i => i = g3) w14 (w14.setCell ⟨g3, 1, none⟩ (.slice A4 (l13 + 1) C4)) := Kept.set (S := fun i => i = g3) _ _ _ _ rfl
              have hex : edgeOk s ⟨(A : Int), (b : Int), x1, 0, 0⟩ = true := by
                unfold edgeOk worthOk
                simp
                omega
              have HGN : Hid (GD a len cap g B w g3 s (A : Int) ((b : Int) + 1) (9 * A + b + 1) (w14.setCell ⟨g3, 1, none⟩ (.slice A4 (l13 + 1) C4))) :=
                ⟨c14.kept hko hB (fun k hk => by omega), y14.kept hko (by omega), ⟨hko.1.trans k14.1, hko.2.1.trans k14.2.1, hko.2.2.1.trans k14.2.2.1, Nat.le_trans k14.2.2.2.1 hko.2.2.2.1, fun i hi hn => (hko.2.2.2.2 i (Nat.lt_of_lt_of_le hi k14.2.2.2.1) (by omega)).trans (k14.2.2.2.2 i hi hn)⟩, l13 + 1, _, A4, C4, (unhide HQ13).step _ hex rfl rfl, u14.one _, hko.own hown4 (fun k hk e => by have := (hown4.lt k hk).1; omega)⟩
              obtain ⟨r0, r1⟩ := u14.cells
              have rf := u14.froz
              clear hown4 hgrow4 hko bn hkg u14 y14 c14 k14 o9 q0 q1 f0 f1 f2 f3 f4 hsn2 hex
              go_wp2
              go_roundw
              case rel => exact ⟨b + 1, by go_num, by omega, by omega, by rw [Int.natCast_add]; exact unhide HGN⟩
              case measure => simp [intOf]; omega
          · by_cases hd3 : 1 + d = 3
            · have hd4 : ((1 + d) == 3) = true := by simpa using hd3
              clear hd3
              go_wp2_with fail
              refine (unhide BE m hm0 w9 (unhide HGF).1).mono ?_
              rintro e w10 ⟨⟨x1, rfl, hx10, hx11⟩, cc10, hk10⟩
              have HGG := hide ((unhide HGF).drawn hg h3 cc10 hk10)
              clear cc10 hk10 HGF
              go_wp2_with fail
              refine (unhide BE m hm0 w10 (unhide HGG).1).mono ?_
              rintro e w11 ⟨⟨x2, rfl, hx20, hx21⟩, cc11, hk11⟩
              have HGH := hide ((unhide HGG).drawn hg h3 cc11 hk11)
              clear cc11 hk11 HGG
              go_wp2_with fail
              refine (unhide BE m hm0 w11 (unhide HGH).1).mono ?_
              rintro e w12 ⟨⟨x3, rfl, hx30, hx31⟩, cc12, hk12⟩
              have HGI := hide ((unhide HGH).drawn hg h3 cc12 hk12)
              clear cc12 hk12 HGH
              obtain ⟨cc13, y13, k13, l13, Q13, P13, C13, q13, u13, o13⟩ := unhide HGI
              have HQ13 := hide q13
              have hl13 := q13.2.1
              have HY13 := hide y13
              have HU13 := hide u13
              have HO13 := hide o13
              have HC13 := hide cc13
              have HK13 := hide k13
              have z13 := u13.lt
              have hgl : ∀ k, (Value.slice P13 l13 C13).ownBlock = some k → g3 < k := fun k hk => by have := (o13.lt k hk).1; omega
              have HGL := hide hgl
              clear q13 y13 u13 o13 cc13 k13 HGI hgl
              cases hm4 : (m == 4)
              · go_upto_region 15 with fail
                obtain ⟨V9, hV9⟩ : ∃ W, W = w12.alloc (Obj.cells #[Value.int .i64 (A : Int), Value.int .i64 (b : Int), Value.int .i64 x1, Value.int .i64 x2, Value.int .i64 x3] 70) := ⟨_, rfl⟩
                rw [← hV9]
                have e9 : V9.heap[w12.heap.size]? = some (.cells #[Value.int .i64 (A : Int), Value.int .i64 (b : Int), Value.int .i64 x1, Value.int .i64 x2, Value.int .i64 x3] 70 (0, 0)) := by rw [hV9]; exact heap_alloc_new _ _
                have bw9 : Below w12.heap.size w12 V9 := by rw [hV9]; exact below_new _ _
                have u9 := (unhide HU13).below bw9
                have y9 := (unhide HY13).below bw9
                have o9 := own_below (unhide HO13) bw9
                have c9 := (unhide HC13).below bw9 hB
                have k9 : Kept (fun k => k = g) w V9 := (unhide HK13).trans (Kept.of_below bw9)
                have f0 : V9.cell? ⟨w12.heap.size, 0, none⟩ = some (.int .i64 (A : Int)) := by rw [cell_of_row V9 w12.heap.size 0 _ 70 (0, 0) e9]; rfl
                have f1 : V9.cell? ⟨w12.heap.size, 1, none⟩ = some (.int .i64 (b : Int)) := by rw [cell_of_row V9 w12.heap.size 1 _ 70 (0, 0) e9]; rfl
                have f2 : V9.cell? ⟨w12.heap.size, 2, none⟩ = some (.int .i64 x1) := by rw [cell_of_row V9 w12.heap.size 2 _ 70 (0, 0) e9]; rfl
                have f3 : V9.cell? ⟨w12.heap.size, 3, none⟩ = some (.int .i64 x2) := by rw [cell_of_row V9 w12.heap.size 3 _ 70 (0, 0) e9]; rfl
                have f4 : V9.cell? ⟨w12.heap.size, 4, none⟩ = some (.int .i64 x3) := by rw [cell_of_row V9 w12.heap.size 4 _ 70 (0, 0) e9]; rfl
                obtain ⟨q0, q1⟩ := u9.cells
                have HU9 := hide u9
                have HY9 := hide y9
                have HC9 := hide c9
                have HK9 := hide k9
                have z9 : g3 < V9.heap.size := u9.lt
                have hw9 : w12.heap.size < V9.heap.size := by rw [hV9]; simp
                clear hV9 e9 bw9 u9 y9 c9 k9
                go_wp2_with (at_builtin; refine wpList_append_own _ rfl _ _ 24 rfl (g3 + 1) 70 i1 (.agg #[.int .i64 0, .int .i64 0, .int .i64 0, .int .i64 0, .int .i64 0]) 5 40 Try.underlying24 hi1 hz0 hz1 hz2 rfl (by decide) _ l13 _ rfl (o9.alloc _) ⟨V9.heap.size, 0, none⟩ 1 1 [.int .i64 (A : Int), .int .i64 (b : Int), .int .i64 x1, .int .i64 x2, .int .i64 x3] rfl rfl (news_edge5 _ _ _ _ _ _ _) (edge5_one _ _ _ _ _) ?_ ?_ ?_ ?_)
                · unfold maxLen; omega
                · omega
                · simp; omega
                intro v4 w14 hown4 hgrow4 _
                have bn := below_new V9 (Obj.cells #[Value.int .i64 (A : Int), Value.int .i64 (b : Int), Value.int .i64 x1, Value.int .i64 x2, Value.int .i64 x3] 70)
                have hkg := Kept.of_grown hgrow4
                have u14 : GBox w14 g3 s (.slice P13 l13 C13) := ((unhide HU9).below bn).kept hkg (fun e => by have := unhide HGL _ e; omega)
                have y14 : GBox w14 w.heap.size 0 (.slice none 0 0) := ((unhide HY9).below bn).kept hkg (fun e => by have := unhide HGL _ e; omega)
                have c14 : CC a len cap g B w14 := ((unhide HC9).below bn hB).kept hkg hB (fun k e => by have := unhide HGL _ e; omega)
                have k14 : Kept (fun k => k = g) w w14 := by
                  have k15 := (unhide HK9).trans (Kept.of_below bn)
                  exact ⟨hkg.1.trans k15.1, hkg.2.1.trans k15.2.1, hkg.2.2.1.trans k15.2.2.1, Nat.le_trans k15.2.2.2.1 hkg.2.2.2.1, fun i hi hn => (hkg.2.2.2.2 i (Nat.lt_of_lt_of_le hi k15.2.2.2.1) (fun e => by have := unhide HGL _ e; omega)).trans (k15.2.2.2.2 i hi hn)⟩
                obtain ⟨A4, C4, rfl⟩ : ∃ A c, v4 = .slice A (l13 + 1) c := by
                  rcases hown4.2 with ⟨rfl, h0⟩ | ⟨g, cap, cur, rfl, _⟩
                  · omega
                  · exact ⟨_, _, rfl⟩
                have hsn2 : edgesV Q13 ++ [.int .i64 (A : Int), .int .i64 (b : Int), .int .i64 x1, .int .i64 x2, .int .i64 x3] = edgesV (Q13 ++ [⟨(A : Int), (b : Int), x1, x2, x3⟩]) := (edgesV_snoc Q13 ⟨(A : Int), (b : Int), x1, x2, x3⟩).symm
                rw [hsn2] at hown4
                have hko : Kept (fun i => i = g3) w14 (w14.setCell ⟨g3, 1, none⟩ (.slice A4 (l13 + 1) C4)) := Kept.set (S := fun i => i = g3) _ _ _ _ rfl
                have hex : edgeOk s ⟨(A : Int), (b : Int), x1, x2, x3⟩ = true := by
                  unfold edgeOk worthOk
                  simp
                  omega
                have HGN : Hid (GD a len cap g B w g3 s (A : Int) ((b : Int) + 1) (9 * A + b + 1) (w14.setCell ⟨g3, 1, none⟩ (.slice A4 (l13 + 1) C4))) :=
                  ⟨c14.kept hko hB (fun k hk => by omega), y14.kept hko (by omega), ⟨hko.1.trans k14.1, hko.2.1.trans k14.2.1, hko.2.2.1.trans k14.2.2.1, Nat.le_trans k14.2.2.2.1 hko.2.2.2.1, fun i hi hn => (hko.2.2.2.2 i (Nat.lt_of_lt_of_le hi k14.2.2.2.1) (by omega)).trans (k14.2.2.2.2 i hi hn)⟩, l13 + 1, _, A4, C4, (unhide HQ13).step _ hex rfl rfl, u14.one _, hko.own hown4 (fun k hk e => by have := (hown4.lt k hk).1; omega)⟩
                obtain ⟨r0, r1⟩ := u14.cells
                have rf := u14.froz
                clear hown4 hgrow4 hko bn hkg u14 y14 c14 k14 o9 q0 q1 f0 f1 f2 f3 f4 hsn2 hex
                go_wp2
                go_roundw
                case rel => exact ⟨b + 1, by go_num, by omega, by omega, by rw [Int.natCast_add]; exact unhide HGN⟩
                case measure => simp [intOf]; omega
              · go_upto_region 15 with fail
                obtain ⟨V9, hV9⟩ : ∃ W, W = w12.alloc (Obj.cells #[Value.int .i64 (A : Int), Value.int .i64 (b : Int), Value.int .i64 x1, Value.int .i64 0, Value.int .i64 0] 70) := ⟨_, rfl⟩
                rw [← hV9]
                have e9 : V9.heap[w12.heap.size]? = some (.cells #[Value.int .i64 (A : Int), Value.int .i64 (b : Int), Value.int .i64 x1, Value.int .i64 0, Value.int .i64 0] 70 (0, 0)) := by rw [hV9]; exact heap_alloc_new _ _
                have bw9 : Below w12.heap.size w12 V9 := by rw [hV9]; exact below_new _ _
                have u9 := (unhide HU13).below bw9
                have y9 := (unhide HY13).below bw9
                have o9 := own_below (unhide HO13) bw9
                have c9 := (unhide HC13).below bw9 hB
                have k9 : Kept (fun k => k = g) w V9 := (unhide HK13).trans (Kept.of_below bw9)
                have f0 : V9.cell? ⟨w12.heap.size, 0, none⟩ = some (.int .i64 (A : Int)) := by rw [cell_of_row V9 w12.heap.size 0 _ 70 (0, 0) e9]; rfl
                have f1 : V9.cell? ⟨w12.heap.size, 1, none⟩ = some (.int .i64 (b : Int)) := by rw [cell_of_row V9 w12.heap.size 1 _ 70 (0, 0) e9]; rfl
                have f2 : V9.cell? ⟨w12.heap.size, 2, none⟩ = some (.int .i64 x1) := by rw [cell_of_row V9 w12.heap.size 2 _ 70 (0, 0) e9]; rfl
                have f3 : V9.cell? ⟨w12.heap.size, 3, none⟩ = some (.int .i64 0) := by rw [cell_of_row V9 w12.heap.size 3 _ 70 (0, 0) e9]; rfl
                have f4 : V9.cell? ⟨w12.heap.size, 4, none⟩ = some (.int .i64 0) := by rw [cell_of_row V9 w12.heap.size 4 _ 70 (0, 0) e9]; rfl
                obtain ⟨q0, q1⟩ := u9.cells
                have HU9 := hide u9
                have HY9 := hide y9
                have HC9 := hide c9
                have HK9 := hide k9
                have z9 : g3 < V9.heap.size := u9.lt
                have hw9 : w12.heap.size < V9.heap.size := by rw [hV9]; simp
                clear hV9 e9 bw9 u9 y9 c9 k9
                go_wp2_with (at_builtin; refine wpList_append_own _ rfl _ _ 24 rfl (g3 + 1) 70 i1 (.agg #[.int .i64 0, .int .i64 0, .int .i64 0, .int .i64 0, .int .i64 0]) 5 40 Try.underlying24 hi1 hz0 hz1 hz2 rfl (by decide) _ l13 _ rfl (o9.alloc _) ⟨V9.heap.size, 0, none⟩ 1 1 [.int .i64 (A : Int), .int .i64 (b : Int), .int .i64 x1, .int .i64 0, .int .i64 0] rfl rfl (news_edge5 _ _ _ _ _ _ _) (edge5_one _ _ _ _ _) ?_ ?_ ?_ ?_)
                · unfold maxLen; omega
                · omega
                · simp; omega
                intro v4 w14 hown4 hgrow4 _
                have bn := below_new V9 (Obj.cells #[Value.int .i64 (A : Int), Value.int .i64 (b : Int), Value.int .i64 x1, Value.int .i64 0, Value.int .i64 0] 70)
                have hkg := Kept.of_grown hgrow4
                have u14 : GBox w14 g3 s (.slice P13 l13 C13) := ((unhide HU9).below bn).kept hkg (fun e => by have := unhide HGL _ e; omega)
                have y14 : GBox w14 w.heap.size 0 (.slice none 0 0) := ((unhide HY9).below bn).kept hkg (fun e => by have := unhide HGL _ e; omega)
                have c14 : CC a len cap g B w14 := ((unhide HC9).below bn hB).kept hkg hB (fun k e => by have := unhide HGL _ e; omega)
                have k14 : Kept (fun k => k = g) w w14 := by
                  have k15 := (unhide HK9).trans (Kept.of_below bn)
                  exact ⟨hkg.1.trans k15.1, hkg.2.1.trans k15.2.1, hkg.2.2.1.trans k15.2.2.1, Nat.le_trans k15.2.2.2.1 hkg.2.2.2.1, fun i hi hn => (hkg.2.2.2.2 i (Nat.lt_of_lt_of_le hi k15.2.2.2.1) (fun e => by have := unhide HGL _ e; omega)).trans (k15.2.2.2.2 i hi hn)⟩
                obtain ⟨A4, C4, rfl⟩ : ∃ A c, v4 = .slice A (l13 + 1) c := by
                  rcases hown4.2 with ⟨rfl, h0⟩ | ⟨g, cap, cur, rfl, _⟩
                  · omega
                  · exact ⟨_, _, rfl⟩
                have hsn2 : edgesV Q13 ++ [.int .i64 (A : Int), .int .i64 (b : Int), .int .i64 x1, .int .i64 0, .int .i64 0] = edgesV (Q13 ++ [⟨(A : Int), (b : Int), x1, 0, 0⟩]) := (edgesV_snoc Q13 ⟨(A : Int), (b : Int), x1, 0, 0⟩).symm
                rw [hsn2] at hown4
                have hko : Kept (fun i => i = g3) w14 (w14.setCell ⟨g3, 1, none⟩ (.slice A4 (l13 + 1) C4)) := Kept.set (S := fun i => i = g3) _ _ _ _ rfl
                have hex : edgeOk s ⟨(A : Int), (b : Int), x1, 0, 0⟩ = true := by
                  unfold edgeOk worthOk
                  simp
                  omega
                have HGN : Hid (GD a len cap g B w g3 s (A : Int) ((b : Int) + 1) (9 * A + b + 1) (w14.setCell ⟨g3, 1, none⟩ (.slice A4 (l13 + 1) C4))) :=
                  ⟨c14.kept hko hB (fun k hk => by omega), y14.kept hko (by omega), ⟨hko.1.trans k14.1, hko.2.1.trans k14.2.1, hko.2.2.1.trans k14.2.2.1, Nat.le_trans k14.2.2.2.1 hko.2.2.2.1, fun i hi hn => (hko.2.2.2.2 i (Nat.lt_of_lt_of_le hi k14.2.2.2.1) (by omega)).trans (k14.2.2.2.2 i hi hn)⟩, l13 + 1, _, A4, C4, (unhide HQ13).step _ hex rfl rfl, u14.one _, hko.own hown4 (fun k hk e => by have := (hown4.lt k hk).1; omega)⟩
                obtain ⟨r0, r1⟩ := u14.cells
                have rf := u14.froz
                clear hown4 hgrow4 hko bn hkg u14 y14 c14 k14 o9 q0 q1 f0 f1 f2 f3 f4 hsn2 hex
                go_wp2
                go_roundw
                case rel => exact ⟨b + 1, by go_num, by omega, by omega, by rw [Int.natCast_add]; exact unhide HGN⟩
                case measure => simp [intOf]; omega
            · have hd4 : ((1 + d) == 3) = false := by simpa using hd3
              go_wp2
              go_roundw
              case rel => exact ⟨b + 1, by go_num, by omega, by omega, (unhide HGF).skip (by omega) (by omega)⟩
              case measure => simp [intOf]; omega
        · go_wp2
          go_roundw
          case rel => exact ⟨A + 1, by go_num, by omega, (unhide HGE).next (by omega)⟩
          case measure => simp [intOf]; omega
    · have HY7 := hide y7
      have HO7 := hide o7
      have HU7 := hide u7
      obtain ⟨t0, t1⟩ := y7.cells
      have tf := y7.froz
      obtain ⟨hq0, hq1, hq2, hq3⟩ := q7
      have HQ := hide hq2
      have HLQ := hide hq0
      have HCC7 := hide (unhide HGD).1
      clear y7 o7 u7 hq0 hq2 hq3
      go_wp2
      (try simp only [Exit.inBlock, Exit.then])
      have hk9 : Kept (fun i => i = w.heap.size) wr ((wr.setCell ⟨w.heap.size, 0, none⟩ (.int .i64 s)).setCell ⟨w.heap.size, 1, none⟩ (.slice P7 l7 C7)) :=
        (Kept.set (S := fun i => i = w.heap.size) _ _ _ _ rfl).trans (Kept.set (S := fun i => i = w.heap.size) _ _ _ _ rfl)
      refine bodyPost_ret (results_graph1 Try.results12 _ _ w.heap.size _ _ rfl ((unhide HY7).two s (.slice P7 l7 C7))) rfl ?_
      refine ⟨⟨_, rfl, s, Q7, ⟨_, rfl, ?_⟩, ?_, (by have := unhide HLQ; omega)⟩, (unhide HCC7).kept hk9 hB (fun k hk => by omega), ⟨hk9.1.trans k7.1, hk9.2.1.trans k7.2.1, hk9.2.2.1.trans k7.2.2.1, Nat.le_trans k7.2.2.2.1 hk9.2.2.2.1, fun i hi hn => (hk9.2.2.2.2 i (Nat.lt_of_lt_of_le hi k7.2.2.2.1) (by omega)).trans (k7.2.2.2.2 i hi hn)⟩⟩
      · rw [← unhide HLQ]
        exact own_lower (by omega) (hk9.own (unhide HO7) (fun k hk e => by have := ((unhide HO7).lt k hk).1; omega))
      · unfold graphOk
        rw [unhide HQ, decide_eq_true hs0, decide_eq_true (show s ≤ 9 by omega)]
        rfl
theorem big_is (a : Option Addr) (len cap : Nat) (w : World) :
    Calls Try.prog 4 #[.slice a len cap] w fun e w' => e = .returned (.bool (decide ((1048576 : Int) < (len : Int)))) ∧ w' = w := by
  go_enter Try.func4, Try.ntmps4
  go_wp2
  go_ret
  exact ⟨rfl, rfl⟩
theorem one_int (x : Int) : ∀ u ∈ [Value.int .i64 x], u.oneCell' = true := fun u hu => by simp at hu; rw [hu]; rfl
theorem intsV_snoc (K : List Int) (x : Int) : intsV (K ++ [x]) = intsV K ++ [.int .i64 x] := by simp [intsV]
theorem own_shapeP {w : World} {B e s n : Nat} {v : Value} {xs : List Value} (h : w.ownsRow B e s v n xs) : ∃ A c, v = .slice A n c := by
  rcases h.2 with ⟨rfl, rfl⟩ | ⟨g, cap, cur, rfl, _⟩
  · exact ⟨none, 0, rfl⟩
  · exact ⟨_, cap, rfl⟩
/-- What stands while places are drawn. -/
def PD (a : Option Addr) (len cap g B : Nat) (w : World) (i : Nat) (v : Value) (wr : World) : Prop :=
  CC a len cap g B wr ∧ Kept (fun k => k = g) w wr ∧ ∃ K : List Int, K.length = i ∧ wr.ownsRow w.heap.size 3 1 v i (intsV K)
end Gr
end Go.Proofs.Ytnihoabminnbcaa
