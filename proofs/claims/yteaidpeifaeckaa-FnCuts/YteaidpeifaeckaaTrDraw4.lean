/-
  The contract of spec.DrawCutItems: a kind and a row of at most 122 small items, new; nothing old is written.
-/
import Derived.Test.YteaidpeifaeckaaTrDraw3
import Derived.Test.YteaidpeifaeckaaTrCopy
import Derived.Deep.RegionHeld3
import Derived.Maps.AppendAt
namespace Go.Proofs.Yteaidpeifaeckaa
namespace Tr
open Go.RowKit
open Go.Proofs.Yteaidpeifaeckaa.Pg hiding part part_zero part_all part_length part_set

theorem its_one (x s : ByteArray) (p : Int) : ∀ u ∈ [Value.string x, Value.string s, Value.int .i64 p], u.oneCell' = true := by
  intro u hu
  simp only [List.mem_cons, List.mem_nil_iff, or_false] at hu
  rcases hu with rfl | rfl | rfl <;> rfl

theorem its_news (W : World) (x s : ByteArray) (p : Int) (t : TypeId) : ∀ j u, [Value.string x, Value.string s, Value.int .i64 p][j]? = some u → (W.alloc (Obj.cells #[.string x, .string s, .int .i64 p] t)).cell? ((⟨W.heap.size, 0, none⟩ : Addr).add j) = some u :=
  World.news_of_block (heap_alloc_new W (Obj.cells #[.string x, .string s, .int .i64 p] t))

/-- What stands while a row of items is drawn. -/
structure ID (a : Option Addr) (len cap : Nat) (w : World) (mv : Value) (L : PL) (ov : Value) (Q : List It) (wr : World) : Prop where
  own : wr.ownsRow (w.heap.size + 1) 30 3 ov Q.length (itsV Q)
  mow : wr.ownsRow (w.heap.size + 1) 38 2 mv L.length (pairsV L)
  dis : ∀ k, ov.ownBlock = some k → mv.ownBlock ≠ some k
  cur : Cur a len cap w.heap.size wr
  code : Pg.Code a len w.heap.size wr
  bel : Below w.heap.size w wr

theorem ID.drawn {a : Option Addr} {len cap : Nat} {w : World} {mv : Value} {L : PL} {ov : Value} {Q : List It} {wr w' : World} (h : ID a len cap w mv L ov Q wr) (hc : Cur a len cap w.heap.size w') (hg : wr.grownBy w' (some w.heap.size)) : ID a len cap w mv L ov Q w' :=
  ⟨h.own.kept hg (Or.inr (fun e => by have := (h.own.lt _ e).1; omega)), h.mow.kept hg (Or.inr (fun e => by have := (h.mow.lt _ e).1; omega)), h.dis, hc, h.code.grown (Nat.le_refl _) hg, h.bel.grown hg h.bel.size (fun k hk => by have := Option.some.inj hk; omega)⟩

theorem ID.below {a : Option Addr} {len cap : Nat} {w : World} {mv : Value} {L : PL} {ov : Value} {Q : List It} {wr w' : World} (h : ID a len cap w mv L ov Q wr) (hb : Below wr.heap.size wr w') : ID a len cap w mv L ov Q w' :=
  ⟨own_below h.own hb, own_below h.mow hb, h.dis, h.cur.kept (S := fun _ => False) (Kept.of_below hb) (by simp), h.code.below hb h.bel.size, h.bel.trans (hb.mono h.bel.size)⟩

/-- An item is put on. -/
theorem ID.snoc {a : Option Addr} {len cap : Nat} {w : World} {mv : Value} {L : PL} {ov v' : Value} {Q : List It} {wr w' : World} (x : It) (h : ID a len cap w mv L ov Q wr)
    (ho : w'.ownsRow (w.heap.size + 1) 30 3 v' (Q.length + 1) (itsV Q ++ [.string x.key, .string x.val, .int .i64 x.pg])) (hg7 : (wr.alloc (.cells #[.string x.key, .string x.val, .int .i64 x.pg] 30)).grownBy w' ov.ownBlock)
    (hat : v'.ownBlock = ov.ownBlock ∨ v'.ownBlock = some (wr.heap.size + 1)) : ID a len cap w mv L v' (Q ++ [x]) w' := by
  have hP : ∀ k, ov.ownBlock = some k → w.heap.size + 1 ≤ k := fun k hk => (h.own.lt k hk).1
  have h2 := h.below (below_new wr (Obj.cells #[.string x.key, .string x.val, .int .i64 x.pg] 30))
  have hkg := Kept.of_grown hg7
  rw [← itsV_snoc] at ho
  refine ⟨by rw [List.length_append]; exact ho, hkg.own h2.mow (fun k hk e => h.dis k e hk), fun k hk e => ?_, h2.cur.kept hkg (fun e => by have := hP _ e; omega), h2.code.row (fun k hk => by have := hP _ hk; omega) hg7, h2.bel.grown hg7 h2.bel.size (fun k hk => by have := hP _ hk; omega)⟩
  rcases hat with h1 | h1
  · exact h.dis k (h1.symm.trans hk) e
  · have h3 := Option.some.inj (h1.symm.trans hk)
    have h4 := (h2.mow.lt k e).2
    simp at h4
    omega

theorem cell_put {w : World} {X j b i : Nat} {u v : Value} (h : w.cell? ⟨b, i, none⟩ = some v) (hn : ¬ b = X) : (w.setCell ⟨X, j, none⟩ u).cell? ⟨b, i, none⟩ = some v :=
  (World.cell?_of_block (Below.heap_setCell _ _ _ _ (fun e => hn e))).trans h

/-- A cell elsewhere is written. -/
theorem ID.put {a : Option Addr} {len cap : Nat} {w : World} {mv : Value} {L : PL} {ov : Value} {Q : List It} {wr : World} (h : ID a len cap w mv L ov Q wr) (X j : Nat) (v : Value) (hX : w.heap.size < X) (h1 : ∀ k, ov.ownBlock = some k → k ≠ X) (h2 : ∀ k, mv.ownBlock = some k → k ≠ X) : ID a len cap w mv L ov Q (wr.setCell ⟨X, j, none⟩ v) := by
  have hk : Kept (fun k => k = X) wr (wr.setCell ⟨X, j, none⟩ v) := Kept.set _ _ _ _ rfl
  exact ⟨hk.own h.own h1, hk.own h.mow h2, h.dis, h.cur.kept hk (by omega), h.code.below (hk.below h.bel.size (fun i hi => by omega)) (Nat.le_refl _), h.bel.trans (hk.below h.bel.size (fun i hi => by omega))⟩

theorem small_on {Q : List It} {x : It} (h : ∀ z ∈ Q, z.key.size ≤ 100 ∧ z.val.size ≤ 100) (h1 : x.key.size ≤ 100) (h2 : x.val.size ≤ 100) : ∀ z ∈ Q ++ [x], z.key.size ≤ 100 ∧ z.val.size ≤ 100 := fun z hz => by
  rcases List.mem_append.1 hz with h' | h'
  · exact h z h'
  · obtain rfl := List.mem_singleton.1 h'
    exact ⟨h1, h2⟩

theorem ID.pair {a : Option Addr} {len cap : Nat} {w : World} {ma : Option Addr} {n mc : Nat} {L : PL} {ov : Value} {Q : List It} {wr : World} (h : ID a len cap w (.slice ma n mc) L ov Q wr) (j : Nat) (hj : j < L.length) : ∃ b, ma = some ⟨b, 0, none⟩ ∧ wr.cell? ⟨b, j * 2, none⟩ = some (.string L[j].1) ∧ wr.cell? ⟨b, j * 2 + 1, none⟩ = some (.string L[j].2) := by
  rcases h.mow.2 with ⟨e0, h0⟩ | ⟨g, cap, cur, e1, hg, hh, _⟩
  · omega
  · simp only [Value.slice.injEq] at e1
    obtain ⟨rfl, e2, _⟩ := e1
    subst e2
    refine ⟨g, rfl, ?_, ?_⟩
    · rw [h.mow.cellAt (j * 2) (by omega)]
      exact (pairsV_at L j hj).1
    · rw [h.mow.cellAt (j * 2 + 1) (by omega)]
      exact (pairsV_at L j hj).2

set_option maxRecDepth 100000 in
set_option maxHeartbeats 2000000 in
theorem drawCut_any (a : Option Addr) (len cap : Nat) (hl : len ≤ 1048576) (w : World) (hd : Pg.Code a len w.heap.size w) :
    Calls Try.prog 5 #[.slice a len cap] w fun e w' => (∃ (k : Int) (v : Value) (Q : List It), e = .returned (.tuple #[.int .i64 k, v]) ∧ 0 ≤ k ∧ k ≤ 3 ∧ w'.ownsRow w.heap.size 30 3 v Q.length (itsV Q) ∧ Q.length ≤ 122 ∧ ∀ x ∈ Q, x.key.size ≤ 100 ∧ x.val.size ≤ 100) ∧ Below w.heap.size w w' := by
  obtain ⟨i1, hj1, hy0, hy1, hy2⟩ := info_parts infoItem
  have HN := hide (new_any a len cap hl w hd)
  have HD := hide hd
  clear hd
  go_enter Try.func5, Try.ntmps5
  go_wp2_with fail
  refine (unhide HN).mono ?_
  rintro e w1 ⟨rfl, hc1, hb1⟩
  have hd1 := (unhide HD).below hb1 (Nat.le_refl _)
  have hz1 := hc1.lt
  have hb2 := below_new w1 (Obj.cells #[] 30)
  have HBK := hide (below_any a len cap w.heap.size w.heap.size 4 hl (Nat.le_refl _) (by omega) _ (hc1.alloc (Obj.cells #[] 30)) (hd1.alloc (Obj.cells #[] 30)))
  clear hb2
  have HC1 := hide hc1
  have HD1 := hide hd1
  have HB1 := hide hb1
  clear hc1 hd1 hb1 HN
  go_wp2_with fail
  refine (unhide HBK).mono ?_
  rintro e w2 ⟨k, rfl, hk0, hk1, hc2, hg2⟩
  have HC2 := hide hc2
  have HD2 := hide (((unhide HD1).alloc (Obj.cells #[] 30)).grown (Nat.le_refl _) hg2)
  have HA := hide (anyMap_any a len cap w.heap.size w.heap.size hl (Nat.le_refl _) w2 (unhide HC2).lt (unhide HC2) (unhide HD2))
  have HG2 := hide hg2
  clear hc2 hg2
  go_wp2_with fail
  refine (unhide HA).mono ?_
  rintro e w3 ⟨⟨d, L, rfl, ho3, hL, hS⟩, hc3, hk3⟩
  obtain ⟨ma, mc, rfl, _⟩ := PairsAt.of_own ho3
  have hI : ID a len cap w (.slice ma L.length mc) L (.slice (some ⟨w1.heap.size, 0, none⟩) 0 0) [] w3 := by
    have hz2 : w1.heap.size + 1 ≤ w2.heap.size := by have := (unhide HG2).size; simp at this; omega
    have hown : (w1.alloc (Obj.cells #[] 30)).ownsRow (w.heap.size + 1) 30 3 (.slice (some ⟨w1.heap.size, 0, none⟩) 0 0) 0 (itsV []) := World.ownsRow_made w1 #[] 0 (by omega) (Nat.zero_le _) rfl
    have hown2 := hown.kept (unhide HG2) (Or.inr (fun e => by simp [Value.ownBlock] at e; omega))
    have hb12 : Below w.heap.size w w2 := ((unhide HB1).trans ((below_new w1 _).mono (by omega))).grown (unhide HG2) (by simp; omega) (fun k hk => by have := Option.some.inj hk; omega)
    refine ⟨hk3.own hown2 (fun k hk => by simp [Value.ownBlock] at hk; omega), own_lower (by omega) ho3, fun k hk e => ?_, hc3, codeK (unhide HD2) (Nat.le_refl _) (unhide HC2).lt hk3, hb12.trans (hk3.below hb12.size (fun i hi => by omega))⟩
    simp [Value.ownBlock] at hk
    have := (ho3.lt k e).1
    omega
  have HI := hide hI
  have HS := hide hS
  clear hI hS ho3 hc3 hk3 HG2 HA HD2 HC2 HB1 HD1 HC1 HBK HD
  go_wp2_with fail
  go_loopw [5, 8] (fun ov iv wr => ∃ (j : Nat) (Q : List It), iv = .int .i64 (j : Int) ∧ j ≤ L.length ∧ Q.length = j ∧ Hid (∀ x ∈ Q, x.key.size ≤ 100 ∧ x.val.size ≤ 100) ∧ Hid (ID a len cap w (.slice ma L.length mc) L ov Q wr)) (fun _ iv _ => L.length - (intOf iv).toNat)
  case atStart => exact ⟨0, [], rfl, Nat.zero_le _, rfl, by intro x hx; simp at hx, unhide HI⟩
  case round =>
    obtain ⟨j, Q, rfl, hj, hQ, HQ, HI2⟩ := hrel
    clear HI
    by_cases hlt : j < L.length
    · obtain ⟨b, hbe, hc0, hc1⟩ := (unhide HI2).pair j hlt
      subst hbe
      have hsm := unhide HS _ (List.getElem_mem hlt)
      generalize L[j].1 = x at hc0 hsm
      generalize L[j].2 = y at hc1 hsm
      have hx0 : (0 : Int) ≤ (j : Int) := by omega
      have hx1 : (j : Int) < (L.length : Int) := by omega
      have hbl : b < wr.heap.size := by
        rcases Nat.lt_or_ge b wr.heap.size with h | h
        · exact h
        · exact absurd hc0 (by simp [World.cell?, Array.getElem?_eq_none h])
      go_wp2_with fail
      go_region_held3 (fun u => u.cell? ⟨b, j * 2, none⟩ = some (.string x) ∧ u.cell? ⟨b, j * 2 + 1, none⟩ = some (.string y))
        (first | go_keep) (first | fail)
      all_goals
        obtain ⟨U, hU⟩ : ∃ W, W = (wr.alloc (Obj.cells #[Value.string x, Value.string y, Value.int .i64 0] 30)).drew := ⟨_, rfl⟩
        rw [← hU]
        have hbU : Below wr.heap.size wr U := by rw [hU]; exact (below_new _ _).drew
        have hX : U.heap[wr.heap.size]? = some (.cells #[Value.string x, Value.string y, Value.int .i64 0] 30 (0, 0)) := by rw [hU]; exact heap_alloc_new wr _
        have HIU := hide ((unhide HI2).below hbU)
        have hbX : ¬ b = wr.heap.size := by omega
        have HXl : w.heap.size < wr.heap.size := (unhide HI2).cur.lt
        have d0 : U.cell? ⟨b, j * 2, none⟩ = some (.string x) := (hbU.cell (p := ⟨b, j * 2, none⟩) hbl).trans hc0
        have hOX : ∀ k, u5.ownBlock = some k → k ≠ wr.heap.size := fun k hk => by have := ((unhide HI2).own.lt k hk).2; omega
        obtain ⟨X, hXe⟩ : ∃ X, X = wr.heap.size := ⟨_, rfl⟩
        rw [← hXe] at hX hbX HXl hOX ⊢
        clear hU hbU hc0 hc1 HI2 hbl hXe
        by_cases hk2 : k = 2
        · subst hk2
          have HB10 := hide (below_any a len cap w.heap.size w.heap.size 300 hl (Nat.le_refl _) (by omega) U.drew (unhide HIU).cur (unhide HIU).code)
          have hXU : X < U.heap.size := by
            rcases Nat.lt_or_ge X U.heap.size with h | h
            · exact h
            · rw [Array.getElem?_eq_none h] at hX; cases hX
          have hbU : b < U.heap.size := ((unhide HIU).mow.lt b rfl).2
          have hbg : w.heap.size < b := ((unhide HIU).mow.lt b rfl).1
          go_wp2_with fail
          go_region_held3 (fun u => u.cell? ⟨b, j * 2, none⟩ = some (.string x))
            (first | go_keep | exact (World.cell?_of_block (hg4.block b hbU (by simp; omega))).trans d0 | exact cell_put (cell_put (cell_put ((World.cell?_of_block (hg4.block b hbU (by simp; omega))).trans d0) hbX) hbX) hbX)
            ((go_at_call 9; refine (unhide HB10).mono ?_; rintro e w4 ⟨z, rfl, hz0, hz1, hc4, hg4⟩; have hX4 := (hg4.block X hXU (by simp; omega)).trans hX; obtain ⟨x0, x1, x2, xf⟩ := cell_of_three hX4; have xf0 := xf 0; have xf1 := xf 1; have xf2 := xf 2))
          all_goals
            have HI4 := hide (((unhide HIU).below (Below.refl _ _).drew).drawn hc4 hg4)
            have HB : ∀ k, (Value.slice (some ⟨b, 0, none⟩) L.length mc).ownBlock = some k → k ≠ X := fun k hk => by simp [Value.ownBlock] at hk; omega
            have hY := heap_setCell_same _ X 2 _ _ (.int .i64 z) (heap_setCell_same _ X 1 _ _ (.string ⟨#[]⟩) (heap_setCell_same _ X 0 _ _ (.string x) hX4))
            have HI5 := hide ((((unhide HI4).put X 0 (.string x) HXl hOX HB).put X 1 (.string ⟨#[]⟩) HXl hOX HB).put X 2 (.int .i64 z) HXl hOX HB)
            obtain ⟨V, hV⟩ : ∃ V, V = ((w4.setCell ⟨X, 0, none⟩ (.string x)).setCell ⟨X, 1, none⟩ (.string ⟨#[]⟩)).setCell ⟨X, 2, none⟩ (.int .i64 z) := ⟨_, rfl⟩
            rw [← hV] at hY HI5 ⊢
            clear hV HI4 hX4 xf x0 x1 x2 xf0 xf1 xf2 hc4 hg4 HIU HB10 hX d0
            obtain ⟨x0, x1, x2, xf⟩ := cell_of_three hY
            have ho5 := (unhide HI5).own
            have hL5 : Q.length ≤ 130 := by omega
            have hz5 : w.heap.size + 1 ≤ V.heap.size := by have := (unhide HI5).cur.lt; omega
            go_wp2_with (at_builtin; refine wpList_append_own_at _ rfl _ _ 24 rfl (w.heap.size + 1) 30 i1 (.agg #[.string ⟨#[]⟩, .string ⟨#[]⟩, .int .i64 0]) 3 40 Try.underlying24 hj1 hy0 hy1 hy2 rfl (by decide) _ _ _ rfl (ho5.alloc _) ⟨V.heap.size, 0, none⟩ 1 1 [.string x, .string ⟨#[]⟩, .int .i64 z] rfl rfl (its_news _ _ _ _ _) (its_one _ _ _) ?_ ?_ ?_ ?_)
            · unfold maxLen; omega
            · omega
            · simp; omega
            intro v' w7 ho7 hg7 _ hat7
            rw [← hQ] at ho7
            have HI7 := hide ((unhide HI5).snoc ⟨x, ⟨#[]⟩, z⟩ ho7 hg7 (by simpa using hat7))
            clear ho5 ho7 hg7 hat7 HI5
            have HQ7 : Hid (∀ q ∈ Q ++ [(⟨x, ⟨#[]⟩, z⟩ : It)], q.key.size ≤ 100 ∧ q.val.size ≤ 100) := small_on (unhide HQ) (by show x.size ≤ 100; omega) (by show (⟨#[]⟩ : ByteArray).size ≤ 100; decide)
            clear HQ hY xf x0 x1 x2
            go_wp2
            go_roundw
            case rel => exact ⟨j + 1, Q ++ [(⟨x, ⟨#[]⟩, z⟩ : It)], by go_num, by omega, by simp; omega, HQ7, HI7⟩
            case measure => simp [intOf]; omega
        · obtain ⟨x0, x1, x2, xf⟩ := cell_of_three hX
          have ho5 := (unhide HIU).own
          have hL5 : Q.length ≤ 130 := by omega
          have hz5 : w.heap.size + 1 ≤ U.heap.size := by have := (unhide HIU).cur.lt; omega
          go_wp2_with (at_builtin; refine wpList_append_own_at _ rfl _ _ 24 rfl (w.heap.size + 1) 30 i1 (.agg #[.string ⟨#[]⟩, .string ⟨#[]⟩, .int .i64 0]) 3 40 Try.underlying24 hj1 hy0 hy1 hy2 rfl (by decide) _ _ _ rfl (ho5.alloc _) ⟨U.heap.size, 0, none⟩ 1 1 [.string x, .string y, .int .i64 0] rfl rfl (its_news _ _ _ _ _) (its_one _ _ _) ?_ ?_ ?_ ?_)
          · unfold maxLen; omega
          · omega
          · simp; omega
          intro v' w7 ho7 hg7 _ hat7
          rw [← hQ] at ho7
          have HI7 := hide ((unhide HIU).snoc ⟨x, y, 0⟩ ho7 hg7 hat7)
          clear ho5 ho7 hg7 hat7 HIU
          have HQ7 : Hid (∀ z ∈ Q ++ [(⟨x, y, 0⟩ : It)], z.key.size ≤ 100 ∧ z.val.size ≤ 100) := small_on (unhide HQ) (by show x.size ≤ 100; omega) (by show y.size ≤ 100; omega)
          clear HQ hX xf x0 x1 x2
          go_wp2
          go_roundw
          case rel => exact ⟨j + 1, Q ++ [(⟨x, y, 0⟩ : It)], by go_num, by omega, by simp; omega, HQ7, HI7⟩
          case measure => simp [intOf]; omega
    · have HON := hide (once_any a len cap w.heap.size w.heap.size 20 hl (Nat.le_refl _) (by omega) wr (unhide HI2).cur (unhide HI2).code)
      go_wp2_with fail
      refine (unhide HON).mono ?_
      rintro e w4 ⟨⟨bb, rfl⟩, hc4, hg4⟩
      have HI4 := hide ((unhide HI2).drawn hc4 hg4)
      clear hc4 hg4 HON HI2
      cases bb with
      | false =>
        go_wp2
        go_ret2
        exact ⟨⟨k, _, Q, rfl, hk0, by omega, own_lower (by omega) (unhide HI4).own, by omega, unhide HQ⟩, (unhide HI4).bel⟩
      | true =>
        have HLG := hide (long65_any 60 (by omega) w4)
        go_wp2_with fail
        refine (unhide HLG).mono ?_
        rintro e w5 ⟨⟨s, rfl, hs⟩, hb5⟩
        have HI5 := hide ((unhide HI4).below hb5)
        clear hb5 HI4 HLG
        have ho5 := (unhide HI5).own
        have hL5 : Q.length ≤ 130 := by omega
        have hz5 : w.heap.size + 1 ≤ w5.heap.size := by have := (unhide HI5).cur.lt; omega
        go_wp2_with (at_builtin; refine wpList_append_own_at _ rfl _ _ 24 rfl (w.heap.size + 1) 30 i1 (.agg #[.string ⟨#[]⟩, .string ⟨#[]⟩, .int .i64 0]) 3 40 Try.underlying24 hj1 hy0 hy1 hy2 rfl (by decide) _ _ _ rfl (ho5.alloc _) ⟨w5.heap.size, 0, none⟩ 1 1 [.string s, .string ⟨#[]⟩, .int .i64 0] rfl rfl (its_news _ _ _ _ _) (its_one _ _ _) ?_ ?_ ?_ ?_)
        · unfold maxLen; omega
        · omega
        · simp; omega
        intro v' w7 ho7 hg7 _ hat7
        rw [← hQ] at ho7
        have HI7 := hide ((unhide HI5).snoc ⟨s, ⟨#[]⟩, 0⟩ ho7 hg7 (by simpa using hat7))
        clear ho5 ho7 hg7 hat7 HI5
        have HQ7 : Hid (∀ q ∈ Q ++ [(⟨s, ⟨#[]⟩, 0⟩ : It)], q.key.size ≤ 100 ∧ q.val.size ≤ 100) := small_on (unhide HQ) (by show s.size ≤ 100; omega) (by show (⟨#[]⟩ : ByteArray).size ≤ 100; decide)
        clear HQ
        go_wp2
        go_ret2
        exact ⟨⟨k, _, Q ++ [(⟨s, ⟨#[]⟩, 0⟩ : It)], rfl, hk0, by omega, own_lower (by omega) (unhide HI7).own, by simp; omega, unhide HQ7⟩, (unhide HI7).bel⟩

end Tr
end Go.Proofs.Yteaidpeifaeckaa
