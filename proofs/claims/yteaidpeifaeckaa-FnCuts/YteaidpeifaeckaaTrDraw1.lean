/-
  What is drawn of maps: spec.l05Size, and the contract of spec.l05Map: some row of at most n small pairs, new; nothing old but the cursor is written.
-/
import Derived.Test.YteaidpeifaeckaaTrPair
import Derived.Test.YteaidpeifaeckaaDrawPKept
import Derived.Test.YteaidpeifaeckaaDrawPick
import Derived.Test.YteaidpeifaeckaaWDec
namespace Go.Proofs.Yteaidpeifaeckaa
namespace Tr
open Go.RowKit
open Go.Proofs.Yteaidpeifaeckaa.Pg hiding part part_zero part_all part_length part_set

abbrev PL := List (ByteArray × ByteArray)

/-- Small pairs. -/
def SmallP (L : PL) : Prop := ∀ q ∈ L, q.1.size ≤ 40 ∧ q.2.size ≤ 100

theorem SmallP.nil : SmallP [] := fun q h => by simp at h
theorem SmallP.snoc {L : PL} {x s : ByteArray} (h : SmallP L) (hx : x.size ≤ 40) (hs : s.size ≤ 100) : SmallP (L ++ [(x, s)]) := fun q hq => by
  rcases List.mem_append.1 hq with h1 | h1
  · exact h q h1
  · simp at h1
    rw [h1]
    exact ⟨hx, hs⟩

theorem pairsV_snoc (Q : PL) (x s : ByteArray) : pairsV (Q ++ [(x, s)]) = pairsV Q ++ [.string x, .string s] := by
  unfold pairsV
  rw [List.flatMap_append]
  rfl

theorem itoa_small (n : Int) (h0 : 0 ≤ n) (h1 : n ≤ 100000) : (⟨(Lib.itoa n).toArray⟩ : ByteArray).size ≤ 21 := by
  have := Lib.itoa_length_le n (by omega) (by omega)
  simp [ByteArray.size]
  omega

theorem codeK {a : Option Addr} {len B g : Nat} {w w' : World} (h : Pg.Code a len B w) (hB : B ≤ g) (hg : g < w.heap.size) (hk : Kept (fun k => k = g) w w') : Pg.Code a len B w' :=
  h.below (hk.below (Nat.le_of_lt hg) (fun i hi => by omega)) hB

theorem pair_news (W : World) (x s : ByteArray) (t : TypeId) : ∀ j u, [Value.string x, Value.string s][j]? = some u → (W.alloc (Obj.cells #[.string x, .string s] t)).cell? ((⟨W.heap.size, 0, none⟩ : Addr).add j) = some u :=
  World.news_of_block (heap_alloc_new W (Obj.cells #[.string x, .string s] t))

theorem pair_one (x s : ByteArray) : ∀ u ∈ [Value.string x, Value.string s], u.oneCell' = true := by
  intro u hu
  simp only [List.mem_cons, List.mem_nil_iff, or_false] at hu
  rcases hu with rfl | rfl <;> rfl

theorem size_any (a : Option Addr) (len cap : Nat) (hl : len ≤ 1048576) (w : World) :
    Calls Try.prog 19 #[.slice a len cap] w fun e w' => (∃ n : Nat, e = .returned (.int .i64 (n : Int)) ∧ n ≤ 40) ∧ w' = w := by
  obtain ⟨q, hq⟩ : ∃ q : Nat, q = len / 8 := ⟨_, rfl⟩
  have hd : Int.tdiv (len : Int) 8 = (q : Int) := by rw [hq, Int.tdiv_eq_ediv_of_nonneg (by omega)]; omega
  have hw : IntKind.i64.wrap (Int.tdiv (len : Int) 8) = (q : Int) := by
    rw [hd]
    have e : IntKind.i64.wrap (q : Int) = if (9223372036854775808 : Int) ≤ (q : Int) % 18446744073709551616 then (q : Int) % 18446744073709551616 - 18446744073709551616 else (q : Int) % 18446744073709551616 := by
      simp [IntKind.wrap, IntKind.signed, IntKind.bits]
    rw [e]
    split <;> omega
  have hq2 : q ≤ 131072 := by omega
  have hlen0 : (0 : Int) ≤ (len : Int) := by omega
  go_enter Try.func19, Try.ntmps19
  by_cases h : (4 : Int) + (q : Int) ≤ 40
  · clear hq
    go_wp2
    go_ret
    exact ⟨⟨q + 4, by simp_all; omega, by omega⟩, rfl⟩
  · clear hq
    go_wp2
    go_ret
    exact ⟨⟨40, rfl, by omega⟩, rfl⟩

set_option maxRecDepth 100000 in
set_option maxHeartbeats 2000000 in
theorem map_any (a : Option Addr) (len cap g B n : Nat) (hl : len ≤ 1048576) (hB : B ≤ g) (hn : n ≤ 40) (w : World) (hgl : g < w.heap.size) (hc : Cur a len cap g w) (hd : Pg.Code a len B w) :
    Calls Try.prog 18 #[.pointer (some ⟨g, 0, none⟩), .int .i64 (n : Int)] w fun e w' => (∃ d L, e = .returned d ∧ w'.ownsRow w.heap.size 38 2 d L.length (pairsV L) ∧ L.length ≤ n ∧ SmallP L) ∧ Cur a len cap g w' ∧ Kept (fun k => k = g) w w' := by
  obtain ⟨i0, hi, hz0, hz1, hz2⟩ := info_parts infoPair
  have BEL := hide (fun (m : Int) (h0 : 0 < m) w1 hc hd => below_any a len cap g B m hl hB h0 w1 hc hd)
  have TXT := hide (fun m hm w1 hgl hc hd => text_kept a len cap g B m hl hB hm w1 hgl hc hd)
  have hO0 : (w.alloc (.cells #[] 38)).ownsRow w.heap.size 38 2 (.slice (some ⟨w.heap.size, 0, none⟩) 0 0) 0 (pairsV []) := World.ownsRow_made w #[] 0 (by omega) (Nat.zero_le _) rfl
  have HO0 := hide hO0
  have H1 := hide (unhide BEL 30 (by omega) _ (hc.alloc (Obj.cells #[] 38)) (hd.alloc (Obj.cells #[] 38)))
  have HD1 := hide (hd.alloc (Obj.cells #[] 38))
  have hz1' : (w.alloc (Obj.cells #[] 38)).heap.size = w.heap.size + 1 := by simp
  clear hc hd hO0
  go_enter Try.func18, Try.ntmps18
  go_wp2_with fail
  refine (unhide H1).mono ?_
  rintro e w1 ⟨x1, rfl, hx0, hx1, hc1, hg1⟩
  have ho1 := (unhide HO0).kept hg1 (Or.inr (fun e => by simp [Value.ownBlock] at e; omega))
  have hd1 := (unhide HD1).grown hB hg1
  have hk1 : Kept (fun k => k = g ∨ w.heap.size ≤ k) w w1 := (Kept.of_below (below_new w (Obj.cells #[] 38))).trans ((Kept.of_grown hg1).weak (fun k hk => .inl (Option.some.inj hk).symm))
  have HO1 := hide ho1
  have HC1 := hide hc1
  have HD2 := hide hd1
  have HK1 := hide hk1
  clear ho1 hc1 hd1 hk1 hg1 HO0 H1 HD1 hz1'
  go_wp2_with fail
  go_loopw [5, 6, 7] (fun ov kv iv wr => ∃ (j : Nat) (k : Int) (L : PL), kv = .int .i64 k ∧ iv = .int .i64 (j : Int) ∧ j ≤ n ∧ L.length = j ∧ 0 ≤ k ∧ k ≤ 30 + 5 * (j : Int) ∧ Hid (SmallP L) ∧ Hid (wr.ownsRow w.heap.size 38 2 ov L.length (pairsV L)) ∧ Hid (Cur a len cap g wr) ∧ Hid (Pg.Code a len B wr) ∧ Hid (Kept (fun k => k = g ∨ w.heap.size ≤ k) w wr)) (fun _ _ iv _ => n - (intOf iv).toNat)
  case atStart => exact ⟨0, x1, [], rfl, rfl, Nat.zero_le _, rfl, hx0, by omega, SmallP.nil, unhide HO1, unhide HC1, unhide HD2, unhide HK1⟩
  case round =>
    obtain ⟨j, k, L, rfl, rfl, hj, hL, hk0, hk1, HS, HO, HC, HD, HK⟩ := hrel
    clear HO1 HC1 HD2 HK1
    have HB := hide (unhide BEL ((n : Int) + 1) (by omega) wr (unhide HC) (unhide HD))
    go_wp2_with fail
    refine (unhide HB).mono ?_
    rintro e w2 ⟨x2, rfl, hx20, hx21, hc2, hg2⟩
    have ho2 := (unhide HO).kept hg2 (Or.inr (fun e => by have := ((unhide HO).lt _ e).1; omega))
    have hd2 := (unhide HD).grown hB hg2
    have hk2 : Kept (fun k => k = g ∨ w.heap.size ≤ k) w w2 := (unhide HK).trans ((Kept.of_grown hg2).weak (fun k hk => .inl (Option.some.inj hk).symm))
    clear hg2 HO HC HD HK HB
    by_cases hlt : (j : Int) < x2
    · have HB4 := hide (unhide BEL 4 (by omega) w2 hc2 hd2)
      have HO2 := hide ho2
      have HD2 := hide hd2
      have HK2 := hide hk2
      clear ho2 hc2 hd2 hk2
      go_wp2_with fail
      refine (unhide HB4).mono ?_
      rintro e w3 ⟨x3, rfl, hx30, hx31, hc3, hg3⟩
      have HO3 := hide ((unhide HO2).kept hg3 (Or.inr (fun e => by have := ((unhide HO2).lt _ e).1; omega)))
      have HD3 := hide ((unhide HD2).grown hB hg3)
      have HC3 := hide hc3
      have HK3 : Hid (Kept (fun k => k = g ∨ w.heap.size ≤ k) w w3) := (unhide HK2).trans ((Kept.of_grown hg3).weak (fun k hk => .inl (Option.some.inj hk).symm))
      clear hg3 hc3 HO2 HD2 HK2 HB4
      go_wp2_with fail
      refine (Pg.Dc.specDec_any (1000 + (k + 1 + x3)) (by omega) (by omega) w3).mono ?_
      rintro e w4 ⟨rfl, hb4⟩
      have ht4 := itoa_small (1000 + (k + 1 + x3)) (by omega) (by omega)
      generalize (⟨(Lib.itoa (1000 + (k + 1 + x3))).toArray⟩ : ByteArray) = t4 at ht4 ⊢
      have HO4 := hide (own_below (unhide HO3) hb4)
      have HD4 := hide ((unhide HD3).below hb4 (by have := (unhide HC3).lt; omega))
      have HC4 := hide ((unhide HC3).kept (S := fun _ => False) (Kept.of_below hb4) (by simp))
      have HK4 : Hid (Kept (fun k => k = g ∨ w.heap.size ≤ k) w w4) := (unhide HK3).trans (Kept.of_below hb4)
      have HB9 := hide (unhide BEL 9 (by omega) w4 (unhide HC4) (unhide HD4))
      clear hb4 HO3 HD3 HC3 HK3
      go_wp2_with fail
      refine (unhide HB9).mono ?_
      rintro e w5 ⟨x5, rfl, hx50, hx51, hc5, hg5⟩
      have HO5 := hide ((unhide HO4).kept hg5 (Or.inr (fun e => by have := ((unhide HO4).lt _ e).1; omega)))
      have HD5 := hide ((unhide HD4).grown hB hg5)
      have HC5 := hide hc5
      have HK5 : Hid (Kept (fun k => k = g ∨ w.heap.size ≤ k) w w5) := (unhide HK4).trans ((Kept.of_grown hg5).weak (fun k hk => .inl (Option.some.inj hk).symm))
      clear hg5 hc5 HO4 HD4 HK4 HB9 HC4
      obtain ⟨m5, rfl⟩ : ∃ m : Nat, x5 = m := ⟨x5.toNat, by omega⟩
      have HT5 := hide (unhide TXT m5 (by omega) w5 (unhide HC5).lt (unhide HC5) (unhide HD5))
      go_wp2_with fail
      refine (unhide HT5).mono ?_
      rintro e w6 ⟨⟨s6, rfl, hs6⟩, hc6, hk6⟩
      have ho6 := hk6.own (unhide HO5) (fun k hk e => by have := ((unhide HO5).lt k hk).1; omega)
      have HD6 := hide (codeK (unhide HD5) hB (unhide HC5).lt hk6)
      have HC6 := hide hc6
      have HK6 : Hid (Kept (fun k => k = g ∨ w.heap.size ≤ k) w w6) := (unhide HK5).trans (hk6.weak (fun k hk => .inl hk))
      clear hk6 hc6 HO5 HD5 HK5 HT5 HC5
      have hp : ∀ k, u5.ownBlock = some k → w.heap.size ≤ k := fun k hk => (ho6.lt k hk).1
      have HP := hide hp
      clear hp
      have hL4 : L.length ≤ 40 := by omega
      have hz6 : w.heap.size ≤ w6.heap.size := (unhide HK6).2.2.2.1
      go_wp2_with (at_builtin; refine wpList_append_own _ rfl _ _ 35 rfl w.heap.size 38 i0 (.agg #[.string ⟨#[]⟩, .string ⟨#[]⟩]) 2 32 Try.underlying35 hi hz0 hz1 hz2 rfl (by decide) _ _ _ rfl (ho6.alloc _) ⟨w6.heap.size, 0, none⟩ 1 1 [.string (⟨#[107]⟩ ++ t4), .string s6] rfl rfl (pair_news _ _ _ _) (pair_one _ _) ?_ ?_ ?_ ?_)
      · unfold maxLen; omega
      · omega
      · simp; omega
      intro v' w7 ho7 hg7 _
      rw [← pairsV_snoc] at ho7
      have HO7 : Hid (w7.ownsRow w.heap.size 38 2 v' (L ++ [(⟨#[107]⟩ ++ t4, s6)]).length (pairsV (L ++ [(⟨#[107]⟩ ++ t4, s6)]))) := by rw [List.length_append, hL]; exact ho7
      have hb6 := below_new w6 (Obj.cells #[Value.string (⟨#[107]⟩ ++ t4), Value.string s6] 38)
      have hkg := Kept.of_grown hg7
      have hc7a := (unhide HC6).kept (S := fun _ => False) (Kept.of_below hb6) (by simp)
      have HC7 := hide (hc7a.kept hkg (fun e => by have := unhide HP _ e; omega))
      have hd7a := (unhide HD6).below hb6 (by have := (unhide HC6).lt; omega)
      have HD7 := hide (hd7a.row (fun k hk => by have := unhide HP _ hk; omega) hg7)
      have HK7 : Hid (Kept (fun k => k = g ∨ w.heap.size ≤ k) w w7) := ((unhide HK6).trans (Kept.of_below hb6)).trans (hkg.weak (fun k hk => .inr (unhide HP k hk)))
      have HS7 : Hid (SmallP (L ++ [(⟨#[107]⟩ ++ t4, s6)])) := (unhide HS).snoc (by rw [ByteArray.size_append]; show 1 + t4.size ≤ 40; omega) (by omega)
      clear ho6 ho7 hg7 hb6 hkg hc7a hd7a HC6 HD6 HK6 HS
      go_wp2
      go_roundw
      case rel => exact ⟨j + 1, k + 1 + x3, L ++ [(⟨#[107]⟩ ++ t4, s6)], rfl, by go_num, by omega, by simp; omega, by omega, by omega, HS7, HO7, HC7, HD7, HK7⟩
      case measure => simp [intOf]; omega
    · have HO2 := hide ho2
      have HK2 := hide hk2
      have HC2 := hide hc2
      clear ho2 hc2 hd2 hk2
      go_wp2
      go_ret
      exact ⟨⟨_, L, rfl, unhide HO2, by omega, unhide HS⟩, unhide HC2, (unhide HK2).strip⟩

end Tr
end Go.Proofs.Yteaidpeifaeckaa
