/-
  The contract of spec.l05AnyMap: some row of at most 121 small pairs, new; nothing old but the cursor is written.
-/
import Derived.Test.YteaidpeifaeckaaTrDraw2
namespace Go.Proofs.Yteaidpeifaeckaa
namespace Tr
open Go.RowKit
open Go.Proofs.Yteaidpeifaeckaa.Pg hiding part part_zero part_all part_length part_set

theorem picks_small : ∀ y ∈ ([⟨#[]⟩, ⟨#[97]⟩, ⟨#[122, 122, 122, 122, 122, 122, 122, 122]⟩, ⟨#[122, 122, 122, 122, 122, 122, 122, 122, 122]⟩] : List ByteArray), y.size ≤ 9 := by decide

set_option maxRecDepth 100000 in
set_option maxHeartbeats 2000000 in
theorem anyMap_any (a : Option Addr) (len cap g B : Nat) (hl : len ≤ 1048576) (hB : B ≤ g) (w : World) (hgl : g < w.heap.size) (hc : Cur a len cap g w) (hd : Pg.Code a len B w) :
    Calls Try.prog 10 #[.pointer (some ⟨g, 0, none⟩), .slice a len cap] w fun e w' => (∃ d L, e = .returned d ∧ w'.ownsRow w.heap.size 38 2 d L.length (pairsV L) ∧ L.length ≤ 121 ∧ SmallP L) ∧ Cur a len cap g w' ∧ Kept (fun k => k = g) w w' := by
  obtain ⟨i0, hi, hz0, hz1, hz2⟩ := info_parts infoPair
  have BEL := hide (fun (m : Int) (h0 : 0 < m) w1 hc hd => below_any a len cap g B m hl hB h0 w1 hc hd)
  have MAP := hide (fun n hn w1 hgl hc hd => map_any a len cap g B n hl hB hn w1 hgl hc hd)
  have HC := hide hc
  have HD := hide hd
  clear hc hd
  go_enter Try.func10, Try.ntmps10
  go_wp2_with fail
  refine (size_any a len cap hl w).mono ?_
  rintro e w1 ⟨⟨n, rfl, hn⟩, rfl⟩
  have H2 := hide (unhide MAP n hn w1 hgl (unhide HC) (unhide HD))
  go_wp2_with fail
  refine (unhide H2).mono ?_
  rintro e w2 ⟨⟨d, L, rfl, ho2, hL, hS⟩, hc2, hk2⟩
  have HM2 : Hid (MD a len cap g B w1 d L w2) := ⟨ho2, hc2, codeK (unhide HD) hB hgl hk2, hk2.weak (fun k h => .inl h)⟩
  have HS := hide hS
  have hd2 : d.ownBlock = d.ownBlock := rfl
  obtain ⟨ba, bc, rfl⟩ : ∃ A c, d = .slice A L.length c := by
    rcases ho2.2 with ⟨rfl, h0⟩ | ⟨g, cap, cur, rfl, _⟩
    · exact ⟨none, 0, by rw [h0]⟩
    · exact ⟨_, _, rfl⟩
  clear ho2 hc2 hk2 hS HC HD H2 MAP hd2
  have H3 := hide (unhide BEL 30 (by omega) w2 (unhide HM2).cur (unhide HM2).code)
  go_wp2_with fail
  refine (unhide H3).mono ?_
  rintro e w3 ⟨x3, rfl, hx30, hx31, hc3, hg3⟩
  have HM3 := hide ((unhide HM2).grown hgl hB hc3 hg3)
  clear hc3 hg3 HM2 H3
  by_cases e0 : x3 = 0
  · subst e0
    have hw3 : g < w3.heap.size := (unhide HM3).cur.lt
    have hM3 := (unhide HM3).below hB (below_new w3 (Obj.cells #[Value.string ⟨#[]⟩, Value.string ⟨#[97]⟩, Value.string ⟨#[122, 122, 122, 122, 122, 122, 122, 122]⟩, Value.string ⟨#[122, 122, 122, 122, 122, 122, 122, 122, 122]⟩] 9))
    have HP := hide (pickM_any 9 a len cap g B w3.heap.size 4 [⟨#[]⟩, ⟨#[97]⟩, ⟨#[122, 122, 122, 122, 122, 122, 122, 122]⟩, ⟨#[122, 122, 122, 122, 122, 122, 122, 122, 122]⟩] (by omega) (by omega) rfl picks_small hl hB (by omega) _ hM3.cur hM3.code (heap_alloc_new w3 _))
    have HM4 := hide hM3
    clear hM3 HM3
    go_wp2_with fail
    refine (unhide HP).mono ?_
    rintro e w5 ⟨⟨y, rfl, hy⟩, hc5, hg5⟩
    have HM5 := hide ((unhide HM4).grown hgl hB hc5 hg5)
    clear hc5 hg5 HM4 HP
    have HO5 := (unhide HM5).own
    have ho5 := HO5
    clear HO5
    have hL5 : L.length ≤ 130 := by omega
    have hz5 : w1.heap.size ≤ w5.heap.size := (unhide HM5).kept.2.2.2.1
    go_wp2_with (at_builtin; refine wpList_append_own _ rfl _ _ 35 rfl w1.heap.size 38 i0 (.agg #[.string ⟨#[]⟩, .string ⟨#[]⟩]) 2 32 Try.underlying35 hi hz0 hz1 hz2 rfl (by decide) _ _ _ rfl (ho5.alloc _) ⟨w5.heap.size, 0, none⟩ 1 1 [.string y, .string ⟨#[]⟩] rfl rfl (pair_news _ _ _ _) (pair_one _ _) ?_ ?_ ?_ ?_)
    · unfold maxLen; omega
    · omega
    · simp; omega
    intro v' w7 ho7 hg7 _
    have HM7 := hide ((unhide HM5).snoc hgl hB ho7 hg7)
    have HS7 : Hid (SmallP (L ++ [(y, (⟨#[]⟩ : ByteArray))])) := (unhide HS).snoc (by omega) (by decide)
    clear ho5 ho7 hg7 HM5 HS
    go_wp2
    go_ret
    exact ⟨⟨_, L ++ [(y, (⟨#[]⟩ : ByteArray))], rfl, (unhide HM7).own, by simp; omega, unhide HS7⟩, (unhide HM7).cur, (unhide HM7).kept.strip⟩
  · by_cases e1 : x3 = 1
    · subst e1
      have H4 := hide (unhide BEL 2 (by omega) w3 (unhide HM3).cur (unhide HM3).code)
      go_wp2_with fail
      refine (unhide H4).mono ?_
      rintro e w4 ⟨x4, rfl, hx40, hx41, hc4, hg4⟩
      have HM4 := hide ((unhide HM3).grown hgl hB hc4 hg4)
      clear hc4 hg4 HM3 H4
      obtain ⟨m4, hm4⟩ : ∃ m : Nat, (40 : Int) + x4 = m := ⟨(40 + x4).toNat, by omega⟩
      have HL := hide (long65_any m4 (by omega) w4)
      go_wp2_with fail
      refine (unhide HL).mono ?_
      rintro e w5 ⟨⟨s, rfl, hs⟩, hb5⟩
      have HM5 := hide ((unhide HM4).below hB hb5)
      clear hb5 HM4 HL
      have HO5 := (unhide HM5).own
      have ho5 := HO5
      clear HO5
      have hL5 : L.length ≤ 130 := by omega
      have hz5 : w1.heap.size ≤ w5.heap.size := (unhide HM5).kept.2.2.2.1
      go_wp2_with (at_builtin; refine wpList_append_own _ rfl _ _ 35 rfl w1.heap.size 38 i0 (.agg #[.string ⟨#[]⟩, .string ⟨#[]⟩]) 2 32 Try.underlying35 hi hz0 hz1 hz2 rfl (by decide) _ _ _ rfl (ho5.alloc _) ⟨w5.heap.size, 0, none⟩ 1 1 [.string ⟨#[122, 122]⟩, .string s] rfl rfl (pair_news _ _ _ _) (pair_one _ _) ?_ ?_ ?_ ?_)
      · unfold maxLen; omega
      · omega
      · simp; omega
      intro v' w7 ho7 hg7 _
      have HM7 := hide ((unhide HM5).snoc hgl hB ho7 hg7)
      have HS7 : Hid (SmallP (L ++ [((⟨#[122, 122]⟩ : ByteArray), s)])) := (unhide HS).snoc (by decide) (by omega)
      clear ho5 ho7 hg7 HM5 HS
      go_wp2
      go_ret
      exact ⟨⟨_, L ++ [((⟨#[122, 122]⟩ : ByteArray), s)], rfl, (unhide HM7).own, by simp; omega, unhide HS7⟩, (unhide HM7).cur, (unhide HM7).kept.strip⟩
    · by_cases e2 : x3 = 2
      · subst e2
        have H0 := hide ((unhide HM3).empty hB)
        clear HM3 HS
        go_wp2_with fail
        go_loopw [5, 6] (fun ov iv wr => ∃ (j : Nat) (L : PL), iv = .int .i64 (j : Int) ∧ j ≤ 121 ∧ L.length = j ∧ Hid (SmallP L) ∧ Hid (MD a len cap g B w1 ov L wr)) (fun _ iv _ => 121 - (intOf iv).toNat)
        case atStart => exact ⟨0, [], rfl, by omega, rfl, SmallP.nil, unhide H0⟩
        case round =>
          obtain ⟨j, L, rfl, hj, hLj, HS, HM⟩ := hrel
          clear H0
          have HB := hide (unhide BEL 2 (by omega) wr (unhide HM).cur (unhide HM).code)
          go_wp2_with fail
          refine (unhide HB).mono ?_
          rintro e w4 ⟨x4, rfl, hx40, hx41, hc4, hg4⟩
          have HM4 := hide ((unhide HM).grown hgl hB hc4 hg4)
          clear hc4 hg4 HM HB
          by_cases hlt : (j : Int) < 120 + x4
          · go_wp2_with fail
            refine (Pg.Dc.specDec_any (1000 + (j : Int)) (by omega) (by omega) w4).mono ?_
            rintro e w5 ⟨rfl, hb5⟩
            have ht5 := itoa_small (1000 + (j : Int)) (by omega) (by omega)
            generalize (⟨(Lib.itoa (1000 + (j : Int))).toArray⟩ : ByteArray) = t5 at ht5 ⊢
            have HM5 := hide ((unhide HM4).below hB hb5)
            clear hb5 HM4
            have ho5 := (unhide HM5).own
            have hL5 : L.length ≤ 130 := by omega
            have hz5 : w1.heap.size ≤ w5.heap.size := (unhide HM5).kept.2.2.2.1
            go_wp2_with (at_builtin; refine wpList_append_own _ rfl _ _ 35 rfl w1.heap.size 38 i0 (.agg #[.string ⟨#[]⟩, .string ⟨#[]⟩]) 2 32 Try.underlying35 hi hz0 hz1 hz2 rfl (by decide) _ _ _ rfl (ho5.alloc _) ⟨w5.heap.size, 0, none⟩ 1 1 [.string (⟨#[109]⟩ ++ t5), .string ⟨#[]⟩] rfl rfl (pair_news _ _ _ _) (pair_one _ _) ?_ ?_ ?_ ?_)
            · unfold maxLen; omega
            · omega
            · simp; omega
            intro v' w7 ho7 hg7 _
            rw [← hLj] at ho7
            have HM7 := hide ((unhide HM5).snoc hgl hB ho7 hg7)
            have HS7 : Hid (SmallP (L ++ [((⟨#[109]⟩ : ByteArray) ++ t5, (⟨#[]⟩ : ByteArray))])) := (unhide HS).snoc (by rw [ByteArray.size_append]; show 1 + t5.size ≤ 40; omega) (by decide)
            clear ho5 ho7 hg7 HM5 HS
            go_wp2
            go_roundw
            case rel => exact ⟨j + 1, L ++ [((⟨#[109]⟩ : ByteArray) ++ t5, (⟨#[]⟩ : ByteArray))], by go_num, by omega, by simp; omega, HS7, HM7⟩
            case measure => simp [intOf]; omega
          · go_wp2
            go_ret
            exact ⟨⟨_, L, rfl, (unhide HM4).own, by omega, unhide HS⟩, (unhide HM4).cur, (unhide HM4).kept.strip⟩
      · go_wp2
        go_ret
        exact ⟨⟨_, L, rfl, (unhide HM3).own, by omega, unhide HS⟩, (unhide HM3).cur, (unhide HM3).kept.strip⟩

end Tr
end Go.Proofs.Yteaidpeifaeckaa
