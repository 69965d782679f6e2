/-
  Asks that are drawn, and their bytes: the contracts of spec.DrawAskText, l02Spoilt and DrawReadAsk.
-/
import Derived.Test.YtabnghiphmongaaAkDraw2
namespace Go.Proofs.Ytabnghiphmongaa
namespace Gr
open Go.RowKit

theorem askGo_size (n : Nat) : ∀ (L : List Int) (k : Nat) (s : ByteArray), ((askGo n k s L).getD ⟨#[]⟩).size ≤ s.size + 5 * L.length
  | [], k, s => by simp [askGo]
  | y :: L, k, s => by
    rw [askGo]
    split
    · have h := askGo_size n L (k + 1) (if k < n then s ++ vB y else s)
      have h2 : (if k < n then s ++ vB y else s).size ≤ s.size + 5 := by
        split
        · rw [ByteArray.size_append]; have := vB_size y; omega
        · omega
      simp only [List.length_cons]
      omega
    · show (0 : Nat) ≤ _
      omega

theorem askT_size (x : AskI) : (askT x).size ≤ 26 := by
  unfold askT askR
  split
  · have h := askGo_size (askN x.Op) (askL x) 0 (opB x.Op)
    have h1 : (opB x.Op).size = 1 := rfl
    have h2 : (askL x).length = 5 := rfl
    omega
  · show (0 : Nat) ≤ _
    omega

theorem code_up {a : Option Addr} {len B C : Nat} {w : World} (h : Code a len B w) (hC : B ≤ C) : Code a len C w := fun j hj => by
  obtain ⟨b, off, z, e, hb, h⟩ := h j hj
  exact ⟨b, off, z, e, by omega, h⟩

theorem code_below {a : Option Addr} {len B C : Nat} {w w' : World} (h : Code a len B w) (hb : Below C w w') (hC : B ≤ C) : Code a len B w' := fun j hj => by
  obtain ⟨b, off, z, e, hbB, hc, hz⟩ := h j hj
  exact ⟨b, off, z, e, hbB, by rw [hb.cell (p := ⟨b, off + j, none⟩) (by simp; omega)]; exact hc, hz⟩

theorem new_cc (a : Option Addr) (len cap : Nat) (hl : len ≤ 1048576) (w : World) (hd : Code a len w.heap.size w) :
    Calls Try.prog 25 #[.slice a len cap] w fun e w' => e = .returned (.pointer (some ⟨w.heap.size, 0, none⟩)) ∧ CC a len cap w.heap.size w.heap.size w' ∧ Below w.heap.size w w' := by
  refine (new_any a len cap hl w hd).mono ?_
  rintro e w' ⟨rfl, hc, hb⟩
  exact ⟨rfl, ⟨hc, code_below hd hb (Nat.le_refl _)⟩, hb⟩

set_option maxRecDepth 100000 in
set_option maxHeartbeats 1000000 in
theorem spoilt_any (a : Option Addr) (len cap g B : Nat) (hl : len ≤ 1048576) (hB : B ≤ g) (s : ByteArray) (hs : s.size ≤ 100000) (w : World) (hc : CC a len cap g B w) :
    Calls Try.prog 29 #[.pointer (some ⟨g, 0, none⟩), .string s] w fun e w' => (∃ t : ByteArray, e = .returned (.string t) ∧ t.size ≤ s.size + 1) ∧ CC a len cap g B w' ∧ Kept (fun k => k = g) w w' := by
  have BL := hide (fun n h0 w1 hc1 => below_cc a len cap g B n hl hB h0 w1 hc1)
  have TX := hide (fun w1 hc1 => text_cc a len cap g B 1 hl hB (by omega) w1 hc1)
  have HCC := hide hc
  clear hc
  go_enter Try.func29, Try.ntmps29
  go_wp2_with fail
  refine (unhide BL 12 (by omega) _ (unhide HCC)).mono ?_
  rintro e w1 ⟨⟨x, rfl, hx0, hx1⟩, hc1, hk1⟩
  have HC1 := hide hc1
  have HK1 := hide hk1
  clear hc1 hk1 HCC
  by_cases k0 : x = 0
  · subst k0
    go_wp2_with fail
    refine (unhide TX _ (unhide HC1)).mono ?_
    rintro e w2 ⟨⟨t, rfl, ht⟩, hc2, hk2⟩
    have HK2 := hide ((unhide HK1).trans hk2)
    have HC2 := hide hc2
    have HT := hide ht
    have hcat : ¬ 9223372036854775807 < s.size + t.size := by omega
    clear hc2 hk2 ht
    go_wp2_with fail
    go_ret
    exact ⟨⟨s ++ t, rfl, by rw [ByteArray.size_append, unhide HT]; omega⟩, unhide HC2, unhide HK2⟩
  have e0 : (x == 0) = false := by simp; exact k0
  by_cases k1 : x = 1
  · subst k1
    go_wp2_with fail
    refine (unhide BL ((s.size : Int) + 1) (by omega) _ (unhide HC1)).mono ?_
    rintro e w2 ⟨⟨i, rfl, hi0, hi1⟩, hc2, hk2⟩
    obtain ⟨iN, rfl⟩ := Int.eq_ofNat_of_zero_le hi0
    have HK2 := hide ((unhide HK1).trans hk2)
    have HC2 := hide hc2
    have hi2 : (iN : Int) ≤ (s.size : Int) := by omega
    clear hc2 hk2
    go_wp2_with fail
    go_ret
    exact ⟨⟨_, rfl, by simp; omega⟩, unhide HC2, unhide HK2⟩
  have e1 : (x == 1) = false := by simp; exact k1
  have k23 : (x = 2 ∨ x = 3) ∨ ((x == 2) = false ∧ (x == 3) = false) := by
    by_cases h2 : x = 2
    · exact Or.inl (Or.inl h2)
    · by_cases h3 : x = 3
      · exact Or.inl (Or.inr h3)
      · exact Or.inr ⟨by simp; exact h2, by simp; exact h3⟩
  clear k0 k1
  rcases k23 with h23 | ⟨e2, e3⟩
  · by_cases hz : 0 < s.size
    · have hz' : (0 : Int) < (s.size : Int) := by omega
      rcases h23 with rfl | rfl
      all_goals
        go_wp2_with fail
        refine (unhide BL (s.size : Int) (by omega) _ (unhide HC1)).mono ?_
        rintro e w2 ⟨⟨i, rfl, hi0, hi1⟩, hc2, hk2⟩
        obtain ⟨iN, rfl⟩ := Int.eq_ofNat_of_zero_le hi0
        have HK2 := hide ((unhide HK1).trans hk2)
        have hi2 : (iN : Int) ≤ (s.size : Int) := by omega
        have hcc2 := hide hc2
        have hwr : IntKind.i64.wrap ((iN : Int) + 1) = (iN : Int) + 1 := IntWalk.i64_in _ ⟨by omega, by omega⟩
        have hsl1 : ∀ u, (Instr.slice 9 (.string s) none (some (.int .i64 (iN : Int))) none).run Try.prog u = .ok (.string (s.extract 0 iN)) u := fun u => by
          rw [run_slice_string_to_if u 9 s .i64 (iN : Int) Try.underlying9, if_pos (by omega)]
          simp
        have hsl2 : ∀ u, (Instr.slice 9 (.string s) (some (.int .i64 ((iN : Int) + 1))) none none).run Try.prog u = .ok (.string (s.extract (iN + 1) s.size)) u := fun u => by
          rw [run_slice_string_from_if u 9 s .i64 ((iN : Int) + 1) Try.underlying9, if_pos (by omega)]
          have : ((iN : Int) + 1).toNat = iN + 1 := by omega
          rw [this]
        have hA : (s.extract 0 iN).size = iN := by simp; omega
        have hZ : (s.extract (iN + 1) s.size).size = s.size - (iN + 1) := by simp
        generalize s.extract 0 iN = sa at hsl1 hA
        generalize s.extract (iN + 1) s.size = sz at hsl2 hZ
        have HA := hide hA
        have HZ := hide hZ
        have hAl : sa.size ≤ 100000 := by omega
        have hZl : sz.size ≤ 100000 := by omega
        have TXB : Hid (∀ w1, CC a len cap g B w1 → Calls Try.prog 34 #[.pointer (some ⟨g, 0, none⟩), .int .i64 1] w1 fun e w' => (∃ t : ByteArray, e = .returned (.string t) ∧ t.size = 1 ∧ (¬ 9223372036854775807 < sa.size + t.size) ∧ (¬ 9223372036854775807 < (sa ++ t).size + sz.size)) ∧ CC a len cap g B w' ∧ Kept (fun k => k = g) w1 w') := fun w1 h1 => by
          refine (unhide TX w1 h1).mono ?_
          rintro e w' ⟨⟨t, rfl, ht⟩, h⟩
          exact ⟨⟨t, rfl, ht, by omega, by rw [ByteArray.size_append]; omega⟩, h⟩
        clear hc2 hk2 hA hZ TX
        go_wp2_with fail
        go_region_with ((go_at_call 34; refine (unhide TXB w2.drew (show CC a len cap g B w2.drew from unhide hcc2)).mono ?_; rintro e w3 ⟨⟨t, rfl, ht, ht2, ht3⟩, hc3, hk3⟩))
        all_goals
          have HT := hide ht
          have HC3 := hide hc3
          have HK3 : Hid (Kept (fun k => k = g) w w3) := (unhide HK2).trans (show Kept (fun k => k = g) w2 w3 from hk3)
          clear ht hc3 hk3
          go_wp2_with fail
          go_ret
          refine ⟨⟨_, rfl, ?_⟩, ?_, ?_⟩
          · have := unhide HA
            have := unhide HZ
            have := unhide HT
            rw [ByteArray.size_append, ByteArray.size_append]
            omega
          · exact (show CC a len cap g B _ from unhide HC3)
          · exact (show Kept (fun k => k = g) w _ from unhide HK3)
    · have hz' : ¬ (0 : Int) < (s.size : Int) := by omega
      rcases h23 with rfl | rfl
      all_goals
        go_wp2_with fail
        go_ret
        exact ⟨⟨s, rfl, by omega⟩, unhide HC1, unhide HK1⟩
  · go_wp2_with fail
    go_ret
    exact ⟨⟨s, rfl, by omega⟩, unhide HC1, unhide HK1⟩

set_option maxRecDepth 100000 in
set_option maxHeartbeats 1000000 in
theorem drawReadAsk_any (a : Option Addr) (len cap : Nat) (hl : len ≤ 1048576) (w : World) (hd : Code a len w.heap.size w) :
    Calls Try.prog 14 #[.slice a len cap] w fun e w' => (∃ t : ByteArray, e = .returned (.string t) ∧ t.size ≤ 27) ∧ Below w.heap.size w w' := by
  have NW := hide (new_cc a len cap hl w hd)
  have LA := hide (fun am mlen mcap Bm Q h1 hk w1 hc hB1 hs hm => l13Ask_any a len cap w.heap.size w.heap.size hl (Nat.le_refl _) am mlen mcap Bm Q h1 hk w1 hc hB1 hs hm)
  have AT := hide (fun x w1 => specAskText_any x w1)
  have SP := hide (fun s hs w1 hc => spoilt_any a len cap w.heap.size w.heap.size hl (Nat.le_refl _) s hs w1 hc)
  clear hd
  go_enter Try.func14, Try.ntmps14
  go_wp2_with fail
  refine (unhide NW).mono ?_
  rintro e w1 ⟨rfl, hc1, hb1⟩
  have HC1 := hide hc1
  have HB1 := hide hb1
  clear hc1 hb1
  go_wp2_with fail
  obtain ⟨V, hV⟩ : ∃ W, W = w1.alloc (Obj.cells #[Value.string ⟨#[118, 48, 49]⟩, Value.string ⟨#[97]⟩, Value.string ⟨#[118, 48, 51]⟩, Value.string ⟨#[97]⟩] 62) := ⟨_, rfl⟩
  rw [← hV]
  have hVb : Blk V w1.heap.size #[Value.string ⟨#[118, 48, 49]⟩, Value.string ⟨#[97]⟩, Value.string ⟨#[118, 48, 51]⟩, Value.string ⟨#[97]⟩] 62 := by rw [hV]; exact Blk.new0
  have hVc : CC a len cap w.heap.size w.heap.size V := by rw [hV]; exact (unhide HC1).alloc (Nat.le_refl _) _
  have hVw : Below w.heap.size w V := by rw [hV]; exact (unhide HB1).alloc (unhide HB1).size _
  have hgs := (unhide HC1).lt
  clear hV
  refine (unhide LA (some ⟨w1.heap.size, 0, none⟩) 2 2 V.heap.size [(⟨#[118, 48, 49]⟩, ⟨#[97]⟩), (⟨#[118, 48, 51]⟩, ⟨#[97]⟩)] (by omega) (fun q hq => by
    simp at hq
    rcases hq with rfl | rfl
    · exact ⟨by show 1 ≤ 3; omega, by show 3 ≤ 8; omega⟩
    · exact ⟨by show 1 ≤ 3; omega, by show 3 ≤ 8; omega⟩) V hVc (Nat.le_refl _) ⟨rfl, fun j hj => ⟨w1.heap.size, 0, rfl, hVb.lt, by
    have : j < 2 := hj
    match j, this with
    | 0, _ => exact ⟨hVb.cell 0 _ rfl, hVb.cell 1 _ rfl⟩
    | 1, _ => exact ⟨hVb.cell 2 _ rfl, hVb.cell 3 _ rfl⟩⟩⟩ (fun b off e => by simp at e; omega)).mono ?_
  rintro e w2 ⟨⟨x, rfl, hok⟩, hc2, hk2⟩
  have hb2 : Below w.heap.size w w2 := hVw.trans (hk2.below hVw.size (fun i hi => by omega))
  have HC2 := hide hc2
  have HB2 := hide hb2
  have ATx := hide (fun w1 => unhide AT x w1)
  have hsz := askT_size x
  generalize askT x = s at ATx hsz
  clear hc2 hk2 hb2 hVb hVc hVw hok HC1 HB1
  go_wp2_with fail
  refine (unhide ATx _).mono ?_
  rintro e w3 ⟨rfl, hb3⟩
  have HC3 := hide ((unhide HC2).below hb3 (Nat.le_refl _))
  have HB3 := hide ((unhide HB2).trans (hb3.mono (unhide HB2).size))
  clear hb3 HC2 HB2
  go_wp2_with fail
  refine (unhide SP s (by omega) _ (unhide HC3)).mono ?_
  rintro e w4 ⟨⟨t, rfl, ht⟩, hc4, hk4⟩
  have HB4 := hide ((unhide HB3).trans (hk4.below (unhide HB3).size (fun i hi => by omega)))
  have HT := hide ht
  clear hc4 hk4 ht
  go_wp2_with fail
  go_ret
  exact ⟨⟨t, rfl, by have := unhide HT; omega⟩, unhide HB4⟩

set_option maxRecDepth 100000 in
set_option maxHeartbeats 2000000 in
theorem drawAskText_any (a : Option Addr) (len cap : Nat) (hl : len ≤ 1048576) (w : World) (hd : Code a len w.heap.size w) :
    Calls Try.prog 13 #[.slice a len cap] w fun e w' => (∃ x : AskI, e = .returned x.v) ∧ Below w.heap.size w w' := by
  have NW := hide (fun w1 hd1 => new_cc a len cap hl w1 hd1)
  have LA := hide (fun am mlen mcap Bm Q h1 hk w1 hc hB1 hs hm => l13Ask_any a len cap (w.heap.size + 1) (w.heap.size + 1) hl (Nat.le_refl _) am mlen mcap Bm Q h1 hk w1 hc hB1 hs hm)
  have ON := hide (fun n h0 w1 hc => once_cc a len cap (w.heap.size + 1) (w.heap.size + 1) n hl (Nat.le_refl _) h0 w1 hc)
  have PK := hide (fun b C L h1 h2 h3 hb w1 hc1 hx => pick_list a len cap (w.heap.size + 1) (w.heap.size + 1) b C L h1 h2 h3 hl (Nat.le_refl _) hb w1 hc1 hx)
  have HD := hide hd
  clear hd
  go_enter Try.func13, Try.ntmps13
  go_wp2_with fail
  obtain ⟨U, hU⟩ : ∃ W, W = w.alloc (Obj.cells #[Value.int .i64 0, Value.int .i64 0, Value.int .i64 0, Value.int .i64 0, Value.int .i64 0, Value.int .i64 0] 26) := ⟨_, rfl⟩
  rw [← hU]
  have hUs : U.heap.size = w.heap.size + 1 := by rw [hU]; simp
  have hUr : Blk U w.heap.size #[Value.int .i64 0, Value.int .i64 0, Value.int .i64 0, Value.int .i64 0, Value.int .i64 0, Value.int .i64 0] 26 := by rw [hU]; exact Blk.new0
  have hUw : Below w.heap.size w U := by rw [hU]; exact below_new _ _
  have hUd : Code a len U.heap.size U := code_up (code_below (unhide HD) hUw (Nat.le_refl _)) hUw.size
  clear hU
  have NW1 := hide (unhide NW U hUd)
  rw [hUs] at NW1
  refine (unhide NW1).mono ?_
  rintro e w1 ⟨rfl, hc1, hb1⟩
  have HC1 := hide hc1
  have HR1 := hide (hUr.below (by rw [hUs]; exact hb1))
  have HB1 := hide (hUw.trans (hb1.mono (by omega)))
  have hgs := hc1.lt
  clear hc1 hb1 hUr hUw hUd NW1 NW HD hUs
  go_wp2_with fail
  obtain ⟨V, hV⟩ : ∃ W, W = w1.alloc (Obj.cells #[] 62) := ⟨_, rfl⟩
  rw [← hV]
  have hVc : CC a len cap (w.heap.size + 1) (w.heap.size + 1) V := by rw [hV]; exact (unhide HC1).alloc (Nat.le_refl _) _
  have hVr : Blk V w.heap.size #[Value.int .i64 0, Value.int .i64 0, Value.int .i64 0, Value.int .i64 0, Value.int .i64 0, Value.int .i64 0] 26 := by rw [hV]; exact (unhide HR1).alloc
  have hVw : Below w.heap.size w V := by rw [hV]; exact (unhide HB1).alloc (unhide HB1).size _
  clear hV HC1 HR1 HB1
  refine (unhide LA (some ⟨w1.heap.size, 0, none⟩) 0 0 V.heap.size [] (by omega) (fun q hq => by simp at hq) V hVc (Nat.le_refl _) ⟨rfl, fun j hj => by simp at hj⟩ (fun b off e => by simp at e; omega)).mono ?_
  rintro e w2 ⟨⟨x, rfl, hok⟩, hc2, hk2⟩
  have hb2 : Below w.heap.size w w2 := hVw.trans (hk2.below hVw.size (fun i hi => by omega))
  have hr2 : Blk w2 w.heap.size #[Value.int .i64 0, Value.int .i64 0, Value.int .i64 0, Value.int .i64 0, Value.int .i64 0, Value.int .i64 0] 26 := hVr.kept hk2 (by omega)
  have hs2 : w.heap.size + 1 < w2.heap.size := hc2.lt
  have hu2 : ∀ o, (w2.alloc o).heap.size = w2.heap.size + 1 := fun o => by simp
  obtain ⟨X, hX⟩ : ∃ X, X = w2.heap.size := ⟨_, rfl⟩
  obtain ⟨v0, v1, v2, v3, v4, v5⟩ := x
  obtain ⟨W3, hW3⟩ : ∃ W, W = w2.alloc (Obj.cells #[Value.int .i64 v0, Value.int .i64 v1, Value.int .i64 v2, Value.int .i64 v3, Value.int .i64 v4, Value.int .i64 v5] 26) := ⟨_, rfl⟩
  have HC3 : Hid (CC a len cap (w.heap.size + 1) (w.heap.size + 1) W3) := by show CC _ _ _ _ _ _; rw [hW3]; exact hc2.alloc (Nat.le_refl _) _
  have HR3 : Hid (Blk W3 w.heap.size #[Value.int .i64 0, Value.int .i64 0, Value.int .i64 0, Value.int .i64 0, Value.int .i64 0, Value.int .i64 0] 26) := by show Blk _ _ _ _; rw [hW3]; exact hr2.alloc
  have HX3 : Hid (Blk W3 X #[Value.int .i64 v0, Value.int .i64 v1, Value.int .i64 v2, Value.int .i64 v3, Value.int .i64 v4, Value.int .i64 v5] 26) := by show Blk _ _ _ _; rw [hW3, hX]; exact Blk.new0
  have HB3 : Hid (Below w.heap.size w W3) := by show Below _ _ _; rw [hW3]; exact hb2.alloc hb2.size _
  have HX := hide hX
  have HW3 := hide hW3
  have hsX : w.heap.size + 1 < X := by omega
  clear hc2 hk2 hb2 hr2 hVc hVr hVw hok hu2 hX hW3 LA
  unfold AskI.v
  simp only
  go_wp2_with fail
  rw [← unhide HW3, ← unhide HX]
  clear HW3 HX hs2
  refine (unhide ON 8 (by omega) _ (unhide HC3)).mono ?_
  rintro e w4 ⟨⟨bo, rfl⟩, hc4, hk4⟩
  have HC4 := hide hc4
  have HR4 := hide ((unhide HR3).kept hk4 (by omega))
  have HX4 := hide ((unhide HX3).kept hk4 (by omega))
  have HB4 := hide ((unhide HB3).trans (hk4.below (unhide HB3).size (fun i hi => by omega)))
  clear hc4 hk4 HC3 HR3 HX3 HB3
  have fin : ∀ (W : World) (y : Int), Blk W w.heap.size #[Value.int .i64 0, Value.int .i64 0, Value.int .i64 0, Value.int .i64 0, Value.int .i64 0, Value.int .i64 0] 26 → Below w.heap.size w W → (Below w.heap.size w (((((((W.setCell ⟨w.heap.size, 0, none⟩ (.int .i64 v0)).setCell ⟨w.heap.size, 1, none⟩ (.int .i64 v1)).setCell ⟨w.heap.size, 2, none⟩ (.int .i64 v2)).setCell ⟨w.heap.size, 3, none⟩ (.int .i64 v3)).setCell ⟨w.heap.size, 4, none⟩ (.int .i64 v4)).setCell ⟨w.heap.size, 5, none⟩ (.int .i64 y))) ∧ Blk (((((((W.setCell ⟨w.heap.size, 0, none⟩ (.int .i64 v0)).setCell ⟨w.heap.size, 1, none⟩ (.int .i64 v1)).setCell ⟨w.heap.size, 2, none⟩ (.int .i64 v2)).setCell ⟨w.heap.size, 3, none⟩ (.int .i64 v3)).setCell ⟨w.heap.size, 4, none⟩ (.int .i64 v4)).setCell ⟨w.heap.size, 5, none⟩ (.int .i64 y))) w.heap.size #[.int .i64 v0, .int .i64 v1, .int .i64 v2, .int .i64 v3, .int .i64 v4, .int .i64 y] 26) := fun W y R0 h0 => ⟨((((((h0.setCell (p := ⟨w.heap.size, 0, none⟩) (Nat.le_refl _) _).setCell (p := ⟨w.heap.size, 1, none⟩) (Nat.le_refl _) _).setCell (p := ⟨w.heap.size, 2, none⟩) (Nat.le_refl _) _).setCell (p := ⟨w.heap.size, 3, none⟩) (Nat.le_refl _) _).setCell (p := ⟨w.heap.size, 4, none⟩) (Nat.le_refl _) _).setCell (p := ⟨w.heap.size, 5, none⟩) (Nat.le_refl _) _), ((((((R0.set 0 _).set 1 _).set 2 _).set 3 _).set 4 _).set 5 _)⟩
  have HF := hide fin
  clear fin
  cases bo with
  | false =>
    have hr := unhide HR4
    have hx := unhide HX4
    have zr := hr.lt
    have zx := hx.lt
    have g0 : w4.cell? ⟨X, 0, none⟩ = some (.int .i64 v0) := hx.cell 0 _ rfl
    have r0 : w4.cell? ⟨w.heap.size, 0, none⟩ = some (.int .i64 0) := hr.cell 0 _ rfl
    have f0 := hr.froz 0
    have g1 : w4.cell? ⟨X, 1, none⟩ = some (.int .i64 v1) := hx.cell 1 _ rfl
    have r1 : w4.cell? ⟨w.heap.size, 1, none⟩ = some (.int .i64 0) := hr.cell 1 _ rfl
    have f1 := hr.froz 1
    have g2 : w4.cell? ⟨X, 2, none⟩ = some (.int .i64 v2) := hx.cell 2 _ rfl
    have r2 : w4.cell? ⟨w.heap.size, 2, none⟩ = some (.int .i64 0) := hr.cell 2 _ rfl
    have f2 := hr.froz 2
    have g3 : w4.cell? ⟨X, 3, none⟩ = some (.int .i64 v3) := hx.cell 3 _ rfl
    have r3 : w4.cell? ⟨w.heap.size, 3, none⟩ = some (.int .i64 0) := hr.cell 3 _ rfl
    have f3 := hr.froz 3
    have g4 : w4.cell? ⟨X, 4, none⟩ = some (.int .i64 v4) := hx.cell 4 _ rfl
    have r4 : w4.cell? ⟨w.heap.size, 4, none⟩ = some (.int .i64 0) := hr.cell 4 _ rfl
    have f4 := hr.froz 4
    have g5 : w4.cell? ⟨X, 5, none⟩ = some (.int .i64 v5) := hx.cell 5 _ rfl
    have r5 : w4.cell? ⟨w.heap.size, 5, none⟩ = some (.int .i64 0) := hr.cell 5 _ rfl
    have f5 := hr.froz 5
    have HE := hide (unhide HF w4 v5 hr (unhide HB4))
    clear hr hx HC4 HB4 HR4 HX4 HF
    go_wp2_with fail
    (try simp only [Exit.inBlock, Exit.then])
    refine bodyPost_ret (results_ask1 Try.results13 _ _ w.heap.size _ rfl (unhide HE).2 rfl) rfl ?_
    exact ⟨⟨⟨v0, v1, v2, v3, v4, v5⟩, rfl⟩, (unhide HE).1⟩
  | true =>
    go_wp2_with fail
    obtain ⟨V5, hV5⟩ : ∃ W, W = w4.alloc (Obj.cells #[Value.int .i64 1, Value.int .i64 (-1), Value.int .i64 1000000000, Value.int .i64 1000000001] 3) := ⟨_, rfl⟩
    rw [← hV5]
    have c5 : CC a len cap (w.heap.size + 1) (w.heap.size + 1) V5 := by rw [hV5]; exact (unhide HC4).alloc (Nat.le_refl _) _
    have r5 : Blk V5 w.heap.size #[Value.int .i64 0, Value.int .i64 0, Value.int .i64 0, Value.int .i64 0, Value.int .i64 0, Value.int .i64 0] 26 := by rw [hV5]; exact (unhide HR4).alloc
    have x5 : Blk V5 X #[Value.int .i64 v0, Value.int .i64 v1, Value.int .i64 v2, Value.int .i64 v3, Value.int .i64 v4, Value.int .i64 v5] 26 := by rw [hV5]; exact (unhide HX4).alloc
    have b5 : Below w.heap.size w V5 := by rw [hV5]; exact (unhide HB4).alloc (unhide HB4).size _
    have l5 : Blk V5 w4.heap.size #[Value.int .i64 1, Value.int .i64 (-1), Value.int .i64 1000000000, Value.int .i64 1000000001] 3 := by rw [hV5]; exact Blk.new0
    have hs4 := (unhide HC4).lt
    clear hV5 HC4 HR4 HX4 HB4
    refine (unhide PK w4.heap.size _ [1, -1, 1000000000, 1000000001] (by simp) (by simp) (fun j hj => by
      have : j < 4 := hj
      match j, this with
      | 0, _ => rfl
      | 1, _ => rfl
      | 2, _ => rfl
      | 3, _ => rfl) (by omega) V5 c5 l5).mono ?_
    rintro e w6 ⟨⟨y6, rfl, _⟩, hc6, hk6⟩
    have r6 := r5.kept hk6 (by omega)
    have x6 := x5.kept hk6 (by omega)
    have b6 := b5.trans (hk6.below b5.size (fun i hi => by omega))
    have cz : w6.cell? ⟨X, 5, none⟩ = some (.int .i64 v5) := x6.cell 5 _ rfl
    have fz := x6.froz 5
    have HX7 : Hid (Blk (w6.setCell ⟨X, 5, none⟩ (.int .i64 y6)) X #[Value.int .i64 v0, Value.int .i64 v1, Value.int .i64 v2, Value.int .i64 v3, Value.int .i64 v4, Value.int .i64 y6] 26) := x6.set 5 _
    have HR7 : Hid (Blk (w6.setCell ⟨X, 5, none⟩ (.int .i64 y6)) w.heap.size #[Value.int .i64 0, Value.int .i64 0, Value.int .i64 0, Value.int .i64 0, Value.int .i64 0, Value.int .i64 0] 26) := r6.set_other (by omega) _ _
    have HB7 : Hid (Below w.heap.size w (w6.setCell ⟨X, 5, none⟩ (.int .i64 y6))) := b6.setCell (p := ⟨X, 5, none⟩) (by simp; omega) _
    clear hc6 hk6 r6 x6 b6 r5 x5 b5 l5 c5
    go_upto_region 5 with fail
    obtain ⟨N7, hN7⟩ : ∃ W, W = w6.setCell ⟨X, 5, none⟩ (.int .i64 y6) := ⟨_, rfl⟩
    rw [← hN7] at HX7 HR7 HB7 ⊢
    clear hN7 cz fz
    have hr := unhide HR7
    have hx := unhide HX7
    have zr := hr.lt
    have zx := hx.lt
    have g0 : N7.cell? ⟨X, 0, none⟩ = some (.int .i64 v0) := hx.cell 0 _ rfl
    have r0 : N7.cell? ⟨w.heap.size, 0, none⟩ = some (.int .i64 0) := hr.cell 0 _ rfl
    have f0 := hr.froz 0
    have g1 : N7.cell? ⟨X, 1, none⟩ = some (.int .i64 v1) := hx.cell 1 _ rfl
    have r1 : N7.cell? ⟨w.heap.size, 1, none⟩ = some (.int .i64 0) := hr.cell 1 _ rfl
    have f1 := hr.froz 1
    have g2 : N7.cell? ⟨X, 2, none⟩ = some (.int .i64 v2) := hx.cell 2 _ rfl
    have r2 : N7.cell? ⟨w.heap.size, 2, none⟩ = some (.int .i64 0) := hr.cell 2 _ rfl
    have f2 := hr.froz 2
    have g3 : N7.cell? ⟨X, 3, none⟩ = some (.int .i64 v3) := hx.cell 3 _ rfl
    have r3 : N7.cell? ⟨w.heap.size, 3, none⟩ = some (.int .i64 0) := hr.cell 3 _ rfl
    have f3 := hr.froz 3
    have g4 : N7.cell? ⟨X, 4, none⟩ = some (.int .i64 v4) := hx.cell 4 _ rfl
    have r4 : N7.cell? ⟨w.heap.size, 4, none⟩ = some (.int .i64 0) := hr.cell 4 _ rfl
    have f4 := hr.froz 4
    have g5 : N7.cell? ⟨X, 5, none⟩ = some (.int .i64 y6) := hx.cell 5 _ rfl
    have r5 : N7.cell? ⟨w.heap.size, 5, none⟩ = some (.int .i64 0) := hr.cell 5 _ rfl
    have f5 := hr.froz 5
    have HE := hide (unhide HF N7 y6 hr (unhide HB7))
    clear hr hx HB7 HR7 HX7 HF
    go_wp2_with fail
    (try simp only [Exit.inBlock, Exit.then])
    refine bodyPost_ret (results_ask1 Try.results13 _ _ w.heap.size _ rfl (unhide HE).2 rfl) rfl ?_
    exact ⟨⟨⟨v0, v1, v2, v3, v4, y6⟩, rfl⟩, (unhide HE).1⟩
end Gr
end Go.Proofs.Ytabnghiphmongaa
