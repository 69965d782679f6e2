/-
 GrSpoil.
-/
import Derived.Test.YthbhdfeafbineaaGreatJ7
import Derived.Deep.RegionWith
namespace Go.Proofs.YthbhdfeafbineaaGreat
namespace Gr
open Go.RowKit
theorem code_up {a : Option Addr} {len B C : Nat} {w : World} (h : Code a len B w) (hC : B ≤ C) : Code a len C w := fun j hj => by
  obtain ⟨b, off, z, e, hb, h⟩ := h j hj
  exact ⟨b, off, z, e, by omega, h⟩
theorem code_below {a : Option Addr} {len B C : Nat} {w w' : World} (h : Code a len B w) (hb : Below C w w') (hC : B ≤ C) : Code a len B w' := fun j hj => by
  obtain ⟨b, off, z, e, hbB, hc, hz⟩ := h j hj
  exact ⟨b, off, z, e, hbB, by rw [hb.cell (p := ⟨b, off + j, none⟩) (by simp; omega)]; exact hc, hz⟩
theorem new_cc (a : Option Addr) (len cap : Nat) (hl : len ≤ 1048576) (w : World) (hd : Code a len w.heap.size w) :
    Calls Tryz.prog 17 #[.slice a len cap] w fun e w' => e = .returned (.pointer (some ⟨w.heap.size, 0, none⟩)) ∧ CC a len cap w.heap.size w.heap.size w' ∧ Below w.heap.size w w' := by
  refine (new_any a len cap hl w hd).mono ?_
  rintro e w' ⟨rfl, hc, hb⟩
  exact ⟨rfl, ⟨hc, code_below hd hb (Nat.le_refl _)⟩, hb⟩
set_option maxRecDepth 100000 in
set_option maxHeartbeats 1000000 in
theorem spoilt_any (a : Option Addr) (len cap g B : Nat) (hl : len ≤ 1048576) (hB : B ≤ g) (s : ByteArray) (hs : s.size ≤ 100000) (w : World) (hc : CC a len cap g B w) :
    Calls Tryz.prog 32 #[.pointer (some ⟨g, 0, none⟩), .string s] w fun e w' => (∃ t : ByteArray, e = .returned (.string t) ∧ t.size ≤ s.size + 1) ∧ CC a len cap g B w' ∧ Kept (fun k => k = g) w w' := by
  have BL := hide (fun n h0 w1 hc1 => below_cc a len cap g B n hl hB h0 w1 hc1)
  have TX := hide (fun w1 hc1 => text_cc a len cap g B 1 hl hB (by omega) w1 hc1)
  have HCC := hide hc
  clear hc
  go_enter Tryz.func32, Tryz.ntmps32
  go_wp2_with fail
  refine (unhide BL 12 (by omega) _ (unhide HCC)).mono ?_
  rintro e w1 ⟨⟨x, rfl, hx0, hx1⟩, hc1, hk1⟩
  have HC1 := hide hc1
  have HK1 := hide hk1
  clear hc1 hk1 HCC
  by_cases k0 : x = 0
  · subst k0
    go_wp2_with fail
    refine (unhide TX _ (unhide HC1)).mono ?_
    rintro e w2 ⟨⟨t, rfl, ht⟩, hc2, hk2⟩
    have HK2 := hide ((unhide HK1).trans hk2)
    have HC2 := hide hc2
    have HT := hide ht
    have hcat : ¬ 9223372036854775807 < s.size + t.size := by omega
    clear hc2 hk2 ht
    go_wp2_with fail
    go_ret
    exact ⟨⟨s ++ t, rfl, by rw [ByteArray.size_append, unhide HT]; omega⟩, unhide HC2, unhide HK2⟩
  have e0 : (x == 0) = false := by simp; exact k0
  by_cases k1 : x = 1
  · subst k1
    go_wp2_with fail
    refine (unhide BL ((s.size : Int) + 1) (by omega) _ (unhide HC1)).mono ?_
    rintro e w2 ⟨⟨i, rfl, hi0, hi1⟩, hc2, hk2⟩
    obtain ⟨iN, rfl⟩ := Int.eq_ofNat_of_zero_le hi0
    have HK2 := hide ((unhide HK1).trans hk2)
    have HC2 := hide hc2
    have hi2 : (iN : Int) ≤ (s.size : Int) := by omega
    clear hc2 hk2
    go_wp2_with fail
    go_ret
    exact ⟨⟨_, rfl, by simp; omega⟩, unhide HC2, unhide HK2⟩
  have e1 : (x == 1) = false := by simp; exact k1
  have k23 : (x = 2 ∨ x = 3) ∨ ((x == 2) = false ∧ (x == 3) = false) := by
    by_cases h2 : x = 2
    · exact Or.inl (Or.inl h2)
    · by_cases h3 : x = 3
      · exact Or.inl (Or.inr h3)
      · exact Or.inr ⟨by simp; exact h2, by simp; exact h3⟩
  clear k0 k1
  rcases k23 with h23 | ⟨e2, e3⟩
  · by_cases hz : 0 < s.size
    · have hz' : (0 : Int) < (s.size : Int) := by omega
      rcases h23 with rfl | rfl
      all_goals
        go_wp2_with fail
        refine (unhide BL (s.size : Int) (by omega) _ (unhide HC1)).mono ?_
        rintro e w2 ⟨⟨i, rfl, hi0, hi1⟩, hc2, hk2⟩
        obtain ⟨iN, rfl⟩ := Int.eq_ofNat_of_zero_le hi0
        have HK2 := hide ((unhide HK1).trans hk2)
        have hi2 : (iN : Int) ≤ (s.size : Int) := by omega
        have hcc2 := hide hc2
        have hwr : IntKind.i64.wrap ((iN : Int) + 1) = (iN : Int) + 1 := IntWalk.i64_in _ ⟨by omega, by omega⟩
        have hsl1 : ∀ u, (Instr.slice 9 (.string s) none (some (.int .i64 (iN : Int))) none).run Tryz.prog u = .ok (.string (s.extract 0 iN)) u := fun u => by
          rw [run_slice_string_to_if u 9 s .i64 (iN : Int) Tryz.underlying9, if_pos (by omega)]
          simp
        have hsl2 : ∀ u, (Instr.slice 9 (.string s) (some (.int .i64 ((iN : Int) + 1))) none none).run Tryz.prog u = .ok (.string (s.extract (iN + 1) s.size)) u := fun u => by
          rw [run_slice_string_from_if u 9 s .i64 ((iN : Int) + 1) Tryz.underlying9, if_pos (by omega)]
          have : ((iN : Int) + 1).toNat = iN + 1 := by omega
          rw [this]
        have hA : (s.extract 0 iN).size = iN := by simp; omega
        have hZ : (s.extract (iN + 1) s.size).size = s.size - (iN + 1) := by simp
        generalize s.extract 0 iN = sa at hsl1 hA
        generalize s.extract (iN + 1) s.size = sz at hsl2 hZ
        have HA := hide hA
        have HZ := hide hZ
        have hAl : sa.size ≤ 100000 := by omega
        have hZl : sz.size ≤ 100000 := by omega
        have TXB : Hid (∀ w1, CC a len cap g B w1 → Calls Tryz.prog 34 #[.pointer (some ⟨g, 0, none⟩), .int .i64 1] w1 fun e w' => (∃ t : ByteArray, e = .returned (.string t) ∧ t.size = 1 ∧ (¬ 9223372036854775807 < sa.size + t.size) ∧ (¬ 9223372036854775807 < (sa ++ t).size + sz.size)) ∧ CC a len cap g B w' ∧ Kept (fun k => k = g) w1 w') := fun w1 h1 => by
          refine (unhide TX w1 h1).mono ?_
          rintro e w' ⟨⟨t, rfl, ht⟩, h⟩
          exact ⟨⟨t, rfl, ht, by omega, by rw [ByteArray.size_append]; omega⟩, h⟩
        clear hc2 hk2 hA hZ TX
        go_wp2_with fail
        go_region_with ((go_at_call 34; refine (unhide TXB w2.drew (show CC a len cap g B w2.drew from unhide hcc2)).mono ?_; rintro e w3 ⟨⟨t, rfl, ht, ht2, ht3⟩, hc3, hk3⟩))
        all_goals
          have HT := hide ht
          have HC3 := hide hc3
          have HK3 : Hid (Kept (fun k => k = g) w w3) := (unhide HK2).trans (show Kept (fun k => k = g) w2 w3 from hk3)
          clear ht hc3 hk3
          go_wp2_with fail
          go_ret
          refine ⟨⟨_, rfl, ?_⟩, ?_, ?_⟩
          · have := unhide HA
            have := unhide HZ
            have := unhide HT
            rw [ByteArray.size_append, ByteArray.size_append]
            omega
          · exact (show CC a len cap g B _ from unhide HC3)
          · exact (show Kept (fun k => k = g) w _ from unhide HK3)
    · have hz' : ¬ (0 : Int) < (s.size : Int) := by omega
      rcases h23 with rfl | rfl
      all_goals
        go_wp2_with fail
        go_ret
        exact ⟨⟨s, rfl, by omega⟩, unhide HC1, unhide HK1⟩
  · go_wp2_with fail
    go_ret
    exact ⟨⟨s, rfl, by omega⟩, unhide HC1, unhide HK1⟩
end Gr
end Go.Proofs.YthbhdfeafbineaaGreat
