/-
  The contract of spec.DrawPlaces: a row of twelve numbers in 0 .. 9999, new.
-/
import Derived.Test.YtnflilaldamddaaDrawKept
import Derived.Test.YtnflilaldamddaaInts
namespace Go.Proofs.Ytnflilaldamddaa
open Go.RowKit

theorem one_int (x : Int) : ∀ u ∈ [Value.int .i64 x], u.oneCell' = true := fun u hu => by simp at hu; rw [hu]; rfl

theorem intsV_snoc (K : List Int) (x : Int) : intsV (K ++ [x]) = intsV K ++ [.int .i64 x] := by simp [intsV]

set_option maxRecDepth 100000 in
set_option maxHeartbeats 1000000 in
theorem places_any (a : Option Addr) (len cap : Nat) (hl : len ≤ 1048576) (w : World) (hd : Code a len w.heap.size w) :
    Calls Try.prog 12 #[.slice a len cap] w fun e w' => (∃ v K, e = .returned v ∧ w'.ownsRow w.heap.size 3 1 v 12 (intsV K) ∧ ∀ x ∈ K, 0 ≤ x ∧ x < 10000) ∧ Below w.heap.size w w' := by
  obtain ⟨i0, hi, hz0, hz1, hz2⟩ := info_parts info3
  have HN := hide (new_any a len cap hl w hd)
  have HD := hide hd
  clear hd
  go_enter Try.func12, Try.ntmps12
  go_wp2_with fail
  refine (unhide HN).mono ?_
  rintro e w1 ⟨rfl, hcu1, hb1⟩
  have hlt1 := hcu1.lt
  have HB := hide (byte_any a len cap w.heap.size w.heap.size hl (Nat.le_refl _) w1 hcu1 ((unhide HD).below hb1 (Nat.le_refl _)))
  have hco1 := (unhide HD).below hb1 (Nat.le_refl _)
  have HCO1 := hide hco1
  clear hcu1 hco1 HN
  go_wp2_with fail
  refine (unhide HB).mono ?_
  rintro e w2 ⟨⟨x, rfl, hx0, hx1⟩, hcu2, hg2⟩
  have hk2 := grown_kept hg2
  have hc2 : Below w.heap.size w w2 := hb1.trans (hk2.below hb1.size (fun k hk => by omega))
  have HCU2 := hide hcu2
  have HCO2 := hide ((unhide HCO1).grown (Nat.le_refl _) hg2)
  have hz2' := hg2.size
  clear hcu2 hg2 hk2 hb1 HB HCO1
  go_wp2_with fail
  have BX := hide (fun (w2 : World) (h1 : Cur a len cap w.heap.size w2) (h2 : Code a len w.heap.size w2) => below_any a len cap w.heap.size w.heap.size 10000 hl (Nat.le_refl _) (by omega) w2 h1 h2)
  go_loopw [4, 5] (fun out a5 wr => ∃ (i : Nat) (K : List Int), a5 = .int .i64 i ∧ i ≤ 12 ∧ K.length = i ∧ (∀ x ∈ K, 0 ≤ x ∧ x < 10000) ∧ wr.ownsRow (w.heap.size + 1) 3 1 out i (intsV K) ∧ Cur a len cap w.heap.size wr ∧ Code a len w.heap.size wr ∧ Below w.heap.size w wr ∧ w.heap.size + 1 ≤ wr.heap.size) (fun _ a5 _ => 12 - (intOf a5).toNat)
  case atStart =>
    refine ⟨0, [], rfl, Nat.zero_le _, rfl, by simp, ?_, (unhide HCU2).alloc _, (unhide HCO2).alloc _, hc2.alloc hc2.size _, by simp; omega⟩
    exact World.ownsRow_made w2 #[] 0 (by omega) (Nat.zero_le _) rfl
  case round =>
    obtain ⟨i, K, rfl, hi2, hKi, hKs, hown, hcu, hco, hb, hsz⟩ := hrel
    by_cases hlt : i < 12
    · have HX := hide (unhide BX wr hcu hco)
      have HCO := hide hco
      have HKs := hide hKs
      have HKi := hide hKi
      have HOW := hide hown
      have hk : ∀ k, u4.ownBlock = some k → w.heap.size + 1 ≤ k := fun k hk => (hown.lt k hk).1
      have HK := hide hk
      clear hown hcu hco hKs hKi hk
      go_wp2_with fail
      refine (unhide HX).mono ?_
      rintro e w3 ⟨x3, rfl, hx30, hx31, hcu3, hg3⟩
      have hk3 := grown_kept hg3
      have hown3 := hk3.own (unhide HOW) (fun k hk e => by have := unhide HK k hk; omega)
      have HCU3 := hide hcu3
      have HCO3 := hide ((unhide HCO).grown (Nat.le_refl _) hg3)
      have hb3 : Below w.heap.size w w3 := hb.trans (hk3.below hb.size (fun k hk => by omega))
      have hz3 := hg3.size
      clear hcu3 hg3 hk3 HX
      go_wp2_with (at_builtin; refine wpList_append_own _ rfl _ _ 31 rfl (w.heap.size + 1) 3 i0 (.int .i64 0) 1 8 Try.underlying31 hi hz0 hz1 hz2 rfl (by decide) _ _ _ rfl (hown3.alloc _) ⟨w3.heap.size, 0, none⟩ 1 1 [.int .i64 x3] rfl rfl (cell_one_new _ _ _) (one_int _) ?_ ?_ ?_ ?_)
      · unfold maxLen; omega
      · omega
      · first | omega | (simp; omega)
      intro v' w4 hown' hgrow _
      have hkr : ∀ k, u4.ownBlock = some k → w.heap.size + 1 ≤ k := unhide HK
      have HB4 : Hid (Below w.heap.size w w4) := (hb3.alloc hb3.size _).grown hgrow (by simp; omega) (fun k hk => by have := hkr k hk; omega)
      have HCU4 := hide (((unhide HCU3).alloc _).row (fun e => by have := hkr _ e; omega) hgrow)
      have HCO4 := hide (((unhide HCO3).alloc _).row (fun k hk => by have := hkr k hk; omega) hgrow)
      rw [← intsV_snoc] at hown'
      have HO4 := hide hown'
      have HS4 : Hid (w.heap.size + 1 ≤ w4.heap.size) := by have := hgrow.size; simp at this; show _ ≤ _; omega
      have HKs4 : Hid (∀ y ∈ K ++ [x3], 0 ≤ y ∧ y < 10000) := fun y hy => by
        rcases List.mem_append.1 hy with h | h
        · exact unhide HKs y h
        · simp at h; rw [h]; exact ⟨hx30, hx31⟩
      clear hown' hgrow hown3 hkr hb3 hb
      go_wp2
      go_roundw
      case rel => exact ⟨i + 1, K ++ [x3], by go_num, by omega, by simp; exact unhide HKi, unhide HKs4, unhide HO4, unhide HCU4, unhide HCO4, unhide HB4, unhide HS4⟩
      case measure => simp [intOf]; omega
    · obtain rfl : i = 12 := by omega
      have HO := hide hown
      have HKs := hide hKs
      clear hown hcu hco hKs hKi
      go_wp2
      go_ret
      exact ⟨⟨_, K, rfl, own_lower (by omega) (unhide HO), unhide HKs⟩, hb⟩
end Go.Proofs.Ytnflilaldamddaa
