/-
  The contract of spec.DrawPlaces: a row of twelve numbers, new; and of laws.big.
-/
import Derived.Test.YtkidkfopnghghaaGrDraw
namespace Go.Proofs.Ytkidkfopnghghaa
namespace Gr
open Go.RowKit

theorem big_is (a : Option Addr) (len cap : Nat) (w : World) :
    Calls Try.prog 6 #[.slice a len cap] w fun e w' => e = .returned (.bool (decide ((1048576 : Int) < (len : Int)))) ∧ w' = w := by
  go_enter Try.func6, Try.ntmps6
  go_wp2
  go_ret
  exact ⟨rfl, rfl⟩

theorem one_int (x : Int) : ∀ u ∈ [Value.int .i64 x], u.oneCell' = true := fun u hu => by simp at hu; rw [hu]; rfl

theorem intsV_snoc (K : List Int) (x : Int) : intsV (K ++ [x]) = intsV K ++ [.int .i64 x] := by simp [intsV]

theorem own_shapeP {w : World} {B e s n : Nat} {v : Value} {xs : List Value} (h : w.ownsRow B e s v n xs) : ∃ A c, v = .slice A n c := by
  rcases h.2 with ⟨rfl, rfl⟩ | ⟨g, cap, cur, rfl, _⟩
  · exact ⟨none, 0, rfl⟩
  · exact ⟨_, cap, rfl⟩

/-- What stands while places are drawn. -/
def PD (a : Option Addr) (len cap g B : Nat) (w : World) (i : Nat) (v : Value) (wr : World) : Prop :=
  CC a len cap g B wr ∧ Kept (fun k => k = g) w wr ∧ ∃ K : List Int, K.length = i ∧ wr.ownsRow w.heap.size 3 1 v i (intsV K)

set_option maxRecDepth 100000 in
set_option maxHeartbeats 1000000 in
theorem places_is (a : Option Addr) (len cap : Nat) (hl : len ≤ 1048576) (w : World) (hd : Code a len w.heap.size w) :
    Calls Try.prog 12 #[.slice a len cap] w fun e w' => (∃ v, e = .returned v ∧ ∃ K : List Int, K.length = 12 ∧ w'.ownsRow w.heap.size 3 1 v 12 (intsV K)) ∧ Below w.heap.size w w' := by
  obtain ⟨i0, hi, hz0, hz1, hz2⟩ := info_parts info3
  have HN := hide (new_any a len cap hl w hd)
  have HD := hide hd
  clear hd
  go_enter Try.func12, Try.ntmps12
  go_wp2_with fail
  refine (unhide HN).mono ?_
  rintro e w1 ⟨rfl, hcu1, hb1⟩
  have hco : Code a len w.heap.size w1 := fun j hj => by
    obtain ⟨b, off, z, e, hb, hc, hz⟩ := unhide HD j hj
    exact ⟨b, off, z, e, hb, by rw [hb1.cell (p := ⟨b, off + j, none⟩) (by simpa using hb)]; exact hc, hz⟩
  have cc1 : CC a len cap w.heap.size w.heap.size w1 := ⟨hcu1, hco⟩
  have hg1 := cc1.lt
  have HBY := hide (byte_any a len cap w.heap.size w.heap.size hl (Nat.le_refl _) w1 hcu1 hco)
  clear hcu1 hco HN
  go_wp2_with fail
  refine (unhide HBY).mono ?_
  rintro e w2 ⟨⟨x, rfl, hx0, hx1⟩, hcu2, hg2⟩
  have cc2 : CC a len cap w.heap.size w.heap.size w2 := ⟨hcu2, cc1.2.grown (Nat.le_refl _) hg2⟩
  have hk2 := grownK hg2
  have hs2 := hg2.size
  clear hcu2 hg2 cc1 HBY
  have BE := hide (fun w1 (h : CC a len cap w.heap.size w.heap.size w1) => below_cc a len cap w.heap.size w.heap.size 10000 hl (Nat.le_refl _) (by omega) w1 h)
  go_wp2_with fail
  go_loopw [4, 5] (fun out a5 wr => ∃ i : Nat, a5 = .int .i64 i ∧ i ≤ 12 ∧ PD a len cap w.heap.size w.heap.size w1 i out wr) (fun _ a5 _ => 12 - (intOf a5).toNat)
  case atStart =>
    refine ⟨0, rfl, Nat.zero_le _, cc2.below (below_new w2 _) (Nat.le_refl _), hk2.trans (Kept.of_below (below_new w2 _)), [], rfl, ?_⟩
    exact World.ownsRow_made w2 #[] 0 (by omega) (Nat.zero_le _) rfl
  case round =>
    obtain ⟨i, rfl, hi2, cc, hk, K, hKi, hown⟩ := hrel
    have hkk : ∀ k, u4.ownBlock = some k → w1.heap.size ≤ k := fun k hk => (hown.lt k hk).1
    have HKK := hide hkk
    have HKI := hide hKi
    have HOW := hide hown
    have HK := hide hk
    by_cases hlt : i < 12
    · have HX := hide (unhide BE wr cc)
      clear hown cc hKi hkk hk
      go_wp2_with fail
      refine (unhide HX).mono ?_
      rintro e w3 ⟨⟨x3, rfl, hx30, hx31⟩, cc3, hk3⟩
      have hown3 := hk3.own (unhide HOW) (fun k hk e => by have := unhide HKK k hk; omega)
      have HCC3 := hide cc3
      have HK3 := hide ((unhide HK).trans hk3)
      have hg3 := cc3.lt
      clear cc3 hk3 HX
      go_wp2_with (at_builtin; refine wpList_append_own _ rfl _ _ 28 rfl w1.heap.size 3 i0 (.int .i64 0) 1 8 Try.underlying28 hi hz0 hz1 hz2 rfl (by decide) _ _ _ rfl (hown3.alloc _) ⟨w3.heap.size, 0, none⟩ 1 1 [.int .i64 x3] rfl rfl (cell_one_new _ _ _) (one_int _) ?_ ?_ ?_ ?_)
      · unfold maxLen; omega
      · omega
      · have := (unhide HK3).2.2.2.1; simp; omega
      intro v' w4 hown' hgrow _
      have hkg := Kept.of_grown hgrow
      have HPD : Hid (PD a len cap w.heap.size w.heap.size w1 (i + 1) v' w4) := by
        refine ⟨((unhide HCC3).below (below_new w3 _) (Nat.le_refl _)).kept hkg (Nat.le_refl _) (fun k e => by have := unhide HKK k e; omega), ?_, K ++ [x3], by rw [List.length_append, unhide HKI]; rfl, by rw [intsV_snoc]; exact hown'⟩
        have k15 := (unhide HK3).trans (Kept.of_below (below_new w3 (Obj.cells #[Value.int .i64 x3] 3)))
        exact ⟨hkg.1.trans k15.1, hkg.2.1.trans k15.2.1, hkg.2.2.1.trans k15.2.2.1, Nat.le_trans k15.2.2.2.1 hkg.2.2.2.1, fun i hi hn => (hkg.2.2.2.2 i (Nat.lt_of_lt_of_le hi k15.2.2.2.1) (fun e => by have := unhide HKK _ e; omega)).trans (k15.2.2.2.2 i hi hn)⟩
      clear hown' hgrow hkg hown3
      go_wp2
      go_roundw
      case rel => exact ⟨i + 1, by go_num, by omega, unhide HPD⟩
      case measure => simp [intOf]; omega
    · obtain rfl : i = 12 := by omega
      go_wp2
      go_ret
      refine ⟨⟨_, rfl, K, hKi, own_lower hb1.size hown⟩, hb1.trans (hk.below hb1.size (fun k e => by omega))⟩

end Gr
end Go.Proofs.Ytkidkfopnghghaa
