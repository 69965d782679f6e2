/-
  More that is drawn: one of a list of numbers, a text.
-/
import Derived.Test.YtabnghiphmongaaGrCC
import Derived.Test.YtabnghiphmongaaGrBlkS
import Derived.Test.YtabnghiphmongaaWVar
namespace Go.Proofs.Ytabnghiphmongaa
namespace Gr
open Go.RowKit

theorem CC.alloc {a : Option Addr} {len cap g B : Nat} {w : World} (h : CC a len cap g B w) (hB : B ≤ g) (o : Obj) : CC a len cap g B (w.alloc o) := h.below (below_new _ _) hB

theorem CC.set {a : Option Addr} {len cap g B k j : Nat} {w : World} (h : CC a len cap g B w) (hB : B ≤ g) (hk : g < k) (v : Value) : CC a len cap g B (w.setCell ⟨k, j, none⟩ v) :=
  h.kept (S := fun i => i = k) (Kept.set _ _ _ _ rfl) hB (fun i hi => by omega)

set_option maxRecDepth 100000 in
theorem pick_list (a : Option Addr) (len cap g B b : Nat) (C : Array Value) (L : List Int) (hL : 0 < L.length) (hL2 : L.length ≤ 200) (hC : ∀ j (h : j < L.length), C[j]? = some (.int .i64 L[j])) (hl : len ≤ 1048576) (hB : B ≤ g) (hb : b ≠ g) (w : World) (h : CC a len cap g B w) (hx : Blk w b C 3) :
    Calls Try.prog 28 #[.pointer (some ⟨g, 0, none⟩), .slice (some ⟨b, 0, none⟩) L.length L.length] w fun e w' => (∃ x, e = .returned (.int .i64 x) ∧ x ∈ L) ∧ CC a len cap g B w' ∧ Kept (fun k => k = g) w w' := by
  have H := hide (below_cc a len cap g B (L.length : Int) hl hB (by omega) w h)
  have HX := hide hx
  have HC := hide hC
  obtain ⟨n, hn⟩ : ∃ n, n = L.length := ⟨_, rfl⟩
  rw [← hn] at H hL hL2 ⊢
  have HN := hide hn
  clear h hx hC hn
  go_enter Try.func28, Try.ntmps28
  go_wp2_with fail
  refine (unhide H).mono ?_
  rintro e w1 ⟨⟨x, rfl, hx0, hx1⟩, hc1, hg1⟩
  obtain ⟨k, rfl⟩ := Int.eq_ofNat_of_zero_le hx0
  have hkL : k < L.length := by have := unhide HN; omega
  have c1 : w1.cell? ⟨b, k, none⟩ = some (.int .i64 L[k]) := ((unhide HX).kept hg1 hb).cell k _ (unhide HC k hkL)
  have HM : Hid (L[k] ∈ L) := List.getElem_mem hkL
  generalize L[k] = y at c1 HM
  have HC1 := hide hc1
  have HG := hide hg1
  clear hc1 hg1
  go_wp2
  go_ret
  exact ⟨⟨y, rfl, unhide HM⟩, unhide HC1, unhide HG⟩

theorem CC.code {a : Option Addr} {len cap g B : Nat} {w : World} (h : CC a len cap g B w) : Code a len B w := h.2

theorem byte_cc (a : Option Addr) (len cap g B : Nat) (hl : len ≤ 1048576) (hB : B ≤ g) (w : World) (h : CC a len cap g B w) :
    Calls Try.prog 36 #[.pointer (some ⟨g, 0, none⟩)] w fun e w' => (∃ x : Nat, e = .returned (.int .i64 (x : Int)) ∧ x ≤ 255) ∧ CC a len cap g B w' ∧ Kept (fun k => k = g) w w' := by
  refine (byte_any a len cap g B hl hB w h.1 h.2).mono ?_
  rintro e w' ⟨⟨x, rfl, hx0, hx1⟩, hc, hg⟩
  obtain ⟨k, rfl⟩ := Int.eq_ofNat_of_zero_le hx0
  exact ⟨⟨k, rfl, by omega⟩, ⟨hc, h.2.grown hB hg⟩, grownK hg⟩

/-- What a text's loop carries. -/
def TxR (a : Option Addr) (len cap g B : Nat) (w wr : World) (v : Value) (i : Nat) : Prop := ∃ l : List UInt8, l.length = i ∧ wr.ownsRow w.heap.size 5 1 v i (bytesV l) ∧ CC a len cap g B wr ∧ Kept (fun k => k = g) w wr

set_option maxRecDepth 100000 in
set_option maxHeartbeats 1000000 in
theorem text_cc (a : Option Addr) (len cap g B n : Nat) (hl : len ≤ 1048576) (hB : B ≤ g) (hn : n ≤ 5000) (w : World) (h : CC a len cap g B w) :
    Calls Try.prog 34 #[.pointer (some ⟨g, 0, none⟩), .int .i64 (n : Int)] w fun e w' => (∃ s : ByteArray, e = .returned (.string s) ∧ s.size = n) ∧ CC a len cap g B w' ∧ Kept (fun k => k = g) w w' := by
  obtain ⟨i0, hi, hz0, hz1, hz2⟩ := info_parts info5
  have hgl := h.lt
  have BY := hide (fun w1 hc => byte_cc a len cap g B hl hB w1 hc)
  have HT0 : Hid (TxR a len cap g B w (w.alloc (.cells #[] 5)) (.slice (some ⟨w.heap.size, 0, none⟩) 0 0) 0) := ⟨[], rfl, World.ownsRow_made w #[] 0 (Nat.le_refl _) (Nat.zero_le _) rfl, h.alloc hB _, Kept.of_below (below_new _ _)⟩
  clear h
  have hn5 : ¬ (5000 : Int) < (n : Int) := by omega
  go_enter Try.func34, Try.ntmps34
  go_wp2_with fail
  go_loopw [5, 6] (fun out a6 wr => ∃ (i : Nat) (ov : Value), a6 = .int .i64 (i : Int) ∧ ov = out ∧ i ≤ n ∧ Hid (TxR a len cap g B w wr ov i)) (fun _ a6 _ => n - (intOf a6).toNat)
  case atStart => exact ⟨0, _, rfl, rfl, Nat.zero_le _, unhide HT0⟩
  case round =>
    obtain ⟨i, ov, rfl, rfl, hi2, HT⟩ := hrel
    obtain ⟨l, hll, hown, hcc, hkp⟩ := unhide HT
    by_cases hlt : i < n
    · have H := hide (unhide BY wr hcc)
      have hob : ∀ k, ov.ownBlock = some k → ¬ k = g := fun k hk e => by have := (hown.lt k hk).1; omega
      have HO := hide (fun (w2 : World) (hg : Kept (fun k => k = g) wr w2) => hg.own hown hob)
      have HKP := hide hkp
      have hz := hkp.2.2.2.1
      have HLL := hide hll
      clear hown hcc hkp hob HT hll
      go_wp2_with fail
      refine (unhide H).mono ?_
      rintro e w2 ⟨⟨x, rfl, hx⟩, hc2, hg2⟩
      have hown2 := unhide HO w2 hg2
      have hz2' := hg2.2.2.2.1
      have HK2 := hide ((unhide HKP).trans hg2)
      have HC2 := hide hc2
      clear hc2 hg2 H HO HKP
      go_wp2_with (at_builtin; refine wpList_append_own _ rfl _ _ 33 rfl w.heap.size 5 i0 (.int .u8 0) 1 1 Try.underlying33 hi hz0 hz1 hz2 rfl (by decide) _ _ _ rfl (hown2.alloc _) ⟨w2.heap.size, 0, none⟩ 1 1 [.int .u8 (x : Int)] rfl rfl (cell_one_new _ _ _) (one_byte _) ?c3 ?c4 ?c5 ?_)
      case c3 => unfold maxLen; omega
      case c4 => omega
      case c5 => simp; omega
      intro v' w3 hown' hgrow _
      have HT3 : Hid (TxR a len cap g B w w3 v' (i + 1)) := by
        have hll := unhide HLL
        have hK2 := unhide HK2
        have ha : Kept (fun k => k = g) w2 (w2.alloc (.cells #[.int .u8 (x : Int)] 5)) := Kept.of_below (below_new _ _)
        have hb : Kept (fun k => ov.ownBlock = some k) (w2.alloc (.cells #[.int .u8 (x : Int)] 5)) w3 := (Kept.of_grown hgrow).weak (fun k hk => hk)
        have hlow : ∀ k, ov.ownBlock = some k → w.heap.size ≤ k := fun k hk => (hown2.lt k hk).1
        refine ⟨l ++ [UInt8.ofNat x], by simp [hll], ?_, ?_, ?_⟩
        · have h := own_snoc (pre := l) (c := UInt8.ofNat x) (by rw [toNat_ofNat_small _ (by omega)]) (by rw [hll]; exact hown')
          simp only [List.length_append, List.length_singleton, hll] at h
          exact h
        · exact ((unhide HC2).alloc hB _).kept hb hB (fun k hk => by have := hlow k hk; omega)
        · refine ⟨?_, ?_, ?_, ?_, ?_⟩
          · exact hb.1.trans (ha.1.trans hK2.1)
          · exact hb.2.1.trans (ha.2.1.trans hK2.2.1)
          · exact hb.2.2.1.trans (ha.2.2.1.trans hK2.2.2.1)
          · exact Nat.le_trans hK2.2.2.2.1 (Nat.le_trans ha.2.2.2.1 hb.2.2.2.1)
          · intro k hk hS
            have h1 := hK2.2.2.2.2 k hk hS
            have h2 := ha.2.2.2.2 k (by omega) hS
            have h3 := hb.2.2.2.2 k (by have := ha.2.2.2.1; omega) (fun e => by have := hlow k e; omega)
            exact h3.trans (h2.trans h1)
      clear hown' hgrow hown2
      go_wp2
      exact ⟨⟨i + 1, _, by go_num, rfl, by omega, unhide HT3⟩, by simp [intOf]; omega⟩
    · obtain rfl : i = n := by omega
      have hown1 : wr.ownsRow w.heap.size 5 1 ov l.length (bytesV l) := by rw [hll]; exact hown
      have hcv := convert_own wr 33 9 5 w.heap.size ov _ Try.underlying33 Try.underlying5 Try.underlying9 hown1
      have HS : Hid ((ByteArray.mk l.toArray).size = i) := by show l.toArray.size = i; simp [hll]
      have HCC := hide hcc
      have HKP := hide hkp
      clear hown1 hown hcc hkp hll HT
      go_wp2
      go_ret
      exact ⟨⟨_, rfl, unhide HS⟩, unhide HCC, unhide HKP⟩
end Gr
end Go.Proofs.Ytabnghiphmongaa
