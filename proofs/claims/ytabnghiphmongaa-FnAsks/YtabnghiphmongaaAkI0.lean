/-
  The program's contracts of asks, the small ones: toldNumbers, bytesOf, places.
-/
import Derived.Test.YtabnghiphmongaaAkSpec2
namespace Go.Proofs.Ytabnghiphmongaa
namespace Gr
open Go.RowKit

def opIn (op : Int) : Bool := decide (1 ≤ op) && decide (op ≤ 6)

set_option maxRecDepth 100000 in
theorem told_is (op : Int) (w : World) : Calls Try.prog 19 #[.int .i64 op] w fun e w' => e = .returned (.tuple #[.int .i64 ((askN op : Nat) : Int), .bool (opIn op)]) ∧ w' = w := by
  have hR : askN op = if op = 1 ∨ op = 3 ∨ op = 5 then 1 else if op = 2 then 5 else 0 := rfl
  have hO : opIn op = (decide (1 ≤ op) && decide (op ≤ 6)) := rfl
  generalize askN op = R at hR ⊢
  generalize opIn op = O at hO ⊢
  by_cases h1 : op = 1
  · subst h1
    simp at hR hO
    subst hR hO
    go_enter Try.func19, Try.ntmps19
    go_wp2
    go_ret2
    exact ⟨rfl, rfl⟩
  by_cases h3 : op = 3
  · subst h3
    simp at hR hO
    subst hR hO
    go_enter Try.func19, Try.ntmps19
    go_wp2
    go_ret2
    exact ⟨rfl, rfl⟩
  by_cases h5 : op = 5
  · subst h5
    simp at hR hO
    subst hR hO
    go_enter Try.func19, Try.ntmps19
    go_wp2
    go_ret2
    exact ⟨rfl, rfl⟩
  by_cases h2 : op = 2
  · subst h2
    simp at hR hO
    subst hR hO
    go_enter Try.func19, Try.ntmps19
    go_wp2
    go_ret2
    exact ⟨rfl, rfl⟩
  by_cases h4 : op = 4
  · subst h4
    simp at hR hO
    subst hR hO
    go_enter Try.func19, Try.ntmps19
    go_wp2
    go_ret2
    exact ⟨rfl, rfl⟩
  by_cases h6 : op = 6
  · subst h6
    simp at hR hO
    subst hR hO
    go_enter Try.func19, Try.ntmps19
    go_wp2
    go_ret2
    exact ⟨rfl, rfl⟩
  · have e1 : (op == 1) = false := by simp; exact h1
    have e3 : (op == 3) = false := by simp; exact h3
    have e5 : (op == 5) = false := by simp; exact h5
    have e2 : (op == 2) = false := by simp; exact h2
    have e4 : (op == 4) = false := by simp; exact h4
    have e6 : (op == 6) = false := by simp; exact h6
    have hO2 : O = false := by rw [hO]; simp; omega
    simp [h1, h3, h5, h2] at hR
    clear hO
    subst hR hO2
    clear h1 h2 h3 h4 h5 h6
    go_enter Try.func19, Try.ntmps19
    go_wp2
    go_ret2
    exact ⟨rfl, rfl⟩

/-- Numbers below 256 as bytes. -/
def byL (L : List Int) : List UInt8 := L.map fun x => UInt8.ofNat x.toNat

set_option maxRecDepth 100000 in
set_option maxHeartbeats 1000000 in
theorem bytesOf_any (a : Option Addr) (n c B : Nat) (L : List Int) (hn : n ≤ 100000) (hL : ∀ x ∈ L, 0 ≤ x ∧ x ≤ 255) (w : World) (hB : B ≤ w.heap.size) (hs : IntsAt w a n B L) :
    Calls Try.prog 20 #[.slice a n c] w fun e w' => e = .returned (.string ⟨(byL L).toArray⟩) ∧ Below w.heap.size w w' := by
  obtain ⟨i0, hi, hz0, hz1, hz2⟩ := info_parts info5
  obtain ⟨hl, hc⟩ := hs
  have HC := hide hc
  have HL := hide hl
  have HX := hide hL
  have HEND : Hid (byL L = byL (L.take n)) := by show _ = _; rw [← hl, List.take_length]
  have HSN : Hid (∀ k (h : k < L.length), byL (L.take (k + 1)) = byL (L.take k) ++ [UInt8.ofNat (L[k]).toNat]) := fun k h => by
    unfold byL
    rw [List.take_succ_eq_append_getElem h, List.map_append]
    rfl
  have HLN : Hid (∀ k, k ≤ n → (byL (L.take k)).length = k) := fun k h => by unfold byL; simp; omega
  clear hc hl hL
  go_enter Try.func20, Try.ntmps20
  go_wp2_with fail
  go_loopw [8, 3] (fun iv out wr => ∃ (k : Nat) (ov : Value), iv = .int .i64 (k : Int) ∧ ov = out ∧ k ≤ n ∧ wr.ownsRow w.heap.size 5 1 ov k (bytesV (byL (L.take k))) ∧ Below w.heap.size w wr) (fun iv _ _ => n - (intOf iv).toNat)
  case atStart => exact ⟨0, _, rfl, rfl, Nat.zero_le _, World.ownsRow_nil _ _ _ _, Below.refl _ _⟩
  case round =>
    obtain ⟨k, ov, rfl, rfl, hk, hown, hb⟩ := hrel
    have hbs := hb.size
    by_cases hlt : k < n
    · have hkL : k < L.length := by have := unhide HL; omega
      obtain ⟨b, off, rfl, hbB, c1⟩ := unhide HC k hkL
      rw [← hb.cell (p := ⟨b, off + k, none⟩) (by simp; omega)] at c1
      have hx := unhide HX _ (List.getElem_mem hkL)
      have HS := hide (unhide HSN k hkL)
      have hlen := unhide HLN k hk
      have hlen1 := unhide HLN (k + 1) hlt
      generalize L[k] = x at c1 hx HS
      obtain ⟨xn, rfl⟩ := Int.eq_ofNat_of_zero_le hx.1
      have hx1 : (k : Int) < (n : Int) := by omega
      have hx0 : (0 : Int) ≤ (k : Int) := by omega
      have hxn : xn ≤ 255 := by omega
      have HLE := hide hlen
      have HLE1 := hide hlen1
      clear hlen hlen1
      go_wp2_with (at_builtin; refine wpList_append_own _ rfl _ _ 33 rfl w.heap.size 5 i0 (.int .u8 0) 1 1 Try.underlying33 hi hz0 hz1 hz2 rfl (by decide) _ _ _ rfl (hown.alloc _) ⟨wr.heap.size, 0, none⟩ 1 1 [.int .u8 (xn : Int)] rfl rfl (cell_one_new _ _ _) (one_byte _) ?c3 ?c4 ?c5 ?_)
      case c3 => unfold maxLen; omega
      case c4 => omega
      case c5 => simp; omega
      intro v' w1 hown' hgrow _
      have hb1 := below_append hb (Nat.le_refl _) hown hgrow
      have hown2 : w1.ownsRow w.heap.size 5 1 v' (k + 1) (bytesV (byL (L.take (k + 1)))) := by
        have e := unhide HLE
        have h := own_snoc (pre := byL (L.take k)) (c := UInt8.ofNat xn) (by rw [toNat_ofNat_small _ (by omega)]) (by rw [e]; exact hown')
        rw [unhide HS]
        have e2 := unhide HLE1
        rw [unhide HS] at e2
        simp only [Int.toNat_natCast] at e2 h ⊢
        rw [e2] at h
        exact h
      clear hown' hgrow hown hb c1
      go_wp2
      exact ⟨⟨k + 1, _, by go_num, rfl, by omega, hown2, hb1⟩, by simp [intOf]; omega⟩
    · obtain rfl : k = n := by omega
      have hlen := unhide HLN k hk
      have hown1 : wr.ownsRow w.heap.size 5 1 ov (byL (L.take k)).length (bytesV (byL (L.take k))) := by rw [hlen]; exact hown
      have hcv := convert_own wr 33 9 5 w.heap.size ov _ Try.underlying33 Try.underlying5 Try.underlying9 hown1
      rw [← unhide HEND] at hcv
      have HLE := hide hlen
      clear hown1 hown hlen
      go_wp2
      go_ret
      exact ⟨rfl, hb⟩

/-- What places hands back: where each number of an ask lies. -/
def plC (g : Nat) : Array Value := #[.pointer (some ⟨g, 1, none⟩), .pointer (some ⟨g, 2, none⟩), .pointer (some ⟨g, 3, none⟩), .pointer (some ⟨g, 4, none⟩), .pointer (some ⟨g, 5, none⟩)]

set_option maxRecDepth 100000 in
set_option maxHeartbeats 1000000 in
theorem places_any (g : Nat) (w : World) : Calls Try.prog 21 #[.pointer (some ⟨g, 0, none⟩)] w fun e w' => (∃ p, e = .returned (.slice (some ⟨p, 0, none⟩) 5 5) ∧ w.heap.size ≤ p ∧ Blk w' p (plC g) 47) ∧ Below w.heap.size w w' := by
  go_enter Try.func21, Try.ntmps21
  go_wp2_with fail
  go_region
  go_wp2_with fail
  go_ret
  refine ⟨⟨w.heap.size, rfl, by omega, ?_⟩, ?_⟩
  · exact Blk.new0.drew
  · exact (below_new _ _).drew
end Gr
end Go.Proofs.Ytabnghiphmongaa
