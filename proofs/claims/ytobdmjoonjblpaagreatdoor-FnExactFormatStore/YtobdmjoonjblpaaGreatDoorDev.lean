/-
  Rows of texts and of puts in memory, as they stand in the laws' and the program's devices; the contracts of the sizes that the laws take of them.
-/
import Derived.Test.YtobdmjoonjblpaaGreatDoorProg
import Derived.Test.YtobdmjoonjblpaaGreatDoorBase
namespace Go.Proofs.YtobdmjoonjblpaaGreatDoor
open Go.RowKit

/-- A row of texts that can be read, below block B. -/
def StrsAt (w : World) (a : Option Addr) (len B : Nat) (L : List ByteArray) : Prop :=
  L.length = len ∧ ∀ j (h : j < L.length), ∃ b off, a = some ⟨b, off, none⟩ ∧ b < B ∧ w.cell? ⟨b, off + j, none⟩ = some (.string L[j])

/-- A row of puts (a place and a text) that can be read, below block B. -/
def PutsAt (w : World) (a : Option Addr) (len B : Nat) (Q : List (Int × ByteArray)) : Prop :=
  Q.length = len ∧ ∀ j (h : j < Q.length), ∃ b off, a = some ⟨b, off, none⟩ ∧ b < B ∧ w.cell? ⟨b, off + j * 2, none⟩ = some (.int .i64 Q[j].1) ∧ w.cell? ⟨b, off + j * 2 + 1, none⟩ = some (.string Q[j].2)

theorem StrsAt.below {w w' : World} {a : Option Addr} {len B C : Nat} {L : List ByteArray} (h : StrsAt w a len B L) (hb : Below C w w') (hC : B ≤ C) : StrsAt w' a len B L := by
  refine ⟨h.1, fun j hj => ?_⟩
  obtain ⟨b, off, e, hbB, hc⟩ := h.2 j hj
  exact ⟨b, off, e, hbB, by rw [hb.cell (p := ⟨b, off + j, none⟩) (by simp; omega)]; exact hc⟩

theorem PutsAt.below {w w' : World} {a : Option Addr} {len B C : Nat} {Q : List (Int × ByteArray)} (h : PutsAt w a len B Q) (hb : Below C w w') (hC : B ≤ C) : PutsAt w' a len B Q := by
  refine ⟨h.1, fun j hj => ?_⟩
  obtain ⟨b, off, e, hbB, hc, hc1⟩ := h.2 j hj
  exact ⟨b, off, e, hbB, by rw [hb.cell (p := ⟨b, off + j * 2, none⟩) (by simp; omega)]; exact hc, by rw [hb.cell (p := ⟨b, off + j * 2 + 1, none⟩) (by simp; omega)]; exact hc1⟩

theorem StrsAt.mono {w : World} {a : Option Addr} {len B C : Nat} {L : List ByteArray} (h : StrsAt w a len B L) (hC : B ≤ C) : StrsAt w a len C L := by
  refine ⟨h.1, fun j hj => ?_⟩
  obtain ⟨b, off, e, hbB, hc⟩ := h.2 j hj
  exact ⟨b, off, e, by omega, hc⟩

theorem PutsAt.mono {w : World} {a : Option Addr} {len B C : Nat} {Q : List (Int × ByteArray)} (h : PutsAt w a len B Q) (hC : B ≤ C) : PutsAt w a len C Q := by
  refine ⟨h.1, fun j hj => ?_⟩
  obtain ⟨b, off, e, hbB, hc, hc1⟩ := h.2 j hj
  exact ⟨b, off, e, by omega, hc, hc1⟩

def tot (L : List ByteArray) : Nat := (L.map ByteArray.size).sum

theorem tot_snoc (L : List ByteArray) (k : Nat) (h : k < L.length) : tot (L.take (k + 1)) = tot (L.take k) + L[k].size := by
  unfold tot
  rw [List.take_succ_eq_append_getElem h, List.map_append, List.sum_append]
  simp

set_option maxRecDepth 100000 in
set_option maxHeartbeats 1000000 in
theorem szStrs_any (a : Option Addr) (len cap B : Nat) (L : List ByteArray) (left : Int) (h0 : 0 ≤ left) (h1 : left ≤ 1048576) (hlen : len ≤ 9223372036854775807) (hm : ∀ s ∈ L, s.size ≤ 9223372036854775807) (w : World) (hs : StrsAt w a len B L) :
    Calls Tryz.prog 50 #[.slice a len cap, .int .i64 left] w fun e w' => (∃ x : Int, e = .returned (.int .i64 x) ∧ x ≤ left ∧ -1 ≤ x ∧ (0 ≤ x → (L.length : Int) + (tot L : Int) + x ≤ left)) ∧ w' = w := by
  obtain ⟨hL, hc⟩ := hs
  have HC := hide hc
  have HM := hide hm
  have HL := hide hL
  clear hc hm hL
  by_cases hbig : left - (len : Int) < 0
  · go_enter Tryz.func50, Tryz.ntmps50
    go_wp2
    go_ret
    exact ⟨⟨-1, rfl, by omega, by omega, by omega⟩, rfl⟩
  · go_enter Tryz.func50, Tryz.ntmps50
    go_wp2_with fail
    go_loop [1, 5] (fun l i => ∃ (k : Nat) (y : Int), i = .int .i64 k ∧ k ≤ len ∧ l = .int .i64 y ∧ 0 ≤ y ∧ y = left - (len : Int) - (tot (L.take k) : Int)) (fun _ i => len - (intOf i).toNat)
    case atStart => exact ⟨0, _, rfl, Nat.zero_le _, rfl, by omega, by simp [tot]⟩
    case round =>
      obtain ⟨k, y, rfl, hk, rfl, hy0, hy⟩ := hrel
      have HY := hide hy
      clear hy
      have hyl : y ≤ 1048576 := by have := unhide HY; omega
      by_cases hlt : k < len
      · have hkL : k < L.length := by have := unhide HL; omega
        obtain ⟨b, off, rfl, hb, hcell⟩ := unhide HC k hkL
        have hsz := unhide HM _ (List.getElem_mem hkL)
        have HT := hide (tot_snoc L k hkL)
        generalize L[k] = s at hcell hsz HT
        have hx0 : (0 : Int) ≤ (k : Int) := by omega
        have hx1 : (k : Int) < (len : Int) := by omega
        by_cases hneg : y - (s.size : Int) < 0
        · go_wp2
          go_ret
          exact ⟨⟨-1, rfl, by omega, by omega, by omega⟩, rfl⟩
        · go_wp2
          go_round
          case rel => exact ⟨k + 1, y - (s.size : Int), by go_num, by omega, rfl, by omega, by rw [unhide HT, unhide HY]; omega⟩
          case measure => simp [intOf]; omega
      · go_wp2
        go_ret
        refine ⟨⟨y, rfl, by have := unhide HY; omega, by omega, fun _ => ?_⟩, rfl⟩
        have h2 := unhide HY
        rw [List.take_of_length_le (by have := unhide HL; omega)] at h2
        have := unhide HL
        omega
end Go.Proofs.YtobdmjoonjblpaaGreatDoor
