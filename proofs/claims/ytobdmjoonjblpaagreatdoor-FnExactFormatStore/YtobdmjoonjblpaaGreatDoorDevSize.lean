/-
  The contracts of laws.szPut, szPutS and szDevice.
-/
import Derived.Test.YtobdmjoonjblpaaGreatDoorDev
namespace Go.Proofs.YtobdmjoonjblpaaGreatDoor
open Go.RowKit

def totQ (Q : List (Int × ByteArray)) : Nat := (Q.map fun q => q.2.size).sum

theorem totQ_snoc (Q : List (Int × ByteArray)) (k : Nat) (h : k < Q.length) : totQ (Q.take (k + 1)) = totQ (Q.take k) + Q[k].2.size := by
  unfold totQ
  rw [List.take_succ_eq_append_getElem h, List.map_append, List.sum_append]
  simp

theorem szPut_any (x : Int) (s : ByteArray) (left : Int) (h0 : 0 ≤ left) (h1 : left ≤ 1048576) (hm : s.size ≤ 9223372036854775807) (w : World) :
    Calls Tryz.prog 98 #[.agg #[.int .i64 x, .string s], .int .i64 left] w fun e w' => e = .returned (.int .i64 (if left - (s.size : Int) < 0 then -1 else left - (s.size : Int))) ∧ Below w.heap.size w w' := by
  by_cases h : left - (s.size : Int) < 0
  · rw [if_pos h]
    go_enter Tryz.func98, Tryz.ntmps98
    go_wp2
    go_ret
    exact ⟨rfl, (Below.refl _ _).alloc (Nat.le_refl _) _⟩
  · rw [if_neg h]
    go_enter Tryz.func98, Tryz.ntmps98
    go_wp2
    go_ret
    exact ⟨rfl, (Below.refl _ _).alloc (Nat.le_refl _) _⟩

set_option maxRecDepth 100000 in
set_option maxHeartbeats 1000000 in
theorem szPuts_any (a : Option Addr) (len cap B : Nat) (Q : List (Int × ByteArray)) (left : Int) (h0 : 0 ≤ left) (h1 : left ≤ 1048576) (hlen : len ≤ 9223372036854775807) (hm : ∀ q ∈ Q, q.2.size ≤ 9223372036854775807) (w : World) (hB : B ≤ w.heap.size) (hs : PutsAt w a len B Q) :
    Calls Tryz.prog 51 #[.slice a len cap, .int .i64 left] w fun e w' => (∃ x : Int, e = .returned (.int .i64 x) ∧ x ≤ left ∧ -1 ≤ x ∧ (0 ≤ x → (Q.length : Int) + (totQ Q : Int) + x ≤ left)) ∧ Below w.heap.size w w' := by
  obtain ⟨hL, hc⟩ := hs
  have HC := hide hc
  have HM := hide hm
  have HL := hide hL
  clear hc hm hL
  by_cases hbig : left - (len : Int) < 0
  · go_enter Tryz.func51, Tryz.ntmps51
    go_wp2
    go_ret
    exact ⟨⟨-1, rfl, by omega, by omega, by omega⟩, Below.refl _ _⟩
  · go_enter Tryz.func51, Tryz.ntmps51
    go_wp2_with fail
    go_loopw [1, 5] (fun l i wr => ∃ (k : Nat) (y : Int), i = .int .i64 k ∧ k ≤ len ∧ l = .int .i64 y ∧ 0 ≤ y ∧ y = left - (len : Int) - (totQ (Q.take k) : Int) ∧ Below w.heap.size w wr) (fun _ i _ => len - (intOf i).toNat)
    case atStart => exact ⟨0, _, rfl, Nat.zero_le _, rfl, by omega, by simp [totQ], Below.refl _ _⟩
    case round =>
      obtain ⟨k, y, rfl, hk, rfl, hy0, hy, hbw⟩ := hrel
      have HY := hide hy
      clear hy
      have hyl : y ≤ 1048576 := by have := unhide HY; omega
      by_cases hlt : k < len
      · have hkL : k < Q.length := by have := unhide HL; omega
        obtain ⟨b, off, rfl, hb, hcell, hcell1⟩ := unhide HC k hkL
        rw [← hbw.cell (p := ⟨b, off + k * 2, none⟩) (by simp; omega)] at hcell
        rw [← hbw.cell (p := ⟨b, off + k * 2 + 1, none⟩) (by simp; omega)] at hcell1
        have hsz := unhide HM _ (List.getElem_mem hkL)
        have HT := hide (totQ_snoc Q k hkL)
        generalize Q[k] = q at hcell hcell1 hsz HT
        obtain ⟨x, s⟩ := q
        simp only at hcell hcell1 hsz HT
        have H := hide (fun w => szPut_any x s y hy0 hyl hsz w)
        have hx0 : (0 : Int) ≤ (k : Int) := by omega
        have hx1 : (k : Int) < (len : Int) := by omega
        by_cases hneg : y - (s.size : Int) < 0
        · rw [if_pos hneg] at H
          go_wp2_with fail
          refine (unhide H _).mono ?_
          rintro e w1 ⟨rfl, hb1⟩
          have hbw1 := hbw.trans (hb1.mono hbw.size)
          clear hbw hb1
          go_wp2
          go_ret
          exact ⟨⟨-1, rfl, by omega, by omega, by omega⟩, hbw1⟩
        · rw [if_neg hneg] at H
          go_wp2_with fail
          refine (unhide H _).mono ?_
          rintro e w1 ⟨rfl, hb1⟩
          have hbw1 := hbw.trans (hb1.mono hbw.size)
          clear hbw hb1
          go_wp2
          go_roundw
          case rel => exact ⟨k + 1, y - (s.size : Int), by go_num, by omega, rfl, by omega, by rw [unhide HT, unhide HY]; omega, hbw1⟩
          case measure => simp [intOf]; omega
      · go_wp2
        go_ret
        refine ⟨⟨y, rfl, by have := unhide HY; omega, by omega, fun _ => ?_⟩, hbw⟩
        have h2 := unhide HY
        rw [List.take_of_length_le (by have := unhide HL; omega)] at h2
        have := unhide HL
        omega

/-- A device in memory: its sectors and its pending puts, below block B. -/
def DevAt (w : World) (v : Value) (B : Nat) (L : List ByteArray) (Q : List (Int × ByteArray)) : Prop :=
  ∃ a n c a' n' c', v = .agg #[.slice a n c, .slice a' n' c'] ∧ StrsAt w a n B L ∧ PutsAt w a' n' B Q

/-- What is counted of a device stays within a word. -/
def Sane (L : List ByteArray) (Q : List (Int × ByteArray)) : Prop :=
  L.length ≤ 9223372036854775807 ∧ Q.length ≤ 9223372036854775807 ∧ (∀ s ∈ L, s.size ≤ 9223372036854775807) ∧ ∀ q ∈ Q, q.2.size ≤ 9223372036854775807

set_option maxRecDepth 100000 in
theorem szDevice_any (v : Value) (B : Nat) (L : List ByteArray) (Q : List (Int × ByteArray)) (hS : Sane L Q) (w : World) (hB : B ≤ w.heap.size) (hv : DevAt w v B L Q) :
    Calls Tryz.prog 14 #[v, .int .i64 1048576] w fun e w' => (∃ x : Int, e = .returned (.int .i64 x) ∧ -1 ≤ x ∧ x ≤ 1048576 ∧ (0 ≤ x → L.length + tot L + Q.length + totQ Q ≤ 1048576)) ∧ Below w.heap.size w w' := by
  obtain ⟨a, n, c, a', n', c', rfl, hL, hQ⟩ := hv
  have e1 := hL.1
  have e2 := hQ.1
  have H1 := hide (fun w1 (hb : Below w.heap.size w w1) => szStrs_any a n c B L 1048576 (by omega) (by omega) (by have := hS.1; omega) hS.2.2.1 w1 (hL.below hb hB))
  have H2 := hide (fun (y : Int) (h0 : 0 ≤ y) (h1 : y ≤ 1048576) w1 (hb : Below w.heap.size w w1) => szPuts_any a' n' c' B Q y h0 h1 (by have := hS.2.1; omega) hS.2.2.2 w1 (by have := hb.size; omega) (hQ.below hb hB))
  clear hL hQ hS e1 e2
  go_enter Tryz.func14, Tryz.ntmps14
  go_wp2_with fail
  have hb1 : Below w.heap.size w (w.alloc (Obj.cells #[Value.slice a n c, Value.slice a' n' c'] 38)) := (Below.refl _ _).alloc (Nat.le_refl _) _
  refine (unhide H1 _ hb1).mono ?_
  rintro e w1 ⟨⟨x, rfl, hx1, hx0, hx2⟩, rfl⟩
  have HX := hide hx2
  clear hx2
  by_cases h : x < 0
  · go_wp2
    go_ret
    exact ⟨⟨-1, rfl, by omega, by omega, by omega⟩, hb1⟩
  · go_wp2_with fail
    refine (unhide H2 x (by omega) (by omega) _ hb1).mono ?_
    rintro e w2 ⟨⟨y, rfl, hy1, hy0, hy2⟩, hb2⟩
    have hb3 := hb1.trans (hb2.mono hb1.size)
    clear hb2
    have HY := hide hy2
    clear hy2
    by_cases h2 : y < 0
    · go_wp2
      go_ret
      exact ⟨⟨-1, rfl, by omega, by omega, by omega⟩, hb3⟩
    · go_wp2
      go_ret
      refine ⟨⟨y, rfl, by omega, by omega, fun _ => ?_⟩, hb3⟩
      have h3 := unhide HX (by omega)
      have h4 := unhide HY (by omega)
      omega
end Go.Proofs.YtobdmjoonjblpaaGreatDoor
