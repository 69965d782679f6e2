/-
  Rows of items in memory, and pages; the contracts of laws.szItem, szItemS and szPage.
-/
import Derived.Test.YtdmcnojhjmadjaaProg
import Derived.Test.YtdmcnojhjmadjaaPgSize
namespace Go.Proofs.Ytdmcnojhjmadjaa
namespace Pg
open Go.RowKit

/-- A row of items that can be read, below block B. -/
def ItemsAt (w : World) (a : Option Addr) (len B : Nat) (Q : List It) : Prop :=
  Q.length = len ∧ ∀ j (h : j < Q.length), ∃ b off, a = some ⟨b, off, none⟩ ∧ b < B ∧ w.cell? ⟨b, off + j * 3, none⟩ = some (.string Q[j].key) ∧ w.cell? ⟨b, off + j * 3 + 1, none⟩ = some (.string Q[j].val) ∧ w.cell? ⟨b, off + j * 3 + 2, none⟩ = some (.int .i64 Q[j].pg)

theorem ItemsAt.below {w w' : World} {a : Option Addr} {len B C : Nat} {Q : List It} (h : ItemsAt w a len B Q) (hb : Below C w w') (hC : B ≤ C) : ItemsAt w' a len B Q := by
  refine ⟨h.1, fun j hj => ?_⟩
  obtain ⟨b, off, e, hbB, hc, hc1, hc2⟩ := h.2 j hj
  exact ⟨b, off, e, hbB, by rw [hb.cell (p := ⟨b, off + j * 3, none⟩) (by simp; omega)]; exact hc, by rw [hb.cell (p := ⟨b, off + j * 3 + 1, none⟩) (by simp; omega)]; exact hc1, by rw [hb.cell (p := ⟨b, off + j * 3 + 2, none⟩) (by simp; omega)]; exact hc2⟩

theorem ItemsAt.mono {w : World} {a : Option Addr} {len B C : Nat} {Q : List It} (h : ItemsAt w a len B Q) (hC : B ≤ C) : ItemsAt w a len C Q := by
  refine ⟨h.1, fun j hj => ?_⟩
  obtain ⟨b, off, e, hbB, hc⟩ := h.2 j hj
  exact ⟨b, off, e, by omega, hc⟩

/-- A page in memory: its kind and its items, below block B. -/
def PageAt (w : World) (v : Value) (B : Nat) (k : Int) (Q : List It) : Prop :=
  ∃ a n c, v = .agg #[.int .i64 k, .slice a n c] ∧ ItemsAt w a n B Q

theorem PageAt.below {w w' : World} {v : Value} {B C : Nat} {k : Int} {Q : List It} (h : PageAt w v B k Q) (hb : Below C w w') (hC : B ≤ C) : PageAt w' v B k Q := by
  obtain ⟨a, n, c, rfl, hQ⟩ := h
  exact ⟨a, n, c, rfl, hQ.below hb hC⟩

theorem PageAt.mono {w : World} {v : Value} {B C : Nat} {k : Int} {Q : List It} (h : PageAt w v B k Q) (hC : B ≤ C) : PageAt w v C k Q := by
  obtain ⟨a, n, c, rfl, hQ⟩ := h
  exact ⟨a, n, c, rfl, hQ.mono hC⟩

/-- The bytes of all keys and values. -/
def totI (Q : List It) : Nat := (Q.map fun q => q.key.size + q.val.size).sum

theorem totI_snoc (Q : List It) (k : Nat) (h : k < Q.length) : totI (Q.take (k + 1)) = totI (Q.take k) + (Q[k].key.size + Q[k].val.size) := by
  unfold totI
  rw [List.take_succ_eq_append_getElem h, List.map_append, List.sum_append]
  simp

theorem totI_mem {Q : List It} {x : It} (h : x ∈ Q) : x.key.size + x.val.size ≤ totI Q := by
  induction Q with
  | nil => simp at h
  | cons y Q ih =>
    have e : totI (y :: Q) = y.key.size + y.val.size + totI Q := by simp [totI]
    rw [e]
    rcases List.mem_cons.1 h with rfl | h
    · omega
    · have := ih h; omega

def szLeft (x : It) (left : Int) : Int := if left - (x.key.size : Int) < 0 then -1 else if left - (x.key.size : Int) - (x.val.size : Int) < 0 then -1 else left - (x.key.size : Int) - (x.val.size : Int)

theorem szItem_any (x : It) (left : Int) (h0 : 0 ≤ left) (h1 : left ≤ 1048576) (hm : x.key.size ≤ 9223372036854775807) (hm2 : x.val.size ≤ 9223372036854775807) (w : World) :
    Calls Try.prog 34 #[itV x, .int .i64 left] w fun e w' => e = .returned (.int .i64 (szLeft x left)) ∧ Below w.heap.size w w' := by
  obtain ⟨a, b, p⟩ := x
  unfold szLeft
  simp only [itV] at *
  by_cases h : left - (a.size : Int) < 0
  · rw [if_pos h]
    go_enter Try.func34, Try.ntmps34
    go_wp2
    go_ret
    exact ⟨rfl, (Below.refl _ _).alloc (Nat.le_refl _) _⟩
  · rw [if_neg h]
    by_cases h2 : left - (a.size : Int) - (b.size : Int) < 0
    · rw [if_pos h2]
      go_enter Try.func34, Try.ntmps34
      go_wp2
      go_ret
      exact ⟨rfl, (Below.refl _ _).alloc (Nat.le_refl _) _⟩
    · rw [if_neg h2]
      go_enter Try.func34, Try.ntmps34
      go_wp2
      go_ret
      exact ⟨rfl, (Below.refl _ _).alloc (Nat.le_refl _) _⟩

/-- What is counted of an item stays within a word. -/
def ItSane (x : It) : Prop := x.key.size ≤ 9223372036854775807 ∧ x.val.size ≤ 9223372036854775807

set_option maxRecDepth 100000 in
set_option maxHeartbeats 1000000 in
theorem szItems_any (a : Option Addr) (len cap B : Nat) (Q : List It) (left : Int) (h0 : 0 ≤ left) (h1 : left ≤ 1048576) (hlen : len ≤ 9223372036854775807) (hm : ∀ q ∈ Q, ItSane q) (w : World) (hB : B ≤ w.heap.size) (hs : ItemsAt w a len B Q) :
    Calls Try.prog 11 #[.slice a len cap, .int .i64 left] w fun e w' => (∃ x : Int, e = .returned (.int .i64 x) ∧ x ≤ left ∧ -1 ≤ x ∧ (0 ≤ x → (Q.length : Int) + (totI Q : Int) + x ≤ left)) ∧ Below w.heap.size w w' := by
  obtain ⟨hL, hc⟩ := hs
  have HC := hide hc
  have HM := hide hm
  have HL := hide hL
  clear hc hm hL
  by_cases hbig : left - (len : Int) < 0
  · go_enter Try.func11, Try.ntmps11
    go_wp2
    go_ret
    exact ⟨⟨-1, rfl, by omega, by omega, by omega⟩, Below.refl _ _⟩
  · go_enter Try.func11, Try.ntmps11
    go_wp2_with fail
    go_loopw [1, 5] (fun l i wr => ∃ (k : Nat) (y : Int), i = .int .i64 k ∧ k ≤ len ∧ l = .int .i64 y ∧ 0 ≤ y ∧ y = left - (len : Int) - (totI (Q.take k) : Int) ∧ Below w.heap.size w wr) (fun _ i _ => len - (intOf i).toNat)
    case atStart => exact ⟨0, _, rfl, Nat.zero_le _, rfl, by omega, by simp [totI], Below.refl _ _⟩
    case round =>
      obtain ⟨k, y, rfl, hk, rfl, hy0, hy, hbw⟩ := hrel
      have HY := hide hy
      clear hy
      have hyl : y ≤ 1048576 := by have := unhide HY; omega
      by_cases hlt : k < len
      · have hkL : k < Q.length := by have := unhide HL; omega
        obtain ⟨b, off, rfl, hb, hcell, hcell1, hcell2⟩ := unhide HC k hkL
        rw [← hbw.cell (p := ⟨b, off + k * 3, none⟩) (by simp; omega)] at hcell
        rw [← hbw.cell (p := ⟨b, off + k * 3 + 1, none⟩) (by simp; omega)] at hcell1
        rw [← hbw.cell (p := ⟨b, off + k * 3 + 2, none⟩) (by simp; omega)] at hcell2
        have hsz := unhide HM _ (List.getElem_mem hkL)
        have HT := hide (totI_snoc Q k hkL)
        generalize Q[k] = q at hcell hcell1 hcell2 hsz HT
        have H := hide (fun w => szItem_any q y hy0 hyl hsz.1 hsz.2 w)
        have hx0 : (0 : Int) ≤ (k : Int) := by omega
        have hx1 : (k : Int) < (len : Int) := by omega
        obtain ⟨s, t, p⟩ := q
        simp only [itV] at hcell hcell1 hcell2 hsz HT H
        obtain ⟨z, hz⟩ : ∃ z, z = szLeft ⟨s, t, p⟩ y := ⟨_, rfl⟩
        have HZ : Hid ((z = -1) ∨ (0 ≤ z ∧ z = y - ((s.size : Int) + (t.size : Int)))) := by
          show _ ∨ _
          rw [hz]; unfold szLeft
          simp only
          split
          · exact .inl rfl
          · split
            · exact .inl rfl
            · exact .inr ⟨by omega, by omega⟩
        have hz1 : -1 ≤ z := by have := unhide HZ; omega
        have hz2 : z ≤ 1048576 := by have := unhide HZ; omega
        rw [← hz] at H
        clear hz hsz
        by_cases hneg : z < 0
        · go_wp2_with fail
          refine (unhide H _).mono ?_
          rintro e w1 ⟨rfl, hb1⟩
          have hbw1 := hbw.trans (hb1.mono hbw.size)
          clear hbw hb1
          go_wp2
          go_ret
          exact ⟨⟨-1, rfl, by omega, by omega, by omega⟩, hbw1⟩
        · go_wp2_with fail
          refine (unhide H _).mono ?_
          rintro e w1 ⟨rfl, hb1⟩
          have hbw1 := hbw.trans (hb1.mono hbw.size)
          clear hbw hb1
          go_wp2
          go_roundw
          case rel => exact ⟨k + 1, z, by go_num, by omega, rfl, by omega, by have h5 := unhide HZ; rw [unhide HT]; have h6 := unhide HY; omega, hbw1⟩
          case measure => simp [intOf]; omega
      · go_wp2
        go_ret
        refine ⟨⟨y, rfl, by have := unhide HY; omega, by omega, fun _ => ?_⟩, hbw⟩
        have h2 := unhide HY
        rw [List.take_of_length_le (by have := unhide HL; omega)] at h2
        have := unhide HL
        omega

end Pg
end Go.Proofs.Ytdmcnojhjmadjaa
