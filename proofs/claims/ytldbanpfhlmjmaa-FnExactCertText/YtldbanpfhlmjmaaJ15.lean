/-
  Texts of this claim, one behind the other: GrGroup2.
-/
import Derived.Test.YtldbanpfhlmjmaaJ10
import Derived.Test.YtldbanpfhlmjmaaJ14
import Derived.Test.YtldbanpfhlmjmaaJ2

/-
  Groups and proofs: their sizes, copies of them, and that equal ones are told to be equal.
-/
namespace Go.Proofs.Ytldbanpfhlmjmaa
namespace Gr
open Go.RowKit

theorem wrap_sub {left : Int} {n : Nat} (h0 : 0 ≤ left) (h1 : left ≤ 1048576) (hn : n ≤ 9223372036854775807) : IntKind.i64.wrap (left - (n : Int)) = left - (n : Int) := by
  have e : IntKind.i64.wrap (left - (n : Int)) = if (9223372036854775808 : Int) ≤ (left - (n : Int)) % 18446744073709551616 then (left - (n : Int)) % 18446744073709551616 - 18446744073709551616 else (left - (n : Int)) % 18446744073709551616 := by
    simp [IntKind.wrap, IntKind.signed, IntKind.bits]
  rw [e]
  split <;> omega

set_option maxRecDepth 100000 in
theorem szInts_any (a : Option Addr) (n c : Nat) (left : Int) (h0 : 0 ≤ left) (h1 : left ≤ 1048576) (hn : n ≤ 9223372036854775807) (w : World) :
    Calls Try.prog 34 #[.slice a n c, .int .i64 left] w fun e w' => e = .returned (.int .i64 (if left - (n : Int) < 0 then -1 else left - (n : Int))) ∧ w' = w := by
  obtain ⟨x, hx⟩ : ∃ x, x = left - (n : Int) := ⟨_, rfl⟩
  have hw : IntKind.i64.wrap (left - (n : Int)) = x := by rw [hx]; exact wrap_sub h0 h1 hn
  rw [← hx]
  clear hx
  by_cases t : x < 0
  · rw [if_pos t]
    go_enter Try.func34, Try.ntmps34
    go_wp2
    go_ret
    exact ⟨rfl, rfl⟩
  · rw [if_neg t]
    go_enter Try.func34, Try.ntmps34
    go_wp2
    go_ret
    exact ⟨rfl, rfl⟩

set_option maxRecDepth 100000 in
theorem szGroup_any (a : Option Addr) (n c : Nat) (z left : Int) (h0 : 0 ≤ left) (h1 : left ≤ 1048576) (hn : n ≤ 9223372036854775807) (w : World) :
    Calls Try.prog 54 #[.agg #[.slice a n c, .int .i64 z], .int .i64 left] w fun e w' => e = .returned (.int .i64 (if left - (n : Int) < 0 then -1 else left - (n : Int))) ∧ Below w.heap.size w w' := by
  have SZ := hide (fun w => szInts_any a n c left h0 h1 hn w)
  obtain ⟨x, hx⟩ : ∃ x, x = left - (n : Int) := ⟨_, rfl⟩
  rw [← hx] at SZ ⊢
  clear hx
  by_cases t : x < 0
  · rw [if_pos t] at SZ ⊢
    go_enter Try.func54, Try.ntmps54
    go_wp2_with fail
    refine (unhide SZ _).mono ?_
    rintro e w1 ⟨rfl, rfl⟩
    go_wp2
    go_ret
    exact ⟨rfl, below_new _ _⟩
  · rw [if_neg t] at SZ ⊢
    go_enter Try.func54, Try.ntmps54
    go_wp2_with fail
    refine (unhide SZ _).mono ?_
    rintro e w1 ⟨rfl, rfl⟩
    go_wp2
    go_ret
    exact ⟨rfl, below_new _ _⟩

theorem gbulk_drop (G : List GrpI) (j : Nat) (h : j < G.length) : gbulk (G.drop j) = G[j].M.length + gbulk (G.drop (j + 1)) := by
  rw [List.drop_eq_getElem_cons h]
  rfl

set_option maxRecDepth 100000 in
set_option maxHeartbeats 1000000 in
theorem szGroups_any (a : Option Addr) (n c B : Nat) (G : List GrpI) (left : Int) (h0 : 0 ≤ left) (h1 : left ≤ 1048576) (hn : n ≤ 9223372036854775807) (hm : ∀ q ∈ G, q.M.length ≤ 9223372036854775807) (w : World) (hG : groupsAt w a n B G) :
    Calls Try.prog 35 #[.slice a n c, .int .i64 left] w fun e w' => (∃ x : Int, e = .returned (.int .i64 x) ∧ x ≤ left ∧ (0 ≤ x → ((G.length + gbulk G : Nat) : Int) + x ≤ left)) ∧ Below w.heap.size w w' := by
  obtain ⟨hL, hc⟩ := hG
  have HC := hide hc
  have HL := hide hL
  have HM := hide hm
  have HD := hide (fun j h => gbulk_drop G j h)
  have HD0 : Hid (gbulk G = gbulk (G.drop 0)) := rfl
  have HDN : Hid (gbulk (G.drop n) = 0) := by show _ = _; rw [← hL, List.drop_length]; rfl
  clear hc hm
  obtain ⟨x, hx⟩ : ∃ x, x = left - (n : Int) := ⟨_, rfl⟩
  have hw : IntKind.i64.wrap (left - (n : Int)) = x := by rw [hx]; exact wrap_sub h0 h1 hn
  have HX := hide hx
  clear hx hL
  by_cases t : x < 0
  · have hxl : x ≤ left := by have := unhide HX; omega
    go_enter Try.func35, Try.ntmps35
    go_wp2
    go_ret
    exact ⟨⟨-1, rfl, by omega, fun h => absurd h (by omega)⟩, Below.refl _ _⟩
  · have ht : 0 ≤ x := by omega
    go_enter Try.func35, Try.ntmps35
    go_wp2_with fail
    go_loopw [1, 5] (fun l i wr => ∃ (j : Nat) (y : Int), i = .int .i64 (j : Int) ∧ l = .int .i64 y ∧ j ≤ n ∧ 0 ≤ y ∧ Hid ((n : Int) + (gbulk G : Int) + y = left + (gbulk (G.drop j) : Int)) ∧ Below w.heap.size w wr) (fun _ i _ => n - (intOf i).toNat)
    case atStart => exact ⟨0, x, rfl, rfl, Nat.zero_le _, ht, (by show _ = _; have := unhide HX; rw [← unhide HD0]; omega), Below.refl _ _⟩
    case round =>
      obtain ⟨j, y, rfl, rfl, hj, hy, HY, hb⟩ := hrel
      have hyl : y ≤ left := by
        have h := unhide HY
        have : gbulk (G.drop j) ≤ gbulk G + n := by
          have : ∀ (L : List GrpI) k, gbulk (L.drop k) ≤ gbulk L := by
            intro L
            induction L with
            | nil => intro k; simp [gbulk]
            | cons q r ih =>
              intro k
              cases k with
              | zero => exact Nat.le_refl _
              | succ k => exact Nat.le_trans (ih k) (by simp [gbulk])
          have := this G j
          omega
        omega
      by_cases hlt : j < n
      · have hjL : j < G.length := by have := unhide HL; omega
        obtain ⟨b, off, a', c', rfl, _, c0, c1, _⟩ := unhide HC j hjL
        have hbw := World.block_lt_of_cell? w _ c0
        simp only at hbw
        rw [← hb.cell (p := ⟨b, off + j * 2, none⟩) (by simp; omega)] at c0
        rw [← hb.cell (p := ⟨b, off + j * 2 + 1, none⟩) (by simp; omega)] at c1
        have SZ := hide (fun w => szGroup_any a' G[j].M.length c' G[j].Z y hy (by omega) (unhide HM _ (List.getElem_mem hjL)) w)
        have HDJ := hide (unhide HD j hjL)
        generalize G[j] = q at c0 c1 SZ HDJ
        obtain ⟨x1, hx1⟩ : ∃ x1, x1 = y - (q.M.length : Int) := ⟨_, rfl⟩
        rw [← hx1] at SZ
        have HX1 := hide hx1
        clear hx1
        by_cases t1 : x1 < 0
        · rw [if_pos t1] at SZ
          go_wp2_with fail
          refine (unhide SZ _).mono ?_
          rintro e w1 ⟨rfl, hb1⟩
          have hb2 := hb.trans (hb1.mono hb.size)
          clear c0 c1
          go_wp2_with fail
          go_ret
          exact ⟨⟨-1, rfl, by omega, fun h => absurd h (by omega)⟩, hb2⟩
        · rw [if_neg t1] at SZ
          go_wp2_with fail
          refine (unhide SZ _).mono ?_
          rintro e w1 ⟨rfl, hb1⟩
          have hb2 := hb.trans (hb1.mono hb.size)
          clear c0 c1
          go_wp2_with fail
          refine ⟨⟨j + 1, x1, by go_num, rfl, by omega, by omega, (by show _ = _; have h1 := unhide HY; have h2 := unhide HDJ; have h3 := unhide HX1; omega), hb2⟩, by simp [intOf]; omega⟩
      · have hjn : j = n := by omega
        subst hjn
        have HY2 : Hid (((G.length + gbulk G : Nat) : Int) + y ≤ left) := by show _ ≤ _; have h1 := unhide HY; have h2 := unhide HDN; have h3 := unhide HL; omega
        go_wp2_with fail
        go_ret
        exact ⟨⟨y, rfl, by omega, fun _ => unhide HY2⟩, hb⟩

/-- How great a proof is, in all (never more than the greatest number). -/
def psize (Y : List Int) (G : List GrpI) : Nat := min (Y.length + (G.length + gbulk G)) 9223372036854775807

end Gr
end Go.Proofs.Ytldbanpfhlmjmaa
