/-
  The contracts of laws.toPage, and of laws.eqItem, eqItemS and eqPage at what is the same: true.
-/
import Derived.Test.YtajajfmaekdphaaPgTo
import Derived.Deep.RegionHeld3
namespace Go.Proofs.Ytajajfmaekdphaa
open Go.RowKit

set_option maxRecDepth 100000 in
set_option maxHeartbeats 1000000 in
theorem toPage_any (v : Value) (B : Nat) (k : Int) (Q : List It) (h2 : Q.length ≤ 1048576) (w : World) (hB : B ≤ w.heap.size) (hv : PageAt w v B k Q) :
    Calls Try.prog 16 #[v] w fun e w' => (∃ d, e = .returned d ∧ PageOwn w' w.heap.size d k Q) ∧ Below w.heap.size w w' := by
  obtain ⟨a', n', c', rfl, hQ⟩ := hv
  have e2 := hQ.1
  subst e2
  have H2 := hide (fun w1 (hb : Below w.heap.size w w1) => toItems_any a' _ c' B Q h2 w1 (by have := hb.size; omega) (hQ.below hb hB))
  clear hQ h2
  go_enter Try.func16, Try.ntmps16
  go_wp2_with fail
  obtain ⟨W2, hW2⟩ : ∃ W, W = (w.alloc (Obj.cells #[Value.int .i64 k, Value.slice a' Q.length c'] 39)).alloc (Obj.cells #[Value.int .i64 0, Value.slice none 0 0] 26) := ⟨_, rfl⟩
  obtain ⟨W3, hW3⟩ : ∃ W, W = W2.alloc (Obj.cells #[Value.int .i64 k, Value.slice none 0 0] 26) := ⟨_, rfl⟩
  have hs2 : W2.heap.size = w.heap.size + 2 := by rw [hW2]; simp
  have hs3 : W3.heap.size = w.heap.size + 3 := by rw [hW3]; simp [hs2]
  have b1 : W3.heap[w.heap.size + 1]? = some (.cells #[Value.int .i64 0, Value.slice none 0 0] 26 (0, 0)) := by
    rw [hW3, heap_alloc_old _ _ (by omega), hW2]
    have := heap_alloc_new (w.alloc (Obj.cells #[Value.int .i64 k, Value.slice a' Q.length c'] 39)) (Obj.cells #[Value.int .i64 0, Value.slice none 0 0] 26)
    simpa using this
  have b2 : W3.heap[w.heap.size + 1 + 1]? = some (.cells #[Value.int .i64 k, Value.slice none 0 0] 26 (0, 0)) := by
    rw [hW3]
    have := heap_alloc_new W2 (Obj.cells #[Value.int .i64 k, Value.slice none 0 0] 26)
    rw [hs2] at this
    exact this
  have hb3 : Below w.heap.size w W3 := by
    rw [hW3, hW2]
    exact (((Below.refl _ _).alloc (Nat.le_refl _) _).alloc (by simp) _).alloc (by simp; omega) _
  rw [← hW2, ← hW3]
  clear hW2 hW3 hs2
  refine (unhide H2 W3 hb3).mono ?_
  rintro e w2 ⟨⟨v1, rfl, ho1⟩, hb2⟩
  obtain ⟨A1, C1, rfl, _⟩ := ItemsAt.of_own ho1
  have hs2 := hb2.size
  rw [← hb2.block _ (by omega)] at b1 b2
  have hlt1 := ho1.lt
  have hw2 : Below w.heap.size w w2 := hb3.trans (hb2.mono (by omega))
  obtain ⟨r0, r1, rf⟩ := cells_of_two b1
  obtain ⟨q0, q1, qf⟩ := cells_of_two b2
  have qf1 := qf 1
  have rf0 := rf 0
  have rf1 := rf 1
  have HO1 := hide ho1
  have HLT1 := hide hlt1
  have BB := hide b1
  clear b1 b2 ho1 hlt1 qf rf hb2 hb3
  go_wp2
  (try simp only [Exit.inBlock, Exit.then])
  have hblk : (((w2.setCell ⟨w.heap.size + 1 + 1, 1, none⟩ (.slice A1 Q.length C1)).setCell ⟨w.heap.size + 1, 0, none⟩ (.int .i64 k)).setCell ⟨w.heap.size + 1, 1, none⟩ (.slice A1 Q.length C1)).heap[w.heap.size + 1]? = some (.cells #[.int .i64 k, .slice A1 Q.length C1] 26 (0, 0)) := by
    refine two_one (two_zero (x := Value.int .i64 0) (y := Value.slice none 0 0) ?_ _) _
    rw [heap_setCell_other _ _ _ _ (by simp)]
    exact unhide BB
  refine bodyPost_ret (results_cell_row Try.results16 _ _ (w.heap.size + 1) _ _ _ _ rfl hblk Try.underlying26 rfl (by kernel_rfl)) rfl ?_
  have far1 : ∀ k, (Value.slice A1 Q.length C1).ownBlock = some k → w.heap.size + 3 ≤ k := fun k hk => by have := unhide HLT1 k hk; omega
  have ne1 : ∀ g, g < w.heap.size + 3 → (Value.slice A1 Q.length C1).ownBlock ≠ some g := fun g hg e => by have := far1 g e; omega
  refine ⟨⟨_, rfl, _, rfl, ?_⟩, ?_⟩
  · exact own_lower (by omega) (ownsRow_setCell_other (ownsRow_setCell_other (ownsRow_setCell_other (unhide HO1) (ne1 (w.heap.size + 1 + 1) (by omega)) _) (ne1 (w.heap.size + 1) (by omega)) _) (ne1 (w.heap.size + 1) (by omega)) _)
  · exact ((hw2.setCell (p := ⟨w.heap.size + 1 + 1, 1, none⟩) (by simp; omega) _).setCell (p := ⟨w.heap.size + 1, 0, none⟩) (by simp) _).setCell (p := ⟨w.heap.size + 1, 1, none⟩) (by simp) _

set_option maxRecDepth 100000 in
theorem eqItem_same (x : It) (w : World) :
    Calls Try.prog 68 #[itV x, itV x] w fun e w' => e = .returned (.bool true) ∧ Below w.heap.size w w' := by
  unfold itV
  go_enter Try.func68, Try.ntmps68
  go_wp2
  go_ret
  exact ⟨rfl, ((Below.refl _ _).alloc (Nat.le_refl _) _).alloc (by simp) _⟩

set_option maxRecDepth 100000 in
set_option maxHeartbeats 1000000 in
theorem eqItems_same (a a' : Option Addr) (len c c' B B' : Nat) (Q : List It) (hlen : len ≤ 1048576) (w : World) (hB : B ≤ w.heap.size) (hB' : B' ≤ w.heap.size) (hs : ItemsAt w a len B Q) (hs' : ItemsAt w a' len B' Q) :
    Calls Try.prog 45 #[.slice a len c, .slice a' len c'] w fun e w' => e = .returned (.bool true) ∧ Below w.heap.size w w' := by
  obtain ⟨hL, hc⟩ := hs
  obtain ⟨_, hc'⟩ := hs'
  have HC := hide hc
  have HC' := hide hc'
  have HL := hide hL
  clear hc hc' hL
  go_enter Try.func45, Try.ntmps45
  go_wp2_with fail
  go_loopw [5] (fun i wr => ∃ k : Nat, i = .int .i64 k ∧ k ≤ len ∧ Below w.heap.size w wr) (fun i _ => len - (intOf i).toNat)
  case atStart => exact ⟨0, rfl, Nat.zero_le _, Below.refl _ _⟩
  case round =>
    obtain ⟨k, rfl, hk, hb⟩ := hrel
    by_cases hlt : k < len
    · have hkL : k < Q.length := by have := unhide HL; omega
      obtain ⟨b, off, rfl, hbB, hc0, hc1, hc2⟩ := unhide HC k hkL
      obtain ⟨b', off', rfl, hbB', hc0', hc1', hc2'⟩ := unhide HC' k hkL
      rw [← hb.cell (p := ⟨b, off + k * 3, none⟩) (by simp; omega)] at hc0
      rw [← hb.cell (p := ⟨b, off + k * 3 + 1, none⟩) (by simp; omega)] at hc1
      rw [← hb.cell (p := ⟨b, off + k * 3 + 2, none⟩) (by simp; omega)] at hc2
      rw [← hb.cell (p := ⟨b', off' + k * 3, none⟩) (by simp; omega)] at hc0'
      rw [← hb.cell (p := ⟨b', off' + k * 3 + 1, none⟩) (by simp; omega)] at hc1'
      rw [← hb.cell (p := ⟨b', off' + k * 3 + 2, none⟩) (by simp; omega)] at hc2'
      have hx0 : (0 : Int) ≤ (k : Int) := by omega
      have hx1 : (k : Int) < (len : Int) := by omega
      have HP := hide (fun w => eqItem_same Q[k] w)
      generalize Q[k] = q at hc0 hc1 hc0' hc1' hc2 hc2' HP
      obtain ⟨s, t, p⟩ := q
      simp only [itV] at hc0 hc1 hc0' hc1' hc2 hc2' HP
      have hl := hb.size
      have hkl : b < wr.heap.size := by omega
      have hkl' : b' < wr.heap.size := by omega
      go_wp2_with fail
      go_region_held3 (fun u => u.cell? ⟨b, off + k * 3, none⟩ = some (.string s) ∧ u.cell? ⟨b, off + k * 3 + 1, none⟩ = some (.string t) ∧ u.cell? ⟨b, off + k * 3 + 2, none⟩ = some (.int .i64 p) ∧ u.cell? ⟨b', off' + k * 3, none⟩ = some (.string s) ∧ u.cell? ⟨b', off' + k * 3 + 1, none⟩ = some (.string t) ∧ u.cell? ⟨b', off' + k * 3 + 2, none⟩ = some (.int .i64 p))
        (first | go_keep | exact ⟨(hb2.cell (p := ⟨b, off + k * 3, none⟩) hkl).trans hc0, (hb2.cell (p := ⟨b, off + k * 3 + 1, none⟩) hkl).trans hc1, (hb2.cell (p := ⟨b, off + k * 3 + 2, none⟩) hkl).trans hc2, (hb2.cell (p := ⟨b', off' + k * 3, none⟩) hkl').trans hc0', (hb2.cell (p := ⟨b', off' + k * 3 + 1, none⟩) hkl').trans hc1', (hb2.cell (p := ⟨b', off' + k * 3 + 2, none⟩) hkl').trans hc2'⟩)
        ((go_at_call 68; refine (unhide HP _).mono ?_; rintro e w2 ⟨rfl, hb2⟩))
      have hbe := hb.drew.trans (hb2.mono hb.size)
      clear hb2
      go_wp2
      go_roundw
      case rel => exact ⟨k + 1, by go_num, by omega, hbe⟩
      case measure => simp [intOf]; omega
    · go_wp2
      go_ret
      exact ⟨rfl, hb⟩

set_option maxRecDepth 100000 in
set_option maxHeartbeats 1000000 in
theorem eqPage_same (v v' : Value) (B B' : Nat) (k : Int) (Q : List It) (h2 : Q.length ≤ 1048576) (w : World) (hB : B ≤ w.heap.size) (hB' : B' ≤ w.heap.size) (hv : PageAt w v B k Q) (hv' : PageAt w v' B' k Q) :
    Calls Try.prog 17 #[v, v'] w fun e w' => e = .returned (.bool true) ∧ Below w.heap.size w w' := by
  obtain ⟨a', n', c', rfl, hQ⟩ := hv
  obtain ⟨d', m', k', rfl, hQ'⟩ := hv'
  have e2 := hQ.1
  have e4 := hQ'.1
  subst e2 e4
  have H2 := hide (fun w1 (hb : Below w.heap.size w w1) => eqItems_same a' d' _ c' k' B B' Q h2 w1 (by have := hb.size; omega) (by have := hb.size; omega) (hQ.below hb hB) (hQ'.below hb hB'))
  clear hQ hQ' h2
  generalize Q.length = n' at H2
  have hne : (k != k) = false := by simp
  go_enter Try.func17, Try.ntmps17
  go_wp2_with fail
  have hb2 : Below w.heap.size w ((w.alloc (Obj.cells #[Value.int .i64 k, Value.slice a' n' c'] 26)).alloc (Obj.cells #[Value.int .i64 k, Value.slice d' n' k'] 26)) := ((Below.refl _ _).alloc (Nat.le_refl _) _).alloc (by simp) _
  refine (unhide H2 _ hb2).mono ?_
  rintro e w3 ⟨rfl, hb3⟩
  have hw3 := hb2.trans (hb3.mono hb2.size)
  clear hb3 hb2
  go_wp2
  go_ret
  exact ⟨rfl, hw3⟩
end Go.Proofs.Ytajajfmaekdphaa
