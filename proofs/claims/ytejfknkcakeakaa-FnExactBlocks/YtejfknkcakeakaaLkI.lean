/-
  The contracts of impl.Neighbours and impl.leftOf.
-/
import Derived.Test.YtejfknkcakeakaaLkN
import Derived.Test.YtejfknkcakeakaaLk1
import Derived.Test.YtejfknkcakeakaaGrImplB
namespace Go.Proofs.Ytejfknkcakeakaa
namespace Lk
open Go.RowKit
open Gr (Blk Kept EdgeI GrAt GBox below_new below_setCells results_cell1 setMany setMany_all InOwn InAt intsV intsAt_of_own info3 isPlace_is implGraph_gen graphOk)

set_option maxRecDepth 100000 in
set_option maxHeartbeats 2000000 in
theorem implNbrs_gen (B : Nat) (v : Value) (s : Int) (Q : List EdgeI) (x : Int) (h1 : Q.length ≤ 1048576) (w : World) (hB : B ≤ w.heap.size) (hv : GrAt w v B s Q) :
    Calls Try.prog 13 #[v, .int .i64 x] w fun e w' => (∃ d, e = .returned d ∧ InOwn w' w.heap.size d (nbrs s Q x)) ∧ Below w.heap.size w w' := by
  have OK := hide (fun w1 (hb : Below w.heap.size w w1) => implGraph_gen B v s Q h1 w1 (by have := hb.size; omega) (hv.below hb hB))
  have LI := hide (fun (hg : graphOk s Q = true) w1 (hb : Below w.heap.size w w1) => links_any B v s Q h1 (apart_of hg).1 w1 (by have := hb.size; omega) (hv.below hb hB))
  have IP := hide (fun w1 => isPlace_is x s w1)
  have HR : Hid (∀ (hg : graphOk s Q = true) (k : Nat), x = (k : Int) → (k : Int) < s → nbrs s Q x = setTo (lnkF Q k) 9 ∧ k < 9) := fun hg k hk hlt => by
    obtain ⟨s0, s9⟩ := ok_size hg
    refine ⟨?_, by omega⟩
    unfold nbrs
    rw [if_pos ⟨hg, by omega, by omega⟩, next_is hg k, hk]
  have HR0 : Hid (graphOk s Q = false ∨ (decide (0 ≤ x) && decide (x < s)) = false → nbrs s Q x = []) := fun h => by
    unfold nbrs
    rw [if_neg]
    rintro ⟨h2, h3, h4⟩
    rcases h with h | h
    · rw [h] at h2; cases h2
    · rw [decide_eq_true h3, decide_eq_true (show x < s by omega)] at h; cases h
  obtain ⟨a, n, c, rfl, _⟩ := hv
  generalize nbrs s Q x = V at HR HR0 ⊢
  have HIX := hide (index_tb (lnkF Q))
  have LS := hide (fun k w1 => list_any (lnkF Q k) w1)
  generalize graphOk s Q = gk at OK LI HR HR0
  generalize tb (lnkF Q) = C at LI HIX
  clear h1
  go_enter Try.func13, Try.ntmps13
  go_wp2_with fail
  obtain ⟨V1, hV1⟩ : ∃ W, W = w.alloc (Obj.cells #[Value.int .i64 s, Value.slice a n c] 30) := ⟨_, rfl⟩
  rw [← hV1]
  have x1 : GBox V1 w.heap.size s (.slice a n c) := by rw [hV1]; exact GBox.new _ _ _
  have b1 : Below w.heap.size w V1 := by rw [hV1]; exact below_new _ _
  clear hV1
  refine (unhide OK V1 b1).mono ?_
  rintro e w2 ⟨rfl, hb2⟩
  have x2 := x1.below hb2
  have b2 := b1.trans (hb2.mono b1.size)
  obtain ⟨p0, p1⟩ := x2.cells
  clear hb2 x1 x2
  cases gk
  · have hv0 := unhide HR0 (.inl rfl)
    subst hv0
    go_wp2
    go_ret
    exact ⟨⟨_, rfl, own_nil _ _⟩, b2⟩
  · cases hip : (decide (0 ≤ x) && decide (x < s))
    · have hv0 := unhide HR0 (.inr hip)
      subst hv0
      rw [hip] at IP
      clear hip
      go_wp2_with fail
      refine (unhide IP _).mono ?_
      rintro e w3 ⟨rfl, rfl⟩
      go_wp2
      go_ret
      exact ⟨⟨_, rfl, own_nil _ _⟩, b2⟩
    · rw [hip] at IP
      have hx : 0 ≤ x ∧ x < s := by simpa using hip
      obtain ⟨k, rfl⟩ := Int.eq_ofNat_of_zero_le hx.1
      obtain ⟨hv1, hk9⟩ := unhide HR rfl k rfl hx.2
      subst hv1
      have hx9 : (k : Int) < 9 := by omega
      have hx0 : (0 : Int) ≤ (k : Int) := by omega
      have LI2 := hide (unhide LI rfl)
      have LSk := hide (unhide LS k)
      clear hip hx HR HR0 LI LS
      go_wp2_with fail
      refine (unhide IP _).mono ?_
      rintro e w3 ⟨rfl, hw3⟩
      subst hw3
      go_wp2_with fail
      refine (unhide LI2 _ b2).mono ?_
      rintro e w4 ⟨rfl, hb4⟩
      have b4 := b2.trans (hb4.mono b2.size)
      have hix := unhide HIX w4 k hk9
      clear hb4 HIX
      go_wp2_with fail
      refine (unhide LSk w4).mono ?_
      rintro e w5 ⟨⟨d, rfl, ho⟩, hb5⟩
      obtain ⟨A, cp, rfl, _⟩ := intsAt_of_own ho
      have HO := hide (ho.lower b4.size)
      have b5 := b4.trans (hb5.mono b4.size)
      clear ho hb5
      go_wp2
      go_ret
      exact ⟨⟨_, rfl, unhide HO⟩, b5⟩

end Lk
end Go.Proofs.Ytejfknkcakeakaa
