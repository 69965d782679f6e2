/-
  The contract of spec.Neighbours.
-/
import Derived.Test.YtejfknkcakeakaaLk0
namespace Go.Proofs.Ytejfknkcakeakaa
namespace Lk
open Go.RowKit
open Gr (EdgeI GrAt GBox atFrom below_new InOwn InAt own_below own_lower intsV graphOk specGraph_any l01In_is)

theorem ok_size {s : Int} {Q : List EdgeI} (h : graphOk s Q = true) : 0 ≤ s ∧ s ≤ 9 := by
  unfold graphOk at h
  simp at h
  omega

set_option maxRecDepth 100000 in
set_option maxHeartbeats 2000000 in
theorem specNbrs_any (v : Value) (B : Nat) (s x : Int) (Q : List EdgeI) (h1 : Q.length ≤ 1048576) (w : World) (hB : B ≤ w.heap.size) (hv : GrAt w v B s Q) :
    Calls Try.prog 11 #[v, .int .i64 x] w fun e w' => (∃ d, e = .returned d ∧ InOwn w' w.heap.size d (nbrs s Q x)) ∧ Below w.heap.size w w' := by
  have OK := hide (fun w1 (hb : Below w.heap.size w w1) => specGraph_any v B s Q h1 w1 (by have := hb.size; omega) (hv.below hb hB))
  have NX : Hid (graphOk s Q = true → ∀ w1, Below w.heap.size w w1 → Calls Try.prog 42 #[v, .int .i64 x] w1 fun e w' => (∃ d, e = .returned d ∧ InOwn w' w1.heap.size d (nextTo Q x s.toNat)) ∧ Below w1.heap.size w1 w') := fun hok w1 hb => by
    obtain ⟨s0, s9⟩ := ok_size hok
    obtain ⟨n, rfl⟩ : ∃ n : Nat, s = (n : Int) := ⟨s.toNat, by omega⟩
    exact next_any v B n x Q h1 (by omega) w1 (by have := hb.size; omega) (hv.below hb hB)
  have SZ : Hid (graphOk s Q = true → 0 ≤ s ∧ s ≤ 9) := ok_size
  obtain ⟨a, n, c, rfl, _⟩ := hv
  have L1 := hide (fun w => l01In_is x 0 (s - 1) w)
  have hV : nbrs s Q x = if graphOk s Q = true ∧ 0 ≤ x ∧ x ≤ s - 1 then nextTo Q x s.toNat else [] := rfl
  generalize nbrs s Q x = V at hV ⊢
  generalize nextTo Q x s.toNat = R at NX hV
  generalize graphOk s Q = ok at OK hV NX SZ
  clear h1
  cases ok
  · rw [if_neg (by simp)] at hV
    subst hV
    go_enter Try.func11, Try.ntmps11
    go_wp2_with fail
    obtain ⟨V1, hV1⟩ : ∃ W, W = w.alloc (Obj.cells #[Value.int .i64 s, Value.slice a n c] 30) := ⟨_, rfl⟩
    rw [← hV1]
    have b1 : Below w.heap.size w V1 := by rw [hV1]; exact below_new _ _
    clear hV1
    refine (unhide OK V1 b1).mono ?_
    rintro e w2 ⟨rfl, hb2⟩
    have b2 := b1.trans (hb2.mono b1.size)
    clear hb2
    go_wp2
    go_ret
    have hz := b2.size
    exact ⟨⟨_, rfl, World.ownsRow_made w2 #[] 0 hz (Nat.zero_le _) (show (#[] : Array Value).size = 0 * 1 from rfl)⟩, b2.alloc hz _⟩
  · obtain ⟨s0, s9⟩ := unhide SZ rfl
    have hd : (decide (0 ≤ x) && decide (x ≤ s - 1)) = decide (0 ≤ x ∧ x ≤ s - 1) := by simp
    rw [hd] at L1
    clear hd
    have hV2 : V = if (0 ≤ x ∧ x ≤ s - 1) then R else [] := by rw [hV]; simp
    clear hV
    by_cases hx : 0 ≤ x ∧ x ≤ s - 1
    · rw [if_pos hx] at hV2
      subst hV2
      rw [decide_eq_true hx] at L1
      clear hx
      go_enter Try.func11, Try.ntmps11
      go_wp2_with fail
      obtain ⟨V1, hV1⟩ : ∃ W, W = w.alloc (Obj.cells #[Value.int .i64 s, Value.slice a n c] 30) := ⟨_, rfl⟩
      rw [← hV1]
      have x1 : GBox V1 w.heap.size s (.slice a n c) := by rw [hV1]; exact GBox.new _ _ _
      have b1 : Below w.heap.size w V1 := by rw [hV1]; exact below_new _ _
      clear hV1
      refine (unhide OK V1 b1).mono ?_
      rintro e w2 ⟨rfl, hb2⟩
      have x2 := x1.below hb2
      have b2 := b1.trans (hb2.mono b1.size)
      obtain ⟨p0, p1⟩ := x2.cells
      clear hb2 x1 x2
      go_wp2_with fail
      refine (unhide L1 _).mono ?_
      rintro e w3 ⟨rfl, rfl⟩
      have NY := hide (unhide NX (by first | rfl | trivial) w3 b2)
      go_wp2_with fail
      refine (unhide NY).mono ?_
      rintro e w4 ⟨⟨d, rfl, ho⟩, hb4⟩
      obtain ⟨A, cp, rfl, _⟩ := Gr.intsAt_of_own ho
      have b4 := b2.trans (hb4.mono b2.size)
      have HO := hide (ho.lower b2.size)
      clear ho hb4
      go_wp2
      go_ret
      exact ⟨⟨_, rfl, unhide HO⟩, b4⟩
    · rw [if_neg hx] at hV2
      subst hV2
      rw [decide_eq_false hx] at L1
      clear hx
      go_enter Try.func11, Try.ntmps11
      go_wp2_with fail
      obtain ⟨V1, hV1⟩ : ∃ W, W = w.alloc (Obj.cells #[Value.int .i64 s, Value.slice a n c] 30) := ⟨_, rfl⟩
      rw [← hV1]
      have x1 : GBox V1 w.heap.size s (.slice a n c) := by rw [hV1]; exact GBox.new _ _ _
      have b1 : Below w.heap.size w V1 := by rw [hV1]; exact below_new _ _
      clear hV1
      refine (unhide OK V1 b1).mono ?_
      rintro e w2 ⟨rfl, hb2⟩
      have x2 := x1.below hb2
      have b2 := b1.trans (hb2.mono b1.size)
      obtain ⟨p0, p1⟩ := x2.cells
      clear hb2 x1 x2
      go_wp2_with fail
      refine (unhide L1 _).mono ?_
      rintro e w3 ⟨rfl, rfl⟩
      go_wp2
      go_ret
      have hz := b2.size
      exact ⟨⟨_, rfl, World.ownsRow_made w3 #[] 0 hz (Nat.zero_le _) (show (#[] : Array Value).size = 0 * 1 from rfl)⟩, b2.alloc hz _⟩

end Lk
end Go.Proofs.Ytejfknkcakeakaa
