/-
  The contract of impl.PageText, for every page.
-/
import Derived.Test.YtajajfmaekdphaaPgText
namespace Go.Proofs.Ytajajfmaekdphaa
open Go.RowKit

set_option maxRecDepth 100000 in
theorem implPage_no_one (v : Value) (B : Nat) (Q : List It) (hp : ¬ PageOk 1 Q) (h2 : Q.length ≤ 1048576) (hsm : ∀ x ∈ Q, x.key.size ≤ 1048576 ∧ x.val.size ≤ 1048576) (w : World) (hB : B ≤ w.heap.size) (hv : PageAt w v B 1 Q) :
    Calls Try.prog 10 #[v] w fun e w' => e = .returned (.tuple #[.string ⟨#[]⟩, .bool false]) ∧ Below w.heap.size w w' := by
  obtain ⟨a, n, c, rfl, hQ⟩ := hv
  have HA := hide (fun w1 (hb : Below w.heap.size w w1) => areItems_one a n c B Q (by have := hQ.1; omega) hsm w1 (by have := hb.size; omega) (hQ.below hb hB))
  rw [decide_eq_false hp] at HA
  clear hQ hsm hp h2
  go_enter Try.func10, Try.ntmps10
  go_wp2_with fail
  refine (kindOf_one _).mono ?_
  rintro e w0 ⟨rfl, rfl⟩
  go_wp2_with fail
  have hb1 : Below w.heap.size w (w.alloc (Obj.cells #[Value.int .i64 1, Value.slice a n c] 26)) := below_new _ _
  refine (unhide HA _ hb1).mono ?_
  rintro e w2 ⟨rfl, hb2⟩
  have hc2 : Below w.heap.size w w2 := hb1.trans (hb2.mono hb1.size)
  clear hb1 hb2
  go_wp2
  go_ret2
  exact ⟨rfl, hc2⟩

set_option maxRecDepth 100000 in
theorem implPage_no_two (v : Value) (B : Nat) (Q : List It) (hp : ¬ PageOk 2 Q) (h2 : Q.length ≤ 1048576) (hsm : ∀ x ∈ Q, x.key.size ≤ 1048576 ∧ x.val.size ≤ 1048576) (w : World) (hB : B ≤ w.heap.size) (hv : PageAt w v B 2 Q) :
    Calls Try.prog 10 #[v] w fun e w' => e = .returned (.tuple #[.string ⟨#[]⟩, .bool false]) ∧ Below w.heap.size w w' := by
  obtain ⟨a, n, c, rfl, hQ⟩ := hv
  have HA := hide (fun w1 (hb : Below w.heap.size w w1) => areItems_two a n c B Q (by have := hQ.1; omega) hsm w1 (by have := hb.size; omega) (hQ.below hb hB))
  rw [decide_eq_false hp] at HA
  clear hQ hsm hp h2
  go_enter Try.func10, Try.ntmps10
  go_wp2_with fail
  refine (kindOf_two _).mono ?_
  rintro e w0 ⟨rfl, rfl⟩
  go_wp2_with fail
  have hb1 : Below w.heap.size w (w.alloc (Obj.cells #[Value.int .i64 2, Value.slice a n c] 26)) := below_new _ _
  refine (unhide HA _ hb1).mono ?_
  rintro e w2 ⟨rfl, hb2⟩
  have hc2 : Below w.heap.size w w2 := hb1.trans (hb2.mono hb1.size)
  clear hb1 hb2
  go_wp2
  go_ret2
  exact ⟨rfl, hc2⟩

theorem implPage_none (v : Value) (B : Nat) (k : Int) (Q : List It) (h1 : k ≠ 1) (h2 : k ≠ 2) (w : World) (hv : PageAt w v B k Q) :
    Calls Try.prog 10 #[v] w fun e w' => e = .returned (.tuple #[.string ⟨#[]⟩, .bool false]) ∧ Below w.heap.size w w' := by
  obtain ⟨a, n, c, rfl, hQ⟩ := hv
  have HK := hide (kindOf_no k h1 h2)
  clear hQ h1 h2
  go_enter Try.func10, Try.ntmps10
  go_wp2_with fail
  refine (unhide HK _).mono ?_
  rintro e w0 ⟨rfl, rfl⟩
  go_wp2
  go_ret2
  exact ⟨rfl, below_new _ _⟩

theorem implPage_any (v : Value) (B : Nat) (k : Int) (Q : List It) (h2 : Q.length ≤ 1048576) (hsm : ∀ x ∈ Q, x.key.size ≤ 1048576 ∧ x.val.size ≤ 1048576) (w : World) (hB : B ≤ w.heap.size) (hv : PageAt w v B k Q) :
    Calls Try.prog 10 #[v] w fun e w' => e = .returned (pageA k Q) ∧ Below w.heap.size w w' := by
  by_cases hp : PageOk k Q
  · rw [pageA_yes hp]
    rcases hp.1 with rfl | rfl
    · exact implPage_one v B Q hp h2 hsm w hB hv
    · exact implPage_two v B Q hp h2 hsm w hB hv
  · rw [pageA_no hp]
    by_cases h1 : k = 1
    · subst h1; exact implPage_no_one v B Q hp h2 hsm w hB hv
    · by_cases h3 : k = 2
      · subst h3; exact implPage_no_two v B Q hp h2 hsm w hB hv
      · exact implPage_none v B k Q h1 h3 w hv
end Go.Proofs.Ytajajfmaekdphaa
