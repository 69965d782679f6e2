/-
  The contract of spec.SumsOf, and of spec.MatchOk in a law's form.
-/
import Derived.Test.YtecdagfenooboaaGrSumsOf
namespace Go.Proofs.Ytecdagfenooboaa
namespace Gr
open Go.RowKit

/-- What SumsOf tells. -/
def sumsR (s : Int) (Q : List EdgeI) (M : List CoupleI) : SumsI := if matchOk s Q M = true then sums Q M else ⟨0, 0, 0⟩

theorem specMatch_gen (B : Nat) (v : Value) (s : Int) (Q : List EdgeI) (u : Value) (M : List CoupleI) (h1 : Q.length ≤ 1048576) (h2 : M.length ≤ 1048576) (w : World) (hB : B ≤ w.heap.size) (hv : GrAt w v B s Q) (hu : CoAt w u B M) :
    Calls Try.prog 11 #[v, u] w fun e w' => e = .returned (.bool (matchOk s Q M)) ∧ Below w.heap.size w w' := by
  obtain ⟨a, c, rfl, hM⟩ := hu
  exact specMatch_any v B s Q a M.length c M h1 h2 w hB hv hM

set_option maxRecDepth 100000 in
set_option maxHeartbeats 1000000 in
theorem specSumsOf_gen (B : Nat) (v : Value) (s : Int) (Q : List EdgeI) (u : Value) (M : List CoupleI) (h1 : Q.length ≤ 1048576) (h2 : M.length ≤ 1048576) (w : World) (hB : B ≤ w.heap.size) (hv : GrAt w v B s Q) (hu : CoAt w u B M) :
    Calls Try.prog 17 #[v, u] w fun e w' => (∃ d, e = .returned (.tuple #[d, .bool (matchOk s Q M)]) ∧ SuOwn w' w.heap.size d (sumsR s Q M)) ∧ Below w.heap.size w w' := by
  have MK := hide (fun w1 (hb : Below w.heap.size w w1) => specMatch_gen B v s Q u M h1 h2 w1 (by have := hb.size; omega) (hv.below hb hB) (hu.below hb hB))
  obtain ⟨a, c, rfl, hM⟩ := hu
  have SK := hide (fun (hok : matchOk s Q M = true) w1 (hb : Below w.heap.size w w1) => specSums_any v B s Q a M.length c M hok h1 w1 (by have := hb.size; omega) (hv.below hb hB) (hM.below hb hB))
  obtain ⟨a0, n0, c0, rfl, _⟩ := hv
  have hV : sumsR s Q M = if matchOk s Q M = true then sums Q M else ⟨0, 0, 0⟩ := rfl
  generalize sumsR s Q M = V at hV ⊢
  generalize sums Q M = T at SK hV
  generalize matchOk s Q M = ok at MK SK hV ⊢
  clear hM h1 h2
  generalize M.length = n at MK SK
  go_enter Try.func17, Try.ntmps17
  go_wp2_with fail
  obtain ⟨V1, hV1⟩ : ∃ W, W = w.alloc (Obj.cells #[Value.int .i64 s, Value.slice a0 n0 c0] 31) := ⟨_, rfl⟩
  obtain ⟨V2, hV2⟩ : ∃ W, W = V1.alloc (Obj.cells #[Value.int .i64 0, Value.int .i64 0, Value.int .i64 0] 39) := ⟨_, rfl⟩
  rw [← hV1, ← hV2]
  have z1 : V1.heap.size = w.heap.size + 1 := by rw [hV1]; simp
  have b1 : Below w.heap.size w V1 := by rw [hV1]; exact below_new _ _
  have b2 : Below w.heap.size w V2 := by rw [hV2]; exact b1.alloc b1.size _
  have x1 : GBox V1 w.heap.size s (.slice a0 n0 c0) := by rw [hV1]; exact GBox.new _ _ _
  have x2 : GBox V2 w.heap.size s (.slice a0 n0 c0) := by rw [hV2]; exact x1.below (below_new _ _)
  have r2 : SBox V2 (w.heap.size + 1) ⟨0, 0, 0⟩ := by rw [hV2, ← z1]; exact SBox.new _ ⟨0, 0, 0⟩
  clear hV1 hV2 b1 x1 z1
  refine (unhide MK V2 b2).mono ?_
  rintro e w3 ⟨rfl, hb3⟩
  have x3 := x2.below hb3
  have r3 := r2.below hb3
  have b3 := b2.trans (hb3.mono b2.size)
  obtain ⟨p0, p1⟩ := x3.cells
  clear hb3 x2 r2 b2
  cases ok with
  | false =>
    rw [if_neg (by simp)] at hV
    subst hV
    obtain ⟨u0, u1, u2⟩ := r3.cells
    have uf := r3.froz
    have HR := hide r3
    clear r3 x3
    go_wp2
    (try simp only [Exit.inBlock, Exit.then])
    refine bodyPost_ret (results_sums2 Try.results17 _ _ (w.heap.size + 1) _ rfl ((unhide HR).three 0 0 0)) rfl ?_
    exact ⟨⟨_, rfl, rfl⟩, b3.trans ((kept3 w3 (w.heap.size + 1) _ _ _).below b3.size (fun i hi => by omega))⟩
  | true =>
    rw [if_pos rfl] at hV
    subst hV
    go_wp2_with fail
    refine (unhide SK (by first | rfl | trivial) w3 b3).mono ?_
    rintro e w4 ⟨rfl, hb4⟩
    have r4 := r3.below hb4
    have b4 := b3.trans (hb4.mono b3.size)
    obtain ⟨u0, u1, u2⟩ := r4.cells
    have uf := r4.froz
    have HR := hide r4
    clear r4 r3 x3 hb4 p0 p1
    unfold SumsI.v
    go_wp2
    (try simp only [Exit.inBlock, Exit.then])
    refine bodyPost_ret (results_sums2 Try.results17 _ _ (w.heap.size + 1) _ rfl ((unhide HR).three V.W1 V.W2 V.W3)) rfl ?_
    exact ⟨⟨_, rfl, rfl⟩, b4.trans ((kept3 w4 (w.heap.size + 1) _ _ _).below b4.size (fun i hi => by omega))⟩

end Gr
end Go.Proofs.Ytecdagfenooboaa
