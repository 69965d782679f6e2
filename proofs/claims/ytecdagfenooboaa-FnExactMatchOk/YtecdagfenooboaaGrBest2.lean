/-
  The contracts of spec.BestSums and spec.CountMatches.
-/
import Derived.Test.YtecdagfenooboaaGrBestC
namespace Go.Proofs.Ytecdagfenooboaa
namespace Gr
open Go.RowKit

/-- What BestSums tells. -/
def bestR (s : Int) (Q : List EdgeI) : SumsI := if graphOk s Q = true then (best Q s s.toNat []).1 else ⟨0, 0, 0⟩
/-- What CountMatches tells. -/
def countR (s : Int) (Q : List EdgeI) : Int := if graphOk s Q = true then (best Q s s.toNat []).2 else -1

theorem best_from {v : Value} {B : Nat} {s : Int} {Q : List EdgeI} (hg : graphOk s Q = true) (h1 : Q.length ≤ 1048576) (w : World) (hB : B ≤ w.heap.size) (hv : GrAt w v B s Q) :
    Calls Try.prog 45 #[v, .int .i64 0, .slice (some ⟨w.heap.size, 0, none⟩) 0 0] (w.alloc (Obj.cells #[] 3)) fun e w' => e = .returned (.tuple #[(best Q s s.toNat []).1.v, .int .i64 (best Q s s.toNat []).2]) ∧ Below w.heap.size w w' := by
  obtain ⟨h0, h9, _, _⟩ := graph_sound hg
  have hb := below_new w (Obj.cells #[] 3)
  refine (specBest_any v B s Q hg h1 s.toNat [] ⟨w.heap.size, 0, none⟩ 0 0 0 (w.alloc (Obj.cells #[] 3)) (by omega) (by omega) (by simp; omega) (by have := hb.size; omega) (Nat.zero_le _) (hv.below hb hB) ⟨rfl, fun j h => by simp at h⟩).mono ?_
  rintro e w' ⟨rfl, hb'⟩
  exact ⟨rfl, hb.trans (hb'.mono hb.size)⟩

set_option maxRecDepth 100000 in
set_option maxHeartbeats 1000000 in
theorem specBestSums_gen (B : Nat) (v : Value) (s : Int) (Q : List EdgeI) (h1 : Q.length ≤ 1048576) (w : World) (hB : B ≤ w.heap.size) (hv : GrAt w v B s Q) :
    Calls Try.prog 23 #[v] w fun e w' => (∃ d, e = .returned (.tuple #[d, .bool (graphOk s Q)]) ∧ SuOwn w' w.heap.size d (bestR s Q)) ∧ Below w.heap.size w w' := by
  have OK := hide (fun w1 (hb : Below w.heap.size w w1) => specGraph_any v B s Q h1 w1 (by have := hb.size; omega) (hv.below hb hB))
  have BS := hide (fun (hg : graphOk s Q = true) w1 (hb : Below w.heap.size w w1) => best_from hg h1 w1 (by have := hb.size; omega) (hv.below hb hB))
  obtain ⟨a0, n0, c0, rfl, _⟩ := hv
  have hV : bestR s Q = if graphOk s Q = true then (best Q s s.toNat []).1 else ⟨0, 0, 0⟩ := rfl
  generalize bestR s Q = V at hV ⊢
  generalize best Q s s.toNat [] = T at BS hV
  generalize graphOk s Q = ok at OK BS hV ⊢
  obtain ⟨T, ct⟩ := T
  simp only at hV BS
  unfold SumsI.v at BS
  clear h1
  go_enter Try.func23, Try.ntmps23
  go_wp2_with fail
  obtain ⟨V1, hV1⟩ : ∃ W, W = w.alloc (Obj.cells #[Value.int .i64 s, Value.slice a0 n0 c0] 31) := ⟨_, rfl⟩
  obtain ⟨V2, hV2⟩ : ∃ W, W = V1.alloc (Obj.cells #[Value.int .i64 0, Value.int .i64 0, Value.int .i64 0] 39) := ⟨_, rfl⟩
  rw [← hV1, ← hV2]
  have z1 : V1.heap.size = w.heap.size + 1 := by rw [hV1]; simp
  have b1 : Below w.heap.size w V1 := by rw [hV1]; exact below_new _ _
  have b2 : Below w.heap.size w V2 := by rw [hV2]; exact b1.alloc b1.size _
  have x1 : GBox V1 w.heap.size s (.slice a0 n0 c0) := by rw [hV1]; exact GBox.new _ _ _
  have x2 : GBox V2 w.heap.size s (.slice a0 n0 c0) := by rw [hV2]; exact x1.below (below_new _ _)
  have r2 : SBox V2 (w.heap.size + 1) ⟨0, 0, 0⟩ := by rw [hV2, ← z1]; exact SBox.new _ ⟨0, 0, 0⟩
  clear hV1 hV2 b1 x1 z1
  go_fit (unhide OK V2 b2)
  rintro e w3 ⟨rfl, hb3⟩
  have x3 := x2.below hb3
  have r3 := r2.below hb3
  have b3 := b2.trans (hb3.mono b2.size)
  obtain ⟨p0, p1⟩ := x3.cells
  clear hb3 x2 r2 b2
  cases ok with
  | false =>
    rw [if_neg (by simp)] at hV
    subst hV
    obtain ⟨u0, u1, u2⟩ := r3.cells
    have uf := r3.froz
    have HR := hide r3
    clear r3 x3
    go_wp2
    (try simp only [Exit.inBlock, Exit.then])
    refine bodyPost_ret (results_sums2 Try.results23 _ _ (w.heap.size + 1) _ rfl ((unhide HR).three 0 0 0)) rfl ?_
    exact ⟨⟨_, rfl, rfl⟩, b3.trans ((kept3 w3 (w.heap.size + 1) _ _ _).below b3.size (fun i hi => by omega))⟩
  | true =>
    rw [if_pos rfl] at hV
    subst hV
    have hr3l := r3.lt
    go_wp2_with fail
    go_fit (unhide BS (by first | rfl | trivial) w3 b3)
    rintro e w4 ⟨rfl, hb4⟩
    have r4 := r3.below hb4
    have b4 := b3.trans (hb4.mono b3.size)
    have hz4 := hb4.size
    obtain ⟨u0, u1, u2⟩ := r4.cells
    have uf := r4.froz
    have hr4l := r4.lt
    have hne : ¬ w4.heap.size = w.heap.size + 1 := by omega
    have hne' : ¬ w.heap.size + 1 = w4.heap.size := by omega
    have HR := hide r4
    have HB4 := hide b4
    clear r4 r3 x3 hb4 p0 p1 b4
    go_wp2
    (try simp only [Exit.inBlock, Exit.then])
    have hb6 := (unhide HB4).trans ((kept3 w4 (w.heap.size + 1) (.int .i64 V.W1) (.int .i64 V.W2) (.int .i64 V.W3)).below (unhide HB4).size (fun i hi => by omega))
    refine bodyPost_ret (results_sums2 Try.results23 _ _ (w.heap.size + 1) _ rfl (((unhide HR).three V.W1 V.W2 V.W3).below (below_new _ _))) rfl ?_
    exact ⟨⟨_, rfl, rfl⟩, hb6.alloc hb6.size _⟩

set_option maxRecDepth 100000 in
set_option maxHeartbeats 1000000 in
theorem specCount_gen (B : Nat) (v : Value) (s : Int) (Q : List EdgeI) (h1 : Q.length ≤ 1048576) (w : World) (hB : B ≤ w.heap.size) (hv : GrAt w v B s Q) :
    Calls Try.prog 25 #[v] w fun e w' => e = .returned (.int .i64 (countR s Q)) ∧ Below w.heap.size w w' := by
  have OK := hide (fun w1 (hb : Below w.heap.size w w1) => specGraph_any v B s Q h1 w1 (by have := hb.size; omega) (hv.below hb hB))
  have BS := hide (fun (hg : graphOk s Q = true) w1 (hb : Below w.heap.size w w1) => best_from hg h1 w1 (by have := hb.size; omega) (hv.below hb hB))
  obtain ⟨a0, n0, c0, rfl, _⟩ := hv
  have hV : countR s Q = if graphOk s Q = true then (best Q s s.toNat []).2 else -1 := rfl
  generalize countR s Q = V at hV ⊢
  generalize best Q s s.toNat [] = T at BS hV
  generalize graphOk s Q = ok at OK BS hV
  obtain ⟨T, ct⟩ := T
  simp only at hV BS
  unfold SumsI.v at BS
  clear h1
  go_enter Try.func25, Try.ntmps25
  go_wp2_with fail
  obtain ⟨V1, hV1⟩ : ∃ W, W = w.alloc (Obj.cells #[Value.int .i64 s, Value.slice a0 n0 c0] 31) := ⟨_, rfl⟩
  rw [← hV1]
  have b1 : Below w.heap.size w V1 := by rw [hV1]; exact below_new _ _
  have x1 : GBox V1 w.heap.size s (.slice a0 n0 c0) := by rw [hV1]; exact GBox.new _ _ _
  clear hV1
  go_fit (unhide OK V1 b1)
  rintro e w3 ⟨rfl, hb3⟩
  have x3 := x1.below hb3
  have b3 := b1.trans (hb3.mono b1.size)
  obtain ⟨p0, p1⟩ := x3.cells
  clear hb3 x1 b1
  cases ok with
  | false =>
    rw [if_neg (by simp)] at hV
    subst hV
    go_wp2
    go_ret
    exact ⟨rfl, b3⟩
  | true =>
    rw [if_pos rfl] at hV
    subst hV
    go_wp2_with fail
    go_fit (unhide BS (by first | rfl | trivial) w3 b3)
    rintro e w4 ⟨rfl, hb4⟩
    have b4 := b3.trans (hb4.mono b3.size)
    clear hb4 p0 p1 x3
    go_wp2
    go_ret
    exact ⟨rfl, b4.alloc b4.size _⟩

end Gr
end Go.Proofs.Ytecdagfenooboaa
