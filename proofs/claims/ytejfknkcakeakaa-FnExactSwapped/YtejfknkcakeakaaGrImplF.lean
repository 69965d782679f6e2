/-
  The contracts of impl.eachMatch and of the two functions that it tells.
-/
import Derived.Test.YtejfknkcakeakaaGrGo
import Derived.Test.YtejfknkcakeakaaGrBest2
import Derived.Test.YtejfknkcakeakaaGrImplB
namespace Go.Proofs.Ytejfknkcakeakaa
namespace Gr
open Go.RowKit

set_option maxRecDepth 100000 in
set_option maxHeartbeats 1000000 in
theorem best_tells (bs : Nat) : Tells 80 bs (fun st => #[.int .i64 st.1.W1, .int .i64 st.1.W2, .int .i64 st.1.W3]) 78 := by
  refine ⟨fun vs w => by kernel_rfl, fun st s w hb _ _ => ?_⟩
  obtain ⟨⟨b1, b2, b3⟩, k⟩ := st
  simp only at hb
  have HB := hide hb
  have hlt := hb.lt
  have hV : (comb (⟨b1, b2, b3⟩, k) (s, 1)).1 = if better s ⟨b1, b2, b3⟩ = true then s else ⟨b1, b2, b3⟩ := rfl
  generalize comb (⟨b1, b2, b3⟩, k) (s, 1) = V at hV ⊢
  have BT := hide (fun w => implBetter_any s ⟨b1, b2, b3⟩ w)
  generalize better s ⟨b1, b2, b3⟩ = bt at BT hV
  obtain ⟨s1, s2, s3⟩ := s
  obtain ⟨V, kv⟩ := V
  simp only at hV ⊢
  unfold SumsI.v at BT ⊢
  simp only at BT ⊢
  have c0 : w.cell? ⟨bs, 0, none⟩ = some (.int .i64 b1) := hb.cell 0 _ rfl
  have c1 : w.cell? ⟨bs, 1, none⟩ = some (.int .i64 b2) := hb.cell 1 _ rfl
  have c2 : w.cell? ⟨bs, 2, none⟩ = some (.int .i64 b3) := hb.cell 2 _ rfl
  have hne : ¬ bs = w.heap.size := by omega
  clear hb
  go_enter Try.func80, Try.ntmps80
  go_wp2_with fail
  obtain ⟨V1, hV1⟩ : ∃ W, W = w.alloc (Obj.cells #[Value.int .i64 s1, Value.int .i64 s2, Value.int .i64 s3] 78) := ⟨_, rfl⟩
  rw [← hV1]
  have d1 : Below w.heap.size w V1 := by rw [hV1]; exact below_new _ _
  have u1 : Blk V1 w.heap.size #[Value.int .i64 s1, Value.int .i64 s2, Value.int .i64 s3] 78 := by rw [hV1]; exact Blk.new0
  clear hV1
  refine (unhide BT _).mono ?_
  rintro e w2 ⟨rfl, hb2⟩
  have d2 := d1.trans (hb2.mono d1.size)
  have u2 := u1.below hb2
  have v2 : Blk w2 bs #[Value.int .i64 b1, Value.int .i64 b2, Value.int .i64 b3] 78 := (unhide HB).below d2
  cases bt with
  | false =>
    rw [if_neg (by simp)] at hV
    subst hV
    go_wp2_with fail
    go_end0
    exact ⟨rfl, v2, Kept.of_below d2⟩
  | true =>
    rw [if_pos rfl] at hV
    subst hV
    have p0 : w2.cell? ⟨w.heap.size, 0, none⟩ = some (.int .i64 s1) := u2.cell 0 _ rfl
    have p1 : w2.cell? ⟨w.heap.size, 1, none⟩ = some (.int .i64 s2) := u2.cell 1 _ rfl
    have p2 : w2.cell? ⟨w.heap.size, 2, none⟩ = some (.int .i64 s3) := u2.cell 2 _ rfl
    have q0 : w2.cell? ⟨bs, 0, none⟩ = some (.int .i64 b1) := v2.cell 0 _ rfl
    have q1 : w2.cell? ⟨bs, 1, none⟩ = some (.int .i64 b2) := v2.cell 1 _ rfl
    have q2 : w2.cell? ⟨bs, 2, none⟩ = some (.int .i64 b3) := v2.cell 2 _ rfl
    have t0 := v2.froz 0
    have t1 := v2.froz 1
    have t2 := v2.froz 2
    go_wp2_with fail
    go_end0
    exact ⟨rfl, ((v2.set 0 _).set 1 _).set 2 _, (Kept.of_below d2).trans (kept3 w2 bs _ _ _)⟩

theorem each_le {s : Int} {Q : List EdgeI} (hg : graphOk s Q = true) : (0 : Int) + (each Q []).2 ≤ 1000000000 := by
  obtain ⟨h0, h9, _, _⟩ := graph_sound hg
  obtain ⟨_, _, hb⟩ := best_bounds hg s.toNat [] (by omega)
  rw [best_is_each hg] at hb
  have := pow_big s.toNat (by omega)
  omega

set_option maxRecDepth 100000 in
set_option maxHeartbeats 1000000 in
theorem eachMatch_any {T bs B : Nat} {enc : SumsI × Int → Array Value} {ty : TypeId} {s : Int} {Q : List EdgeI} {v : Value} (hT : Tells T bs enc ty) (hg : graphOk s Q = true) (hQ : Q.length ≤ 1048576) (hBs : B ≤ bs) (w : World) (hv : GrAt w v B s Q) (st : SumsI × Int) (hS : Blk w bs (enc st) ty) (h0 : 0 ≤ st.2) (h9 : st.2 + (each Q []).2 ≤ 1000000000) :
    Calls Try.prog 79 #[v, .func (.func T) #[] #[.pointer (some ⟨bs, 0, none⟩)]] w fun e w' => e = .returned (.tuple #[]) ∧ Blk w' bs (enc (comb st (each Q []))) ty ∧ Kept (fun k => k = bs) w w' := by
  obtain ⟨a, n, c, rfl, hE⟩ := hv
  obtain ⟨hs0, hs9, hok, _⟩ := graph_sound hg
  have hlt := hS.lt
  have hok9 : ∀ e ∈ Q, edgeOk 9 e = true := fun e he => by
    obtain ⟨x0, x1, x2, x3⟩ := (edgeOk_iff s e).1 (hok e he)
    exact (edgeOk_iff 9 e).2 ⟨x0, x1, by omega, x3⟩
  have HGO := hide (fun W => go_any (a := a) (n := n) (c := c) (g := s) (bt := w.heap.size + 1) (bg := w.heap.size) (bi := w.heap.size + 1 + 1) (bo := w.heap.size + 1 + 1 + 1) hT hok9 hQ (by omega) (by omega) hBs (n + 1) 0 ⟨0, 0, 0⟩ [] st W (by omega) (by omega))
  have hz : shift ⟨0, 0, 0⟩ (each (Q.drop 0) []) = each Q [] := by
    unfold shift
    rw [zero_plus]
    rfl
  rw [hz] at HGO
  have HE := hide hE
  have HS := hide hS
  have HT := hide hT
  clear hE hS hT hz
  unfold SumsI.v at HGO
  simp only [flags_nil] at HGO
  go_enter Try.func79, Try.ntmps79
  go_wp2_with fail
  obtain ⟨V, hV⟩ : ∃ W, W = (((w.alloc (Obj.cells #[Value.int .i64 s, Value.slice a n c] 30)).alloc (Obj.cells #[Value.func (Fn.func T) #[] #[Value.pointer (some ⟨bs, 0, none⟩)]] 108)).alloc (Obj.cells #[Value.bool false, Value.bool false, Value.bool false, Value.bool false, Value.bool false, Value.bool false, Value.bool false, Value.bool false, Value.bool false] 109)).alloc (Obj.cells #[Value.func (Fn.func 85) #[] #[Value.pointer (some ⟨w.heap.size + 1, 0, none⟩), Value.pointer (some ⟨w.heap.size, 0, none⟩), Value.pointer (some ⟨w.heap.size + 1 + 1, 0, none⟩), Value.pointer (some ⟨w.heap.size + 1 + 1 + 1, 0, none⟩)]] 115) := ⟨_, rfl⟩
  rw [← hV]
  have b1 : Below w.heap.size w V := by rw [hV]; exact (((below_new _ _).alloc (by simp) _).alloc (by simp; omega) _).alloc (by simp; omega) _
  have m0 : Blk V w.heap.size #[Value.int .i64 s, Value.slice a n c] 30 := by rw [hV]; exact Blk.new0.alloc.alloc.alloc
  have m1 : Blk V (w.heap.size + 1) #[Value.func (Fn.func T) #[] #[Value.pointer (some ⟨bs, 0, none⟩)]] 108 := by rw [hV]; exact Blk.new1.alloc.alloc
  have m2 : Blk V (w.heap.size + 1 + 1) #[Value.bool false, Value.bool false, Value.bool false, Value.bool false, Value.bool false, Value.bool false, Value.bool false, Value.bool false, Value.bool false] 109 := by rw [hV]; exact Blk.new2.alloc
  have m3 : Blk V (w.heap.size + 1 + 1 + 1) #[Value.func (Fn.func 85) #[] #[Value.pointer (some ⟨w.heap.size + 1, 0, none⟩), Value.pointer (some ⟨w.heap.size, 0, none⟩), Value.pointer (some ⟨w.heap.size + 1 + 1, 0, none⟩), Value.pointer (some ⟨w.heap.size + 1 + 1 + 1, 0, none⟩)]] 115 := by rw [hV]; exact Blk.new (by simp)
  clear hV
  have hBw : B ≤ w.heap.size := by omega
  refine (unhide HGO V ⟨m1, m0, m3, (unhide HE).below b1 hBw⟩ m2 ((unhide HS).below b1) (by have := b1.size; omega) (SB.zero _ (by omega)) h0 h9).mono ?_
  rintro e w2 ⟨rfl, _, hS2, k2⟩
  have HS2 := hide hS2
  have HK2 : Hid (Kept (fun k => k = bs) w w2) := by
    obtain ⟨k1, k2, k3, k4, k5⟩ := k2
    have hsz := b1.size
    exact ⟨k1.trans b1.os, k2.trans b1.tape, k3.trans b1.output, by omega, fun i hi hn => (k5 i (by omega) (fun h => by rcases h with h | h <;> omega)).trans (b1.block i hi)⟩
  clear k2 hS2 m0 m1 m2 m3
  go_wp2_with fail
  go_end0
  exact ⟨rfl, unhide HS2, unhide HK2⟩

set_option maxRecDepth 100000 in
set_option maxHeartbeats 2000000 in
theorem implBestSums_gen (B : Nat) (v : Value) (s : Int) (Q : List EdgeI) (h1 : Q.length ≤ 1048576) (w : World) (hB : B ≤ w.heap.size) (hv : GrAt w v B s Q) :
    Calls Try.prog 57 #[v] w fun e w' => (∃ d, e = .returned (.tuple #[d, .bool (graphOk s Q)]) ∧ SuOwn w' w.heap.size d (bestR s Q)) ∧ Below w.heap.size w w' := by
  have OK := hide (fun w1 (hb : Below w.heap.size w w1) => implGraph_gen B v s Q h1 w1 (by have := hb.size; omega) (hv.below hb hB))
  have EM := hide (fun (hg : graphOk s Q = true) bs hBs w1 (hb : Below w.heap.size w w1) hS => eachMatch_any (B := B) (v := v) (best_tells bs) hg h1 hBs w1 (hv.below hb hB) (⟨0, 0, 0⟩, 0) hS (Int.le_refl _) (each_le hg))
  obtain ⟨a, n, c, rfl, _⟩ := hv
  have hV : bestR s Q = if graphOk s Q = true then (best Q s s.toNat []).1 else ⟨0, 0, 0⟩ := rfl
  have HV : Hid (graphOk s Q = true → (comb (⟨0, 0, 0⟩, 0) (each Q [])).1 = (best Q s s.toNat []).1) := fun hg => by
    rw [best_is_each hg]
    exact mx_of_le (zero_le_each Q [])
  generalize bestR s Q = V at hV ⊢
  generalize (best Q s s.toNat []).1 = T at HV hV
  generalize comb (⟨0, 0, 0⟩, 0) (each Q []) = E at HV EM
  generalize graphOk s Q = ok at OK EM HV hV ⊢
  clear h1
  go_enter Try.func57, Try.ntmps57
  go_wp2_with fail
  obtain ⟨V1, hV1⟩ : ∃ W, W = w.alloc (Obj.cells #[Value.int .i64 s, Value.slice a n c] 30) := ⟨_, rfl⟩
  obtain ⟨V2, hV2⟩ : ∃ W, W = V1.alloc (Obj.cells #[Value.int .i64 0, Value.int .i64 0, Value.int .i64 0] 78) := ⟨_, rfl⟩
  rw [← hV1, ← hV2]
  have z1 : V1.heap.size = w.heap.size + 1 := by rw [hV1]; simp
  have b1 : Below w.heap.size w V1 := by rw [hV1]; exact below_new _ _
  have b2 : Below w.heap.size w V2 := by rw [hV2]; exact b1.alloc b1.size _
  have x1 : GBox V1 w.heap.size s (.slice a n c) := by rw [hV1]; exact GBox.new _ _ _
  have x2 : GBox V2 w.heap.size s (.slice a n c) := by rw [hV2]; exact x1.below (below_new _ _)
  have r2 : SBox V2 (w.heap.size + 1) ⟨0, 0, 0⟩ := by rw [hV2, ← z1]; exact SBox.new _ ⟨0, 0, 0⟩
  clear hV1 hV2 b1 x1 z1
  go_fit (unhide OK V2 b2)
  rintro e w3 ⟨rfl, hb3⟩
  have x3 := x2.below hb3
  have r3 := r2.below hb3
  have b3 := b2.trans (hb3.mono b2.size)
  obtain ⟨p0, p1⟩ := x3.cells
  clear hb3 x2 r2 b2
  cases ok with
  | false =>
    rw [if_neg (by simp)] at hV
    subst hV
    obtain ⟨u0, u1, u2⟩ := r3.cells
    have uf := r3.froz
    have HR := hide r3
    clear r3 x3
    go_wp2
    (try simp only [Exit.inBlock, Exit.then])
    refine bodyPost_ret (results_sums2 Try.results57 _ _ (w.heap.size + 1) _ rfl ((unhide HR).three 0 0 0)) rfl ?_
    exact ⟨⟨_, rfl, rfl⟩, b3.trans ((kept3 w3 (w.heap.size + 1) _ _ _).below b3.size (fun i hi => by omega))⟩
  | true =>
    rw [if_pos rfl] at hV
    subst hV
    have hr3l := r3.lt
    have hxl := x3.lt
    have hne0 : ¬ w.heap.size = w3.heap.size := by omega
    have HVT := hide (unhide HV rfl)
    go_wp2_with fail
    have bb : Below w3.heap.size w3 (w3.alloc (Obj.cells #[Value.int .i64 0, Value.int .i64 0, Value.int .i64 0] 78)) := below_new _ _
    go_fit (unhide EM (by first | rfl | trivial) w3.heap.size (by omega) (w3.alloc (Obj.cells #[Value.int .i64 0, Value.int .i64 0, Value.int .i64 0] 78)) (b3.trans (bb.mono b3.size)) Blk.new0)
    rintro e w4 ⟨rfl, hS4, k4⟩
    have hb4 : Below w3.heap.size w3 w4 := bb.trans (k4.below bb.size (fun i hi => by omega))
    have r4 := r3.below hb4
    have b4 := b3.trans (hb4.mono b3.size)
    have hz4 := hb4.size
    rw [unhide HVT] at hS4
    have m0 : w4.cell? ⟨w3.heap.size, 0, none⟩ = some (.int .i64 V.W1) := hS4.cell 0 _ rfl
    have m1 : w4.cell? ⟨w3.heap.size, 1, none⟩ = some (.int .i64 V.W2) := hS4.cell 1 _ rfl
    have m2 : w4.cell? ⟨w3.heap.size, 2, none⟩ = some (.int .i64 V.W3) := hS4.cell 2 _ rfl
    obtain ⟨u0, u1, u2⟩ := r4.cells
    have uf := r4.froz
    have HR := hide r4
    have HB4 := hide b4
    clear r4 r3 x3 hb4 p0 p1 b4 bb k4 hS4
    go_wp2
    (try simp only [Exit.inBlock, Exit.then])
    have hb6 := (unhide HB4).trans ((kept3 w4 (w.heap.size + 1) (.int .i64 V.W1) (.int .i64 V.W2) (.int .i64 V.W3)).below (unhide HB4).size (fun i hi => by omega))
    refine bodyPost_ret (results_sums2 Try.results57 _ _ (w.heap.size + 1) _ rfl ((unhide HR).three V.W1 V.W2 V.W3)) rfl ?_
    exact ⟨⟨_, rfl, rfl⟩, hb6⟩

end Gr
end Go.Proofs.Ytejfknkcakeakaa
