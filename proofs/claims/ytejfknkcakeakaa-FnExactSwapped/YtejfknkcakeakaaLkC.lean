/-
  MostCouples: both contracts. Every edge is worth one in the graph whose best sums are asked.
-/
import Derived.Test.YtejfknkcakeakaaLk1
import Derived.Test.YtejfknkcakeakaaGrImplF
import Derived.Test.YtejfknkcakeakaaGrOkMath
import Derived.Test.YtejfknkcakeakaaGrBlkS
namespace Go.Proofs.Ytejfknkcakeakaa
namespace Lk
open Go.RowKit
open Gr (Blk Kept EdgeI SumsI GrAt GBox below_new edgesV edgesV_snoc edgesAt infoEdge graphOk graph_sound graph_of edgeOk_iff worthOk ahead ahead_iff best bestR SuOwn specGraph_any implGraph_gen specBest_any implBestSums_gen news_edge edge_one own_below own_lower GrOwn)

/-- An edge with the worths 1, 0, 0. -/
def plainE (e : EdgeI) : EdgeI := ⟨e.A, e.B, 1, 0, 0⟩
def plainQ (Q : List EdgeI) : List EdgeI := Q.map plainE

theorem plain_length (Q : List EdgeI) : (plainQ Q).length = Q.length := by simp [plainQ]

theorem plain_next (Q : List EdgeI) (k : Nat) (h : k < Q.length) : plainQ (Q.take (k + 1)) = plainQ (Q.take k) ++ [⟨Q[k].A, Q[k].B, 1, 0, 0⟩] := by
  unfold plainQ
  rw [List.take_succ_eq_append_getElem h, List.map_append]
  rfl

theorem plain_ok {s : Int} {Q : List EdgeI} (h : graphOk s Q = true) : graphOk s (plainQ Q) = true := by
  obtain ⟨h0, h9, he, hp⟩ := graph_sound h
  refine graph_of h0 h9 (fun e hm => ?_) ?_
  · unfold plainQ at hm
    obtain ⟨x, hx, rfl⟩ := List.mem_map.1 hm
    have := (edgeOk_iff s x).1 (he x hx)
    exact (edgeOk_iff s _).2 ⟨this.1, this.2.1, this.2.2.1, rfl, rfl, rfl⟩
  · unfold plainQ
    refine List.pairwise_map.2 (hp.imp ?_)
    intro a b hab
    have := (ahead_iff _ _).1 hab
    exact (ahead_iff _ _).2 this

/-- The most couples. -/
def mostC (s : Int) (Q : List EdgeI) : Int := if graphOk s Q = true then (best (plainQ Q) s s.toNat []).1.W1 else -1

set_option maxRecDepth 100000 in
set_option maxHeartbeats 4000000 in
theorem implMost_gen (B : Nat) (v : Value) (s : Int) (Q : List EdgeI) (h1 : Q.length ≤ 1048576) (w : World) (hB : B ≤ w.heap.size) (hv : GrAt w v B s Q) :
    Calls Try.prog 28 #[v] w fun e w' => e = .returned (.int .i64 (mostC s Q)) ∧ Below w.heap.size w w' := by
  have OK := hide (fun w1 (hb : Below w.heap.size w w1) => implGraph_gen B v s Q h1 w1 (by have := hb.size; omega) (hv.below hb hB))
  have HR : Hid (graphOk s Q = true → mostC s Q = (bestR s (plainQ Q)).W1) := fun h => by
    unfold mostC bestR
    rw [if_pos h, if_pos (plain_ok h)]
  have HR0 : Hid (graphOk s Q = false → mostC s Q = -1) := fun h => by unfold mostC; rw [h]; rfl
  have BS := hide (fun d w1 (hd : GrAt w1 d w1.heap.size s (plainQ Q)) => implBestSums_gen w1.heap.size d s (plainQ Q) (by rw [plain_length]; exact h1) w1 (Nat.le_refl _) hd)
  have HPN := hide (fun k h => plain_next Q k h)
  have HP0 : Hid (plainQ (Q.take 0) = []) := rfl
  have HPL : Hid (∀ k, k ≤ Q.length → (plainQ (Q.take k)).length = k) := fun k h => by rw [plain_length, List.length_take]; omega
  have HPE : Hid (plainQ (Q.take Q.length) = plainQ Q) := by show _ = _; rw [List.take_length]
  obtain ⟨a, n, c, rfl, hE⟩ := hv
  obtain ⟨hL, hc⟩ := hE
  rw [hL] at HPE h1 HPL
  have HC := hide hc
  have HL := hide hL
  generalize mostC s Q = V at HR HR0 ⊢
  generalize bestR s (plainQ Q) = T at HR BS
  generalize graphOk s Q = gk at OK HR HR0
  generalize graphOk s (plainQ Q) = gk2 at BS
  obtain ⟨i1, hi1, hz0, hz1, hz2⟩ := info_parts infoEdge
  clear hc hL
  go_enter Try.func28, Try.ntmps28
  go_wp2_with fail
  obtain ⟨V1, hV1⟩ : ∃ W, W = w.alloc (Obj.cells #[Value.int .i64 s, Value.slice a n c] 30) := ⟨_, rfl⟩
  rw [← hV1]
  have x1 : GBox V1 w.heap.size s (.slice a n c) := by rw [hV1]; exact GBox.new _ _ _
  have b1 : Below w.heap.size w V1 := by rw [hV1]; exact below_new _ _
  clear hV1
  refine (unhide OK V1 b1).mono ?_
  rintro e w2 ⟨rfl, hb2⟩
  have x2 := x1.below hb2
  have b2 := b1.trans (hb2.mono b1.size)
  obtain ⟨p0, p1⟩ := x2.cells
  have z2 := x2.lt
  clear hb2 x1 OK b1
  cases gk
  · have hR := unhide HR0 rfl
    subst hR
    go_wp2
    go_ret
    exact ⟨rfl, b2⟩
  · have hR := unhide HR rfl
    subst hR
    clear HR HR0
    obtain ⟨V3, hV3⟩ : ∃ W, W = w2.alloc (Obj.cells #[Value.int .i64 s, Value.slice none 0 0] 30) := ⟨_, rfl⟩
    have HX3 : Hid (GBox V3 w.heap.size s (.slice a n c)) := by show GBox _ _ _ _; rw [hV3]; exact x2.below (below_new _ _)
    have HU3 : Hid (GBox V3 w2.heap.size s (.slice none 0 0)) := by show GBox _ _ _ _; rw [hV3]; exact GBox.new _ _ _
    have b3 : Below w.heap.size w V3 := by rw [hV3]; exact b2.alloc b2.size _
    have HO3 : Hid (World.ownsRow V3 (w2.heap.size + 1) 76 5 (.slice none 0 0) 0 (edgesV (plainQ (Q.take 0)))) := ⟨by rw [unhide HP0]; rfl, .inl ⟨rfl, rfl⟩⟩
    obtain ⟨q0, q1⟩ := (unhide HX3).cells
    rw [hV3] at q0 q1
    have hg2 := b2.size
    clear x2
    go_wp2_with fail
    rw [← hV3]
    clear hV3 q0 q1 p0 p1 b2
    generalize w2.heap.size = g at HX3 HU3 HO3 hg2 z2
    go_loopw [17] (fun i wr => ∃ k : Nat, i = .int .i64 (k : Int) ∧ k ≤ n ∧ Below w.heap.size w wr ∧ ∃ A C, Hid (GBox wr g s (.slice A k C)) ∧ Hid (World.ownsRow wr (g + 1) 76 5 (.slice A k C) k (edgesV (plainQ (Q.take k))))) (fun i _ => n - (intOf i).toNat)
    case atStart => exact ⟨0, rfl, Nat.zero_le _, b3, none, 0, unhide HU3, unhide HO3⟩
    case round =>
      clear HU3 HO3 b3 HX3
      obtain ⟨k, rfl, hk, hb, A, C, HU, HO⟩ := hrel
      have hgl := (unhide HU).lt
      by_cases hlt : k < n
      · have hkQ : k < Q.length := by have := unhide HL; omega
        obtain ⟨b, off, rfl, hbB, c0, c1, c2, c3, c4⟩ := unhide HC k hkQ
        rw [← hb.cell (p := ⟨b, off + k * 5, none⟩) (by simp; omega)] at c0
        rw [← hb.cell (p := ⟨b, off + k * 5 + 1, none⟩) (by simp; omega)] at c1
        rw [← hb.cell (p := ⟨b, off + k * 5 + 2, none⟩) (by simp; omega)] at c2
        rw [← hb.cell (p := ⟨b, off + k * 5 + 3, none⟩) (by simp; omega)] at c3
        rw [← hb.cell (p := ⟨b, off + k * 5 + 4, none⟩) (by simp; omega)] at c4
        have HS := hide (unhide HPN k hkQ)
        generalize Q[k] = q at c0 c1 c2 c3 c4 HS
        obtain ⟨y0, y1, y2, y3, y4⟩ := q
        simp only at c0 c1 c2 c3 c4 HS
        have hx2 : (k : Int) < (n : Int) := by omega
        have hx0 : (0 : Int) ≤ (k : Int) := by omega
        have hn5 : k + 1 ≤ 1048576 := by omega
        have bw9 := below_new wr (Obj.cells #[Value.int .i64 y0, Value.int .i64 y1, Value.int .i64 y2, Value.int .i64 y3, Value.int .i64 y4] 76)
        obtain ⟨V9, hV9⟩ : ∃ W, W = wr.alloc (Obj.cells #[Value.int .i64 y0, Value.int .i64 y1, Value.int .i64 y2, Value.int .i64 y3, Value.int .i64 y4] 76) := ⟨_, rfl⟩
        rw [← hV9] at bw9
        have z9 : V9.heap.size = wr.heap.size + 1 := by rw [hV9]; simp
        have e9 : Blk V9 wr.heap.size #[Value.int .i64 y0, Value.int .i64 y1, Value.int .i64 y2, Value.int .i64 y3, Value.int .i64 y4] 76 := by rw [hV9]; exact Gr.Blk.new0
        have u9 := (unhide HU).below bw9
        have o9 := own_below (unhide HO) bw9
        have b9 := hb.trans (bw9.mono hb.size)
        have f0 := e9.cell 0 _ rfl
        have f1 := e9.cell 1 _ rfl
        obtain ⟨q0, q1⟩ := u9.cells
        have HU9 := hide u9
        have hgl2 : ∀ g', (Value.slice A k C).ownBlock = some g' → g < g' := fun g' hg => by have := (o9.lt g' hg).1; omega
        have hz9 : wr.heap.size < V9.heap.size := by omega
        have hge : g < V9.heap.size := by omega
        have HNW : ∀ j u, [Value.int .i64 y0, Value.int .i64 y1, Value.int .i64 1, Value.int .i64 0, Value.int .i64 0][j]? = some u → ((wr.alloc (Obj.cells #[Value.int .i64 y0, Value.int .i64 y1, Value.int .i64 y2, Value.int .i64 y3, Value.int .i64 y4] 76)).alloc (Obj.cells #[Value.int .i64 y0, Value.int .i64 y1, Value.int .i64 1, Value.int .i64 0, Value.int .i64 0] 76)).cell? ((⟨wr.heap.size + 1, 0, none⟩ : Addr).add j) = some u := fun j u h => by
          have h2 := news_edge V9 y0 y1 1 0 0 76 j u h
          rwa [z9, hV9] at h2
        have OA : ((wr.alloc (Obj.cells #[Value.int .i64 y0, Value.int .i64 y1, Value.int .i64 y2, Value.int .i64 y3, Value.int .i64 y4] 76)).alloc (Obj.cells #[Value.int .i64 y0, Value.int .i64 y1, Value.int .i64 1, Value.int .i64 0, Value.int .i64 0] 76)).ownsRow (g + 1) 76 5 (.slice A k C) k (edgesV (plainQ (Q.take k))) := by rw [← hV9]; exact o9.alloc _
        rw [hV9] at f0 f1 q0 q1
        clear e9 bw9 u9 hb z9 HO HU
        go_wp2_with (at_builtin; refine wpList_append_own _ rfl _ _ 28 rfl (g + 1) 76 i1 (.agg #[.int .i64 0, .int .i64 0, .int .i64 0, .int .i64 0, .int .i64 0]) 5 40 Try.underlying28 hi1 hz0 hz1 hz2 rfl (by decide) _ k _ rfl OA ⟨wr.heap.size + 1, 0, none⟩ 1 1 [.int .i64 y0, .int .i64 y1, .int .i64 1, .int .i64 0, .int .i64 0] rfl rfl HNW (edge_one _ _ _ _ _) ?_ ?_ ?_ ?_)
        · unfold maxLen; omega
        · omega
        · simp; omega
        intro v4 w4 hown4 hgrow4 _
        rw [← hV9] at hgrow4
        have bl4 := below_append (B := g + 1) (w := V9) (wr := V9) (Below.refl _ _) (by omega) o9 hgrow4
        have u10 : GBox w4 g s (.slice A k C) := by
          have h := (unhide HU9).below (below_new V9 (Obj.cells #[Value.int .i64 y0, Value.int .i64 y1, Value.int .i64 1, Value.int .i64 0, Value.int .i64 0] 76))
          exact h.kept (Gr.Kept.of_grown hgrow4) (fun e => by have := hgl2 _ e; omega)
        obtain ⟨A4, C4, rfl⟩ : ∃ A c, v4 = .slice A (k + 1) c := by
          rcases hown4.2 with ⟨rfl, h0⟩ | ⟨g', cap, cur, rfl, _⟩
          · omega
          · exact ⟨_, _, rfl⟩
        have hsn : edgesV (plainQ (Q.take k)) ++ [.int .i64 y0, .int .i64 y1, .int .i64 1, .int .i64 0, .int .i64 0] = edgesV (plainQ (Q.take (k + 1))) := by rw [unhide HS]; exact (edgesV_snoc _ ⟨y0, y1, 1, 0, 0⟩).symm
        rw [hsn] at hown4
        have hk11 : Kept (fun i => i = g) w4 (w4.setCell ⟨g, 1, none⟩ (.slice A4 (k + 1) C4)) := Gr.Kept.set (S := fun i => i = g) _ _ _ _ rfl
        have HU11 := hide (u10.one (.slice A4 (k + 1) C4))
        have HO11 := hide (hk11.own hown4 (fun g' hg e => by have := (hown4.lt g' hg).1; omega))
        have b10 : Below w.heap.size w w4 := b9.trans (bl4.mono (by omega))
        have HB11 := hide (b10.trans (hk11.below b10.size (fun i hi => by omega)))
        obtain ⟨r0, r1⟩ := u10.cells
        have rf := u10.froz
        clear hown4 hgrow4 hk11 b10 bl4 u10 o9 q0 q1 f0 f1 hsn b9 hgl2 hV9
        go_wp2_with fail
        exact ⟨⟨k + 1, by go_num, by omega, unhide HB11, A4, C4, HU11, HO11⟩, by simp [intOf]; omega⟩
      · obtain rfl : k = n := by omega
        obtain ⟨q0, q1⟩ := (unhide HU).cells
        have HG : Hid (GrAt wr (.agg #[.int .i64 s, .slice A k C]) wr.heap.size s (plainQ Q)) := by
          have ho := unhide HO
          rw [unhide HPE] at ho
          have e : k = (plainQ Q).length := by rw [plain_length, unhide HL]
          obtain ⟨a', c', e2, hE⟩ := edgesAt.of_own ho
          simp at e2
          obtain ⟨rfl, rfl⟩ := e2
          exact ⟨_, _, _, rfl, hE⟩
        have BSW := hide (unhide BS _ wr (unhide HG))
        clear HU HO BS HG
        go_wp2_with fail
        refine (unhide BSW).mono ?_
        rintro e w8 ⟨⟨d, rfl, ho⟩, hb8⟩
        unfold SuOwn at ho
        subst ho
        unfold SumsI.v
        have b8 := hb.trans (hb8.mono hb.size)
        have HB9 := hide (fun o => b8.alloc b8.size o)
        clear hb8
        go_wp2_with fail
        go_ret
        exact ⟨rfl, unhide HB9 _⟩

set_option maxRecDepth 100000 in
set_option maxHeartbeats 4000000 in
theorem specMost_gen (B : Nat) (v : Value) (s : Int) (Q : List EdgeI) (h1 : Q.length ≤ 1048576) (w : World) (hB : B ≤ w.heap.size) (hv : GrAt w v B s Q) :
    Calls Try.prog 27 #[v] w fun e w' => e = .returned (.int .i64 (mostC s Q)) ∧ Below w.heap.size w w' := by
  have OK := hide (fun w1 (hb : Below w.heap.size w w1) => specGraph_any v B s Q h1 w1 (by have := hb.size; omega) (hv.below hb hB))
  have HR : Hid (graphOk s Q = true → mostC s Q = (best (plainQ Q) s s.toNat []).1.W1) := fun h => by
    unfold mostC
    rw [if_pos h]
  have HR0 : Hid (graphOk s Q = false → mostC s Q = -1) := fun h => by unfold mostC; rw [h]; rfl
  have BS : Hid (graphOk s Q = true → ∀ d w1 ad c, GrAt w1 d w1.heap.size s (plainQ Q) → Calls Try.prog 56 #[d, .int .i64 0, .slice (some ad) 0 c] w1 fun e w' => e = .returned (.tuple #[(best (plainQ Q) s s.toNat []).1.v, .int .i64 (best (plainQ Q) s s.toNat []).2]) ∧ Below w1.heap.size w1 w') := fun hg d w1 ad c hd => by
    obtain ⟨s0, s9⟩ := ok_size hg
    exact specBest_any d w1.heap.size s (plainQ Q) (plain_ok hg) (by rw [plain_length]; exact h1) s.toNat [] ad c w1.heap.size 0 w1 (by omega) (by omega) (by simp; omega) (Nat.le_refl _) (Nat.le_refl _) hd ⟨rfl, fun j hj => by simp at hj⟩
  have HPN := hide (fun k h => plain_next Q k h)
  have HP0 : Hid (plainQ (Q.take 0) = []) := rfl
  have HPL : Hid (∀ k, k ≤ Q.length → (plainQ (Q.take k)).length = k) := fun k h => by rw [plain_length, List.length_take]; omega
  have HPE : Hid (plainQ (Q.take Q.length) = plainQ Q) := by show _ = _; rw [List.take_length]
  obtain ⟨a, n, c, rfl, hE⟩ := hv
  obtain ⟨hL, hc⟩ := hE
  rw [hL] at HPE h1 HPL
  have HC := hide hc
  have HL := hide hL
  generalize mostC s Q = V at HR HR0 ⊢
  generalize (best (plainQ Q) s s.toNat []) = T at HR BS
  obtain ⟨T, TN⟩ := T
  generalize graphOk s Q = gk at OK HR HR0 BS
  obtain ⟨i1, hi1, hz0, hz1, hz2⟩ := info_parts infoEdge
  clear hc hL
  go_enter Try.func27, Try.ntmps27
  go_wp2_with fail
  obtain ⟨V1, hV1⟩ : ∃ W, W = w.alloc (Obj.cells #[Value.int .i64 s, Value.slice a n c] 30) := ⟨_, rfl⟩
  rw [← hV1]
  have x1 : GBox V1 w.heap.size s (.slice a n c) := by rw [hV1]; exact GBox.new _ _ _
  have b1 : Below w.heap.size w V1 := by rw [hV1]; exact below_new _ _
  clear hV1
  refine (unhide OK V1 b1).mono ?_
  rintro e w2 ⟨rfl, hb2⟩
  have x2 := x1.below hb2
  have b2 := b1.trans (hb2.mono b1.size)
  obtain ⟨p0, p1⟩ := x2.cells
  have z2 := x2.lt
  clear hb2 x1 OK b1
  cases gk
  · have hR := unhide HR0 rfl
    subst hR
    go_wp2
    go_ret
    exact ⟨rfl, b2⟩
  · have hR := unhide HR rfl
    subst hR
    have BS2 := hide (unhide BS rfl)
    clear HR HR0 BS
    obtain ⟨V3, hV3⟩ : ∃ W, W = w2.alloc (Obj.cells #[Value.int .i64 s, Value.slice none 0 0] 30) := ⟨_, rfl⟩
    have HX3 : Hid (GBox V3 w.heap.size s (.slice a n c)) := by show GBox _ _ _ _; rw [hV3]; exact x2.below (below_new _ _)
    have HU3 : Hid (GBox V3 w2.heap.size s (.slice none 0 0)) := by show GBox _ _ _ _; rw [hV3]; exact GBox.new _ _ _
    have b3 : Below w.heap.size w V3 := by rw [hV3]; exact b2.alloc b2.size _
    have HO3 : Hid (World.ownsRow V3 (w2.heap.size + 1) 76 5 (.slice none 0 0) 0 (edgesV (plainQ (Q.take 0)))) := ⟨by rw [unhide HP0]; rfl, .inl ⟨rfl, rfl⟩⟩
    obtain ⟨q0, q1⟩ := (unhide HX3).cells
    rw [hV3] at q0 q1
    have hg2 := b2.size
    clear x2
    go_wp2_with fail
    rw [← hV3]
    clear hV3 q0 q1 p0 p1 b2
    generalize w2.heap.size = g at HX3 HU3 HO3 hg2 z2
    go_loopw [4] (fun i wr => ∃ k : Nat, i = .int .i64 (k : Int) ∧ k ≤ n ∧ Below w.heap.size w wr ∧ ∃ A C, Hid (GBox wr g s (.slice A k C)) ∧ Hid (World.ownsRow wr (g + 1) 76 5 (.slice A k C) k (edgesV (plainQ (Q.take k)))) ∧ Hid (GBox wr w.heap.size s (.slice a n c))) (fun i _ => n - (intOf i).toNat)
    case atStart => exact ⟨0, rfl, Nat.zero_le _, b3, none, 0, unhide HU3, unhide HO3, unhide HX3⟩
    case round =>
      clear HU3 HO3 b3 HX3
      obtain ⟨k, rfl, hk, hb, A, C, HU, HO, HX⟩ := hrel
      have hgl := (unhide HU).lt
      by_cases hlt : k < n
      · have hkQ : k < Q.length := by have := unhide HL; omega
        obtain ⟨b, off, rfl, hbB, c0, c1, c2, c3, c4⟩ := unhide HC k hkQ
        rw [← hb.cell (p := ⟨b, off + k * 5, none⟩) (by simp; omega)] at c0
        rw [← hb.cell (p := ⟨b, off + k * 5 + 1, none⟩) (by simp; omega)] at c1
        rw [← hb.cell (p := ⟨b, off + k * 5 + 2, none⟩) (by simp; omega)] at c2
        rw [← hb.cell (p := ⟨b, off + k * 5 + 3, none⟩) (by simp; omega)] at c3
        rw [← hb.cell (p := ⟨b, off + k * 5 + 4, none⟩) (by simp; omega)] at c4
        have HS := hide (unhide HPN k hkQ)
        generalize Q[k] = q at c0 c1 c2 c3 c4 HS
        obtain ⟨y0, y1, y2, y3, y4⟩ := q
        simp only at c0 c1 c2 c3 c4 HS
        have hx2 : (k : Int) < (n : Int) := by omega
        have hx0 : (0 : Int) ≤ (k : Int) := by omega
        have hn5 : k + 1 ≤ 1048576 := by omega
        have HO' := hide (unhide HO)
        obtain ⟨q0, q1⟩ := (unhide HU).cells
        have hjm : k + 1 ≤ maxLen := by unfold maxLen; omega
        obtain ⟨p0, p1⟩ := (unhide HX).cells
        have hgl2 : ∀ g', (Value.slice A k C).ownBlock = some g' → g < g' := fun g' hg => by have := ((unhide HO).lt g' hg).1; omega
        have hzb := hb.size
        have OA : World.ownsRow (wr.alloc (Obj.cells #[Value.int .i64 y0, Value.int .i64 y1, Value.int .i64 1, Value.int .i64 0, Value.int .i64 0] 76)).drew (g + 1) 76 5 (.slice A k C) k (edgesV (plainQ (Q.take k))) := ((unhide HO').alloc _).drew
        have HNW : ∀ j u, [Value.int .i64 y0, Value.int .i64 y1, Value.int .i64 1, Value.int .i64 0, Value.int .i64 0][j]? = some u → (wr.alloc (Obj.cells #[Value.int .i64 y0, Value.int .i64 y1, Value.int .i64 1, Value.int .i64 0, Value.int .i64 0] 76)).drew.cell? ((⟨wr.heap.size, 0, none⟩ : Addr).add j) = some u := fun j u h => news_edge wr y0 y1 1 0 0 76 j u h
        have HSA : (wr.alloc (Obj.cells #[Value.int .i64 y0, Value.int .i64 y1, Value.int .i64 1, Value.int .i64 0, Value.int .i64 0] 76)).drew.heap.size = wr.heap.size + 1 := by show (wr.alloc _).heap.size = _; simp
        have HSB : g + 1 ≤ (wr.alloc (Obj.cells #[Value.int .i64 y0, Value.int .i64 y1, Value.int .i64 1, Value.int .i64 0, Value.int .i64 0] 76)).drew.heap.size := by omega
        have hk140 : (k + 1) * 40 ≤ 140737488355328 := by omega
        have hHSA := hide HSA
        have HUD : Hid (GBox (wr.alloc (Obj.cells #[Value.int .i64 y0, Value.int .i64 y1, Value.int .i64 1, Value.int .i64 0, Value.int .i64 0] 76)).drew g s (.slice A k C)) := (unhide HU).below (below_new wr (Obj.cells #[Value.int .i64 y0, Value.int .i64 y1, Value.int .i64 1, Value.int .i64 0, Value.int .i64 0] 76)).drew
        have HXD : Hid (GBox (wr.alloc (Obj.cells #[Value.int .i64 y0, Value.int .i64 y1, Value.int .i64 1, Value.int .i64 0, Value.int .i64 0] 76)).drew w.heap.size s (.slice (some ⟨b, off, none⟩) n c)) := (unhide HX).below (below_new wr (Obj.cells #[Value.int .i64 y0, Value.int .i64 y1, Value.int .i64 1, Value.int .i64 0, Value.int .i64 0] 76)).drew
        have HBD : Hid (Below w.heap.size w (wr.alloc (Obj.cells #[Value.int .i64 y0, Value.int .i64 y1, Value.int .i64 1, Value.int .i64 0, Value.int .i64 0] 76)).drew) := (hb.alloc hb.size _).drew
        have HFIN : Hid (∀ ga cap w14, World.ownsRow w14 (g + 1) 76 5 (.slice (some ⟨ga, 0, none⟩) (k + 1) cap) (k + 1) (edgesV (plainQ (Q.take k)) ++ [.int .i64 y0, .int .i64 y1, .int .i64 1, .int .i64 0, .int .i64 0]) → (wr.alloc (Obj.cells #[Value.int .i64 y0, Value.int .i64 y1, Value.int .i64 1, Value.int .i64 0, Value.int .i64 0] 76)).drew.grownBy w14 (Value.slice A k C).ownBlock →
            ∃ A' C', Hid (GBox (w14.setCell ⟨g, 1, none⟩ (.slice (some ⟨ga, 0, none⟩) (k + 1) cap)) g s (.slice A' (k + 1) C')) ∧ Hid (World.ownsRow (w14.setCell ⟨g, 1, none⟩ (.slice (some ⟨ga, 0, none⟩) (k + 1) cap)) (g + 1) 76 5 (.slice A' (k + 1) C') (k + 1) (edgesV (plainQ (Q.take (k + 1))))) ∧ Hid (GBox (w14.setCell ⟨g, 1, none⟩ (.slice (some ⟨ga, 0, none⟩) (k + 1) cap)) w.heap.size s (.slice (some ⟨b, off, none⟩) n c)) ∧ Below w.heap.size w (w14.setCell ⟨g, 1, none⟩ (.slice (some ⟨ga, 0, none⟩) (k + 1) cap))) := fun ga cap w14 hown14 hgrow14 => by
          have u10 := (unhide HUD).kept (Gr.Kept.of_grown hgrow14) (fun e => absurd (hgl2 _ e) (Nat.lt_irrefl _))
          have hsn : edgesV (plainQ (Q.take k)) ++ [.int .i64 y0, .int .i64 y1, .int .i64 1, .int .i64 0, .int .i64 0] = edgesV (plainQ (Q.take (k + 1))) := by rw [unhide HS]; exact (edgesV_snoc _ ⟨y0, y1, 1, 0, 0⟩).symm
          rw [hsn] at hown14
          have hk11 : Kept (fun i => i = g) w14 (w14.setCell ⟨g, 1, none⟩ (.slice (some ⟨ga, 0, none⟩) (k + 1) cap)) := Gr.Kept.set (S := fun i => i = g) _ _ _ _ rfl
          have bA := unhide HBD
          have b10 : Below w.heap.size w w14 := bA.grown hgrow14 bA.size (fun k hk => by have := hgl2 _ hk; omega)
          have HX14 := (unhide HXD).kept (Gr.Kept.of_grown hgrow14) (fun e => by have := hgl2 _ e; omega)
          exact ⟨some ⟨ga, 0, none⟩, cap, u10.one (.slice (some ⟨ga, 0, none⟩) (k + 1) cap), hk11.own hown14 (fun g' hg e => by have := (hown14.lt g' hg).1; omega), HX14.kept hk11 (show ¬ w.heap.size = g by omega), b10.trans (hk11.below b10.size (fun i hi => by omega))⟩
        clear HSA hb HO HU HX HO' HXD HBD HS
        go_wp2_with fail
        go_region_law
          (first
            | (refine step_append_lies _ (by rfl) _ _ _ (by rfl) (g + 1) 76 i1 _ 5 40 Try.underlying28 hi1 hz0 hz1 hz2 rfl (by omega) (.slice A k C) k (edgesV (plainQ (Q.take k))) (by rfl) OA ⟨wr.heap.size, 0, none⟩ 1 1 [.int .i64 y0, .int .i64 y1, .int .i64 1, .int .i64 0, .int .i64 0] (by rfl) (by rfl) HNW (edge_one _ _ _ _ _) (by omega) hjm hk140 HSB (wr.heap.size + 1) (unhide hHSA) ?_; intro ga cap w14 hown14 hgrow14 hat14 hlt14; have HU14 := hide ((unhide HUD).kept (Gr.Kept.of_grown hgrow14) (fun e => absurd (hgl2 _ e) (Nat.lt_irrefl _))); have t0 := (unhide HU14).cells.2; have tf := (unhide HU14).froz 1))
        all_goals
          have HF := hide (unhide HFIN ga cap w14 hown14 hgrow14)
          clear hown14 hgrow14 hat14 hlt14 HU14 t0 tf q0 q1 p0 p1 hgl2 HFIN OA HNW HSB hHSA HUD c0 c1 c2 c3 c4
          go_wp2
          go_roundw
          case rel =>
            obtain ⟨A', C', HU', HO2, HX', hb'⟩ := unhide HF
            exact ⟨k + 1, by go_num, by omega, hb', A', C', HU', HO2, HX'⟩
          case measure => simp [intOf]; omega
      · obtain rfl : k = n := by omega
        obtain ⟨q0, q1⟩ := (unhide HU).cells
        obtain ⟨p0, p1⟩ := (unhide HX).cells
        have HG : Hid (GrAt wr (.agg #[.int .i64 s, .slice A k C]) wr.heap.size s (plainQ Q)) := by
          have ho := unhide HO
          rw [unhide HPE] at ho
          obtain ⟨a', c', e2, hE⟩ := edgesAt.of_own ho
          simp at e2
          obtain ⟨rfl, rfl⟩ := e2
          exact ⟨_, _, _, rfl, hE⟩
        have BSW : Hid (Calls Try.prog 56 #[.agg #[.int .i64 s, .slice A k C], .int .i64 0, .slice (some ⟨wr.heap.size, 0, none⟩) 0 0] (wr.alloc (Obj.cells #[] 3)) _) := unhide BS2 _ _ _ _ (((unhide HG).below (below_new wr (Obj.cells #[] 3)) (Nat.le_refl _)).mono (by simp))
        have bq : Below w.heap.size w (wr.alloc (Obj.cells #[] 3)) := hb.alloc hb.size _
        clear HU HO BS2 HG HX
        go_wp2_with fail
        refine (unhide BSW).mono ?_
        rintro e w8 ⟨rfl, hb8⟩
        unfold SumsI.v
        have b8 := bq.trans (hb8.mono bq.size)
        have HB9 := hide (fun o => b8.alloc b8.size o)
        clear hb8
        go_wp2_with fail
        go_ret
        exact ⟨rfl, unhide HB9 _⟩

end Lk
end Go.Proofs.Ytejfknkcakeakaa
