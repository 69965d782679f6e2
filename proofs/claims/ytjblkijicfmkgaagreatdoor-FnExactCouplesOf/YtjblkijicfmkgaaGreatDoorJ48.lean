/-
  Texts of this claim, one behind the other: Lg2.
-/
import Derived.Test.YtjblkijicfmkgaaGreatDoorJ13
import Derived.Test.YtjblkijicfmkgaaGreatDoorJ16
import Derived.Test.YtjblkijicfmkgaaGreatDoorJ45
import Derived.Deep.AppendLies
import Derived.Deep.RegionHeldLaw

/-
  The ledger, the program's: the couples of a round, as ids.
-/
namespace Go.Proofs.YtjblkijicfmkgaaGreatDoor
namespace Rg
open Go.RowKit
open Gr (Blk Kept)

theorem couple_one (x y : Int) : ∀ u ∈ [Value.int .i64 x, Value.int .i64 y], u.oneCell' = true := by
  intro u hu
  simp only [List.mem_cons, List.mem_nil_iff, or_false] at hu
  rcases hu with rfl | rfl <;> rfl

set_option maxRecDepth 100000 in
set_option maxHeartbeats 4000000 in
theorem couples_any (B : Nat) (pv tv : Value) (K : List Int) (L : List ByteArray) (hs : (joinB L).size ≤ 1048576) (hL : L.length ≤ 1048576) (h9 : (cV L).M.length ≤ 9) (hM : ∀ c ∈ (cV L).M, 0 ≤ c.A ∧ c.A < (K.length : Int) ∧ 0 ≤ c.B ∧ c.B < (K.length : Int)) (w : World) (hp : Gr.InOwn w B pv K) (ht : w.ownsRow B 9 1 tv L.length (Gr.textsV L)) :
    Calls Tryz.prog 45 #[.agg #[pv, tv]] w fun e w' => (∃ d, e = .returned d ∧ Gr.CoOwn w' w.heap.size d (coupK K (cV L).M)) ∧ Below w.heap.size w w' := by
  obtain ⟨i1, hi1, hz0, hz1, hz2⟩ := info_parts Gr.infoCouple
  obtain ⟨pa, pc, rfl, hK⟩ := hp.at
  obtain ⟨ta, tc, rfl⟩ := row_shape0 ht
  have CE := hide (fun w1 (hb : Below w.heap.size w w1) => cert_any B (.slice pa K.length pc) (.slice ta L.length tc) L hs hL w1 ⟨_, _, _, rfl⟩ (Gr.own_below ht hb))
  have HKT : Hid (∀ (i : Int), 0 ≤ i → i < (K.length : Int) → ∃ (k : Nat) (b off : Nat), i = (k : Int) ∧ k < K.length ∧ pa = some ⟨b, off, none⟩ ∧ b < w.heap.size ∧ w.cell? ⟨b, off + k, none⟩ = some (.int .i64 (kid K i))) := fun i h0 h1 => by
    obtain ⟨k, hk, rfl, e⟩ := kid_at h0 h1
    obtain ⟨b, off, e1, e2, e3⟩ := hK.2 k hk
    exact ⟨k, b, off, rfl, hk, e1, e2, by rw [e]; exact e3⟩
  have HMM := hide hM
  have HSN := hide (fun j h => coupK_snoc K (cV L).M j h)
  have HCL := hide (fun M => coupK_length K M)
  generalize cOk L = ok at CE
  generalize cV L = C at CE h9 HMM HSN ⊢
  have HE : Hid (coupK K (C.M.take C.M.length) = coupK K C.M) := by show _ = _; rw [List.take_length]
  obtain ⟨V1, hV1⟩ : ∃ W, W = w.alloc (Obj.cells #[.slice pa K.length pc, .slice ta L.length tc] 98) := ⟨_, rfl⟩
  have b1 : Below w.heap.size w V1 := by rw [hV1]; exact Gr.below_new _ _
  have H1 : Hid (Blk V1 w.heap.size #[.slice pa K.length pc, .slice ta L.length tc] 98) := by show Blk _ _ _ _; rw [hV1]; exact Gr.Blk.new0
  clear hM hp ht hK
  go_enter Tryz.func45, Tryz.ntmps45
  have p1 : V1.cell? ⟨w.heap.size, 0, none⟩ = some (.slice pa K.length pc) := (unhide H1).cell 0 _ rfl
  have p2 : V1.cell? ⟨w.heap.size, 1, none⟩ = some (.slice ta L.length tc) := (unhide H1).cell 1 _ rfl
  rw [hV1] at p1 p2
  go_wp2_with fail
  rw [← hV1]
  clear hV1 p1 p2
  refine (unhide CE V1 b1).mono ?_
  rintro e w2 ⟨⟨d, rfl, hd⟩, hb2⟩
  have hd2 := hd
  obtain ⟨a1, k1, a2, k2, a3, k3, a4, k4, rfl⟩ := crown_shape hd
  obtain ⟨v1, v2, v3, v4, e2, _, hm, _⟩ := hd2
  simp only [Value.agg.injEq, Array.mk.injEq, List.cons.injEq, true_and, and_true] at e2
  obtain ⟨rfl, rfl, rfl, rfl⟩ := e2
  obtain ⟨a', c', e3, hcc⟩ := Gr.couplesAt.of_own hm
  simp only [Value.slice.injEq, true_and] at e3
  obtain ⟨rfl, rfl⟩ := e3
  have b2 := b1.trans (hb2.mono b1.size)
  obtain ⟨W3, hW3⟩ : ∃ W, W = w2.alloc (Obj.cells #[Value.int .i64 C.s, Value.slice a1 C.Q.length k1, Value.slice a2 C.M.length k2, Value.slice a3 C.Y.length k3, Value.slice a4 C.G.length k4] 59) := ⟨_, rfl⟩
  have n3 : Below w2.heap.size w2 W3 := by rw [hW3]; exact Gr.below_new _ _
  have b3 := b2.trans (n3.mono b2.size)
  have H3 := hide (((unhide H1).below hb2).below n3)
  have x3 : Blk W3 w2.heap.size #[Value.int .i64 C.s, Value.slice a1 C.Q.length k1, Value.slice a2 C.M.length k2, Value.slice a3 C.Y.length k3, Value.slice a4 C.G.length k4] 59 := by rw [hW3]; exact Gr.Blk.new0
  have HCC := hide ((hcc.below n3 (Nat.le_refl _)).mono n3.size)
  have x31 : W3.cell? ⟨w2.heap.size, 2, none⟩ = some (Value.slice a2 C.M.length k2) := x3.cell 2 _ rfl
  have hHl := (unhide H3).lt
  clear hm hd hb2 hcc n3 x3 b2 H1 b1 CE
  rw [hW3] at x31
  go_wp2_with fail
  rw [← hW3]
  clear hW3 x31
  have HB3 := hide b3
  clear b3
  have HO0 : Hid (W3.ownsRow W3.heap.size 93 2 (.slice none 0 0) (coupK K (C.M.take 0)).length (Gr.couplesV (coupK K (C.M.take 0)))) := ⟨rfl, .inl ⟨rfl, rfl⟩⟩
  go_loopw [5, 16] (fun v iv wr => ∃ j : Nat, iv = .int .i64 (j : Int) ∧ j ≤ C.M.length ∧ Hid (wr.ownsRow W3.heap.size 93 2 v (coupK K (C.M.take j)).length (Gr.couplesV (coupK K (C.M.take j)))) ∧ Below W3.heap.size W3 wr) (fun _ iv _ => C.M.length - (intOf iv).toNat)
  case atStart => exact ⟨0, rfl, Nat.zero_le _, unhide HO0, Below.refl _ _⟩
  case round =>
    obtain ⟨j, rfl, hj, HO, hb⟩ := hrel
    clear HO0
    by_cases hlt : j < C.M.length
    · obtain ⟨b, off, rfl, hbB, c0, c1⟩ := (unhide HCC).2 j hlt
      rw [← hb.cell (p := ⟨b, off + j * 2, none⟩) (by simp; omega)] at c0
      rw [← hb.cell (p := ⟨b, off + j * 2 + 1, none⟩) (by simp; omega)] at c1
      obtain ⟨m0, m1, m2, m3⟩ := unhide HMM _ (List.getElem_mem hlt)
      obtain ⟨kA, bA, oA, eA, lA, pA, qA, dA⟩ := unhide HKT _ m0 m1
      obtain ⟨kB, bB, oB, eB, lB, pB, qB, dB⟩ := unhide HKT _ m2 m3
      subst pA
      simp only [Option.some.injEq, Addr.mk.injEq, and_true] at pB
      obtain ⟨rfl, rfl⟩ := pB
      have HS := hide (unhide HSN j hlt)
      have hlen : (coupK K (C.M.take j)).length = j := by rw [unhide HCL, List.length_take]; omega
      have ho := unhide HO
      rw [hlen] at ho
      obtain ⟨ua, uc, rfl⟩ := row_shape0 ho
      have bw := (unhide HB3).trans (hb.mono (unhide HB3).size)
      rw [← bw.cell (p := ⟨bA, oA + kA, none⟩) (by simp; omega)] at dA
      rw [← bw.cell (p := ⟨bA, oA + kB, none⟩) (by simp; omega)] at dB
      rw [eA] at c0
      rw [eB] at c1
      have hH := (unhide H3).below hb
      have h0 : wr.cell? ⟨w.heap.size, 0, none⟩ = some (.slice (some ⟨bA, oA, none⟩) K.length pc) := hH.cell 0 _ rfl
      generalize kid K C.M[j].A = x at dA HS
      generalize kid K C.M[j].B = y at dB HS
      have hx0 : (0 : Int) ≤ (j : Int) := by omega
      have hx1 : (j : Int) < (C.M.length : Int) := by omega
      have hzw := hb.size
      have hbw := bw.size
      have y0 : (0 : Int) ≤ (kA : Int) := by omega
      have y1 : (kA : Int) < (K.length : Int) := by omega
      have y2 : (0 : Int) ≤ (kB : Int) := by omega
      have y3 : (kB : Int) < (K.length : Int) := by omega
      obtain ⟨V9, hV9⟩ : ∃ W, W = wr.alloc (Obj.cells #[Value.int .i64 (kA : Int), Value.int .i64 (kB : Int)] 93) := ⟨_, rfl⟩
      have n9 : Below wr.heap.size wr V9 := by rw [hV9]; exact Gr.below_new _ _
      have z9 : V9.heap.size = wr.heap.size + 1 := by rw [hV9]; simp
      have x9 : Blk V9 wr.heap.size #[Value.int .i64 (kA : Int), Value.int .i64 (kB : Int)] 93 := by rw [hV9]; exact Gr.Blk.new0
      have q0 : V9.cell? ⟨w.heap.size, 0, none⟩ = some (.slice (some ⟨bA, oA, none⟩) K.length pc) := (n9.cell (p := ⟨w.heap.size, 0, none⟩) (by simp; omega)).trans h0
      have q1 : V9.cell? ⟨bA, oA + kA, none⟩ = some (.int .i64 x) := (n9.cell (p := ⟨bA, oA + kA, none⟩) (by simp; omega)).trans dA
      have q2 : V9.cell? ⟨bA, oA + kB, none⟩ = some (.int .i64 y) := (n9.cell (p := ⟨bA, oA + kB, none⟩) (by simp; omega)).trans dB
      have q3 : V9.cell? ⟨wr.heap.size, 0, none⟩ = some (.int .i64 (kA : Int)) := x9.cell 0 _ rfl
      have q4 : V9.cell? ⟨wr.heap.size, 1, none⟩ = some (.int .i64 (kB : Int)) := x9.cell 1 _ rfl
      have OA := Gr.own_below ho n9
      have hlow : ∀ g, (Value.slice ua j uc).ownBlock = some g → W3.heap.size ≤ g ∧ g < wr.heap.size := ho.lt
      have b9 := hb.trans (n9.mono hb.size)
      clear n9 x9 hH dA dB h0 ho HO hbB
      rw [hV9] at q0 q1 q2 q3 q4
      go_wp2_with fail
      rw [← hV9] at q0 q1 q2 q3 q4 ⊢
      clear hV9 c0 c1
      generalize wr.heap.size = g9 at *
      have OA2 : Hid ((V9.alloc (Obj.cells #[Value.int .i64 x, Value.int .i64 y] 93)).drew.ownsRow W3.heap.size 93 2 (.slice ua j uc) j (Gr.couplesV (coupK K (C.M.take j)))) := (OA.alloc _).drew
      have HNW : Hid (∀ j' u, [Value.int .i64 x, Value.int .i64 y][j']? = some u → (V9.alloc (Obj.cells #[Value.int .i64 x, Value.int .i64 y] 93)).drew.cell? ((⟨g9 + 1, 0, none⟩ : Addr).add j') = some u) := fun j' u hu => by
        rw [← z9]
        exact World.news_of_block (w := (V9.alloc (Obj.cells #[Value.int .i64 x, Value.int .i64 y] 93))) (cs := #[Value.int .i64 x, Value.int .i64 y]) (t := 93) (fr := (0, 0)) (heap_alloc_new V9 _) j' u (by simpa using hu)
      have hjm : j + 1 ≤ maxLen := by unfold maxLen; omega
      have hj16 : (j + 1) * 16 ≤ 140737488355328 := by omega
      have hbs : W3.heap.size ≤ (V9.alloc (Obj.cells #[Value.int .i64 x, Value.int .i64 y] 93)).drew.heap.size := by show _ ≤ (V9.alloc _).heap.size; simp; omega
      have hhs : (V9.alloc (Obj.cells #[Value.int .i64 x, Value.int .i64 y] 93)).drew.heap.size = g9 + 1 + 1 := by show (V9.alloc _).heap.size = _; simp; omega
      go_region_held_law (fun u => u.cell? ⟨w.heap.size, 0, none⟩ = some (.slice (some ⟨bA, oA, none⟩) K.length pc) ∧ u.cell? ⟨bA, oA + kA, none⟩ = some (.int .i64 x) ∧ u.cell? ⟨bA, oA + kB, none⟩ = some (.int .i64 y) ∧ u.cell? ⟨g9, 0, none⟩ = some (.int .i64 (kA : Int)) ∧ u.cell? ⟨g9, 1, none⟩ = some (.int .i64 (kB : Int)))
        (first | with_reducible exact ⟨j0, j1, j2, j3, j4⟩ | go_keep)
        (first
          | (refine step_append_lies _ (by rfl) _ _ _ (by rfl) W3.heap.size 93 i1 _ 2 16 Tryz.underlying38 hi1 hz0 hz1 hz2 rfl (by omega) (.slice ua j uc) j (Gr.couplesV (coupK K (C.M.take j))) (by rfl) (unhide OA2) ⟨g9 + 1, 0, none⟩ 1 1 [.int .i64 x, .int .i64 y] (by rfl) (by rfl) (unhide HNW) (couple_one _ _) (by omega) hjm hj16 hbs (g9 + 1 + 1) hhs ?_; intro g cap w4 hown4 hgrow4 hat4 hlt4; have j0 : w4.cell? ⟨w.heap.size, 0, none⟩ = some (.slice (some ⟨bA, oA, none⟩) K.length pc) := (hgrow4.cell_far ⟨w.heap.size, 0, none⟩ (by rw [hhs]; simp; omega) (fun e => by have := hlow _ e.symm; simp at this; omega)).trans ((Gr.below_new V9 _).drew.cell (p := ⟨w.heap.size, 0, none⟩) (by simp; omega) |>.trans q0); have j1 : w4.cell? ⟨bA, oA + kA, none⟩ = some (.int .i64 x) := (hgrow4.cell_far ⟨bA, oA + kA, none⟩ (by rw [hhs]; simp; omega) (fun e => by have := hlow _ e.symm; simp at this; omega)).trans ((Gr.below_new V9 _).drew.cell (p := ⟨bA, oA + kA, none⟩) (by simp; omega) |>.trans q1); have j2 : w4.cell? ⟨bA, oA + kB, none⟩ = some (.int .i64 y) := (hgrow4.cell_far ⟨bA, oA + kB, none⟩ (by rw [hhs]; simp; omega) (fun e => by have := hlow _ e.symm; simp at this; omega)).trans ((Gr.below_new V9 _).drew.cell (p := ⟨bA, oA + kB, none⟩) (by simp; omega) |>.trans q2); have j3 : w4.cell? ⟨g9, 0, none⟩ = some (.int .i64 (kA : Int)) := (hgrow4.cell_far ⟨g9, 0, none⟩ (by rw [hhs]; simp; omega) (fun e => by have := hlow _ e.symm; simp at this)).trans ((Gr.below_new V9 _).drew.cell (p := ⟨g9, 0, none⟩) (by simp; omega) |>.trans q3); have j4 : w4.cell? ⟨g9, 1, none⟩ = some (.int .i64 (kB : Int)) := (hgrow4.cell_far ⟨g9, 1, none⟩ (by rw [hhs]; simp; omega) (fun e => by have := hlow _ e.symm; simp at this)).trans ((Gr.below_new V9 _).drew.cell (p := ⟨g9, 1, none⟩) (by simp; omega) |>.trans q4)))
      all_goals
        have hb4 : Below W3.heap.size W3 w4 := (((b9.alloc b9.size _).drew).grown hgrow4 (by rw [hhs]; omega) (fun k hk => by have := hlow k hk; omega))
        have HO4 : Hid (w4.ownsRow W3.heap.size 93 2 (.slice (some ⟨g, 0, none⟩) (j + 1) cap) (coupK K (C.M.take (j + 1))).length (Gr.couplesV (coupK K (C.M.take (j + 1))))) := by
          show World.ownsRow _ _ _ _ _ _ _
          rw [unhide HS, List.length_append, hlen, Gr.couplesV_snoc]
          exact hown4
        clear hown4 hgrow4 hat4 hlt4 j0 j1 j2 j3 j4 q0 q1 q2 q3 q4 OA OA2 HNW HS hlow
        go_wp2_with fail
        exact ⟨⟨j + 1, by go_num, by omega, unhide HO4, hb4⟩, by simp [intOf]; omega⟩
    · obtain rfl : j = C.M.length := by omega
      have ho := unhide HO
      rw [unhide HE] at ho
      have HD : Hid (Gr.CoOwn wr w.heap.size u5 (coupK K C.M)) := Gr.own_lower (unhide HB3).size ho
      have HBW := hide ((unhide HB3).trans (hb.mono (unhide HB3).size))
      clear HO ho
      go_wp2
      go_ret
      exact ⟨⟨_, rfl, unhide HD⟩, unhide HBW⟩

end Rg
end Go.Proofs.YtjblkijicfmkgaaGreatDoor
