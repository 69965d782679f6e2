/-
 GrSumsOf, GrSumsOf2, GrWorth.
-/
import Derived.Test.YtkjclkelnheheaaJ10
import Derived.Test.YtkjclkelnheheaaJ12
import Derived.Deep.RegionHeld3
import Derived.Deep.DeepCutAuto
import Derived.Deep.DeepFit
import Derived.Test.YtkjclkelnheheaaJ2
namespace Go.Proofs.Ytkjclkelnheheaa
namespace Gr
open Go.RowKit
def SBox (w : World) (g : Nat) (s : SumsI) : Prop := w.heap[g]? = some (.cells #[.int .i64 s.W1, .int .i64 s.W2, .int .i64 s.W3] 36 (0, 0))
theorem SBox.lt {w : World} {g : Nat} {s : SumsI} (h : SBox w g s) : g < w.heap.size := by
  rcases Nat.lt_or_ge g w.heap.size with h1 | h1
  · exact h1
  · unfold SBox at h; rw [Array.getElem?_eq_none h1] at h; cases h
theorem SBox.below {w w' : World} {g : Nat} {s : SumsI} (h : SBox w g s) (hb : Below w.heap.size w w') : SBox w' g s := by
  unfold SBox; rw [hb.block g h.lt]; exact h
theorem SBox.at {w w' : World} {g C : Nat} {s : SumsI} (h : SBox w g s) (hb : Below C w w') (hC : g < C) : SBox w' g s := by
  unfold SBox; rw [hb.block g hC]; exact h
theorem SBox.kept {S : Nat → Prop} {w w' : World} {g : Nat} {s : SumsI} (h : SBox w g s) (hk : Kept S w w') (hS : ¬ S g) : SBox w' g s := by
  unfold SBox; rw [hk.2.2.2.2 g h.lt hS]; exact h
theorem SBox.new (w : World) (s : SumsI) : SBox (w.alloc (Obj.cells #[.int .i64 s.W1, .int .i64 s.W2, .int .i64 s.W3] 36)) w.heap.size s := heap_alloc_new w _
theorem SBox.cells {w : World} {g : Nat} {s : SumsI} (h : SBox w g s) : w.cell? ⟨g, 0, none⟩ = some (.int .i64 s.W1) ∧ w.cell? ⟨g, 1, none⟩ = some (.int .i64 s.W2) ∧ w.cell? ⟨g, 2, none⟩ = some (.int .i64 s.W3) := by
  unfold SBox at h
  refine ⟨?_, ?_, ?_⟩
  · rw [cell_of_row w g 0 _ _ (0, 0) h]; rfl
  · rw [cell_of_row w g 1 _ _ (0, 0) h]; rfl
  · rw [cell_of_row w g 2 _ _ (0, 0) h]; rfl
theorem SBox.froz {w : World} {g : Nat} {s : SumsI} (h : SBox w g s) (j : Nat) : w.frozen? ⟨g, j, none⟩ = false := by
  unfold World.frozen?
  simp only []
  unfold SBox at h
  rw [h]
  simp
theorem specMatch_gen (B : Nat) (v : Value) (s : Int) (Q : List EdgeI) (u : Value) (M : List CoupleI) (h1 : Q.length ≤ 1048576) (h2 : M.length ≤ 1048576) (w : World) (hB : B ≤ w.heap.size) (hv : GrAt w v B s Q) (hu : CoAt w u B M) :
    Calls Try.prog 15 #[v, u] w fun e w' => e = .returned (.bool (matchOk s Q M)) ∧ Below w.heap.size w w' := by
  obtain ⟨a, c, rfl, hM⟩ := hu
  exact specMatch_any v B s Q a M.length c M h1 h2 w hB hv hM
set_option maxRecDepth 100000 in
set_option maxHeartbeats 2000000 in
theorem worthM_any (B : Nat) (v : Value) (s : Int) (Q : List EdgeI) (u : Value) (M : List CoupleI) (hok : matchOk s Q M = true) (h1 : Q.length ≤ 1048576) (w : World) (hB : B ≤ w.heap.size) (hv : GrAt w v B s Q) (hu : CoAt w u B M) :
    Calls Try.prog 16 #[v, u] w fun e w' => e = .returned (.int .i64 (wsum (sums Q M))) ∧ Below w.heap.size w w' := by
  have AT := hide (fun x y w1 (hb : Below w.heap.size w w1) => specEdgeAt_any v B s x y Q h1 w1 (by have := hb.size; omega) (hv.below hb hB))
  obtain ⟨a0, n0, c0, rfl, hE⟩ := hv
  obtain ⟨hL0, hc0⟩ := hE
  obtain ⟨a, c, rfl, hM⟩ := hu
  obtain ⟨_, hc⟩ := hM
  obtain ⟨hg, h9, hm⟩ := match_sound hok
  have HED : Hid (∀ k (h : k < M.length), ∃ i, ∃ h' : i < Q.length, edgeAtV s M[k].A M[k].B Q = (i : Int) ∧ edgeN Q (atFrom M[k].A M[k].B 0 Q) = Q[i] ∧ edgeOk s Q[i] = true) := fun k h => by
    obtain ⟨i, hi, e1, e2, _⟩ := edgeN_at (mFrom_at Q M none [] hm _ (List.getElem_mem h))
    exact ⟨i, hi, by unfold edgeAtV; rw [if_pos hg]; exact e1, e2, (graph_sound hg).2.2.1 _ (List.getElem_mem hi)⟩
  have HST := hide (fun s k h => sumsFrom_step Q M s k h)
  have HEND : Hid (∀ s, sumsFrom Q s (M.drop M.length) = s) := fun s => by rw [List.drop_length]; rfl
  have H0 : Hid (sums Q M = sumsFrom Q ⟨0, 0, 0⟩ (M.drop 0)) := rfl
  generalize sums Q M = T at H0 ⊢
  have HC0 := hide hc0
  have HL0 := hide hL0
  have HC := hide hc
  obtain ⟨n, hn⟩ : ∃ n, M.length = n := ⟨_, rfl⟩
  rw [hn] at HEND h9
  rw [hn]
  have HN := hide hn
  have HN0 : Hid (n0 ≤ 1048576) := by show _ ≤ _; omega
  clear hc0 hL0 hc hok hm hg h1 hn
  go_enter Try.func16, Try.ntmps16
  go_wp2_with fail
  obtain ⟨V1, hV1⟩ : ∃ W, W = w.alloc (Obj.cells #[Value.int .i64 s, Value.slice a0 n0 c0] 26) := ⟨_, rfl⟩
  rw [← hV1]
  have b1 : Below w.heap.size w V1 := by rw [hV1]; exact below_new _ _
  have x1 : GBox V1 w.heap.size s (.slice a0 n0 c0) := by rw [hV1]; exact GBox.new _ _ _
  have hx1l := x1.lt
  have HX1 := hide x1
  clear hV1 x1
  go_loopw [5, 6] (fun nn i wr => ∃ (j : Nat) (t : SumsI) (N : Int), i = .int .i64 (j : Int) ∧ nn = .int .i64 N ∧ Hid (N = wsum t) ∧ j ≤ n ∧ Hid (T = sumsFrom Q t (M.drop j)) ∧ Hid (SB t (j : Int)) ∧ Below V1.heap.size V1 wr) (fun _ i _ => n - (intOf i).toNat)
  case atStart => exact ⟨0, ⟨0, 0, 0⟩, 0, rfl, rfl, rfl, Nat.zero_le _, unhide H0, SB.zero _ (by omega), Below.refl _ _⟩
  case round =>
    obtain ⟨j, t, N, rfl, rfl, HNE, hj, HR, HSB, hb⟩ := hrel
    have b4 : Below w.heap.size w wr := b1.trans (hb.mono b1.size)
    by_cases hlt : j < n
    · have hjL : j < M.length := by have := unhide HN; omega
      obtain ⟨b, off, rfl, hbB, c0', c1'⟩ := unhide HC j hjL
      rw [← b4.cell (p := ⟨b, off + j * 2, none⟩) (by simp; omega)] at c0'
      rw [← b4.cell (p := ⟨b, off + j * 2 + 1, none⟩) (by simp; omega)] at c1'
      obtain ⟨i, hiQ, e1, e2, heok⟩ := unhide HED j hjL
      obtain ⟨b', off', rfl, hbB', d0, d1, d2, d3, d4⟩ := unhide HC0 i hiQ
      have hr := (unhide HR).trans (unhide HST t j hjL)
      have AT1 := hide (unhide AT M[j].A M[j].B)
      have hsn := (unhide HSB).add heok
      have hws := wsum_add (unhide HSB) (by omega) heok
      rw [e1] at AT1
      rw [e2] at hr
      generalize M[j] = mm at c0' c1' AT1
      have SC := hide (fun w => specScalar_any Q[i] w)
      generalize Q[i] = q at d0 d1 d2 d3 d4 hr hsn SC hws
      rw [← unhide HNE] at hws
      obtain ⟨hws0, hws1, hws2, hws3, hws4⟩ := hws
      generalize scal q = sc at SC hws0 hws1 hws2
      obtain ⟨m0, m1⟩ := mm
      have hqv : q.v = .agg #[.int .i64 q.A, .int .i64 q.B, .int .i64 q.W1, .int .i64 q.W2, .int .i64 q.W3] := rfl
      rw [hqv] at SC
      simp only at c0' c1' AT1
      have HSN := hide hsn
      have HRN := hide hr
      have hx0 : (0 : Int) ≤ (j : Int) := by omega
      have hx1 : (j : Int) < (n : Int) := by omega
      have hi0 : (0 : Int) ≤ (i : Int) := by omega
      have hi1 : (i : Int) < (n0 : Int) := by have := unhide HL0; omega
      obtain ⟨p0, p1⟩ := ((unhide HX1).below hb).cells
      have hgl : w.heap.size < wr.heap.size := by have := hb.size; omega
      have hbl : b < wr.heap.size := by have := b4.size; omega
      have G (d : Grown wr.heap.size wr) : Below w.heap.size w d.w := b4.trans (d.below.mono b4.size)
      have k0 : ∀ d : Grown wr.heap.size wr, d.w.cell? ⟨w.heap.size, 0, none⟩ = some (.int .i64 s) := fun d => d.cell hgl p0
      have k1 : ∀ d : Grown wr.heap.size wr, d.w.cell? ⟨w.heap.size, 1, none⟩ = some (.slice (some ⟨b', off', none⟩) n0 c0) := fun d => d.cell hgl p1
      have k2 : ∀ d : Grown wr.heap.size wr, d.w.cell? ⟨b, off + j * 2, none⟩ = some (.int .i64 m0) := fun d => d.cell hbl c0'
      have k3 : ∀ d : Grown wr.heap.size wr, d.w.cell? ⟨b, off + j * 2 + 1, none⟩ = some (.int .i64 m1) := fun d => d.cell hbl c1'
      have HG := hide G
      have HB := hide hb
      clear hr HR hsn p0 p1 c0' c1' G hb hqv HNE
      go_upto_region 5 with fail
      refine wp_region_grown wr.heap.size (by kernel_rfl) (by kernel_rfl) ?_
      repeat (go_big_quiet_step (first | (go_at_call 45; exact Calls.grown (Nat.le_refl _) (unhide AT1 _ (unhide HG _)))))
      refine wpQuiet_nil ?_
      rintro w5 ⟨d5, rfl⟩
      have hb5 := (unhide HB).trans (d5.below.mono (unhide HB).size)
      have b5 := unhide HG d5
      obtain ⟨p0, p1⟩ := ((unhide HX1).below hb5).cells
      rw [← b5.cell (p := ⟨b', off' + i * 5, none⟩) (by simp; omega)] at d0
      rw [← b5.cell (p := ⟨b', off' + i * 5 + 1, none⟩) (by simp; omega)] at d1
      rw [← b5.cell (p := ⟨b', off' + i * 5 + 2, none⟩) (by simp; omega)] at d2
      rw [← b5.cell (p := ⟨b', off' + i * 5 + 3, none⟩) (by simp; omega)] at d3
      rw [← b5.cell (p := ⟨b', off' + i * 5 + 4, none⟩) (by simp; omega)] at d4
      clear k0 k1 k2 k3
      go_wp2_with fail
      go_fit (unhide SC _)
      rintro e w6 ⟨rfl, hb6⟩
      have HB6 := hide (hb5.trans (hb6.mono hb5.size))
      clear hb6 hb5 d0 d1 d2 d3 d4 p0 p1
      have hwr : IntKind.i64.wrap (N + sc) = N + sc := wrap_in _ (by omega)
      go_wp2
      go_roundw
      case rel => exact ⟨j + 1, addS t q, N + sc, by go_num, by go_num, (by show _ = _; rw [hws0]), by omega, unhide HRN, (by show SB _ _; rw [Int.natCast_add]; exact unhide HSN), unhide HB6⟩
      case measure => simp [intOf]; omega
    · obtain hjn : j = n := by omega
      have hr := unhide HR
      rw [hjn, unhide HEND] at hr
      subst hr
      have hne := unhide HNE
      subst hne
      clear HR HNE
      go_wp2
      go_ret
      exact ⟨rfl, b4⟩
end Gr
end Go.Proofs.Ytkjclkelnheheaa
