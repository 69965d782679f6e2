/-
 GrSumsOf, GrSumsOf2.
-/
import Derived.Test.YtjblkijicfmkgaaGreatDoorJ40
import Derived.Test.YtjblkijicfmkgaaGreatDoorJ13
import Derived.Deep.RegionHeld3
import Derived.Deep.DeepCutAuto
import Derived.Deep.DeepFit
namespace Go.Proofs.YtjblkijicfmkgaaGreatDoor
namespace Gr
open Go.RowKit
def SBox (w : World) (g : Nat) (s : SumsI) : Prop := w.heap[g]? = some (.cells #[.int .i64 s.W1, .int .i64 s.W2, .int .i64 s.W3] 25 (0, 0))
theorem SBox.lt {w : World} {g : Nat} {s : SumsI} (h : SBox w g s) : g < w.heap.size := by
  rcases Nat.lt_or_ge g w.heap.size with h1 | h1
  · exact h1
  · unfold SBox at h; rw [Array.getElem?_eq_none h1] at h; cases h
theorem SBox.below {w w' : World} {g : Nat} {s : SumsI} (h : SBox w g s) (hb : Below w.heap.size w w') : SBox w' g s := by
  unfold SBox; rw [hb.block g h.lt]; exact h
theorem SBox.at {w w' : World} {g C : Nat} {s : SumsI} (h : SBox w g s) (hb : Below C w w') (hC : g < C) : SBox w' g s := by
  unfold SBox; rw [hb.block g hC]; exact h
theorem SBox.kept {S : Nat → Prop} {w w' : World} {g : Nat} {s : SumsI} (h : SBox w g s) (hk : Kept S w w') (hS : ¬ S g) : SBox w' g s := by
  unfold SBox; rw [hk.2.2.2.2 g h.lt hS]; exact h
theorem SBox.new (w : World) (s : SumsI) : SBox (w.alloc (Obj.cells #[.int .i64 s.W1, .int .i64 s.W2, .int .i64 s.W3] 25)) w.heap.size s := heap_alloc_new w _
theorem SBox.cells {w : World} {g : Nat} {s : SumsI} (h : SBox w g s) : w.cell? ⟨g, 0, none⟩ = some (.int .i64 s.W1) ∧ w.cell? ⟨g, 1, none⟩ = some (.int .i64 s.W2) ∧ w.cell? ⟨g, 2, none⟩ = some (.int .i64 s.W3) := by
  unfold SBox at h
  refine ⟨?_, ?_, ?_⟩
  · rw [cell_of_row w g 0 _ _ (0, 0) h]; rfl
  · rw [cell_of_row w g 1 _ _ (0, 0) h]; rfl
  · rw [cell_of_row w g 2 _ _ (0, 0) h]; rfl
theorem SBox.froz {w : World} {g : Nat} {s : SumsI} (h : SBox w g s) (j : Nat) : w.frozen? ⟨g, j, none⟩ = false := by
  unfold World.frozen?
  simp only []
  unfold SBox at h
  rw [h]
  simp
theorem SBox.three {w : World} {g : Nat} {s : SumsI} (h : SBox w g s) (x y z : Int) : SBox (((w.setCell ⟨g, 0, none⟩ (.int .i64 x)).setCell ⟨g, 1, none⟩ (.int .i64 y)).setCell ⟨g, 2, none⟩ (.int .i64 z)) g ⟨x, y, z⟩ := by
  unfold SBox at *
  have h1 := heap_setCell_same w g 0 _ _ (.int .i64 x) h
  have h2 := heap_setCell_same _ g 1 _ _ (.int .i64 y) h1
  exact heap_setCell_same _ g 2 _ _ (.int .i64 z) h2
theorem kept3 (w : World) (g : Nat) (x y z : Value) : Kept (fun i => i = g) w (((w.setCell ⟨g, 0, none⟩ x).setCell ⟨g, 1, none⟩ y).setCell ⟨g, 2, none⟩ z) :=
  ((Kept.set (S := fun i => i = g) _ _ _ _ rfl).trans (Kept.set (S := fun i => i = g) _ _ _ _ rfl)).trans (Kept.set (S := fun i => i = g) _ _ _ _ rfl)
theorem results_sums1 {fn : Func} {p : Tmp} (h : fn.results = #[.cell p 25]) (tmps : Array Value) (w : World) (g : Nat) (s : SumsI) (hp : tmps.getD p undef = .pointer (some ⟨g, 0, none⟩)) (hg : SBox w g s) :
    (results fn tmps).run Tryz.prog w = .ok s.v w := by
  obtain ⟨c0, c1, c2⟩ := hg.cells
  have hp' : tmps[p]?.getD undef = .pointer (some ⟨g, 0, none⟩) := by simpa using hp
  simp [results, h, hp', go_sem, c0, c1, c2, SumsI.v]
theorem results_sums2 {fn : Func} {p u : Tmp} (h : fn.results = #[.cell p 25, .tmp u]) (tmps : Array Value) (w : World) (g : Nat) (s : SumsI) (hp : tmps.getD p undef = .pointer (some ⟨g, 0, none⟩)) (hg : SBox w g s) :
    (results fn tmps).run Tryz.prog w = .ok (.tuple #[s.v, tmps.getD u undef]) w := by
  obtain ⟨c0, c1, c2⟩ := hg.cells
  have hp' : tmps[p]?.getD undef = .pointer (some ⟨g, 0, none⟩) := by simpa using hp
  simp [results, h, hp', go_sem, c0, c1, c2, SumsI.v]
set_option maxRecDepth 100000 in
set_option maxHeartbeats 4000000 in
theorem specSums_any (v : Value) (B : Nat) (s : Int) (Q : List EdgeI) (a : Option Addr) (n c : Nat) (M : List CoupleI) (hok : matchOk s Q M = true) (h1 : Q.length ≤ 1048576) (w : World) (hB : B ≤ w.heap.size) (hv : GrAt w v B s Q) (hM : couplesAt w a n B M) :
    Calls Tryz.prog 31 #[v, .slice a n c] w fun e w' => e = .returned (sums Q M).v ∧ Below w.heap.size w w' := by
  have AT := hide (fun x y w1 (hb : Below w.heap.size w w1) => specAt_any v B s x y Q h1 w1 (by have := hb.size; omega) (hv.below hb hB))
  obtain ⟨a0, n0, c0, rfl, hE⟩ := hv
  obtain ⟨hL0, hc0⟩ := hE
  obtain ⟨hL, hc⟩ := hM
  obtain ⟨hg, h9, hm⟩ := match_sound hok
  have HED : Hid (∀ k (h : k < M.length), ∃ i, ∃ h' : i < Q.length, atFrom M[k].A M[k].B 0 Q = (i : Int) ∧ edgeN Q (atFrom M[k].A M[k].B 0 Q) = Q[i] ∧ edgeOk s Q[i] = true) := fun k h => by
    obtain ⟨i, hi, e1, e2, _⟩ := edgeN_at (mFrom_at Q M none [] hm _ (List.getElem_mem h))
    exact ⟨i, hi, e1, e2, (graph_sound hg).2.2.1 _ (List.getElem_mem hi)⟩
  have HST := hide (fun s k h => sumsFrom_step Q M s k h)
  have HEND : Hid (∀ s, sumsFrom Q s (M.drop n) = s) := fun s => by rw [← hL, List.drop_length]; rfl
  have H0 : Hid (sums Q M = sumsFrom Q ⟨0, 0, 0⟩ (M.drop 0)) := rfl
  generalize sums Q M = T at H0 ⊢
  have HC0 := hide hc0
  have HL0 := hide hL0
  have HC := hide hc
  have HL := hide hL
  have hn9 : n ≤ 9 := by omega
  have HN0 : Hid (n0 ≤ 1048576) := by show _ ≤ _; omega
  clear hc0 hL0 hc hL hok hm hg h9 h1
  go_enter Tryz.func31, Tryz.ntmps31
  go_wp2_with fail
  obtain ⟨V1, hV1⟩ : ∃ W, W = w.alloc (Obj.cells #[Value.int .i64 s, Value.slice a0 n0 c0] 54) := ⟨_, rfl⟩
  obtain ⟨V2, hV2⟩ : ∃ W, W = V1.alloc (Obj.cells #[Value.int .i64 0, Value.int .i64 0, Value.int .i64 0] 25) := ⟨_, rfl⟩
  obtain ⟨V3, hV3⟩ : ∃ W, W = V2.alloc (Obj.cells #[Value.int .i64 0, Value.int .i64 0, Value.int .i64 0] 25) := ⟨_, rfl⟩
  rw [← hV1, ← hV2, ← hV3]
  have z1 : V1.heap.size = w.heap.size + 1 := by rw [hV1]; simp
  have z2 : V2.heap.size = w.heap.size + 1 + 1 := by rw [hV2]; simp [z1]
  have z3 : V3.heap.size = w.heap.size + 1 + 1 + 1 := by rw [hV3]; simp [z2]
  have b1 : Below w.heap.size w V1 := by rw [hV1]; exact below_new _ _
  have b2 : Below w.heap.size w V2 := by rw [hV2]; exact b1.alloc b1.size _
  have b3 : Below w.heap.size w V3 := by rw [hV3]; exact b2.alloc b2.size _
  have x1 : GBox V1 w.heap.size s (.slice a0 n0 c0) := by rw [hV1]; exact GBox.new _ _ _
  have x2 : GBox V2 w.heap.size s (.slice a0 n0 c0) := by rw [hV2]; exact x1.below (below_new _ _)
  have HX3 : Hid (GBox V3 w.heap.size s (.slice a0 n0 c0)) := by show GBox _ _ _ _; rw [hV3]; exact x2.below (below_new _ _)
  have r2 : SBox V2 (w.heap.size + 1) ⟨0, 0, 0⟩ := by rw [hV2, ← z1]; exact SBox.new _ ⟨0, 0, 0⟩
  have HR3 : Hid (SBox V3 (w.heap.size + 1) ⟨0, 0, 0⟩) := by show SBox _ _ _; rw [hV3]; exact r2.below (below_new _ _)
  have HS3 : Hid (SBox V3 (w.heap.size + 1 + 1) ⟨0, 0, 0⟩) := by show SBox _ _ _; rw [hV3, ← z2]; exact SBox.new _ ⟨0, 0, 0⟩
  clear hV1 hV2 hV3 b1 b2 x1 x2 r2 z1 z2
  go_loopw [6] (fun i wr => ∃ (j : Nat) (t : SumsI), i = .int .i64 (j : Int) ∧ j ≤ n ∧ Hid (T = sumsFrom Q t (M.drop j)) ∧ SB t (j : Int) ∧ SBox wr (w.heap.size + 1 + 1) t ∧ Below (w.heap.size + 2) V3 wr) (fun i _ => n - (intOf i).toNat)
  case atStart => exact ⟨0, ⟨0, 0, 0⟩, rfl, Nat.zero_le _, unhide H0, SB.zero _ (by omega), unhide HS3, Below.refl _ _⟩
  case round =>
    obtain ⟨j, t, rfl, hj, HR, hsb, hbx, hb⟩ := hrel
    have b4 : Below w.heap.size w wr := b3.trans (hb.mono (by omega))
    have hs4 := hb.size
    have x4 : GBox wr w.heap.size s (.slice a0 n0 c0) := by unfold GBox; rw [hb.block _ (by omega)]; exact unhide HX3
    have r4 : SBox wr (w.heap.size + 1) ⟨0, 0, 0⟩ := (unhide HR3).at hb (by omega)
    by_cases hlt : j < n
    · have hjL : j < M.length := by have := unhide HL; omega
      obtain ⟨b, off, rfl, hbB, c0', c1'⟩ := unhide HC j hjL
      rw [← b4.cell (p := ⟨b, off + j * 2, none⟩) (by simp; omega)] at c0'
      rw [← b4.cell (p := ⟨b, off + j * 2 + 1, none⟩) (by simp; omega)] at c1'
      obtain ⟨i, hiQ, e1, e2, heok⟩ := unhide HED j hjL
      obtain ⟨b', off', rfl, hbB', d0, d1, d2, d3, d4⟩ := unhide HC0 i hiQ
      rw [← b4.cell (p := ⟨b', off' + i * 5, none⟩) (by simp; omega)] at d0
      rw [← b4.cell (p := ⟨b', off' + i * 5 + 1, none⟩) (by simp; omega)] at d1
      rw [← b4.cell (p := ⟨b', off' + i * 5 + 2, none⟩) (by simp; omega)] at d2
      rw [← b4.cell (p := ⟨b', off' + i * 5 + 3, none⟩) (by simp; omega)] at d3
      rw [← b4.cell (p := ⟨b', off' + i * 5 + 4, none⟩) (by simp; omega)] at d4
      have hr := (unhide HR).trans (unhide HST t j hjL)
      have AT1 := hide (unhide AT M[j].A M[j].B)
      have hsn := hsb.add heok
      rw [e1] at AT1
      rw [e2] at hr
      generalize M[j] = m at c0' c1' AT1
      generalize Q[i] = q at d0 d1 d2 d3 d4 hr hsn heok
      clear e1 e2
      obtain ⟨m0, m1⟩ := m
      obtain ⟨_, _, _, hw1, hw2, hw3⟩ := (edgeOk_iff s q).1 heok
      have hq1 := worth_range hw1
      have hq2 := worth_range hw2
      have hq3 := worth_range hw3
      obtain ⟨y0, y1, y2, y3, y4⟩ := q
      obtain ⟨t1, t2, t3⟩ := t
      have hsb' := hsb
      unfold SB at hsb'
      simp only at c0' c1' d0 d1 d2 d3 d4 AT1 hq1 hq2 hq3 hsb'
      have HSN0 := hide hsn
      have hx0 : (0 : Int) ≤ (j : Int) := by omega
      have hx1 : (j : Int) < (n : Int) := by omega
      have hi0 : (0 : Int) ≤ (i : Int) := by omega
      have hi1 : (i : Int) < (n0 : Int) := by have := unhide HL0; omega
      obtain ⟨p0, p1⟩ := x4.cells
      have hgl := x4.lt
      have hbl : b < wr.heap.size := by have := b4.size; omega
      have hbl' : b' < wr.heap.size := by have := b4.size; omega
      have HBX := hide hbx
      have hbxl := hbx.lt
      have HRN := hide hr
      clear hr HR hsb hsn heok hw1 hw2 hw3 x4 r4 hbx
      go_upto_region 5 with fail
      have HSB : Hid (∀ u v : World, (u.cell? ⟨w.heap.size, 0, none⟩ = some (.int .i64 s) ∧ u.cell? ⟨w.heap.size, 1, none⟩ = some (.slice (some ⟨b', off', none⟩) n0 c0) ∧ u.cell? ⟨b, off + j * 2, none⟩ = some (.int .i64 m0) ∧ u.cell? ⟨b, off + j * 2 + 1, none⟩ = some (.int .i64 m1) ∧ u.cell? ⟨b', off' + i * 5, none⟩ = some (.int .i64 y0) ∧ u.cell? ⟨b', off' + i * 5 + 1, none⟩ = some (.int .i64 y1) ∧ u.cell? ⟨b', off' + i * 5 + 2, none⟩ = some (.int .i64 y2) ∧ u.cell? ⟨b', off' + i * 5 + 3, none⟩ = some (.int .i64 y3) ∧ u.cell? ⟨b', off' + i * 5 + 4, none⟩ = some (.int .i64 y4)) → Below wr.heap.size u v → (v.cell? ⟨w.heap.size, 0, none⟩ = some (.int .i64 s) ∧ v.cell? ⟨w.heap.size, 1, none⟩ = some (.slice (some ⟨b', off', none⟩) n0 c0) ∧ v.cell? ⟨b, off + j * 2, none⟩ = some (.int .i64 m0) ∧ v.cell? ⟨b, off + j * 2 + 1, none⟩ = some (.int .i64 m1) ∧ v.cell? ⟨b', off' + i * 5, none⟩ = some (.int .i64 y0) ∧ v.cell? ⟨b', off' + i * 5 + 1, none⟩ = some (.int .i64 y1) ∧ v.cell? ⟨b', off' + i * 5 + 2, none⟩ = some (.int .i64 y2) ∧ v.cell? ⟨b', off' + i * 5 + 3, none⟩ = some (.int .i64 y3) ∧ v.cell? ⟨b', off' + i * 5 + 4, none⟩ = some (.int .i64 y4))) := fun u v h hb => ⟨(hb.cell (p := ⟨w.heap.size, 0, none⟩) hgl).trans h.1, (hb.cell (p := ⟨w.heap.size, 1, none⟩) hgl).trans h.2.1, (hb.cell (p := ⟨b, off + j * 2, none⟩) hbl).trans h.2.2.1, (hb.cell (p := ⟨b, off + j * 2 + 1, none⟩) hbl).trans h.2.2.2.1, (hb.cell (p := ⟨b', off' + i * 5, none⟩) hbl').trans h.2.2.2.2.1, (hb.cell (p := ⟨b', off' + i * 5 + 1, none⟩) hbl').trans h.2.2.2.2.2.1, (hb.cell (p := ⟨b', off' + i * 5 + 2, none⟩) hbl').trans h.2.2.2.2.2.2.1, (hb.cell (p := ⟨b', off' + i * 5 + 3, none⟩) hbl').trans h.2.2.2.2.2.2.2.1, (hb.cell (p := ⟨b', off' + i * 5 + 4, none⟩) hbl').trans h.2.2.2.2.2.2.2.2⟩
      have HAL : Hid (∀ (u : World) (o : Obj), wr.heap.size ≤ u.heap.size → (u.cell? ⟨w.heap.size, 0, none⟩ = some (.int .i64 s) ∧ u.cell? ⟨w.heap.size, 1, none⟩ = some (.slice (some ⟨b', off', none⟩) n0 c0) ∧ u.cell? ⟨b, off + j * 2, none⟩ = some (.int .i64 m0) ∧ u.cell? ⟨b, off + j * 2 + 1, none⟩ = some (.int .i64 m1) ∧ u.cell? ⟨b', off' + i * 5, none⟩ = some (.int .i64 y0) ∧ u.cell? ⟨b', off' + i * 5 + 1, none⟩ = some (.int .i64 y1) ∧ u.cell? ⟨b', off' + i * 5 + 2, none⟩ = some (.int .i64 y2) ∧ u.cell? ⟨b', off' + i * 5 + 3, none⟩ = some (.int .i64 y3) ∧ u.cell? ⟨b', off' + i * 5 + 4, none⟩ = some (.int .i64 y4)) → ((u.alloc o).cell? ⟨w.heap.size, 0, none⟩ = some (.int .i64 s) ∧ (u.alloc o).cell? ⟨w.heap.size, 1, none⟩ = some (.slice (some ⟨b', off', none⟩) n0 c0) ∧ (u.alloc o).cell? ⟨b, off + j * 2, none⟩ = some (.int .i64 m0) ∧ (u.alloc o).cell? ⟨b, off + j * 2 + 1, none⟩ = some (.int .i64 m1) ∧ (u.alloc o).cell? ⟨b', off' + i * 5, none⟩ = some (.int .i64 y0) ∧ (u.alloc o).cell? ⟨b', off' + i * 5 + 1, none⟩ = some (.int .i64 y1) ∧ (u.alloc o).cell? ⟨b', off' + i * 5 + 2, none⟩ = some (.int .i64 y2) ∧ (u.alloc o).cell? ⟨b', off' + i * 5 + 3, none⟩ = some (.int .i64 y3) ∧ (u.alloc o).cell? ⟨b', off' + i * 5 + 4, none⟩ = some (.int .i64 y4))) := fun u o hu h => unhide HSB u (u.alloc o) h ((below_new u o).mono hu)
      have HSC : Hid (∀ (u : World) (x0 x1 x2 x3 x4 : Value), (u.cell? ⟨w.heap.size, 0, none⟩ = some (.int .i64 s) ∧ u.cell? ⟨w.heap.size, 1, none⟩ = some (.slice (some ⟨b', off', none⟩) n0 c0) ∧ u.cell? ⟨b, off + j * 2, none⟩ = some (.int .i64 m0) ∧ u.cell? ⟨b, off + j * 2 + 1, none⟩ = some (.int .i64 m1) ∧ u.cell? ⟨b', off' + i * 5, none⟩ = some (.int .i64 y0) ∧ u.cell? ⟨b', off' + i * 5 + 1, none⟩ = some (.int .i64 y1) ∧ u.cell? ⟨b', off' + i * 5 + 2, none⟩ = some (.int .i64 y2) ∧ u.cell? ⟨b', off' + i * 5 + 3, none⟩ = some (.int .i64 y3) ∧ u.cell? ⟨b', off' + i * 5 + 4, none⟩ = some (.int .i64 y4)) → ((((((u.setCell ⟨wr.heap.size, 0, none⟩ x0).setCell ⟨wr.heap.size, 1, none⟩ x1).setCell ⟨wr.heap.size, 2, none⟩ x2).setCell ⟨wr.heap.size, 3, none⟩ x3).setCell ⟨wr.heap.size, 4, none⟩ x4).cell? ⟨w.heap.size, 0, none⟩ = some (.int .i64 s) ∧ (((((u.setCell ⟨wr.heap.size, 0, none⟩ x0).setCell ⟨wr.heap.size, 1, none⟩ x1).setCell ⟨wr.heap.size, 2, none⟩ x2).setCell ⟨wr.heap.size, 3, none⟩ x3).setCell ⟨wr.heap.size, 4, none⟩ x4).cell? ⟨w.heap.size, 1, none⟩ = some (.slice (some ⟨b', off', none⟩) n0 c0) ∧ (((((u.setCell ⟨wr.heap.size, 0, none⟩ x0).setCell ⟨wr.heap.size, 1, none⟩ x1).setCell ⟨wr.heap.size, 2, none⟩ x2).setCell ⟨wr.heap.size, 3, none⟩ x3).setCell ⟨wr.heap.size, 4, none⟩ x4).cell? ⟨b, off + j * 2, none⟩ = some (.int .i64 m0) ∧ (((((u.setCell ⟨wr.heap.size, 0, none⟩ x0).setCell ⟨wr.heap.size, 1, none⟩ x1).setCell ⟨wr.heap.size, 2, none⟩ x2).setCell ⟨wr.heap.size, 3, none⟩ x3).setCell ⟨wr.heap.size, 4, none⟩ x4).cell? ⟨b, off + j * 2 + 1, none⟩ = some (.int .i64 m1) ∧ (((((u.setCell ⟨wr.heap.size, 0, none⟩ x0).setCell ⟨wr.heap.size, 1, none⟩ x1).setCell ⟨wr.heap.size, 2, none⟩ x2).setCell ⟨wr.heap.size, 3, none⟩ x3).setCell ⟨wr.heap.size, 4, none⟩ x4).cell? ⟨b', off' + i * 5, none⟩ = some (.int .i64 y0) ∧ (((((u.setCell ⟨wr.heap.size, 0, none⟩ x0).setCell ⟨wr.heap.size, 1, none⟩ x1).setCell ⟨wr.heap.size, 2, none⟩ x2).setCell ⟨wr.heap.size, 3, none⟩ x3).setCell ⟨wr.heap.size, 4, none⟩ x4).cell? ⟨b', off' + i * 5 + 1, none⟩ = some (.int .i64 y1) ∧ (((((u.setCell ⟨wr.heap.size, 0, none⟩ x0).setCell ⟨wr.heap.size, 1, none⟩ x1).setCell ⟨wr.heap.size, 2, none⟩ x2).setCell ⟨wr.heap.size, 3, none⟩ x3).setCell ⟨wr.heap.size, 4, none⟩ x4).cell? ⟨b', off' + i * 5 + 2, none⟩ = some (.int .i64 y2) ∧ (((((u.setCell ⟨wr.heap.size, 0, none⟩ x0).setCell ⟨wr.heap.size, 1, none⟩ x1).setCell ⟨wr.heap.size, 2, none⟩ x2).setCell ⟨wr.heap.size, 3, none⟩ x3).setCell ⟨wr.heap.size, 4, none⟩ x4).cell? ⟨b', off' + i * 5 + 3, none⟩ = some (.int .i64 y3) ∧ (((((u.setCell ⟨wr.heap.size, 0, none⟩ x0).setCell ⟨wr.heap.size, 1, none⟩ x1).setCell ⟨wr.heap.size, 2, none⟩ x2).setCell ⟨wr.heap.size, 3, none⟩ x3).setCell ⟨wr.heap.size, 4, none⟩ x4).cell? ⟨b', off' + i * 5 + 4, none⟩ = some (.int .i64 y4))) := fun u x0 x1 x2 x3 x4 h => unhide HSB u _ h (((((Below.refl _ u).setCell (p := ⟨wr.heap.size, 0, none⟩) (Nat.le_refl _) x0).setCell (p := ⟨wr.heap.size, 1, none⟩) (Nat.le_refl _) x1).setCell (p := ⟨wr.heap.size, 2, none⟩) (Nat.le_refl _) x2).setCell (p := ⟨wr.heap.size, 3, none⟩) (Nat.le_refl _) x3 |>.setCell (p := ⟨wr.heap.size, 4, none⟩) (Nat.le_refl _) x4)
      have AT2 : Hid (∀ N W, Below wr.heap.size wr W → N ≤ W.heap.size → Calls Tryz.prog 64 #[.agg #[.int .i64 s, .slice (some ⟨b', off', none⟩) n0 c0], .int .i64 m0, .int .i64 m1] W fun e w' => e = .returned (.int .i64 (i : Int)) ∧ Below N W w' ∧ N ≤ w'.heap.size) := fun N W hW hN => (unhide AT1 W (b4.trans (hW.mono b4.size))).mono fun e w' ⟨he, hb⟩ => ⟨he, hb.mono hN, Nat.le_trans hN hb.size⟩
      have HS0 := hide (And.intro p0 (And.intro p1 (And.intro c0' (And.intro c1' (And.intro d0 (And.intro d1 (And.intro d2 (And.intro d3 d4))))))))
      have HSN := hide (unhide HSB wr wr.drew (unhide HS0) (Below.refl _ _).drew)
      have HSZ := hide (unhide HSB wr (wr.alloc (Obj.cells #[Value.int .i64 0, Value.int .i64 0, Value.int .i64 0, Value.int .i64 0, Value.int .i64 0] 113)).drew (unhide HS0) (below_new _ _).drew)
      have HLZ : Hid (wr.heap.size + 1 ≤ (wr.alloc (Obj.cells #[Value.int .i64 0, Value.int .i64 0, Value.int .i64 0, Value.int .i64 0, Value.int .i64 0] 113)).drew.heap.size) := by show _ ≤ (wr.alloc _).heap.size; simp
      have hn1 : ¬ w.heap.size = wr.heap.size := by omega
      have hn2 : ¬ b = wr.heap.size := by omega
      have hn3 : ¬ b' = wr.heap.size := by omega
      have HBN : Hid (Below wr.heap.size wr wr.drew) := (Below.refl _ _).drew
      have HBZ : Hid (Below wr.heap.size wr (wr.alloc (Obj.cells #[Value.int .i64 0, Value.int .i64 0, Value.int .i64 0, Value.int .i64 0, Value.int .i64 0] 113)).drew) := (below_new _ _).drew
      have HZB : Hid ((wr.alloc (Obj.cells #[Value.int .i64 0, Value.int .i64 0, Value.int .i64 0, Value.int .i64 0, Value.int .i64 0] 113)).drew.heap[wr.heap.size]? = some (.cells #[Value.int .i64 0, Value.int .i64 0, Value.int .i64 0, Value.int .i64 0, Value.int .i64 0] 113 (0, 0))) := heap_alloc_new wr _
      go_cut [7] (fun p7 wx => ∃ g, p7 = .pointer (some ⟨g, 0, none⟩) ∧ wr.heap.size ≤ g ∧ wx.heap[g]? = some (.cells #[Value.int .i64 y0, Value.int .i64 y1, Value.int .i64 y2, Value.int .i64 y3, Value.int .i64 y4] 113 (0, 0)) ∧ Below wr.heap.size wr wx)
      case first =>
        go_region_held3 (fun u => u.cell? ⟨w.heap.size, 0, none⟩ = some (.int .i64 s) ∧ u.cell? ⟨w.heap.size, 1, none⟩ = some (.slice (some ⟨b', off', none⟩) n0 c0) ∧ u.cell? ⟨b, off + j * 2, none⟩ = some (.int .i64 m0) ∧ u.cell? ⟨b, off + j * 2 + 1, none⟩ = some (.int .i64 m1) ∧ u.cell? ⟨b', off' + i * 5, none⟩ = some (.int .i64 y0) ∧ u.cell? ⟨b', off' + i * 5 + 1, none⟩ = some (.int .i64 y1) ∧ u.cell? ⟨b', off' + i * 5 + 2, none⟩ = some (.int .i64 y2) ∧ u.cell? ⟨b', off' + i * 5 + 3, none⟩ = some (.int .i64 y3) ∧ u.cell? ⟨b', off' + i * 5 + 4, none⟩ = some (.int .i64 y4))
          (first | (with_reducible exact unhide HSB _ _ (unhide HSN) hb5) | (with_reducible exact unhide HSB _ _ (unhide HSZ) hb5) | (with_reducible exact unhide HAL _ _ hz5 (unhide HS5)) | (with_reducible exact unhide HSC _ _ _ _ _ _ (unhide HS5)) | go_keep)
          (first
            | (go_at_call 64; go_fit (unhide AT2 wr.heap.size wr.drew (unhide HBN) (Nat.le_refl _)); rintro e w5 ⟨rfl, hb5, hz5⟩; have HS5 := hide (unhide HSB _ _ (unhide HSN) hb5))
            | (go_at_call 64; go_fit (unhide AT2 (wr.heap.size + 1) (wr.alloc (Obj.cells #[Value.int .i64 0, Value.int .i64 0, Value.int .i64 0, Value.int .i64 0, Value.int .i64 0] 113)).drew (unhide HBZ) (unhide HLZ)); rintro e w5 ⟨rfl, hb6, hz6⟩; have hb5 := hb6.mono (Nat.le_succ wr.heap.size); have hz5 : w5.heap[wr.heap.size]? = some (.cells #[Value.int .i64 0, Value.int .i64 0, Value.int .i64 0, Value.int .i64 0, Value.int .i64 0] 113 (0, 0)) := (hb6.block wr.heap.size (Nat.lt_succ_self _)).trans (unhide HZB); have g0 : w5.cell? ⟨wr.heap.size, 0, none⟩ = some (.int .i64 0) := (by rw [cell_of_row w5 wr.heap.size 0 _ 113 (0, 0) hz5]; rfl); have g1 : w5.cell? ⟨wr.heap.size, 1, none⟩ = some (.int .i64 0) := (by rw [cell_of_row w5 wr.heap.size 1 _ 113 (0, 0) hz5]; rfl); have g2 : w5.cell? ⟨wr.heap.size, 2, none⟩ = some (.int .i64 0) := (by rw [cell_of_row w5 wr.heap.size 2 _ 113 (0, 0) hz5]; rfl); have g3 : w5.cell? ⟨wr.heap.size, 3, none⟩ = some (.int .i64 0) := (by rw [cell_of_row w5 wr.heap.size 3 _ 113 (0, 0) hz5]; rfl); have g4 : w5.cell? ⟨wr.heap.size, 4, none⟩ = some (.int .i64 0) := (by rw [cell_of_row w5 wr.heap.size 4 _ 113 (0, 0) hz5]; rfl); have gf : ∀ k, w5.frozen? ⟨wr.heap.size, k, none⟩ = false := (fun k => by unfold World.frozen?; simp only []; rw [hz5]; simp); have gf0 := gf 0; have gf1 := gf 1; have gf2 := gf 2; have gf3 := gf 3; have gf4 := gf 4; clear gf; have HS5 := hide (unhide HSB _ _ (unhide HSZ) hb5)))
        · go_wp2_with fail
          go_meet
          case rel => exact ⟨w5.heap.size, rfl, hz5, heap_alloc_new w5 _, (unhide HBN).trans (hb5.trans ((below_new _ _).mono hz5))⟩
        · go_wp2_with fail
          go_meet
          case rel =>
            refine ⟨wr.heap.size, rfl, Nat.le_refl _, ?_, ?_⟩
            · have e1 := heap_setCell_same w5 wr.heap.size 0 _ _ (.int .i64 y0) hz5
              have e2 := heap_setCell_same _ wr.heap.size 1 _ _ (.int .i64 y1) e1
              have e3 := heap_setCell_same _ wr.heap.size 2 _ _ (.int .i64 y2) e2
              have e4 := heap_setCell_same _ wr.heap.size 3 _ _ (.int .i64 y3) e3
              exact heap_setCell_same _ wr.heap.size 4 _ _ (.int .i64 y4) e4
            · exact ((((((unhide HBZ).trans hb5).setCell (p := ⟨wr.heap.size, 0, none⟩) (Nat.le_refl _) _).setCell (p := ⟨wr.heap.size, 1, none⟩) (Nat.le_refl _) _).setCell (p := ⟨wr.heap.size, 2, none⟩) (Nat.le_refl _) _).setCell (p := ⟨wr.heap.size, 3, none⟩) (Nat.le_refl _) _).setCell (p := ⟨wr.heap.size, 4, none⟩) (Nat.le_refl _) _
      case rest =>
        obtain ⟨g, rfl, hgg, heg, hbg⟩ := hcut
        have hb6 : Below (w.heap.size + 2) V3 wc := hb.trans (hbg.mono (by omega))
        have s6 := (unhide HBX).at hbg hbxl
        have k2 : wc.cell? ⟨g, 2, none⟩ = some (.int .i64 y2) := by rw [cell_of_row wc g 2 _ 113 (0, 0) heg]; rfl
        have k3 : wc.cell? ⟨g, 3, none⟩ = some (.int .i64 y3) := by rw [cell_of_row wc g 3 _ 113 (0, 0) heg]; rfl
        have k4 : wc.cell? ⟨g, 4, none⟩ = some (.int .i64 y4) := by rw [cell_of_row wc g 4 _ 113 (0, 0) heg]; rfl
        obtain ⟨u0, u1, u2⟩ := s6.cells
        simp only at u0 u1 u2
        have f0 := s6.froz 0
        have f1 := s6.froz 1
        have f2 := s6.froz 2
        have hgn : ¬ g = w.heap.size + 1 + 1 := by omega
        have hgn' : ¬ w.heap.size + 1 + 1 = g := by omega
        have hj9 : (j : Int) ≤ 9 := by omega
        have HS7 := hide (s6.three (t1 + y2) (t2 + y3) (t3 + y4))
        have hk7 := kept3 wc (w.heap.size + 1 + 1) (.int .i64 (t1 + y2)) (.int .i64 (t2 + y3)) (.int .i64 (t3 + y4))
        have HB7 := hide (hb6.trans (hk7.below (by have := hb6.size; omega) (fun i hi => by omega)))
        clear hk7 s6 heg hbg hb6 HSB HAL HSC HS0 HSN HSZ HLZ HZB HBN HBZ AT2 AT1 p0 p1 c0' c1' d0 d1 d2 d3 d4
        go_wp2
        go_roundw
        case rel => exact ⟨j + 1, ⟨t1 + y2, t2 + y3, t3 + y4⟩, by go_num, by omega, unhide HRN, (by rw [Int.natCast_add]; exact unhide HSN0), unhide HS7, unhide HB7⟩
        case measure => simp [intOf]; omega
    · obtain hjn : j = n := by omega
      have hr := unhide HR
      rw [hjn, unhide HEND] at hr
      subst hr
      have HRB := hide r4
      obtain ⟨q0, q1, q2⟩ := hbx.cells
      obtain ⟨u0, u1, u2⟩ := r4.cells
      have uf := r4.froz
      clear HR r4 hbx x4 hsb
      go_wp2
      (try simp only [Exit.inBlock, Exit.then])
      have hk := kept3 wr (w.heap.size + 1) (.int .i64 T.W1) (.int .i64 T.W2) (.int .i64 T.W3)
      refine bodyPost_ret (results_sums1 Tryz.results31 _ _ (w.heap.size + 1) _ rfl ((unhide HRB).three T.W1 T.W2 T.W3)) rfl ?_
      exact ⟨rfl, b4.trans (hk.below b4.size (fun i hi => by omega))⟩
def sumsR (s : Int) (Q : List EdgeI) (M : List CoupleI) : SumsI := if matchOk s Q M = true then sums Q M else ⟨0, 0, 0⟩
end Gr
end Go.Proofs.YtjblkijicfmkgaaGreatDoor
