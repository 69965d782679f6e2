/-
 LkT, LkX, LkY, LkV, LkTB1, LkB0, LkB1, LkB2.
-/
import Derived.Test.YtnihoabminnbcaaJ2
import Derived.Test.YtnihoabminnbcaaJ19
import Derived.Test.YtnihoabminnbcaaJ18
import Derived.Maps.AppendAt
import Derived.Deep.RegionHeld3
import Derived.Test.YtnihoabminnbcaaJ6
namespace Go.Proofs.Ytnihoabminnbcaa
namespace Lk
open Go.RowKit
open Gr (Blk Kept EdgeI GrAt GBox below_new InOwn InAt own_below own_lower intsV intsAt_of_own info3)
/-- Numbers of vertices as numbers. -/
def nI (U : List Nat) : List Int := U.map fun j => ((j : Nat) : Int)
theorem inK_nI (U : List Nat) (x : Nat) : inK (nI U) (x : Int) = decide (x ∈ U) := by
  have key : inK (nI U) (x : Int) = true ↔ x ∈ U := by
    unfold inK nI
    simp
    constructor
    · rintro ⟨a, ha, e⟩
      have : a = x := by omega
      rw [← this]; exact ha
    · intro h
      exact ⟨x, h, rfl⟩
  cases h : inK (nI U) (x : Int)
  · rw [decide_eq_false]
    intro hx
    rw [key.2 hx] at h
    cases h
  · rw [decide_eq_true (key.1 h)]
/-- Who is beside whom. -/
def nbF (Q : List EdgeI) : Nat → Nat → Bool := fun v u => nb Q (v : Int) u
/-- The neighbours below n. -/
def nxt (Q : List EdgeI) (v n : Nat) : List Nat := (List.range n).filter (nb Q (v : Int))
theorem nxt_is (Q : List EdgeI) (v n : Nat) : nextTo Q (v : Int) n = nI (nxt Q v n) := rfl
theorem nxt_at {Q : List EdgeI} {v n k : Nat} (h : k < (nxt Q v n).length) : (nxt Q v n)[k] < n ∧ nbF Q v (nxt Q v n)[k] = true := by
  have := List.mem_filter.1 (List.getElem_mem h)
  exact ⟨List.mem_range.1 this.1, this.2⟩
theorem nxt_all {Q : List EdgeI} {v n w : Nat} (hw : w < n) (h : nbF Q v w = true) : w ∈ nxt Q v n := List.mem_filter.2 ⟨List.mem_range.2 hw, h⟩
theorem nI_len (U : List Nat) : (nI U).length = U.length := by simp [nI]
theorem nI_snoc (U : List Nat) (x : Nat) : nI (U ++ [x]) = nI U ++ [(x : Int)] := by simp [nI]
theorem left_lt {n : Nat} {K : List Int} {j : Nat} (h : leftF n K j = true) : j < n := by
  unfold leftF at h
  simp at h
  exact h.1
theorem left_is {n : Nat} {K : List Int} {j : Nat} (h : j < n) : leftF n K j = !inK K (j : Int) := by
  unfold leftF
  rw [decide_eq_true h, Bool.true_and]
set_option maxRecDepth 100000 in
set_option maxHeartbeats 4000000 in
theorem part_any (v : Value) (B n : Nat) (Q : List EdgeI) (u : Value) (K : List Int) (x : Nat) (hx : x < n) (h1 : Q.length ≤ 1048576) (h2 : K.length ≤ 1048576) (hn : n ≤ 9) (w : World) (hB : B ≤ w.heap.size) (hv : GrAt w v B (n : Int) Q) (hu : InAt w u B K) :
    Calls Try.prog 44 #[v, .int .i64 (x : Int), u] w fun e w' => (∃ d, e = .returned d ∧ InOwn w' w.heap.size d (setTo (rch (nbF Q) (leftF n K) x) n)) ∧ Below w.heap.size w w' := by
  obtain ⟨i0, hi, hz0, hz1, hz2⟩ := info_parts info3
  have hx9 : x < 9 := by omega
  have NX := hide (fun (y : Nat) w1 (hb : Below w.heap.size w w1) => next_any v B n (y : Int) Q h1 (by omega) w1 (by have := hb.size; omega) (hv.below hb hB))
  obtain ⟨au, cu, rfl, hK⟩ := hu
  have IK := hide (fun (y : Int) w1 (hb : Below w.heap.size w w1) => l03In_any au K.length cu B K y h2 w1 (hK.below hb hB))
  have IU := hide (fun (U : List Nat) (hU : U.length ≤ 9) a c B' w1 (hU2 : IntsAt w1 a (nI U).length B' (nI U)) (y : Nat) => l03In_any a (nI U).length c B' (nI U) (y : Int) (by rw [nI_len]; omega) w1 hU2)
  obtain ⟨F, hF⟩ : ∃ F, F = nbF Q := ⟨_, rfl⟩
  obtain ⟨f, hf⟩ : ∃ f, f = leftF n K := ⟨_, rfl⟩
  have HB0 := hide (bfs0 F f x)
  have HFEW := hide (fun i done U (h : Bfs F f x i done U) => h.few hx9)
  have HSK := hide (fun i done U (h : Bfs F f x i done U) y hy => bfs_skip h y hy)
  have HAD := hide (fun i done U (h : Bfs F f x i done U) hi y h9 hF hn hf => bfs_add hx9 h hi y h9 hF hn hf)
  have HNX := hide (fun i done U (h : Bfs F f x i done U) hi hd => bfs_next h hi hd)
  have HEN := hide (fun U (h : Bfs F f x U.length [] U) y => bfs_end hx9 h y)
  have HFX : Hid (∀ y, y < n → f y = !inK K (y : Int)) := fun y hy => by rw [hf]; exact left_is hy
  have HFL : Hid (∀ y, f y = true → y < n) := fun y hy => left_lt (n := n) (K := K) (by rw [← hf]; exact hy)
  have HNA : Hid (∀ y k (h : k < (nxt Q y n).length), (nxt Q y n)[k] < n ∧ F y (nxt Q y n)[k] = true) := fun y k h => by rw [hF]; exact nxt_at h
  have HNL : Hid (∀ y z, z < n → F y z = true → z ∈ nxt Q y n) := fun y z hz h => nxt_all hz (by rw [← hF]; exact h)
  have HS1 := hide (fun k h => setTo_in (f := rch F f x) (k := k) h)
  have HS0 := hide (fun k h => setTo_out (f := rch F f x) (k := k) h)
  have HSL := hide (setTo_length (rch F f x))
  rw [← hF, ← hf]
  clear hF hf
  obtain ⟨a, n', c, rfl, _⟩ := hv
  have NXL : Hid (∀ y, (nxt Q y n).length ≤ n) := fun y => by unfold nxt; exact Nat.le_trans (List.length_filter_le _ _) (by simp)
  go_enter Try.func44, Try.ntmps44
  go_wp2_with fail
  obtain ⟨V1, hV1⟩ : ∃ W, W = w.alloc (Obj.cells #[Value.int .i64 (n : Int), Value.slice a n' c] 26) := ⟨_, rfl⟩
  obtain ⟨V2, hV2⟩ : ∃ W, W = V1.alloc (Obj.cells #[Value.int .i64 (x : Int)] 3) := ⟨_, rfl⟩
  rw [← hV1, ← hV2]
  have HX2 : Hid (GBox V2 w.heap.size (n : Int) (.slice a n' c)) := by show GBox _ _ _ _; rw [hV2, hV1]; exact (GBox.new _ _ _).below (below_new _ _)
  have b2 : Below w.heap.size w V2 := by rw [hV2, hV1]; exact (below_new _ _).alloc (by simp) _
  have HO2 : Hid (InOwn V2 (w.heap.size + 1) (.slice (some ⟨w.heap.size + 1, 0, none⟩) 1 1) (nI [x])) := by
    show InOwn _ _ _ _
    rw [hV2]
    have hz : V1.heap.size = w.heap.size + 1 := by rw [hV1]; simp
    have h := heap_alloc_new V1 (Obj.cells #[Value.int .i64 (x : Int)] 3)
    rw [hz] at h
    exact ⟨rfl, .inr ⟨w.heap.size + 1, 1, #[Value.int .i64 (x : Int)], rfl, Nat.le_refl _, h, Nat.le_refl _, by decide, rfl, rfl⟩⟩
  clear hV1 hV2
  go_loopw [7, 8] (fun inl i wr => ∃ (j : Nat) (U : List Nat), i = .int .i64 (j : Int) ∧ j ≤ U.length ∧ Hid (Bfs F f x j [] U) ∧ Hid (InOwn wr (w.heap.size + 1) inl (nI U)) ∧ Hid (GBox wr w.heap.size (n : Int) (.slice a n' c)) ∧ Below w.heap.size w wr) (fun _ i _ => 9 - (intOf i).toNat)
  case atStart => exact ⟨0, [x], rfl, Nat.zero_le _, HB0, HO2, HX2, b2⟩
  case round =>
    clear HB0 HO2 HX2 b2
    obtain ⟨j, U, rfl, hj, HB, HO, HX, hb⟩ := hrel
    obtain ⟨A, cp, rfl, _⟩ := intsAt_of_own (unhide HO)
    have hU9 := unhide HFEW j [] U (unhide HB)
    obtain ⟨p0, p1⟩ := (unhide HX).cells
    have hXl := (unhide HX).lt
    obtain ⟨ul, hul⟩ : ∃ ul, ul = U.length := ⟨_, rfl⟩
    have HUL := hide hul
    have hnl : (nI U).length = ul := by rw [nI_len, hul]
    rw [hnl]
    rw [← hul] at hj hU9
    clear hul
    by_cases hlt : j < ul
    · have hjU : j < U.length := by have := unhide HUL; omega
      obtain ⟨g, cg, hA, hgb, hgl⟩ := World.ownsRow.form (unhide HO) (by rw [hnl]; omega)
      rw [hnl] at hA
      simp at hA
      obtain ⟨rfl, rfl⟩ := hA
      have e0 : wr.cell? ⟨g, j, none⟩ = some (.int .i64 ((U[j] : Nat) : Int)) := by
        have ho := unhide HO
        unfold InOwn at ho
        rw [hnl] at ho
        rw [ho.cellAt j (by omega)]
        simp [intsV, nI, hjU]
      obtain ⟨y, N, hy, hN⟩ : ∃ (y : Nat) (N : List Nat), y = U[j] ∧ N = nxt Q y n := ⟨_, _, rfl, rfl⟩
      have NXJ : Hid (∀ w1, Below w.heap.size w w1 → Calls Try.prog 55 #[.agg #[.int .i64 (n : Int), .slice a n' c], .int .i64 (y : Int)] w1 fun e w' => (∃ d, e = .returned d ∧ InOwn w' w1.heap.size d (nI N)) ∧ Below w1.heap.size w1 w') := fun w1 hb1 => by
        have h9 := unhide NX y w1 hb1
        rw [nxt_is, ← hN] at h9
        exact h9
      have HNAJ : Hid (∀ k (h : k < N.length), N[k] < n ∧ F y N[k] = true) := fun k h => by subst hN; exact unhide HNA y k h
      have HNLJ : Hid (∀ z, z < n → F y z = true → z ∈ N) := fun z hz h => by rw [hN]; exact unhide HNL y z hz h
      have hml : N.length ≤ n := by rw [hN]; exact unhide NXL y
      have HYU : Hid (∃ h : j < U.length, U[j] = y) := ⟨hjU, hy.symm⟩
      rw [← hy] at e0
      have hx0 : (0 : Int) ≤ (j : Int) := by omega
      have hx1 : (j : Int) < (ul : Int) := by omega
      have hzb := hb.size
      have hbd : Below w.heap.size w wr.drew := hb.drew
      have hgw : w.heap.size < g := by omega
      have HNL0 := hide hnl
      clear hN hy hnl
      go_wp2_with fail
      go_region_held3 (fun u => u.cell? ⟨w.heap.size, 0, none⟩ = some (.int .i64 (n : Int)) ∧ u.cell? ⟨w.heap.size, 1, none⟩ = some (.slice a n' c) ∧ u.cell? ⟨g, j, none⟩ = some (.int .i64 (y : Int)))
        (first | go_keep | exact ⟨(hb3.cell (p := ⟨w.heap.size, 0, none⟩) hXl).trans p0, (hb3.cell (p := ⟨w.heap.size, 1, none⟩) hXl).trans p1, (hb3.cell (p := ⟨g, j, none⟩) hgl).trans e0⟩)
        ((go_at_call 55; refine (unhide NXJ _ hbd).mono ?_; rintro e w3 ⟨⟨d, rfl, hd⟩, hb3⟩; obtain ⟨A5, c5, rfl, hI5⟩ := intsAt_of_own hd))
      have hb13 : Below wr.heap.size wr w3 := (Below.refl wr.heap.size wr).drew.trans hb3
      have HO3 := hide ((unhide HO).below hb13)
      have HX3 := hide ((unhide HX).below hb13)
      have b3 : Below w.heap.size w w3 := hb.trans (hb13.mono hb.size)
      have hdb : Hid (∀ g', (Value.slice A5 (nI N).length c5).ownBlock = some g' → wr.heap.size ≤ g' ∧ g' < w3.heap.size) := fun g' hg => World.ownsRow.lt hd g' hg
      have HD3 := hide hd
      have HDIS : Hid (∀ g', (Value.slice (some ⟨g, 0, none⟩) ul cp).ownBlock = some g' → (Value.slice A5 (nI N).length c5).ownBlock ≠ some g') := fun g' hg e => by
        have := (unhide hdb g' e).1
        simp [Value.ownBlock] at hg
        omega
      have hwb : wr.heap.size ≤ w3.heap.size := hb13.size
      obtain ⟨m, hm⟩ : ∃ m, m = N.length := ⟨_, rfl⟩
      have HMM := hide hm
      have hmn : (nI N).length = m := by rw [nI_len, hm]
      have hm9 : m ≤ n := by omega
      unfold InOwn at HD3
      rw [hmn] at HD3 HDIS
      rw [hmn]
      have HI0 : Hid (Bfs F f x j (N.take 0) U) := unhide HB
      clear hd hb3 hb13 hI5 e0 hbd NXJ hdb hb hm hmn HO HX p0 p1 HB
      go_wp2_with fail
      obtain ⟨wo, hwo⟩ : ∃ W, W = wr := ⟨_, rfl⟩
      subst hwo
      go_loopw [7, 10] (fun inl i wq => ∃ (k : Nat) (U' : List Nat), i = .int .i64 (k : Int) ∧ k ≤ m ∧ Hid (Bfs F f x j (N.take k) U') ∧ Hid (∃ h : j < U'.length, U'[j] = y) ∧ Hid (InOwn wq (w.heap.size + 1) inl (nI U')) ∧ Hid (World.ownsRow wq wo.heap.size 3 1 (.slice A5 m c5) m (intsV (nI N))) ∧ Hid (∀ g', inl.ownBlock = some g' → (Value.slice A5 m c5).ownBlock ≠ some g') ∧ Hid (GBox wq w.heap.size (n : Int) (.slice a n' c)) ∧ Below w.heap.size w wq) (fun _ i _ => m - (intOf i).toNat)
      case atStart => exact ⟨0, U, rfl, Nat.zero_le _, HI0, HYU, by rw [← unhide HNL0]; exact HO3, HD3, by rw [← unhide HNL0]; exact HDIS, HX3, b3⟩
      case round =>
        clear HI0 HYU HO3 HD3 HDIS HX3 b3
        obtain ⟨k, U', rfl, hk, HB, HY, HO, HD, HDIS, HX, hb⟩ := hrel
        have hU9' := unhide HFEW j _ U' (unhide HB)
        obtain ⟨A2, cp2, rfl, hI2⟩ := intsAt_of_own (unhide HO)
        have hzb2 := hb.size
        by_cases hkm : k < m
        · have hkN : k < N.length := by have := unhide HMM; omega
          obtain ⟨hz, hFz⟩ := unhide HNAJ k hkN
          obtain ⟨g5, c5', hA5, _, hg5⟩ := World.ownsRow.form (unhide HD) (by omega)
          simp at hA5
          obtain ⟨rfl, rfl⟩ := hA5
          have c1 : wr.cell? ⟨g5, k, none⟩ = some (.int .i64 ((N[k] : Nat) : Int)) := by
            rw [(unhide HD).cellAt k (by omega)]
            simp [intsV, nI, hkN]
          have htk : N.take (k + 1) = N.take k ++ [N[k]] := List.take_succ_eq_append_getElem hkN
          have hfz := unhide HFX N[k] hz
          have IUZ := hide (unhide IU U' hU9' A2 cp2 wr.heap.size wr hI2 N[k])
          rw [inK_nI] at IUZ
          have IKZ := hide (unhide IK (N[k] : Int) wr hb)
          have HSKZ : Hid (N[k] ∈ U' ∨ f N[k] = false → Bfs F f x j (N.take (k + 1)) U') := fun h => by rw [htk]; exact unhide HSK j _ U' (unhide HB) _ h
          have HADZ : Hid (N[k] ∉ U' → f N[k] = true → Bfs F f x j (N.take (k + 1)) (U' ++ [N[k]])) := fun h1 h2 => by
            obtain ⟨hj', hy'⟩ := unhide HY
            rw [htk]
            exact unhide HAD j _ U' (unhide HB) hj' _ (by omega) (by rw [hy']; exact hFz) h1 h2
          obtain ⟨z, hzz⟩ : ∃ z, z = N[k] := ⟨_, rfl⟩
          rw [← hzz] at c1 hfz IUZ IKZ HSKZ HADZ
          have hx2 : (k : Int) < (m : Int) := by omega
          have hx3 : (0 : Int) ≤ (k : Int) := by omega
          clear hzz hFz htk hz
          by_cases hin : z ∈ U'
          · rw [decide_eq_true hin] at IUZ
            have HB' := hide (unhide HSKZ (.inl hin))
            clear hin hfz
            go_wp2_with fail
            refine (unhide IUZ).mono ?_
            rintro e w5 ⟨rfl, hw5⟩
            have hw6 := hw5.symm
            subst hw6
            clear hw5
            go_wp2_with fail
            exact ⟨⟨k + 1, U', by go_num, by omega, HB', HY, HO, HD, HDIS, HX, hb⟩, by simp [intOf]; omega⟩
          · rw [decide_eq_false hin] at IUZ
            cases hik : inK K (z : Int)
            · rw [hik] at IKZ hfz
              have HB' := hide (unhide HADZ hin hfz)
              have HY' : Hid (∃ h : j < (U' ++ [z]).length, (U' ++ [z])[j] = y) := by
                obtain ⟨hj', hy'⟩ := unhide HY
                exact ⟨by simp; omega, by rw [List.getElem_append_left hj']; exact hy'⟩
              have hown := unhide HO
              unfold InOwn at hown
              have hul : (nI U').length ≤ 9 := by rw [nI_len]; exact hU9'
              clear hin hik hfz HSKZ HADZ HO
              go_wp2_with fail
              refine (unhide IUZ).mono ?_
              rintro e w5 ⟨rfl, hw5⟩
              have hw6 := hw5.symm
              subst hw6
              clear hw5
              go_wp2_with fail
              refine (unhide IKZ).mono ?_
              rintro e w5 ⟨rfl, hw5⟩
              have hw6 := hw5.symm
              subst hw6
              clear hw5
              go_wp2_with (at_builtin; refine wpList_append_own_at _ rfl _ _ 30 rfl (w.heap.size + 1) 3 i0 (.int .i64 0) 1 8 Try.underlying30 hi hz0 hz1 hz2 rfl (by decide) _ _ _ rfl (hown.alloc _) ⟨wr.heap.size, 0, none⟩ 1 1 [.int .i64 (z : Int)] rfl rfl (cell_one_new _ _ _) (one_intL _) ?_ ?_ ?_ ?_)
              · unfold maxLen; omega
              · omega
              · first | omega | (simp; omega)
              intro v' w7 hown' hgrow _ hat
              have hbA := below_append (B := w.heap.size + 1) (w := wr) (wr := wr) (Below.refl _ _) (by omega) hown hgrow
              have hb7 : Below w.heap.size w w7 := hb.trans (hbA.mono (by omega))
              have HX7 : Hid (GBox w7 w.heap.size (n : Int) (.slice a n' c)) := (unhide HX).kept (S := fun _ => False) (Kept.refl _ _) (fun h => h) |> fun h9 => by
                have h10 := h9.below (below_new wr (Obj.cells #[Value.int .i64 (z : Int)] 3))
                exact (hgrow.block _ h10.lt (fun e => by have h8 := hown.lt w.heap.size e.symm; omega)).trans h10
              have HD7 : Hid (World.ownsRow w7 wo.heap.size 3 1 (.slice (some ⟨g5, 0, none⟩) m c5) m (intsV (nI N))) := World.ownsRow.kept ((unhide HD).alloc _) hgrow (.inr (fun e => by
                have := unhide HDIS g5 (by rw [← e]; rfl)
                exact this rfl))
              have HDIS7 : Hid (∀ g', v'.ownBlock = some g' → (Value.slice (some ⟨g5, 0, none⟩) m c5).ownBlock ≠ some g') := fun g' hg e => by
                rcases hat with hat | hat
                · exact unhide HDIS g' (by rw [← hat]; exact hg) e
                · rw [hat] at hg
                  simp [Value.ownBlock] at hg e
                  omega
              rw [← intsV_snocL, ← nI_snoc] at hown'
              have hfe : (nI U').length + 1 = (nI (U' ++ [z])).length := by rw [nI_len, nI_len]; simp
              rw [hfe] at hown'
              have HO7 : Hid (InOwn w7 (w.heap.size + 1) v' (nI (U' ++ [z]))) := hown'
              clear hown' hgrow hown hat hbA hfe hul HD HX HDIS hI2 HB HY c1
              go_wp2_with fail
              exact ⟨⟨k + 1, _, by go_num, by omega, HB', HY', HO7, HD7, HDIS7, HX7, hb7⟩, by simp [intOf]; omega⟩
            · rw [hik] at IKZ hfz
              have HB' := hide (unhide HSKZ (.inr hfz))
              clear hin hik hfz
              go_wp2_with fail
              refine (unhide IUZ).mono ?_
              rintro e w5 ⟨rfl, hw5⟩
              have hw6 := hw5.symm
              subst hw6
              clear hw5
              go_wp2_with fail
              refine (unhide IKZ).mono ?_
              rintro e w5 ⟨rfl, hw5⟩
              have hw6 := hw5.symm
              subst hw6
              clear hw5
              go_wp2_with fail
              exact ⟨⟨k + 1, U', by go_num, by omega, HB', HY, HO, HD, HDIS, HX, hb⟩, by simp [intOf]; omega⟩
        · obtain rfl : k = m := by omega
          have HB' : Hid (Bfs F f x (j + 1) [] U') := by
            obtain ⟨hj', hy'⟩ := unhide HY
            have h9 := unhide HB
            rw [unhide HMM, List.take_length] at h9
            exact unhide HNX j N U' h9 hj' (fun z _ hF hf => unhide HNLJ z (unhide HFL z hf) (by rw [← hy']; exact hF))
          have hjl : j + 1 ≤ U'.length := (unhide HY).1
          go_wp2_with fail
          exact ⟨⟨j + 1, U', by go_num, hjl, HB', HO, HX, hb⟩, by simp [intOf]; omega⟩
    · obtain rfl : j = ul := by omega
      have hul9 := hU9
      have HIN : Hid (∀ y : Nat, inK (nI U) (y : Int) = rch F f x y) := fun y => by
        rw [inK_nI]
        have h9 := unhide HB
        rw [unhide HUL] at h9
        exact unhide HEN U h9 y
      have HI3 : Hid (IntsAt wr A j wr.heap.size (nI U)) := by
        have h9 := unhide HO
        unfold InOwn at h9
        rw [hnl] at h9
        obtain ⟨a8, c8, e8, hI8⟩ := intsAt_of_own h9
        simp at e8
        obtain ⟨rfl, rfl⟩ := e8
        exact hI8
      have IUF : Hid (∀ (y : Nat) W, Below wr.heap.size wr W → Calls Try.prog 32 #[.slice A j cp, .int .i64 (y : Int)] W fun e w' => e = .returned (.bool (rch F f x y)) ∧ w' = W) := fun y W hW => by
        have h9 := unhide IU U (by rw [← unhide HUL]; exact hU9) A cp wr.heap.size W (by rw [hnl]; exact (unhide HI3).below hW (Nat.le_refl _)) y
        rw [unhide HIN y, hnl] at h9
        exact h9
      obtain ⟨wo, hwo⟩ : ∃ W, W = wr := ⟨_, rfl⟩
      subst hwo
      have HXo := hide (unhide HX)
      have HOo : Hid (InOwn (wo.alloc (Obj.cells #[] 3)) wo.heap.size (.slice (some ⟨wo.heap.size, 0, none⟩) 0 0) []) := World.ownsRow_made wo (e := 3) #[] 0 (Nat.le_refl _) (Nat.zero_le _) (show (#[] : Array Value).size = 0 * 1 from rfl)
      clear HO HX HB HIN HI3 hlt
      go_wp2_with fail
      go_loopw [11, 12] (fun out i wq => ∃ k : Nat, i = .int .i64 (k : Int) ∧ k ≤ n ∧ Hid (InOwn wq wo.heap.size out (setTo (rch F f x) k)) ∧ Below wo.heap.size wo wq) (fun _ i _ => n - (intOf i).toNat)
      case atStart => exact ⟨0, rfl, Nat.zero_le _, HOo, below_new _ _⟩
      case round =>
        clear HOo p0 p1
        obtain ⟨k, rfl, hk, HO, hb3⟩ := hrel
        obtain ⟨A4, cp4, rfl, _⟩ := intsAt_of_own (unhide HO)
        obtain ⟨p0, p1⟩ := ((unhide HXo).below hb3).cells
        have hzb := hb3.size
        by_cases hlt : k < n
        · have IUK := hide (unhide IUF k wr hb3)
          have hy1 : (k : Int) < (n : Int) := by omega
          have hy0 : (0 : Int) ≤ (k : Int) := by omega
          cases hq : rch F f x k
          · have HF := hide (unhide HS0 k hq)
            rw [hq] at IUK
            clear hq
            go_wp2_with fail
            refine (unhide IUK).mono ?_
            rintro e w5 ⟨rfl, hw5⟩
            have hw6 := hw5.symm
            subst hw6
            clear hw5
            go_wp2_with fail
            exact ⟨⟨k + 1, by go_num, by omega, (by show InOwn _ _ _ _; rw [unhide HF]; exact unhide HO), hb3⟩, by simp [intOf]; omega⟩
          · have HF := hide (unhide HS1 k hq)
            rw [hq] at IUK
            have hfl := unhide HSL k
            have hown := unhide HO
            unfold InOwn at hown
            clear hq HO
            go_wp2_with fail
            refine (unhide IUK).mono ?_
            rintro e w5 ⟨rfl, hw5⟩
            have hw6 := hw5.symm
            subst hw6
            clear hw5
            go_wp2_with (at_builtin; refine wpList_append_own _ rfl _ _ 30 rfl wo.heap.size 3 i0 (.int .i64 0) 1 8 Try.underlying30 hi hz0 hz1 hz2 rfl (by decide) _ _ _ rfl (hown.alloc _) ⟨wr.heap.size, 0, none⟩ 1 1 [.int .i64 (k : Int)] rfl rfl (cell_one_new _ _ _) (one_intL _) ?_ ?_ ?_ ?_)
            · unfold maxLen; omega
            · omega
            · first | omega | (simp; omega)
            intro v' w4 hown' hgrow _
            have hb4 := below_append hb3 (Nat.le_refl _) hown hgrow
            rw [← intsV_snocL, ← unhide HF] at hown'
            have hfe : (setTo (rch F f x) k).length + 1 = (setTo (rch F f x) (k + 1)).length := by rw [unhide HF]; simp
            rw [hfe] at hown'
            have HO4 : Hid (InOwn w4 wo.heap.size v' (setTo (rch F f x) (k + 1))) := hown'
            clear hown' hgrow hown HF hfe hfl
            go_wp2_with fail
            exact ⟨⟨k + 1, by go_num, by omega, HO4, hb4⟩, by simp [intOf]; omega⟩
        · obtain rfl : k = n := by omega
          have HO' := hide ((unhide HO).lower hb.size)
          go_wp2_with fail
          go_ret
          exact ⟨⟨_, rfl, unhide HO'⟩, hb.trans (hb3.mono hb.size)⟩
end Lk
end Go.Proofs.Ytnihoabminnbcaa
namespace Go.Proofs.Ytnihoabminnbcaa
namespace Lk
open Go.RowKit
open Gr (Kept EdgeI GrAt GBox below_new InOwn InAt own_below own_lower intsV intsAt_of_own info3)
theorem inK_setTo (f : Nat → Bool) (n y : Nat) : inK (setTo f n) (y : Int) = (decide (y < n) && f y) := by
  have h : setTo f n = nI ((List.range n).filter f) := rfl
  rw [h, inK_nI]
  rw [Bool.eq_iff_iff]
  simp [List.mem_filter]
theorem inK_app (U V : List Int) (x : Int) : inK (U ++ V) x = (inK U x || inK V x) := by
  unfold inK
  rw [List.contains_eq_any_beq, List.any_append, ← List.contains_eq_any_beq, ← List.contains_eq_any_beq]
theorem ints_cellsL {w : World} {B g c : Nat} {U : List Int} (h : w.ownsRow B 3 1 (.slice (some ⟨g, 0, none⟩) U.length c) U.length (intsV U)) : ∀ j u, (intsV U)[j]? = some u → w.cell? ((⟨g, 0, none⟩ : Addr).add j) = some u := fun j u hu => by
  have hj : j < U.length := by
    have := (List.getElem?_eq_some_iff.1 hu).1
    simpa [intsV] using this
  have hadd : (⟨g, 0, none⟩ : Addr).add j = ⟨g, j, none⟩ := by unfold Addr.add; split <;> simp_all
  rw [hadd, h.cellAt j (by omega), hu]
theorem intsV_oneL (U : List Int) : ∀ u ∈ intsV U, u.oneCell' = true := fun u hu => by
  unfold intsV at hu
  obtain ⟨x, _, rfl⟩ := List.mem_map.1 hu
  rfl
theorem intsV_lenL (U : List Int) : (intsV U).length = U.length * 1 := by simp [intsV]
theorem intsV_appL (U V : List Int) : intsV (U ++ V) = intsV U ++ intsV V := by simp [intsV]
/-- What has been gathered, a part more. -/
def andF (D R : Nat → Bool) : Nat → Bool := fun j => D j || R j
/-- The rows that l17Parts tells. -/
def rowsS (Q : List EdgeI) (n : Nat) (K : List Int) : List (List Int) := (prtsS (nbF Q) (leftF n K) (List.range' 0 n) (fun _ => false)).map fun p => setTo p n
theorem prtsS_length (F : Nat → Nat → Bool) (f : Nat → Bool) : ∀ (L : List Nat) (D : Nat → Bool), (prtsS F f L D).length ≤ L.length
  | [], _ => by simp [prtsS]
  | v :: r, D => by
    cases h : (f v && !D v)
    · rw [prtsS_out h]; exact Nat.le_trans (prtsS_length F f r D) (by simp)
    · rw [prtsS_in h]; simp only [List.length_cons]; have := prtsS_length F f r (fun j => D j || rch F f v j); omega
set_option maxRecDepth 100000 in
set_option maxHeartbeats 4000000 in
theorem partsS_any (v : Value) (B n : Nat) (Q : List EdgeI) (u : Value) (K : List Int) (h1 : Q.length ≤ 1048576) (h2 : K.length ≤ 1048576) (hn : n ≤ 9) (w : World) (hB : B ≤ w.heap.size) (hv : GrAt w v B (n : Int) Q) (hu : InAt w u B K) :
    Calls Try.prog 26 #[v, u] w fun e w' => (∃ d vs C, e = .returned d ∧ Grps w' w.heap.size C d vs (rowsS Q n K) ∧ Dist vs ∧ C ≤ w'.heap.size) ∧ Below w.heap.size w w' := by
  obtain ⟨i0, hi, hz0, hz1, hz2⟩ := info_parts info3
  obtain ⟨i1, hi1, hy0, hy1, hy2⟩ := info_parts infoRow
  have PT := hide (fun x (hx : x < n) w1 (hb : Below w.heap.size w w1) => part_any v B n Q u K x hx h1 h2 hn w1 (by have := hb.size; omega) (hv.below hb hB) (hu.below hb hB))
  obtain ⟨au, cu, rfl, hK⟩ := hu
  have IK := hide (fun (y : Int) w1 (hb : Below w.heap.size w w1) => l03In_any au K.length cu B K y h2 w1 (hK.below hb hB))
  have IU := hide (fun (S : List Int) (hS : S.length ≤ 1048576) a c B' w1 (hU2 : IntsAt w1 a S.length B' S) (y : Nat) => l03In_any a S.length c B' S (y : Int) hS w1 hU2)
  obtain ⟨F, hF⟩ : ∃ F, F = nbF Q := ⟨_, rfl⟩
  obtain ⟨f, hf⟩ : ∃ f, f = leftF n K := ⟨_, rfl⟩
  have HFX : Hid (∀ y, y < n → f y = !inK K (y : Int)) := fun y hy => by rw [hf]; exact left_is hy
  have HFL : Hid (∀ y, f y = true → y < n) := fun y hy => left_lt (n := n) (K := K) (by rw [← hf]; exact hy)
  rw [← hF, ← hf] at PT
  obtain ⟨R, hR⟩ : ∃ R, R = prtsS F f (List.range' 0 n) (fun _ => false) := ⟨_, rfl⟩
  have HRR : Hid (rowsS Q n K = R.map fun p => setTo p n) := by show _ = _; unfold rowsS; rw [← hF, ← hf, ← hR]
  rw [unhide HRR]
  have HRL : Hid (R.length ≤ n) := by show _ ≤ _; rw [hR]; have := prtsS_length F f (List.range' 0 n) (fun _ => false); simpa using this
  have H0 : Hid (R = [] ++ prtsS F f (List.range' 0 (n - 0)) (fun _ => false)) := hR
  have HS1 : Hid (∀ k, k < n → ∀ D : Nat → Bool, (f k && !D k) = true → prtsS F f (List.range' k (n - k)) D = rch F f k :: prtsS F f (List.range' (k + 1) (n - (k + 1))) (andF D (rch F f k))) := fun k hk D hh => by
    rw [show n - k = (n - (k + 1)) + 1 by omega, List.range'_succ, prtsS_in hh]
    rfl
  have HS0 : Hid (∀ k, k < n → ∀ D : Nat → Bool, (f k && !D k) = false → prtsS F f (List.range' k (n - k)) D = prtsS F f (List.range' (k + 1) (n - (k + 1))) D) := fun k hk D hh => by
    rw [show n - k = (n - (k + 1)) + 1 by omega, List.range'_succ, prtsS_out hh]
  have HIN : Hid (∀ k, k < n → ∀ y : Nat, inK (setTo (rch F f k) n) (y : Int) = rch F f k y) := fun k hk y => by
    rw [inK_setTo]
    cases hr : rch F f k y
    · simp
    · rw [decide_eq_true]
      · rfl
      · by_cases e : y = k
        · omega
        · exact unhide HFL y (rch_flag (by omega) hr e)
  have HPN : Hid (∀ k, k < n → 0 < (setTo (rch F f k) n).length ∧ (setTo (rch F f k) n).length ≤ n) := fun k hk => by
    refine ⟨?_, setTo_length _ _⟩
    have h9 := unhide HIN k hk k
    rw [rch_here] at h9
    unfold inK at h9
    rw [List.contains_iff_mem] at h9
    exact List.length_pos_of_mem h9
  clear hF hf hR
  obtain ⟨a, n', c, rfl, _⟩ := hv
  go_enter Try.func26, Try.ntmps26
  go_wp2_with fail
  obtain ⟨V1, hV1⟩ : ∃ W, W = w.alloc (Obj.cells #[Value.int .i64 (n : Int), Value.slice a n' c] 26) := ⟨_, rfl⟩
  obtain ⟨V2, hV2⟩ : ∃ W, W = V1.alloc (Obj.cells #[] 30) := ⟨_, rfl⟩
  obtain ⟨V3, hV3⟩ : ∃ W, W = V2.alloc (Obj.cells #[] 3) := ⟨_, rfl⟩
  rw [← hV1, ← hV2, ← hV3]
  have z1 : V1.heap.size = w.heap.size + 1 := by rw [hV1]; simp
  have z2 : V2.heap.size = w.heap.size + 1 + 1 := by rw [hV2]; simp [z1]
  have z3 : V3.heap.size = w.heap.size + 1 + 1 + 1 := by rw [hV3]; simp [z2]
  have HX3 : Hid (GBox V3 w.heap.size (n : Int) (.slice a n' c)) := by show GBox _ _ _ _; rw [hV3, hV2, hV1]; exact ((GBox.new _ _ _).below (below_new _ _)).below (below_new _ _)
  have b3 : Below w.heap.size w V3 := by rw [hV3, hV2, hV1]; exact ((below_new _ _).alloc (by simp) _).alloc (by simp; omega) _
  have HA3 : Hid (Grps V3 (w.heap.size + 1) V3.heap.size (.slice (some ⟨w.heap.size + 1, 0, none⟩) 0 0) [] []) := by
    refine ⟨rfl, ?_, fun j h => absurd h (by simp)⟩
    rw [hV3]
    have h := World.ownsRow_made (size := 1) V1 (e := 30) #[] 0 (Nat.le_refl _) (Nat.zero_le _) (show (#[] : Array Value).size = 0 * 1 from rfl)
    rw [← hV2, z1] at h
    exact own_below h (below_new _ _)
  have HO3 : Hid (InOwn V3 (w.heap.size + 1) (.slice (some ⟨w.heap.size + 1 + 1, 0, none⟩) 0 0) []) := by
    show InOwn _ _ _ _
    have h := World.ownsRow_made V2 (e := 3) #[] 0 (Nat.le_refl _) (Nat.zero_le _) (show (#[] : Array Value).size = 0 * 1 from rfl)
    rw [← hV3, z2] at h
    exact own_lower (by omega) h
  clear hV1 hV2 hV3
  go_loopw [5, 6, 7] (fun al se i wr => ∃ (k : Nat) (D : Nat → Bool) (Ps : List (Nat → Bool)) (G : List (List Int)) (S : List Int) (vs : List Value) (C : Nat), i = .int .i64 (k : Int) ∧ k ≤ n ∧ Hid (R = Ps ++ prtsS F f (List.range' k (n - k)) D) ∧ Hid (∀ y : Nat, inK S (y : Int) = D y) ∧ S.length ≤ 9 * k ∧ Hid (G = Ps.map fun p => setTo p n) ∧ G.length ≤ k ∧ Hid (Grps wr (w.heap.size + 1) C al vs G) ∧ Hid (Dist vs) ∧ C ≤ wr.heap.size ∧ Hid (InOwn wr (w.heap.size + 1) se S) ∧ Hid (∀ g, se.ownBlock = some g → ∀ j (h : j < vs.length), vs[j].ownBlock ≠ some g) ∧ Hid (GBox wr w.heap.size (n : Int) (.slice a n' c)) ∧ Below w.heap.size w wr) (fun _ _ i _ => n - (intOf i).toNat)
  case atStart => exact ⟨0, _, [], [], [], [], _, rfl, Nat.zero_le _, H0, (fun y => rfl), Nat.le_refl _, rfl, Nat.le_refl _, HA3, Dist.nil, Nat.le_refl _, HO3, (fun _ _ j h => absurd h (by simp)), HX3, b3⟩
  case round =>
    clear HA3 HO3 HX3 b3 H0
    obtain ⟨k, D, Ps, G, S, vs, C, rfl, hk, HR, HSD, hSl, HG, hGl, HA, HDI, hC, HO, HDJ, HX, hb⟩ := hrel
    obtain ⟨p0, p1⟩ := (unhide HX).cells
    have hXl := (unhide HX).lt
    obtain ⟨As, cs, rfl, hIs⟩ := intsAt_of_own (unhide HO)
    obtain ⟨Aa, ca, rfl⟩ := row_shape (unhide HA).2.1
    by_cases hlt : k < n
    · have IUK := hide (unhide IU S (by omega) As cs wr.heap.size wr hIs k)
      rw [unhide HSD k] at IUK
      have IKK := hide (unhide IK (k : Int) wr hb)
      have hfk := unhide HFX k hlt
      have hki1 : (k : Int) < (n : Int) := by omega
      have hki0 : (0 : Int) ≤ (k : Int) := by omega
      have HRO : Hid ((f k && !D k) = false → R = Ps ++ prtsS F f (List.range' (k + 1) (n - (k + 1))) D) := fun h => by rw [← unhide HS0 k hlt D h]; exact unhide HR
      have HRI : Hid ((f k && !D k) = true → R = (Ps ++ [rch F f k]) ++ prtsS F f (List.range' (k + 1) (n - (k + 1))) (andF D (rch F f k))) := fun h => by rw [List.append_assoc, List.singleton_append, ← unhide HS1 k hlt D h]; exact unhide HR
      rw [hfk] at HRO HRI
      cases hik : inK K (k : Int)
      · rw [hik] at IKK HRO HRI
        cases hdk : D k
        · rw [hdk] at IUK HRO HRI
          have HR' := hide (unhide HRI (by rfl))
          have HIK := hide (unhide HIN k hlt)
          obtain ⟨hpl0, hpl9⟩ := unhide HPN k hlt
          have PTK := hide (unhide PT k hlt wr hb)
          have HSD' : Hid (∀ y : Nat, inK (S ++ setTo (rch F f k) n) (y : Int) = andF D (rch F f k) y) := fun y => by
            rw [inK_app, unhide HSD y, unhide HIK y]
            rfl
          have HG' : Hid (G ++ [setTo (rch F f k) n] = (Ps ++ [rch F f k]).map fun p => setTo p n) := by
            show _ = _
            rw [List.map_append, ← unhide HG]
            rfl
          obtain ⟨P, hP⟩ : ∃ P, P = setTo (rch F f k) n := ⟨_, rfl⟩
          rw [← hP] at PTK HSD' HG' hpl0 hpl9
          have hown := unhide HO
          unfold InOwn at hown
          have hzb := hb.size
          clear HRO HRI hdk hik hfk HIK hP HO
          go_wp2_with fail
          refine (unhide IKK).mono ?_
          rintro e w5 ⟨rfl, hw5⟩
          have hw6 := hw5.symm
          subst hw6
          clear hw5
          go_wp2_with fail
          refine (unhide IUK).mono ?_
          rintro e w5 ⟨rfl, hw5⟩
          have hw6 := hw5.symm
          subst hw6
          clear hw5
          go_wp2_with fail
          refine (unhide PTK).mono ?_
          rintro e w5 ⟨⟨d, rfl, hd⟩, hb5⟩
          unfold InOwn at hd
          obtain ⟨gp, cp, rfl, hgp, hgp5⟩ := World.ownsRow.form hd hpl0
          have hNW := ints_cellsL hd
          have hz5 := hb5.size
          have hown5 := own_below hown hb5
          have b5 : Below w.heap.size w w5 := hb.trans (hb5.mono hb.size)
          have HX5 := hide ((unhide HX).below hb5)
          have HA5 := hide ((unhide HA).below hb5)
          have hSP : S.length + P.length ≤ 9 * (k + 1) := by omega
          have hbl : ∀ g, (Value.slice As S.length cs).ownBlock = some g → w.heap.size + 1 ≤ g ∧ g < wr.heap.size := fun g hg => World.ownsRow.lt hown g hg
          have HHD := hide hd
          have HB5 := hide b5
          clear PTK hown hb5 IKK IUK hIs p0 p1
          go_wp2_with (at_builtin; refine wpList_append_own_at _ rfl _ _ 30 rfl (w.heap.size + 1) 3 i0 (.int .i64 0) 1 8 Try.underlying30 hi hz0 hz1 hz2 rfl (by decide) _ _ _ rfl hown5 ⟨gp, 0, none⟩ P.length cp (intsV P) rfl (intsV_lenL P) hNW (intsV_oneL P) ?_ ?_ ?_ ?_)
          · unfold maxLen; omega
          · omega
          · omega
          intro se' w6 hown6 hgrow6 _ hat6
          rw [← intsV_appL] at hown6
          have hSl6 : S.length + P.length = (S ++ P).length := by simp
          rw [hSl6] at hown6
          clear hSl6
          have hb56 : Below (w.heap.size + 1) w5 w6 := (Below.refl _ _).grown hgrow6 (by omega) (fun k hk => (World.ownsRow.lt hown5 k hk).1)
          have b6 : Below w.heap.size w w6 := (unhide HB5).trans (hb56.mono (by omega))
          have HX6 : Hid (GBox w6 w.heap.size (n : Int) (.slice a n' c)) := by
            have h9 := unhide HX5
            exact (hgrow6.block _ h9.lt (fun e => by have h8 := World.ownsRow.lt hown5 w.heap.size e.symm; omega)).trans h9
          have hk6 : Kept (fun g => (Value.slice As S.length cs).ownBlock = some g) w5 w6 := Gr.Kept.of_grown hgrow6
          have HA6 : Hid (Grps w6 (w.heap.size + 1) C (.slice Aa G.length ca) vs G) := (unhide HA5).kept hk6 (fun g hg hs => own_ne (unhide HA5).2.1 hown5 hg hs) (fun j h g hg hs => unhide HDJ g hs j h hg)
          have HP6 : Hid (World.ownsRow w6 wr.heap.size 3 1 (.slice (some ⟨gp, 0, none⟩) P.length cp) P.length (intsV P)) := World.ownsRow.kept (unhide HHD) hgrow6 (.inr (fun e => by
            have := hbl gp (by rw [← e]; rfl)
            omega))
          have hz6 := hgrow6.size
          have HDJ6 : Hid (∀ g, se'.ownBlock = some g → (∀ j (h : j < vs.length), vs[j].ownBlock ≠ some g) ∧ gp ≠ g) := fun g hg => by
            rcases hat6 with hat | hat
            · rw [hat] at hg
              refine ⟨unhide HDJ g hg, fun e => ?_⟩
              have := hbl g hg
              omega
            · rw [hat] at hg
              have hge : w5.heap.size = g := by simpa using hg
              refine ⟨fun j h e => ?_, by omega⟩
              have := ((unhide HA5).2.2 j h (by rw [← (unhide HA5).1]; exact h)).2 g e
              omega
          have HO6 : Hid (InOwn w6 (w.heap.size + 1) se' (S ++ P)) := hown6
          obtain ⟨T, hT⟩ : ∃ T, T = S ++ P := ⟨_, rfl⟩
          rw [← hT] at HO6 HSD'
          have hTl : T.length ≤ 9 * (k + 1) := by rw [hT]; simp; omega
          clear hT
          obtain ⟨As6, cs6, rfl, _⟩ := intsAt_of_own (unhide HO6)
          have HDJ7 := HDJ6
          clear hown6 hgrow6 hown5 HX5 HA5 HHD HDJ hb56 hat6 hk6 hNW hd HDJ6
          have hownA := (unhide HA6).2.1
          have b7 := below_new w6 (Obj.cells #[Value.slice (some ⟨gp, 0, none⟩) P.length cp] 30)
          go_wp2_with (at_builtin; refine wpList_append_own_at _ rfl _ _ 36 rfl (w.heap.size + 1) 30 i1 (.slice none 0 0) 1 24 Try.underlying36 hi1 hy0 hy1 hy2 rfl (by decide) _ _ _ rfl (own_below hownA b7) ⟨w6.heap.size, 0, none⟩ 1 1 [Value.slice (some ⟨gp, 0, none⟩) P.length cp] rfl rfl (cell_one_new _ _ _) (by simp [Value.oneCell']) ?_ ?_ ?_ ?_)
          · unfold maxLen; omega
          · omega
          · simp; omega
          intro al' w8 hown8 hgrow8 _ hat8
          have hA7 := (unhide HA6).below b7
          have hP7 := own_below (unhide HP6) b7
          have hO7 := own_below (unhide HO6) b7
          have hk8 : Kept (fun g => (Value.slice Aa G.length ca).ownBlock = some g) (w6.alloc (Obj.cells #[Value.slice (some ⟨gp, 0, none⟩) P.length cp] 30)) w8 := Gr.Kept.of_grown hgrow8
          have hz8 : w6.heap.size < w8.heap.size := by have := hgrow8.size; simp at this; omega
          have HA8 : Hid (Grps w8 (w.heap.size + 1) w8.heap.size al' (vs ++ [Value.slice (some ⟨gp, 0, none⟩) P.length cp]) (G ++ [P])) := hA7.snoc (own_lower (by omega) hP7) (fun g hg => by simp [Value.ownBlock] at hg; omega) (by omega) hown8 hk8
          have HDI8 : Hid (Dist (vs ++ [Value.slice (some ⟨gp, 0, none⟩) P.length cp])) := (unhide HDI).snoc (C := wr.heap.size) (fun j h g hg => by
            have := (hA7.2.2 j h (by rw [← hA7.1]; exact h)).2 g hg
            omega) (fun g hg => by simp [Value.ownBlock] at hg; omega)
          have HO8 : Hid (InOwn w8 (w.heap.size + 1) (.slice As6 T.length cs6) T) := hk8.own hO7 (fun g hg hs => own_ne hA7.2.1 hO7 hs hg)
          have HDJ8 : Hid (∀ g, (Value.slice As6 T.length cs6).ownBlock = some g → ∀ j (h : j < (vs ++ [Value.slice (some ⟨gp, 0, none⟩) P.length cp]).length), (vs ++ [Value.slice (some ⟨gp, 0, none⟩) P.length cp])[j].ownBlock ≠ some g) := fun g hg j h e => by
            obtain ⟨h1, h2⟩ := unhide HDJ7 g hg
            by_cases hj : j < vs.length
            · rw [List.getElem_append_left hj] at e
              exact h1 j hj e
            · have hj3 : j = vs.length := by simp at h; omega
              subst hj3
              simp [Value.ownBlock] at e
              exact h2 e
          have HX8 : Hid (GBox w8 w.heap.size (n : Int) (.slice a n' c)) := by
            have h9 := (unhide HX6).below b7
            exact (hgrow8.block _ h9.lt (fun e => by have h8 := World.ownsRow.lt hownA w.heap.size e.symm; omega)).trans h9
          obtain ⟨Aa8, ca8, rfl⟩ := row_shape hown8
          have b8 : Below w.heap.size w w8 := (b6.trans (b7.mono b6.size)).trans (((Below.refl (w.heap.size + 1) _).grown hgrow8 (by simp; omega) (fun k hk => (World.ownsRow.lt hownA k hk).1)).mono (by omega))
          have hGl8 : (G ++ [P]).length ≤ k + 1 := by simp; omega
          clear hown8 hgrow8 hat8 hA7 hP7 hO7 hk8 hownA b7 HA6 HP6 HO6 HX6 HDJ7 HDI HX
          go_wp2_with fail
          exact ⟨⟨k + 1, _, _, _, _, _, _, by go_num, by omega, HR', HSD', hTl, HG', hGl8, HA8, HDI8, Nat.le_refl _, HO8, HDJ8, HX8, b8⟩, by simp [intOf]; omega⟩
        · rw [hdk] at IUK HRO
          have HR' := hide (unhide HRO (by rfl))
          clear HRO HRI hdk hik hfk
          go_wp2_with fail
          refine (unhide IKK).mono ?_
          rintro e w5 ⟨rfl, hw5⟩
          have hw6 := hw5.symm
          subst hw6
          clear hw5
          go_wp2_with fail
          refine (unhide IUK).mono ?_
          rintro e w5 ⟨rfl, hw5⟩
          have hw6 := hw5.symm
          subst hw6
          clear hw5
          go_wp2_with fail
          exact ⟨⟨k + 1, D, Ps, G, S, vs, C, by go_num, by omega, HR', HSD, by omega, HG, by omega, HA, HDI, hC, HO, HDJ, HX, hb⟩, by simp [intOf]; omega⟩
      · rw [hik] at IKK HRO
        have HR' := hide (unhide HRO (by simp))
        clear HRO HRI hik hfk IUK
        go_wp2_with fail
        refine (unhide IKK).mono ?_
        rintro e w5 ⟨rfl, hw5⟩
        have hw6 := hw5.symm
        subst hw6
        clear hw5
        go_wp2_with fail
        exact ⟨⟨k + 1, D, Ps, G, S, vs, C, by go_num, by omega, HR', HSD, by omega, HG, by omega, HA, HDI, hC, HO, HDJ, HX, hb⟩, by simp [intOf]; omega⟩
    · obtain rfl : k = n := by omega
      have hr : R = Ps := by rw [unhide HR]; simp [prtsS]
      have HA' := hide ((unhide HA).lower (show w.heap.size ≤ w.heap.size + 1 by omega))
      rw [unhide HG, ← hr] at HA'
      have hgl : G.length = (R.map fun p => setTo p k).length := by rw [unhide HG, ← hr]
      rw [← hgl] at HA'
      go_wp2_with fail
      go_ret
      exact ⟨⟨_, vs, C, rfl, unhide HA', unhide HDI, hC⟩, hb⟩
end Lk
end Go.Proofs.Ytnihoabminnbcaa
namespace Go.Proofs.Ytnihoabminnbcaa
namespace Lk
open Go.RowKit
open Gr (Kept EdgeI GrAt GBox below_new InOwn InAt own_below own_lower intsV intsAt_of_own info3 graphOk specGraph_any)
theorem nbF_is {Q : List EdgeI} (hq : Apart Q) : nbF Q = lnkF Q := by
  funext v u
  exact nb_is hq v u
theorem prts_mem (F : Nat → Nat → Bool) : ∀ (L : List Nat) (f : Nat → Bool), (∀ v ∈ L, v < 9) → ∀ p ∈ prts F L f, ∀ j, p j = true → f j = true
  | [], _, _, p, hp, _, _ => by cases hp
  | v :: r, f, hL, p, hp, j, hj => by
    have hv := hL v List.mem_cons_self
    cases h : f v
    · rw [prts_out h] at hp
      exact prts_mem F r f (fun x hx => hL x (List.mem_cons_of_mem _ hx)) p hp j hj
    · rw [prts_in h] at hp
      rcases List.mem_cons.1 hp with rfl | hp
      · by_cases e : j = v
        · subst e; exact h
        · exact rch_flag hv hj e
      · have := prts_mem F r _ (fun x hx => hL x (List.mem_cons_of_mem _ hx)) p hp j hj
        simp at this
        exact this.1
theorem rows_same {s : Int} {Q : List EdgeI} (hg : graphOk s Q = true) (K : List Int) : rowsS Q s.toNat K = (partsR s Q K).map fun p => setTo p 9 := by
  obtain ⟨s0, s9⟩ := ok_size hg
  obtain ⟨n, rfl⟩ := Int.eq_ofNat_of_zero_le s0
  rw [Int.toNat_natCast]
  have hq := apart_of hg
  unfold rowsS partsR
  rw [nbF_is hq, Int.toNat_natCast]
  have hn : n ≤ 9 := by omega
  have e1 := prts_same (F := lnkF Q) (f := leftF n K) (fun u w => lnkF_swap hq u w) (List.range' 0 n) (fun _ => false) (fun v hv => by have := List.mem_range'_1.1 hv; omega) (fun u w _ _ h => by cases h)
  have e2 : (fun j => leftF n K j && !(fun _ => false) j) = leftF n K := by funext j; simp
  rw [e1, e2]
  have e3 : List.range' 0 9 = List.range' 0 n ++ List.range' n (9 - n) := by
    have := List.range'_append_1 (s := 0) (m := n) (n := 9 - n)
    rw [show 9 = n + (9 - n) by omega, ← this]
    simp
  rw [e3, prts_app (lnkF Q) (List.range' 0 n) (List.range' n (9 - n)) (leftF n K) (fun v hv => by
    have := List.mem_range'_1.1 hv
    cases h : leftF n K v
    · rfl
    · have := left_lt h; omega)]
  refine List.map_congr_left (fun p hp => ?_)
  have hm := prts_mem (lnkF Q) (List.range' 0 n) (leftF n K) (fun v hv => by have := List.mem_range'_1.1 hv; omega) p hp
  obtain ⟨d, hd⟩ : ∃ d, 9 = n + d := ⟨9 - n, by omega⟩
  rw [hd, setTo_low p n d (fun j h _ => by
    cases hj : p j
    · rfl
    · have := left_lt (hm j hj); omega)]
/-- How many rows are of an odd length. -/
def oddL (G : List (List Int)) : Nat := (G.map fun r => r.length % 2).sum
theorem oddL_next (G : List (List Int)) (k : Nat) (h : k < G.length) : oddL (G.take (k + 1)) = oddL (G.take k) + G[k].length % 2 := by
  unfold oddL
  rw [List.take_succ_eq_append_getElem h, List.map_append, List.sum_append]
  simp
theorem oddL_le : ∀ (G : List (List Int)), oddL G ≤ G.length
  | [] => by simp [oddL]
  | p :: r => by
    have := oddL_le r
    unfold oddL at *
    simp only [List.map_cons, List.sum_cons, List.length_cons]
    omega
theorem odd_same (Ps : List (Nat → Bool)) : oddL (Ps.map fun p => setTo p 9) = oddN Ps := by
  unfold oddL oddN
  rw [List.map_map]
  rfl
theorem rowsS_length (Q : List EdgeI) (n : Nat) (K : List Int) : (rowsS Q n K).length ≤ n := by
  unfold rowsS
  rw [List.length_map]
  have := prtsS_length (nbF Q) (leftF n K) (List.range' 0 n) (fun _ => false)
  simpa using this
theorem rowsS_row (Q : List EdgeI) (n : Nat) (K : List Int) : ∀ r ∈ rowsS Q n K, r.length ≤ n := fun r hr => by
  unfold rowsS at hr
  obtain ⟨p, _, rfl⟩ := List.mem_map.1 hr
  exact setTo_length _ _
/-- What PiecesOf tells. -/
def piecesR (s : Int) (Q : List EdgeI) (K : List Int) : List (List Int) := if graphOk s Q = true then (partsR s Q K).map fun p => setTo p 9 else []
end Lk
end Go.Proofs.Ytnihoabminnbcaa
namespace Go.Proofs.Ytnihoabminnbcaa
namespace Lk
open Gr (EdgeI graphOk hit)
theorem prts_apart (F : Nat → Nat → Bool) : ∀ (L : List Nat) (f : Nat → Bool), (∀ v ∈ L, v < 9) → (prts F L f).Pairwise fun p q => ∀ u, p u = true → q u = false
  | [], _, _ => List.Pairwise.nil
  | v :: r, f, hL => by
    have hr := fun x hx => hL x (List.mem_cons_of_mem v hx)
    cases h : f v
    · rw [prts_out h]; exact prts_apart F r f hr
    · rw [prts_in h]
      refine List.Pairwise.cons (fun q hq u hu => ?_) (prts_apart F r _ hr)
      cases hqu : q u
      · rfl
      · have := prts_mem F r _ hr q hq u hqu
        rw [hu] at this
        simp at this
theorem prts_closed (F : Nat → Nat → Bool) (hs : ∀ u w, F u w = F w u) : ∀ (L : List Nat) (f : Nat → Bool), (∀ v ∈ L, v < 9) → (∀ u, f u = true → u < 9) → ∀ p ∈ prts F L f, ∀ u w, p u = true → F u w = true → f w = true → p w = true
  | [], _, _, _, p, hp, _, _, _, _, _ => by cases hp
  | v :: r, f, hL, hf, p, hp, u, w, hu, hF, hw => by
    have hr := fun x hx => hL x (List.mem_cons_of_mem v hx)
    have hv := hL v List.mem_cons_self
    cases h : f v
    · rw [prts_out h] at hp; exact prts_closed F hs r f hr hf p hp u w hu hF hw
    · rw [prts_in h] at hp
      rcases List.mem_cons.1 hp with rfl | hp
      · exact rch_step hv hu (rch_lt hv hu) (hf w hw) hF hw
      · have hu2 := prts_mem F r _ hr p hp u hu
        have hu3 : f u = true ∧ rch F f v u = false := by simpa using hu2
        have hw2 : rch F f v w = false := by
          cases hq : rch F f v w
          · rfl
          · have := rch_step hv hq (hf w hw) (hf u hu3.1) (by rw [hs]; exact hF) hu3.1
            rw [hu3.2] at this
            cases this
        exact prts_closed F hs r _ hr (fun x hx => hf x (by simp at hx; exact hx.1)) p hp u w hu hF (by simp [hw, hw2])
theorem prts_cover (F : Nat → Nat → Bool) : ∀ (L : List Nat) (f : Nat → Bool) (u : Nat), u ∈ L → f u = true → ∃ p ∈ prts F L f, p u = true
  | [], _, _, h, _ => by cases h
  | v :: r, f, u, hu, hf => by
    cases h : f v
    · rw [prts_out h]
      rcases List.mem_cons.1 hu with rfl | hu
      · rw [h] at hf; cases hf
      · exact prts_cover F r f u hu hf
    · rw [prts_in h]
      by_cases hr : rch F f v u = true
      · exact ⟨_, List.mem_cons_self, hr⟩
      · have hr0 : rch F f v u = false := by simpa using hr
        rcases List.mem_cons.1 hu with rfl | hu
        · exact absurd (rch_here F f u) hr
        · obtain ⟨p, hp, hpu⟩ := prts_cover F r (fun j => f j && !rch F f v j) u hu (by simp [hf, hr0])
          exact ⟨p, List.mem_cons_of_mem _ hp, hpu⟩
/-- Parts as a function. -/
def nth (Ps : List (Nat → Bool)) (j : Nat) : Nat → Bool := Ps.getD j (fun _ => false)
theorem nth_at (Ps : List (Nat → Bool)) (j : Nat) (h : j < Ps.length) : nth Ps j = Ps[j] := by simp [nth, h]
/-- What is known of parts: n vertices, those left are f, edges F. -/
structure Pts (n len : Nat) (F : Nat → Nat → Bool) (f : Nat → Bool) (P : Nat → Nat → Bool) : Prop where
  few : len ≤ 9
  low : ∀ u, f u = true → u < n
  here : ∀ j u, P j u = true → f u = true
  apart : ∀ i j u, i < len → j < len → P i u = true → P j u = true → i = j
  shut : ∀ j u w, j < len → P j u = true → F u w = true → f w = true → P j w = true
  all : ∀ u, f u = true → ∃ j, j < len ∧ P j u = true
theorem pts_of {s : Int} {Q : List EdgeI} (hg : graphOk s Q = true) (K : List Int) : Pts s.toNat (partsR s Q K).length (lnkF Q) (leftF s.toNat K) (nth (partsR s Q K)) := by
  obtain ⟨s0, s9⟩ := ok_size hg
  have hq := apart_of hg
  have h9 : ∀ v ∈ List.range' 0 9, v < 9 := fun v hv => by have := List.mem_range'_1.1 hv; omega
  have hap := prts_apart (lnkF Q) (List.range' 0 9) (leftF s.toNat K) h9
  have hcl := prts_closed (lnkF Q) (lnkF_swap hq) (List.range' 0 9) (leftF s.toNat K) h9 (fun u hu => by have := left_lt hu; omega)
  have hme := prts_mem (lnkF Q) (List.range' 0 9) (leftF s.toNat K) h9
  have hco := prts_cover (lnkF Q) (List.range' 0 9) (leftF s.toNat K)
  have hfe := prts_length (lnkF Q) (List.range' 0 9) (leftF s.toNat K)
  have hout : ∀ j, ¬ j < (partsR s Q K).length → nth (partsR s Q K) j = fun _ => false := fun j hj => by unfold nth; rw [List.getD_eq_getElem?_getD, List.getElem?_eq_none (by omega)]; rfl
  refine ⟨by unfold partsR; simpa using hfe, fun u hu => left_lt hu, fun j u hj => ?_, fun i j u hi hj h1 h2 => ?_, fun j u w hj hu hF hf => ?_, fun u hu => ?_⟩
  · by_cases h : j < (partsR s Q K).length
    · rw [nth_at _ j h] at hj
      exact hme _ (List.getElem_mem h) u hj
    · rw [hout j h] at hj
      cases hj
  · rw [nth_at _ i hi] at h1
    rw [nth_at _ j hj] at h2
    have hp := List.pairwise_iff_getElem.1 hap
    rcases Nat.lt_trichotomy i j with h | h | h
    · have := hp i j hi hj h u h1
      have e : (partsR s Q K)[j] u = false := this
      rw [h2] at e
      cases e
    · exact h
    · have := hp j i hj hi h u h2
      have e : (partsR s Q K)[i] u = false := this
      rw [h1] at e
      cases e
  · rw [nth_at _ j hj] at hu ⊢
    exact hcl _ (List.getElem_mem hj) u w hu hF hf
  · obtain ⟨p, hp, hpu⟩ := hco u (List.mem_range'_1.2 (by have := left_lt hu; omega)) hu
    obtain ⟨j, hj, rfl⟩ := List.mem_iff_getElem.1 hp
    have hj' : j < (partsR s Q K).length := hj
    exact ⟨j, hj', by rw [nth_at _ j hj']; exact hpu⟩
theorem mem_setTo (p : Nat → Bool) (k v : Nat) : ((v : Int) ∈ setTo p k) ↔ v < k ∧ p v = true := by
  unfold setTo
  rw [List.mem_map]
  constructor
  · rintro ⟨a, ha, e⟩
    obtain ⟨h1, h2⟩ := List.mem_filter.1 ha
    obtain rfl : a = v := by omega
    exact ⟨List.mem_range.1 h1, h2⟩
  · rintro ⟨h1, h2⟩
    exact ⟨v, List.mem_filter.2 ⟨List.mem_range.2 h1, h2⟩, rfl⟩
theorem setTo_range (f : Nat → Bool) (k : Nat) : ∀ x ∈ setTo f k, 0 ≤ x ∧ x < (k : Int) := fun x hx => by
  unfold setTo at hx
  obtain ⟨j, hj, rfl⟩ := List.mem_map.1 hx
  have := List.mem_range.1 (List.mem_filter.1 hj).1
  omega
theorem setTo_nodup (p : Nat → Bool) (k : Nat) : (setTo p k).Nodup := by
  unfold setTo
  rw [List.nodup_iff_pairwise_ne, List.pairwise_map]
  have h : ((List.range k).filter p).Nodup := (List.nodup_range).filter _
  exact (List.nodup_iff_pairwise_ne.1 h).imp (fun h => by omega)
/-- The row of marks. -/
def rowM (n : Nat) (m : Nat → Int) : List Int := (List.range n).map m
theorem rowM_length (n : Nat) (m : Nat → Int) : (rowM n m).length = n := by simp [rowM]
theorem rowM_at (n : Nat) (m : Nat → Int) (v : Nat) (h : v < n) : (rowM n m)[v]? = some (m v) := by simp [rowM, h]
def setM (m : Nat → Int) (v : Nat) (x : Int) : Nat → Int := fun u => if u = v then x else m u
theorem rowM_set (n : Nat) (m : Nat → Int) (v : Nat) (x : Int) : (rowM n m).set v x = rowM n (setM m v x) := by
  apply List.ext_getElem?
  intro i
  rw [List.getElem?_set]
  by_cases hi : i < n
  · rw [rowM_at n _ i hi, rowM_at n _ i hi]
    unfold setM
    by_cases e : v = i
    · subst e
      simp [rowM_length, hi]
    · rw [if_neg e, if_neg (fun h => e h.symm)]
  · have h1 : (rowM n m)[i]? = none := List.getElem?_eq_none (by rw [rowM_length]; omega)
    have h2 : (rowM n (setM m v x))[i]? = none := List.getElem?_eq_none (by rw [rowM_length]; omega)
    rw [h1, h2]
    by_cases e : v = i
    · subst e; simp [rowM_length]; omega
    · simp [e]
theorem countP_set : ∀ (n : Nat) (m : Nat → Int) (v : Nat) (x : Int), v < n → m v = 0 → x ≠ 0 → (List.range n).countP (fun u => decide (setM m v x u ≠ 0)) = (List.range n).countP (fun u => decide (m u ≠ 0)) + 1
  | 0, _, _, _, h, _, _ => absurd h (by omega)
  | n + 1, m, v, x, h, h0, hx => by
    rw [List.range_succ, List.countP_append, List.countP_append]
    by_cases e : v = n
    · subst e
      have h1 : (List.range v).countP (fun u => decide (setM m v x u ≠ 0)) = (List.range v).countP (fun u => decide (m u ≠ 0)) := by
        refine List.countP_congr (fun u hu => ?_)
        have := List.mem_range.1 hu
        unfold setM
        rw [if_neg (by omega)]
      rw [h1]
      simp [setM, h0, hx]
    · rw [countP_set n m v x (by omega) h0 hx]
      have e2 : setM m v x n = m n := by unfold setM; rw [if_neg (fun h => e h.symm)]
      simp only [List.countP_singleton, e2]
      omega
/-- What the marks tell while they are laid: i parts whole, of the next one k vertices. -/
structure PM (n len : Nat) (P : Nat → Nat → Bool) (i k : Nat) (m : Nat → Int) (c : Nat) : Prop where
  val : ∀ v, v < n → m v = 0 ∨ ∃ j, j < len ∧ m v = (j : Int) + 1 ∧ P j v = true
  zero : ∀ v, v < n → (m v = 0 ↔ (∀ j, j < i → P j v = false) ∧ ¬ (v : Int) ∈ (setTo (P i) 9).take k)
  cnt : c = (List.range n).countP (fun u => decide (m u ≠ 0))
theorem pm0 (n len : Nat) (P : Nat → Nat → Bool) : PM n len P 0 0 (fun _ => 0) 0 where
  val := fun v _ => .inl rfl
  zero := fun v _ => by simp
  cnt := by simp
theorem pm_step {n len : Nat} {F : Nat → Nat → Bool} {f : Nat → Bool} {P : Nat → Nat → Bool} (hP : Pts n len F f P) {i k : Nat} {m : Nat → Int} {c : Nat} (h : PM n len P i k m c) (hi : i < len) (v : Nat) (hk : (setTo (P i) 9)[k]? = some (v : Int)) :
    v < n ∧ f v = true ∧ m v = 0 ∧ PM n len P i (k + 1) (setM m v ((i : Int) + 1)) (c + 1) := by
  have hmem : (v : Int) ∈ setTo (P i) 9 := List.mem_of_getElem? hk
  obtain ⟨_, hpv⟩ := (mem_setTo _ _ _).1 hmem
  have hfv := hP.here i v hpv
  have hvn := hP.low v hfv
  have hkl : k < (setTo (P i) 9).length := (List.getElem?_eq_some_iff.1 hk).1
  have hkg : (setTo (P i) 9)[k] = (v : Int) := (List.getElem?_eq_some_iff.1 hk).2
  have hnt : ¬ (v : Int) ∈ (setTo (P i) 9).take k := fun hm => by
    obtain ⟨a, ha, hav⟩ := List.mem_iff_getElem.1 hm
    have hak : a < k := by simp at ha; omega
    rw [List.getElem_take] at hav
    have hn := List.pairwise_iff_getElem.1 (List.nodup_iff_pairwise_ne.1 (setTo_nodup (P i) 9)) a k (by omega) hkl hak
    exact hn (by rw [hav, hkg])
  have hm0 : m v = 0 := (h.zero v hvn).2 ⟨fun j hj => by
    cases hq : P j v
    · rfl
    · have := hP.apart j i v (by omega) hi hq hpv; omega, hnt⟩
  have htk : (setTo (P i) 9).take (k + 1) = (setTo (P i) 9).take k ++ [(v : Int)] := by rw [List.take_succ_eq_append_getElem hkl, hkg]
  refine ⟨hvn, hfv, hm0, ?_, ?_, ?_⟩
  · intro u hu
    unfold setM
    by_cases e : u = v
    · subst e
      rw [if_pos rfl]
      exact .inr ⟨i, hi, rfl, hpv⟩
    · rw [if_neg e]
      exact h.val u hu
  · intro u hu
    unfold setM
    rw [htk]
    by_cases e : u = v
    · subst e
      rw [if_pos rfl]
      constructor
      · intro h0; omega
      · intro h0; exact absurd (by simp) h0.2
    · rw [if_neg e, h.zero u hu]
      have : ¬ (u : Int) = (v : Int) := by omega
      simp [this]
  · rw [countP_set n m v _ hvn hm0 (by omega), ← h.cnt]
theorem pm_row {n len : Nat} {P : Nat → Nat → Bool} (hn : n ≤ 9) {i : Nat} {m : Nat → Int} {c : Nat} (h : PM n len P i (setTo (P i) 9).length m c) : PM n len P (i + 1) 0 m c where
  val := h.val
  zero := fun v hv => by
    rw [h.zero v hv, List.take_length, mem_setTo]
    constructor
    · rintro ⟨h1, h2⟩
      refine ⟨fun j hj => ?_, by simp⟩
      by_cases e : j = i
      · subst e
        cases hq : P j v
        · rfl
        · exact absurd ⟨by omega, hq⟩ h2
      · exact h1 j (by omega)
    · rintro ⟨h1, _⟩
      exact ⟨fun j hj => h1 j (by omega), fun h2 => by rw [h1 i (by omega)] at h2; cases h2.2⟩
  cnt := h.cnt
theorem countP_not : ∀ (L : List Nat) (q : Nat → Bool), L.countP (fun u => !q u) + L.countP q = L.length
  | [], _ => rfl
  | x :: r, q => by
    have := countP_not r q
    rw [List.countP_cons, List.countP_cons, List.length_cons]
    cases q x <;> simp <;> omega
/-- All marks laid: as many as are left, and two ends of an edge bear one mark. -/
theorem pm_count {n len : Nat} {F : Nat → Nat → Bool} {q : Nat → Bool} {P : Nat → Nat → Bool} (hP : Pts n len F (leftF n (setTo q n)) P) {m : Nat → Int} {c : Nat} (h : PM n len P len 0 m c) : c + (setTo q n).length = n := by
  have h1 : c = (List.range n).countP (fun u => !q u) := by
    rw [h.cnt]
    refine List.countP_congr (fun u hu => ?_)
    have hun := List.mem_range.1 hu
    have hl : leftF n (setTo q n) u = !q u := by
      rw [left_is hun, inK_setTo, decide_eq_true hun, Bool.true_and]
    have hz := h.zero u hun
    simp only [List.take_zero, List.not_mem_nil, not_false_eq_true, and_true] at hz
    have key : m u = 0 ↔ leftF n (setTo q n) u = false := by
      rw [hz]
      constructor
      · intro h0
        cases hq : leftF n (setTo q n) u
        · rfl
        · obtain ⟨j, hj, hp⟩ := hP.all u hq
          rw [h0 j hj] at hp
          cases hp
      · intro h0 j _
        cases hq : P j u
        · rfl
        · have := hP.here j u hq
          rw [h0] at this
          cases this
    rw [hl] at key
    cases hq : q u
    · rw [hq] at key
      simp at key
      simp [key]
    · rw [hq] at key
      simp at key
      simp [key]
  have h2 : (setTo q n).length = (List.range n).countP q := by
    unfold setTo
    rw [List.length_map, List.countP_eq_length_filter]
  have := countP_not (List.range n) q
  rw [List.length_range] at this
  omega
theorem pm_edge {n len : Nat} {F : Nat → Nat → Bool} {f : Nat → Bool} {P : Nat → Nat → Bool} (hP : Pts n len F f P) {m : Nat → Int} {i k c : Nat} (h : PM n len P i k m c) {u w : Nat} (hu : u < n) (hw : w < n) (hF : F u w = true) (h1 : 0 < m u) (h2 : 0 < m w) : m u = m w := by
  rcases h.val u hu with e | ⟨j, hj, e, hp⟩
  · omega
  · rcases h.val w hw with e2 | ⟨j', hj', e2, hp'⟩
    · omega
    · have h3 := hP.shut j u w hj hp hF (hP.here j' w hp')
      have := hP.apart j j' w hj hj' h3 hp'
      omega
theorem edge_link {s : Int} {Q : List EdgeI} (hg : graphOk s Q = true) (e : EdgeI) (he : e ∈ Q) (a b : Nat) (ha : e.A = (a : Int)) (hb : e.B = (b : Int)) : lnkF Q a b = true := by
  rw [lnkF_any (apart_of hg), List.any_eq_true]
  exact ⟨e, he, by unfold hit; simp [ha, hb]⟩
/-- Nobody is beside itself. -/
theorem nbrs_few {n : Nat} {Q : List EdgeI} (v : Nat) (hv : v < n) : (nbrs (n : Int) Q (v : Int)).length < n := by
  unfold nbrs
  split
  · rw [Int.toNat_natCast]
    unfold nextTo
    rw [List.length_map]
    have h1 : ((List.range n).filter (nb Q (v : Int))).length < (List.range n).length := by
      refine List.length_filter_lt_length_iff_exists.2 ⟨v, List.mem_range.2 hv, ?_⟩
      unfold nb
      simp
    simpa using h1
  · simp; omega
end Lk
end Go.Proofs.Ytnihoabminnbcaa
namespace Go.Proofs.Ytnihoabminnbcaa
namespace Lk
/-! ### Parts -/
/-- How many sets are odd, counted by flags. -/
def oddC (Ps : List (Nat → Bool)) : Nat := (Ps.map fun p => cnt p % 2).sum
theorem oddC_cons (p : Nat → Bool) (r : List (Nat → Bool)) : oddC (p :: r) = cnt p % 2 + oddC r := by simp [oddC]
/-- However a set is put aside: the odd parts without it are no more than it and those who have nobody. -/
theorem weak {F : Nat → Nat → Bool} {f S : Nat → Bool} {μ : Nat → Nat} (hf : ∀ v, f v = true → v < 9) (hm : Mt F f μ) : ∀ (Ps : List (Nat → Bool)), (∀ p ∈ Ps, ∀ u, p u = true → f u = true ∧ S u = false) → (∀ p ∈ Ps, ∀ u w, p u = true → F u w = true → f w = true → S w = false → p w = true) → Ps.Pairwise (fun p q => ∀ u, p u = true → q u = false) →
    oddC Ps ≤ cnt (fun w => Ps.any (fun p => p (μ w)) && (freeQ f μ w || (f w && S w)))
  | [], _, _, _ => by simp [oddC]
  | p :: r, hin, hcl, hap => by
    rw [List.pairwise_cons] at hap
    have ih := weak hf hm r (fun q hq => hin q (List.mem_cons_of_mem _ hq)) (fun q hq => hcl q (List.mem_cons_of_mem _ hq)) hap.2
    have hsub : ∀ j, j < 9 → (r.any (fun p => p (μ j)) && (freeQ f μ j || (f j && S j))) = true → ((p :: r).any (fun p => p (μ j)) && (freeQ f μ j || (f j && S j))) = true := fun j _ h => by
      rw [List.any_cons]
      rw [Bool.and_eq_true] at h ⊢
      exact ⟨by rw [h.1]; simp, h.2⟩
    have hle := cnt_le hsub
    rw [oddC_cons]
    by_cases hpar : cnt p % 2 = 0
    · omega
    · have hex : ∃ v, p v = true ∧ (μ v = v ∨ p (μ v) = false) := by
        apply Classical.byContradiction
        intro hn
        refine hpar (cnt_even μ _ p (Nat.le_refl _) (fun v hv => ⟨hf v (hin p List.mem_cons_self v hv).1, ?_, fun e => hn ⟨v, hv, .inl e⟩, hm.inv v⟩))
        cases h : p (μ v)
        · exact absurd ⟨v, hv, .inr h⟩ hn
        · rfl
      obtain ⟨v, hv, hw⟩ := hex
      obtain ⟨fv, sv⟩ := hin p List.mem_cons_self v hv
      have hfm : f (μ v) = true := by
        by_cases e : μ v = v
        · rw [e]; exact fv
        · exact (hm.flag e).2
      have hgood : (freeQ f μ (μ v) || (f (μ v) && S (μ v))) = true := by
        rcases hw with e | e
        · rw [e]; simp [freeQ, fv, e]
        · have hne : μ v ≠ v := fun e2 => by rw [e2, hv] at e; cases e
          cases hS : S (μ v)
          · have := hcl p List.mem_cons_self v (μ v) hv (hm.edge v hne) hfm hS
            rw [this] at e; cases e
          · simp [hfm]
      have hlt := cnt_lt hsub (hf _ hfm) (by rw [hgood, List.any_cons, hm.inv, hv]; simp) (by
        rw [hm.inv]
        have : (r.any fun p => p v) = false := by
          rw [List.any_eq_false]
          intro q hq
          rw [hap.1 q hq v hv]
          simp
        rw [this]; simp)
      omega
theorem weak_dfc {F : Nat → Nat → Bool} {f S : Nat → Bool} {μ : Nat → Nat} (hf : ∀ v, f v = true → v < 9) (hm : Mt F f μ) (Ps : List (Nat → Bool)) (h1 : ∀ p ∈ Ps, ∀ u, p u = true → f u = true ∧ S u = false) (h2 : ∀ p ∈ Ps, ∀ u w, p u = true → F u w = true → f w = true → S w = false → p w = true) (h3 : Ps.Pairwise (fun p q => ∀ u, p u = true → q u = false)) :
    oddC Ps ≤ dfc f μ + cnt (fun w => f w && S w) := by
  have h := weak hf hm Ps h1 h2 h3
  have h4 := cnt_le (p := fun w => Ps.any (fun p => p (μ w)) && (freeQ f μ w || (f w && S w))) (q := fun w => freeQ f μ w || (f w && S w)) (fun j _ hj => by rw [Bool.and_eq_true] at hj; exact hj.2)
  have h5 := cnt_or (freeQ f μ) (fun w => f w && S w)
  unfold dfc
  omega
/-- Who has nobody, counted by parts. -/
theorem free_parts (q : Nat → Bool) : ∀ (Ps : List (Nat → Bool)), (∀ p ∈ Ps, cnt (fun v => p v && q v) ≤ cnt p % 2) → cnt (fun v => Ps.any (fun p => p v) && q v) ≤ oddC Ps
  | [], _ => by simp [cnt, oddC]
  | p :: r, h => by
    have ih := free_parts q r (fun p hp => h p (List.mem_cons_of_mem _ hp))
    have h1 := h p List.mem_cons_self
    have h2 := cnt_or (fun v => p v && q v) (fun v => r.any (fun p => p v) && q v)
    have h3 : cnt (fun v => (p :: r).any (fun p => p v) && q v) = cnt (fun v => (p v && q v) || (r.any (fun p => p v) && q v)) := cnt_eq (fun j _ => by
      rw [List.any_cons]
      cases p j <;> simp)
    rw [oddC_cons]
    omega
theorem Rch.back {F : Nat → Nat → Bool} (hs : ∀ u w, F u w = F w u) {f : Nat → Bool} {v u : Nat} (h : Rch F f v u) (hv : f v = true) : Rch F f u v ∧ f u = true := by
  induction h with
  | here => exact ⟨.here, hv⟩
  | step _ hu hw hF hf ih => exact ⟨(Rch.here.step hw hu (by rw [hs]; exact hF) ih.2).trans ih.1, hf⟩
theorem prts_conn {F : Nat → Nat → Bool} (hs : ∀ u w, F u w = F w u) : ∀ (L : List Nat) (f : Nat → Bool), (∀ v ∈ L, v < 9) → ∀ p ∈ prts F L f, ∀ u w, p u = true → p w = true → Rch F f u w
  | [], _, _, p, hp, _, _, _, _ => by cases hp
  | v :: r, f, hL, p, hp, u, w, hu, hw => by
    have hr := fun x hx => hL x (List.mem_cons_of_mem v hx)
    have hv := hL v List.mem_cons_self
    cases h : f v
    · rw [prts_out h] at hp
      exact prts_conn hs r f hr p hp u w hu hw
    · rw [prts_in h] at hp
      rcases List.mem_cons.1 hp with rfl | hp
      · have h1 := ((rch_iff hv u).1 hu).back hs h
        exact h1.1.trans ((rch_iff hv w).1 hw)
      · have h1 := prts_conn hs r _ hr p hp u w hu hw
        exact h1.mono (fun j hj => by simp at hj; exact hj.1)
/-- The theorem of Tutte and Berge: some pairing and some set meet. -/
theorem tutte_berge {F : Nat → Nat → Bool} (hs : ∀ u w, F u w = F w u) : ∀ (k : Nat) (f : Nat → Bool), (∀ v, f v = true → v < 9) → cnt f ≤ k →
    ∃ μ S, Mt F f μ ∧ (∀ v, S v = true → f v = true) ∧ dfc f μ + cnt S ≤ oddC (prts F (List.range' 0 9) (fun v => f v && !S v))
  | 0, f, hf, hk => by
    have h0 : ∀ v, f v = false := fun v => by
      cases h : f v
      · rfl
      · have h1 := cnt_lt (p := fun _ => false) (q := f) (fun _ _ h => by cases h) (hf v h) h rfl
        omega
    refine ⟨fun v => v, fun _ => false, mt_id F f, fun _ h => by (cases h), ?_⟩
    have e1 : dfc f (fun v => v) = 0 := cnt_none (fun j _ => by simp [freeQ, h0])
    have e2 : cnt (fun _ : Nat => false) = 0 := cnt_none (fun _ _ => rfl)
    omega
  | k + 1, f, hf, hk => by
    by_cases hall : ∀ v, f v = true → ∃ μ, Mx F f μ ∧ μ v = v
    · -- no set at all
      obtain ⟨μ, hμ⟩ := mx_some F f
      refine ⟨μ, fun _ => false, hμ.1, fun _ h => by (cases h), ?_⟩
      have e2 : cnt (fun _ : Nat => false) = 0 := cnt_none (fun _ _ => rfl)
      have ef : (fun v => f v && !(fun _ => false) v) = f := by funext v; simp
      rw [e2, ef, Nat.add_zero]
      have h9 : ∀ v ∈ List.range' 0 9, v < 9 := fun v hv => by have := List.mem_range'_1.1 hv; omega
      have hme := prts_mem F (List.range' 0 9) f h9
      have hcl := prts_closed F hs (List.range' 0 9) f h9 hf
      have hcv := prts_cover F (List.range' 0 9) f
      have hcn := prts_conn hs (List.range' 0 9) f h9
      have h1 := free_parts (freeQ f μ) (prts F (List.range' 0 9) f) (fun p hp => by
        by_cases h0 : cnt (fun v => p v && freeQ f μ v) = 0
        · omega
        · obtain ⟨u, hu9, hu⟩ := cnt_some h0
          rw [Bool.and_eq_true] at hu
          obtain ⟨hpu, hqu⟩ := hu
          have hqu' : f u = true ∧ μ u = u := by unfold freeQ at hqu; simpa using hqu
          have hone : ∀ w, p w = true → freeQ f μ w = true → w = u := fun w hpw hqw => by
            have hqw' : f w = true ∧ μ w = w := by unfold freeQ at hqw; simpa using hqw
            apply Classical.byContradiction
            intro hne
            exact gallai hs hf hall 9 μ u w hμ (Ne.symm hne) hqu'.1 hqw'.1 hqu'.2 hqw'.2 ((rch_iff hu9 w).2 (hcn p hp u w hpu hpw))
          have hle : cnt (fun v => p v && freeQ f μ v) ≤ 1 := by
            rw [← cnt_one u hu9]
            refine cnt_le (fun j _ hj => ?_)
            rw [Bool.and_eq_true] at hj
            exact decide_eq_true (hone j hj.1 hj.2)
          have hev := cnt_even μ _ (fun v => if v = u then false else p v) (Nat.le_refl _) (fun v hv => by
            have e1 : v ≠ u := fun e => by simp [e] at hv
            have hpv : p v = true := by simpa [e1] using hv
            have fv := hme p hp v hpv
            have hne : μ v ≠ v := fun e => e1 (hone v hpv (by simp [freeQ, fv, e]))
            have fm := (hμ.1.flag hne).2
            have hpm := hcl p hp v (μ v) hpv (hμ.1.edge v hne) fm
            refine ⟨hf v fv, ?_, hne, hμ.1.inv v⟩
            have e2 : μ v ≠ u := fun e => e1 (by rw [← hμ.1.inv v, e, hqu'.2])
            simp [e2, hpm])
          have hup := cnt_upd p u hu9 false
          simp only [hpu, Bool.toNat_true, Bool.toNat_false] at hup
          omega)
      have h2 : cnt (freeQ f μ) = cnt (fun v => (prts F (List.range' 0 9) f).any (fun p => p v) && freeQ f μ v) := cnt_eq (fun j hj => by
        cases hq : freeQ f μ j
        · simp
        · have fj : f j = true := by unfold freeQ at hq; simp at hq; exact hq.1
          obtain ⟨p, hp, hpj⟩ := hcv j (List.mem_range'_1.2 (by omega)) fj
          have : (prts F (List.range' 0 9) f).any (fun p => p j) = true := List.any_eq_true.2 ⟨p, hp, hpj⟩
          rw [this]; rfl)
      unfold dfc
      omega
    · -- a vertex that all greatest pairings need
      have hex : ∃ v, f v = true ∧ ∀ μ, Mx F f μ → μ v ≠ v := by
        apply Classical.byContradiction
        intro hn
        refine hall (fun v hv => ?_)
        apply Classical.byContradiction
        intro h2
        exact hn ⟨v, hv, fun μ hμ e => h2 ⟨μ, hμ, e⟩⟩
      obtain ⟨x, fx, hx⟩ := hex
      have hup := cnt_upd f x (hf x fx) false
      simp only [fx, Bool.toNat_true, Bool.toNat_false] at hup
      obtain ⟨ν, S, hν, hS, hd⟩ := tutte_berge hs k (fun v => if v = x then false else f v) (fun v hv => hf v (by
        by_cases e : v = x
        · simp [e] at hv
        · simpa [e] using hv)) (by omega)
      have hνx : ν x = x := hν.out x (by simp)
      have hSx : S x = false := by
        cases h : S x
        · rfl
        · have := hS x h; simp at this
      have hν' : Mt F f ν := ⟨hν.inv, fun v hv => hν.out v (by
        by_cases e : v = x
        · simp [e]
        · simpa [e] using hv), hν.edge⟩
      obtain ⟨μ, hμ⟩ := mx_some F f
      have hlt : dfc f μ < dfc f ν := by
        apply Classical.byContradiction
        intro hn
        exact hx ν ⟨hν', fun μ' h' => Nat.le_trans (Nat.le_of_not_lt hn) (hμ.2 μ' h')⟩ hνx
      have par : ∀ ρ, Mt F f ρ → (dfc f ρ + cnt f) % 2 = 0 := fun ρ hρ => by
        have h1 := cnt_even ρ _ (fun v => f v && !freeQ f ρ v) (Nat.le_refl _) (fun v hv => by
          have hv' : f v = true ∧ ρ v ≠ v := by
            unfold freeQ at hv
            rw [Bool.and_eq_true] at hv
            refine ⟨hv.1, fun e => ?_⟩
            rw [hv.1, e] at hv
            simp at hv
          have fm := (hρ.flag hv'.2).2
          refine ⟨hf v hv'.1, ?_, hv'.2, hρ.inv v⟩
          unfold freeQ
          rw [hρ.inv]
          simp [fm, Ne.symm hv'.2])
        have h2 : cnt (fun v => f v && !freeQ f ρ v) + cnt (freeQ f ρ) = cnt f := by
          unfold cnt
          rw [List.countP_eq_countP_filter_add (List.range 9) f (freeQ f ρ)]
          have a1 : List.countP f ((List.range 9).filter (freeQ f ρ)) = List.countP (freeQ f ρ) (List.range 9) := by
            rw [List.countP_filter]
            refine List.countP_congr (fun v _ => ?_)
            unfold freeQ
            cases f v <;> simp
          have a2 : List.countP f ((List.range 9).filter (fun a => !freeQ f ρ a)) = List.countP (fun v => f v && !freeQ f ρ v) (List.range 9) := by
            rw [List.countP_filter]
          rw [a1, a2]
          omega
        unfold dfc
        omega
      have p1 := par μ hμ.1
      have p2 := par ν hν'
      have hdx : dfc f ν = dfc (fun v => if v = x then false else f v) ν + 1 := by
        have h1 := cnt_upd (freeQ f ν) x (hf x fx) false
        have q1 : freeQ f ν x = true := by simp [freeQ, fx, hνx]
        simp only [q1, Bool.toNat_true, Bool.toNat_false] at h1
        have h2 : cnt (fun v => if v = x then false else freeQ f ν v) = cnt (freeQ (fun v => if v = x then false else f v) ν) := cnt_eq (fun j _ => by
          unfold freeQ
          by_cases e : j = x <;> simp [e])
        unfold dfc
        omega
      refine ⟨μ, fun v => if v = x then true else S v, hμ.1, fun v hv => ?_, ?_⟩
      · by_cases e : v = x
        · rw [e]; exact fx
        · have := hS v (by simpa [e] using hv)
          simpa [e] using this
      · have hsx := cnt_upd S x (hf x fx) true
        simp only [hSx, Bool.toNat_true, Bool.toNat_false] at hsx
        have ef : (fun v => f v && !(if v = x then true else S v)) = (fun v => (if v = x then false else f v) && !S v) := by
          funext v
          by_cases e : v = x <;> simp [e]
        rw [ef]
        omega
/-! ### Lists -/
theorem ahead_trans' : ∀ (A B C : List Int), A.length = B.length → B.length = C.length → aheadF A B = true → aheadF B C = true → aheadF A C = true
  | [], [], C, _, _, h, _ => by simp [aheadF] at h
  | x :: a, y :: b, z :: c, h1, h2, hab, hbc => by
    have l1 : a.length = b.length := by simpa using h1
    have l2 : b.length = c.length := by simpa using h2
    unfold aheadF at hab hbc ⊢
    by_cases e1 : x = y
    · subst e1
      rw [if_neg (by simp)] at hab
      by_cases e2 : x = z
      · subst e2
        rw [if_neg (by simp)] at hbc ⊢
        exact ahead_trans' a b c l1 l2 hab hbc
      · rw [if_pos e2] at hbc ⊢
        exact hbc
    · rw [if_pos e1] at hab
      have hxy : x < y := by simpa using hab
      by_cases e2 : y = z
      · subst e2
        rw [if_pos e1]
        exact hab
      · rw [if_pos e2] at hbc
        have hyz : y < z := by simpa using hbc
        rw [if_pos (by omega)]
        simp; omega
theorem ahead_total : ∀ (A B : List Int), A.length = B.length → A = B ∨ aheadF A B = true ∨ aheadF B A = true
  | [], [], _ => .inl rfl
  | x :: a, y :: b, h => by
    have l1 : a.length = b.length := by simpa using h
    unfold aheadF
    by_cases e : x = y
    · subst e
      rcases ahead_total a b l1 with h1 | h1 | h1
      · exact .inl (by rw [h1])
      · exact .inr (.inl (by rw [if_neg (by simp)]; exact h1))
      · exact .inr (.inr (by rw [if_neg (by simp)]; exact h1))
    · rcases Int.lt_or_gt_of_ne e with h1 | h1
      · exact .inr (.inl (by rw [if_pos e]; simpa using h1))
      · exact .inr (.inr (by rw [if_pos (Ne.symm e)]; simpa using h1))
theorem ahead_irrefl : ∀ (A : List Int), aheadF A A = false
  | [] => by simp [aheadF]
  | x :: a => by unfold aheadF; rw [if_neg (by simp)]; exact ahead_irrefl a
theorem ahead_same (x : Int) (A B : List Int) : aheadF (x :: A) (x :: B) = aheadF A B := by
  show (if x ≠ x then _ else _) = _
  rw [if_neg (by simp)]
theorem ahead_app (P A B : List Int) : aheadF (P ++ A) (P ++ B) = aheadF A B := by
  induction P with
  | nil => rfl
  | cons x r ih => rw [List.cons_append, List.cons_append, ahead_same]; exact ih
/-! ### Sets as numbers, the first vertex the highest figure -/
def num : Nat → (Nat → Bool) → Nat
  | 0, _ => 0
  | n + 1, f => 2 * num n f + (if f n = true then 1 else 0)
theorem num_congr : ∀ (n : Nat) (f g : Nat → Bool), (∀ u, u < n → f u = g u) → num n f = num n g
  | 0, _, _, _ => rfl
  | n + 1, f, g, h => by
    unfold num
    rw [num_congr n f g (fun u hu => h u (by omega)), h n (by omega)]
theorem num_inj : ∀ (n : Nat) (f g : Nat → Bool), num n f = num n g → ∀ u, u < n → f u = g u
  | 0, _, _, _, u, hu => absurd hu (by omega)
  | n + 1, f, g, h, u, hu => by
    unfold num at h
    have h1 : num n f = num n g ∧ f n = g n := by
      cases hf : f n <;> cases hg : g n <;> rw [hf, hg] at h <;> simp at h ⊢ <;> omega
    by_cases e : u = n
    · subst e; exact h1.2
    · exact num_inj n f g h1.1 u (by omega)
/-- The set behind one: the last vertex that it has goes, all behind that one come in. -/
def decF (n k : Nat) (f : Nat → Bool) : Nat → Bool := fun u => if u = k then false else if k < u ∧ u < n then true else f u
theorem num_dec (f : Nat → Bool) (k : Nat) (hk : f k = true) : ∀ d, (∀ u, k < u → u < k + 1 + d → f u = false) → num (k + 1 + d) (decF (k + 1 + d) k f) + 1 = num (k + 1 + d) f
  | 0, _ => by
    have e : num k (decF (k + 1 + 0) k f) = num k f := num_congr k _ _ (fun u hu => by unfold decF; rw [if_neg (by omega), if_neg (by omega)])
    show 2 * num k (decF (k + 1 + 0) k f) + (if decF (k + 1 + 0) k f k = true then 1 else 0) + 1 = 2 * num k f + (if f k = true then 1 else 0)
    rw [e, hk]
    unfold decF
    simp
  | d + 1, h => by
    have ih := num_dec f k hk d (fun u h1 h2 => h u h1 (by omega))
    have e : num (k + 1 + d) (decF (k + 1 + (d + 1)) k f) = num (k + 1 + d) (decF (k + 1 + d) k f) := num_congr _ _ _ (fun u hu => by
      unfold decF
      by_cases e1 : u = k
      · simp [e1]
      · rw [if_neg e1, if_neg e1]
        by_cases e2 : k < u
        · rw [if_pos ⟨e2, by omega⟩, if_pos ⟨e2, by omega⟩]
        · rw [if_neg (by omega), if_neg (by omega)])
    show 2 * num (k + 1 + d) (decF (k + 1 + (d + 1)) k f) + (if decF (k + 1 + (d + 1)) k f (k + 1 + d) = true then 1 else 0) + 1 = 2 * num (k + 1 + d) f + (if f (k + 1 + d) = true then 1 else 0)
    rw [e, h (k + 1 + d) (by omega) (by omega)]
    have e3 : decF (k + 1 + (d + 1)) k f (k + 1 + d) = true := by
      unfold decF
      rw [if_neg (by omega), if_pos (by omega)]
    rw [e3]
    simp
    omega
theorem num_zero : ∀ (n : Nat) (f : Nat → Bool), (∀ u, u < n → f u = false) → num n f = 0
  | 0, _, _ => rfl
  | n + 1, f, h => by
    unfold num
    rw [num_zero n f (fun u hu => h u (by omega)), h n (by omega)]
    rfl
theorem num_all : ∀ (n : Nat) (f g : Nat → Bool), (∀ u, u < n → g u = true) → num n f ≤ num n g
  | 0, _, _, _ => Nat.le_refl _
  | n + 1, f, g, h => by
    have := num_all n f g (fun u hu => h u (by omega))
    unfold num
    rw [h n (by omega)]
    split <;> simp <;> omega
theorem setTo_lt (f : Nat → Bool) (k : Nat) : ∀ x ∈ setTo f k, 0 ≤ x ∧ x < (k : Int) := fun x hx => by
  unfold setTo at hx
  obtain ⟨j, hj, rfl⟩ := List.mem_map.1 hx
  have := List.mem_range.1 (List.mem_filter.1 hj).1
  omega
/-- Of two sets of one size the one with the greater number stands ahead as a list. -/
theorem num_ahead : ∀ (n : Nat) (f g : Nat → Bool), num n g < num n f → (setTo f n).length = (setTo g n).length → aheadF (setTo f n) (setTo g n) = true
  | 0, _, _, h, _ => absurd h (by simp [num])
  | n + 1, f, g, h, hl => by
    unfold num at h
    rcases Nat.lt_trichotomy (num n g) (num n f) with h1 | h1 | h1
    · -- they differ ahead
      have h2 := num_first n f g h1
      obtain ⟨P, A, B, x, hf, hg, hB⟩ := h2
      have ef : ∃ A', setTo f (n + 1) = P ++ x :: A' := by
        cases hq : f n
        · rw [setTo_out hq, hf]; exact ⟨A, rfl⟩
        · rw [setTo_in hq, hf]; exact ⟨A ++ [(n : Int)], by simp⟩
      obtain ⟨A', ef⟩ := ef
      have eg : ∃ B', setTo g (n + 1) = P ++ B' ∧ ∀ y ∈ B', x < y := by
        have hx : x < (n : Int) := (setTo_lt f n x (by rw [hf]; simp)).2
        cases hq : g n
        · rw [setTo_out hq, hg]; exact ⟨B, rfl, hB⟩
        · rw [setTo_in hq, hg]
          refine ⟨B ++ [(n : Int)], by simp, fun y hy => ?_⟩
          rcases List.mem_append.1 hy with hy | hy
          · exact hB y hy
          · have : y = (n : Int) := by simpa using hy
            omega
      obtain ⟨B', eg, hB'⟩ := eg
      rw [ef, eg] at hl ⊢
      rw [ahead_app]
      cases B' with
      | nil => simp at hl
      | cons y r =>
        have hxy := hB' y (by simp)
        unfold aheadF
        rw [if_pos (by omega)]
        simpa using hxy
    · rw [h1] at h
      have hf : f n = true := by
        cases hq : f n
        · rw [hq] at h; simp at h; split at h <;> omega
        · rfl
      have hg : g n = false := by
        cases hq : g n
        · rfl
        · rw [hq, hf] at h; simp at h
      have hs : setTo f n = setTo g n := setTo_congr (fun u hu => num_inj n f g h1.symm u hu)
      rw [setTo_in hf, setTo_out hg, hs] at hl
      simp at hl
    · exfalso
      have hb : ∀ b : Bool, (if b = true then 1 else 0) ≤ 1 := fun b => by cases b <;> simp
      have := hb (f n)
      have := hb (g n)
      omega
where
  num_first : ∀ (n : Nat) (f g : Nat → Bool), num n g < num n f → ∃ P A B x, setTo f n = P ++ x :: A ∧ setTo g n = P ++ B ∧ ∀ y ∈ B, x < y
    | 0, _, _, h => absurd h (by simp [num])
    | n + 1, f, g, h => by
      unfold num at h
      rcases Nat.lt_trichotomy (num n g) (num n f) with h1 | h1 | h1
      · obtain ⟨P, A, B, x, hf, hg, hB⟩ := num_first n f g h1
        have hx : x < (n : Int) := (setTo_lt f n x (by rw [hf]; simp)).2
        have ef : ∃ A', setTo f (n + 1) = P ++ x :: A' := by
          cases hq : f n
          · rw [setTo_out hq, hf]; exact ⟨A, rfl⟩
          · rw [setTo_in hq, hf]; exact ⟨A ++ [(n : Int)], by simp⟩
        obtain ⟨A', ef⟩ := ef
        cases hq : g n
        · exact ⟨P, A', B, x, ef, by rw [setTo_out hq, hg], hB⟩
        · refine ⟨P, A', B ++ [(n : Int)], x, ef, by rw [setTo_in hq, hg]; simp, fun y hy => ?_⟩
          rcases List.mem_append.1 hy with hy | hy
          · exact hB y hy
          · have : y = (n : Int) := by simpa using hy
            omega
      · rw [h1] at h
        have hf : f n = true := by
          cases hq : f n
          · rw [hq] at h; simp at h; split at h <;> omega
          · rfl
        have hg : g n = false := by
          cases hq : g n
          · rfl
          · rw [hq, hf] at h; simp at h
        have hs : setTo f n = setTo g n := setTo_congr (fun u hu => num_inj n f g h1.symm u hu)
        exact ⟨setTo g n, [], [], (n : Int), by rw [setTo_in hf, hs], by rw [setTo_out hg]; simp, fun y hy => by cases hy⟩
      · exfalso
        have hb : ∀ b : Bool, (if b = true then 1 else 0) ≤ 1 := fun b => by cases b <;> simp
        have := hb (f n)
        have := hb (g n)
        omega
/-! ### Sets as numbers, the first vertex the lowest figure -/
def bitF (x : Nat) : Nat → Bool := fun v => (x / 2 ^ v) % 2 == 1
def numL : Nat → (Nat → Bool) → Nat
  | 0, _ => 0
  | n + 1, f => numL n f + (if f n = true then 2 ^ n else 0)
theorem numL_lt : ∀ (n : Nat) (f : Nat → Bool), numL n f < 2 ^ n
  | 0, _ => by simp [numL]
  | n + 1, f => by
    have := numL_lt n f
    unfold numL
    rw [Nat.pow_succ]
    split <;> omega
theorem numL_bit : ∀ (n : Nat) (f : Nat → Bool) (v : Nat), v < n → bitF (numL n f) v = f v
  | 0, _, _, h => absurd h (by omega)
  | n + 1, f, v, h => by
    have hl := numL_lt n f
    unfold numL
    by_cases e : v = n
    · subst e
      unfold bitF
      cases hq : f v
      · simp [Nat.div_eq_of_lt hl]
      · rw [if_pos rfl, Nat.add_div_right _ (Nat.two_pow_pos v), Nat.div_eq_of_lt hl]
        rfl
    · have hv : v < n := by omega
      have ih := numL_bit n f v hv
      cases hq : f n
      · simpa using ih
      · rw [if_pos rfl]
        unfold bitF at ih ⊢
        have e2 : 2 ^ n = 2 ^ v * (2 * 2 ^ (n - v - 1)) := by
          rw [← Nat.pow_succ', ← Nat.pow_add]
          congr 1
          omega
        rw [e2, Nat.add_mul_div_left _ _ (Nat.two_pow_pos v), Nat.add_mul_mod_self_left]
        exact ih
section
variable (F : Nat → Nat → Bool) (n : Nat)
/-- The size of a set, less the odd parts without it. -/
def valB (f : Nat → Bool) : Int := ((setTo f n).length : Int) - (oddN (prts F (List.range' 0 9) (fun v => decide (v < n) && !f v)) : Int)
/-- Is the first set better? -/
def bet (f g : Nat → Bool) : Bool := decide (valB F n f < valB F n g) || (decide (valB F n f = valB F n g) && (decide ((setTo f n).length < (setTo g n).length) || (decide ((setTo f n).length = (setTo g n).length) && aheadF (setTo f n) (setTo g n))))
theorem val_congr {f g : Nat → Bool} (h : ∀ u, u < n → f u = g u) : valB F n f = valB F n g := by
  unfold valB
  rw [setTo_congr h]
  have e : (fun v => decide (v < n) && !f v) = (fun v => decide (v < n) && !g v) := by
    funext v
    by_cases hv : v < n
    · rw [h v hv]
    · simp [hv]
  rw [e]
theorem bet_congr {f g f' g' : Nat → Bool} (h : ∀ u, u < n → f u = f' u) (k : ∀ u, u < n → g u = g' u) : bet F n f g = bet F n f' g' := by
  unfold bet
  rw [val_congr F n h, val_congr F n k, setTo_congr h, setTo_congr k]
theorem bet_iff (f g : Nat → Bool) : bet F n f g = true ↔ valB F n f < valB F n g ∨ (valB F n f = valB F n g ∧ ((setTo f n).length < (setTo g n).length ∨ ((setTo f n).length = (setTo g n).length ∧ aheadF (setTo f n) (setTo g n) = true))) := by
  unfold bet
  simp
theorem bet_irrefl (f : Nat → Bool) : bet F n f f = false := by
  cases h : bet F n f f
  · rfl
  · have := (bet_iff F n f f).1 h
    rw [ahead_irrefl] at this
    simp at this
theorem bet_trans {f g h : Nat → Bool} (h1 : bet F n f g = true) (h2 : bet F n g h = true) : bet F n f h = true := by
  rw [bet_iff] at h1 h2 ⊢
  rcases h1 with h1 | ⟨e1, h1⟩
  · rcases h2 with h2 | ⟨e2, _⟩
    · exact .inl (by omega)
    · exact .inl (by omega)
  · rcases h2 with h2 | ⟨e2, h2⟩
    · exact .inl (by omega)
    · refine .inr ⟨by omega, ?_⟩
      rcases h1 with h1 | ⟨l1, a1⟩
      · rcases h2 with h2 | ⟨l2, _⟩
        · exact .inl (by omega)
        · exact .inl (by omega)
      · rcases h2 with h2 | ⟨l2, a2⟩
        · exact .inl (by omega)
        · exact .inr ⟨by omega, ahead_trans' _ _ _ l1 l2 a1 a2⟩
theorem bet_total (f g : Nat → Bool) : setTo f n = setTo g n ∨ bet F n f g = true ∨ bet F n g f = true := by
  rw [bet_iff, bet_iff]
  rcases Int.lt_trichotomy (valB F n f) (valB F n g) with h | h | h
  · exact .inr (.inl (.inl h))
  · rcases Nat.lt_trichotomy (setTo f n).length (setTo g n).length with l | l | l
    · exact .inr (.inl (.inr ⟨h, .inl l⟩))
    · rcases ahead_total _ _ l with a | a | a
      · exact .inl a
      · exact .inr (.inl (.inr ⟨h, .inr ⟨l, a⟩⟩))
      · exact .inr (.inr (.inr ⟨h.symm, .inr ⟨l.symm, a⟩⟩))
    · exact .inr (.inr (.inr ⟨h.symm, .inl l⟩))
  · exact .inr (.inr (.inl h))
/-- No set is better. -/
def Opt (b : Nat → Bool) : Prop := ∀ g, bet F n g b = false
theorem opt_same {a b : Nat → Bool} (ha : Opt F n a) (hb : Opt F n b) : setTo a n = setTo b n := by
  rcases bet_total F n a b with h | h | h
  · exact h
  · rw [hb a] at h; cases h
  · rw [ha b] at h; cases h
/-- The number of the best set of the ones up to x. -/
def blkX : Nat → Nat
  | 0 => 0
  | x + 1 => if bet F n (bitF (x + 1)) (bitF (blkX x)) = true then x + 1 else blkX x
theorem blkX_best : ∀ (x : Nat) (g : Nat → Bool), numL n g ≤ x → bet F n g (bitF (blkX F n x)) = false
  | 0, g, h => by
    have e : numL n g = 0 := by omega
    have hg : ∀ u, u < n → g u = bitF 0 u := fun u hu => by rw [← numL_bit n g u hu, e]
    rw [bet_congr F n hg (fun _ _ => rfl)]
    exact bet_irrefl F n _
  | x + 1, g, h => by
    unfold blkX
    by_cases hb : bet F n (bitF (x + 1)) (bitF (blkX F n x)) = true
    · rw [if_pos hb]
      by_cases e : numL n g = x + 1
      · have hg : ∀ u, u < n → g u = bitF (x + 1) u := fun u hu => by rw [← numL_bit n g u hu, e]
        rw [bet_congr F n hg (fun _ _ => rfl)]
        exact bet_irrefl F n _
      · cases hq : bet F n g (bitF (x + 1))
        · rfl
        · have h1 := bet_trans F n hq hb
          rw [blkX_best x g (by omega)] at h1
          cases h1
    · rw [if_neg hb]
      by_cases e : numL n g = x + 1
      · have hg : ∀ u, u < n → g u = bitF (x + 1) u := fun u hu => by rw [← numL_bit n g u hu, e]
        rw [bet_congr F n hg (fun _ _ => rfl)]
        simpa using hb
      · exact blkX_best x g (by omega)
theorem blkX_opt : Opt F n (bitF (blkX F n (2 ^ n - 1))) := fun g => blkX_best F n _ g (by have := numL_lt n g; omega)
/-- What holds while the sets are gone through downward: none from the current one on is better than the best one, which is among them. -/
structure Down (cur b : Nat → Bool) : Prop where
  best : ∀ g, num n cur ≤ num n g → bet F n g b = false
  among : num n cur ≤ num n b
  cin : ∀ v, cur v = true → v < n
  bin : ∀ v, b v = true → v < n
theorem down0 : Down F n (allF n) (allF n) where
  best := fun g h => by
    have h1 := num_all n g (allF n) (fun u hu => by simp [allF, hu])
    have hg : ∀ u, u < n → g u = allF n u := num_inj n g (allF n) (by omega)
    rw [bet_congr F n hg (fun _ _ => rfl)]
    exact bet_irrefl F n _
  among := Nat.le_refl _
  cin := fun v h => by simpa [allF] using h
  bin := fun v h => by simpa [allF] using h
theorem dec_in {cur : Nat → Bool} {k : Nat} (h : ∀ v, cur v = true → v < n) : ∀ v, decF n k cur v = true → v < n := fun v hv => by
  unfold decF at hv
  split at hv
  · cases hv
  · split at hv
    · omega
    · exact h v hv
theorem num_decF {cur : Nat → Bool} {k : Nat} (hk : k < n) (hc : cur k = true) (hz : ∀ u, k < u → u < n → cur u = false) : num n (decF n k cur) + 1 = num n cur := by
  obtain ⟨d, rfl⟩ : ∃ d, n = k + 1 + d := ⟨n - (k + 1), by omega⟩
  exact num_dec cur k hc d hz
theorem down_take {cur b : Nat → Bool} {k : Nat} (h : Down F n cur b) (hk : k < n) (hc : cur k = true) (hz : ∀ u, k < u → u < n → cur u = false)
    (ht : valB F n (decF n k cur) < valB F n b ∨ (valB F n (decF n k cur) = valB F n b ∧ (setTo (decF n k cur) n).length < (setTo b n).length)) : Down F n (decF n k cur) (decF n k cur) where
  best := fun g hg => by
    have hn := num_decF n hk hc hz
    by_cases e : num n g = num n (decF n k cur)
    · rw [bet_congr F n (num_inj n g _ e) (fun _ _ => rfl)]
      exact bet_irrefl F n _
    · cases hq : bet F n g (decF n k cur)
      · rfl
      · have h2 : bet F n (decF n k cur) b = true := by
          rw [bet_iff]
          rcases ht with ht | ⟨ht1, ht2⟩
          · exact .inl ht
          · exact .inr ⟨ht1, .inl ht2⟩
        have h3 := bet_trans F n hq h2
        rw [h.best g (by omega)] at h3
        cases h3
  among := Nat.le_refl _
  cin := dec_in n h.cin
  bin := dec_in n h.cin
theorem down_keep {cur b : Nat → Bool} {k : Nat} (h : Down F n cur b) (hk : k < n) (hc : cur k = true) (hz : ∀ u, k < u → u < n → cur u = false)
    (ht : ¬ (valB F n (decF n k cur) < valB F n b ∨ (valB F n (decF n k cur) = valB F n b ∧ (setTo (decF n k cur) n).length < (setTo b n).length))) : Down F n (decF n k cur) b where
  best := fun g hg => by
    have hn := num_decF n hk hc hz
    by_cases e : num n g = num n (decF n k cur)
    · rw [bet_congr F n (num_inj n g _ e) (fun _ _ => rfl)]
      cases hq : bet F n (decF n k cur) b
      · rfl
      · rw [bet_iff] at hq
        rcases hq with hq | ⟨e1, hq | ⟨e2, hq⟩⟩
        · exact absurd (.inl hq) ht
        · exact absurd (.inr ⟨e1, hq⟩) ht
        · have ha := num_ahead n b (decF n k cur) (by have := h.among; omega) e2.symm
          have := ahead_trans' _ _ _ e2 e2.symm hq ha
          rw [ahead_irrefl] at this
          cases this
    · exact h.best g (by omega)
  among := by have := num_decF n hk hc hz; have := h.among; omega
  cin := dec_in n h.cin
  bin := h.bin
theorem down_end {cur b : Nat → Bool} (h : Down F n cur b) (hz : ∀ u, u < n → cur u = false) : Opt F n b := fun g => h.best g (by rw [num_zero n cur hz]; omega)
end
end Lk
end Go.Proofs.Ytnihoabminnbcaa
namespace Go.Proofs.Ytnihoabminnbcaa
namespace Lk
open Go.RowKit
open Gr (Blk Kept below_new setMany setMany_all below_setCells results_cell1)
/-- A set without another one's first vertices. -/
def wo (f g : Nat → Bool) (k : Nat) : Nat → Bool := fun v => f v && !(decide (v < k) && g v)
theorem wo_next (f g : Nat → Bool) (k : Nat) : (fl (wo f g k)).setIfInBounds k (.bool (wo f g k k && !g k)) = fl (wo f g (k + 1)) := by
  rw [fl_set]
  refine fl_congr (fun v _ => ?_)
  unfold wo
  by_cases h : v = k
  · subst h; simp
  · have : v < k + 1 ↔ v < k := by omega
    simp [h, this]
/-- A set of which all from k on have come in. -/
def upF (n k : Nat) (f : Nat → Bool) : Nat → Bool := fun u => if k ≤ u ∧ u < n then true else f u
theorem up_in (n j : Nat) (f : Nat → Bool) (hj : j < n) : (fl (upF n (j + 1) f)).setIfInBounds j (.bool true) = fl (upF n j f) := by
  rw [fl_set]
  refine fl_congr (fun u _ => ?_)
  unfold upF
  by_cases h : u = j
  · subst h; simp [hj]
  · rw [if_neg h]
    have : (j + 1 ≤ u ∧ u < n) ↔ (j ≤ u ∧ u < n) := by omega
    simp only [this]
theorem up_out (n j : Nat) (f : Nat → Bool) : (fl (upF n (j + 1) f)).setIfInBounds j (.bool false) = fl (decF n j f) := by
  rw [fl_set]
  refine fl_congr (fun u _ => ?_)
  unfold upF decF
  by_cases h : u = j
  · rw [if_pos h, if_pos h]
  · rw [if_neg h, if_neg h]
    have : (j + 1 ≤ u ∧ u < n) ↔ (j < u ∧ u < n) := by omega
    simp only [this]
/-- What stepDown leaves. -/
def Stepped (n L : Nat) (f : Nat → Bool) (b : Bool) (w' : World) : Prop :=
  (b = true → ∃ k, k < n ∧ f k = true ∧ (∀ u, k < u → u < n → f u = false) ∧ Blk w' L (fl (decF n k f)) 60) ∧ (b = false → ∀ u, u < n → f u = false)
end Lk
end Go.Proofs.Ytnihoabminnbcaa
