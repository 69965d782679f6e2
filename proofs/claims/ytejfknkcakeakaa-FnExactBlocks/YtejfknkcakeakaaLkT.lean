/-
  The contract of spec.l17Part: the part of a vertex.
-/
import Derived.Test.YtejfknkcakeakaaLkU
import Derived.Test.YtejfknkcakeakaaLkR
import Derived.Test.YtejfknkcakeakaaLk0
import Derived.Maps.AppendAt
import Derived.Deep.RegionHeld3
namespace Go.Proofs.Ytejfknkcakeakaa
namespace Lk
open Go.RowKit
open Gr (Blk Kept EdgeI GrAt GBox below_new InOwn InAt own_below own_lower intsV intsAt_of_own info3)

/-- Numbers of vertices as numbers. -/
def nI (U : List Nat) : List Int := U.map fun j => ((j : Nat) : Int)

theorem inK_nI (U : List Nat) (x : Nat) : inK (nI U) (x : Int) = decide (x ∈ U) := by
  have key : inK (nI U) (x : Int) = true ↔ x ∈ U := by
    unfold inK nI
    simp
    constructor
    · rintro ⟨a, ha, e⟩
      have : a = x := by omega
      rw [← this]; exact ha
    · intro h
      exact ⟨x, h, rfl⟩
  cases h : inK (nI U) (x : Int)
  · rw [decide_eq_false]
    intro hx
    rw [key.2 hx] at h
    cases h
  · rw [decide_eq_true (key.1 h)]

/-- Who is beside whom. -/
def nbF (Q : List EdgeI) : Nat → Nat → Bool := fun v u => nb Q (v : Int) u

/-- The neighbours below n. -/
def nxt (Q : List EdgeI) (v n : Nat) : List Nat := (List.range n).filter (nb Q (v : Int))

theorem nxt_is (Q : List EdgeI) (v n : Nat) : nextTo Q (v : Int) n = nI (nxt Q v n) := rfl

theorem nxt_at {Q : List EdgeI} {v n k : Nat} (h : k < (nxt Q v n).length) : (nxt Q v n)[k] < n ∧ nbF Q v (nxt Q v n)[k] = true := by
  have := List.mem_filter.1 (List.getElem_mem h)
  exact ⟨List.mem_range.1 this.1, this.2⟩

theorem nxt_all {Q : List EdgeI} {v n w : Nat} (hw : w < n) (h : nbF Q v w = true) : w ∈ nxt Q v n := List.mem_filter.2 ⟨List.mem_range.2 hw, h⟩

theorem nI_len (U : List Nat) : (nI U).length = U.length := by simp [nI]
theorem nI_snoc (U : List Nat) (x : Nat) : nI (U ++ [x]) = nI U ++ [(x : Int)] := by simp [nI]

theorem left_lt {n : Nat} {K : List Int} {j : Nat} (h : leftF n K j = true) : j < n := by
  unfold leftF at h
  simp at h
  exact h.1

theorem left_is {n : Nat} {K : List Int} {j : Nat} (h : j < n) : leftF n K j = !inK K (j : Int) := by
  unfold leftF
  rw [decide_eq_true h, Bool.true_and]

set_option maxRecDepth 100000 in
set_option maxHeartbeats 4000000 in
theorem part_any (v : Value) (B n : Nat) (Q : List EdgeI) (u : Value) (K : List Int) (x : Nat) (hx : x < n) (h1 : Q.length ≤ 1048576) (h2 : K.length ≤ 1048576) (hn : n ≤ 9) (w : World) (hB : B ≤ w.heap.size) (hv : GrAt w v B (n : Int) Q) (hu : InAt w u B K) :
    Calls Try.prog 76 #[v, .int .i64 (x : Int), u] w fun e w' => (∃ d, e = .returned d ∧ InOwn w' w.heap.size d (setTo (rch (nbF Q) (leftF n K) x) n)) ∧ Below w.heap.size w w' := by
  obtain ⟨i0, hi, hz0, hz1, hz2⟩ := info_parts info3
  have hx9 : x < 9 := by omega
  have NX := hide (fun (y : Nat) w1 (hb : Below w.heap.size w w1) => next_any v B n (y : Int) Q h1 (by omega) w1 (by have := hb.size; omega) (hv.below hb hB))
  obtain ⟨au, cu, rfl, hK⟩ := hu
  have IK := hide (fun (y : Int) w1 (hb : Below w.heap.size w w1) => l03In_any au K.length cu B K y h2 w1 (hK.below hb hB))
  have IU := hide (fun (U : List Nat) (hU : U.length ≤ 9) a c B' w1 (hU2 : IntsAt w1 a (nI U).length B' (nI U)) (y : Nat) => l03In_any a (nI U).length c B' (nI U) (y : Int) (by rw [nI_len]; omega) w1 hU2)
  obtain ⟨F, hF⟩ : ∃ F, F = nbF Q := ⟨_, rfl⟩
  obtain ⟨f, hf⟩ : ∃ f, f = leftF n K := ⟨_, rfl⟩
  have HB0 := hide (bfs0 F f x)
  have HFEW := hide (fun i done U (h : Bfs F f x i done U) => h.few hx9)
  have HSK := hide (fun i done U (h : Bfs F f x i done U) y hy => bfs_skip h y hy)
  have HAD := hide (fun i done U (h : Bfs F f x i done U) hi y h9 hF hn hf => bfs_add hx9 h hi y h9 hF hn hf)
  have HNX := hide (fun i done U (h : Bfs F f x i done U) hi hd => bfs_next h hi hd)
  have HEN := hide (fun U (h : Bfs F f x U.length [] U) y => bfs_end hx9 h y)
  have HFX : Hid (∀ y, y < n → f y = !inK K (y : Int)) := fun y hy => by rw [hf]; exact left_is hy
  have HFL : Hid (∀ y, f y = true → y < n) := fun y hy => left_lt (n := n) (K := K) (by rw [← hf]; exact hy)
  have HNA : Hid (∀ y k (h : k < (nxt Q y n).length), (nxt Q y n)[k] < n ∧ F y (nxt Q y n)[k] = true) := fun y k h => by rw [hF]; exact nxt_at h
  have HNL : Hid (∀ y z, z < n → F y z = true → z ∈ nxt Q y n) := fun y z hz h => nxt_all hz (by rw [← hF]; exact h)
  have HS1 := hide (fun k h => setTo_in (f := rch F f x) (k := k) h)
  have HS0 := hide (fun k h => setTo_out (f := rch F f x) (k := k) h)
  have HSL := hide (setTo_length (rch F f x))
  rw [← hF, ← hf]
  clear hF hf
  obtain ⟨a, n', c, rfl, _⟩ := hv
  have NXL : Hid (∀ y, (nxt Q y n).length ≤ n) := fun y => by unfold nxt; exact Nat.le_trans (List.length_filter_le _ _) (by simp)
  go_enter Try.func76, Try.ntmps76
  go_wp2_with fail
  obtain ⟨V1, hV1⟩ : ∃ W, W = w.alloc (Obj.cells #[Value.int .i64 (n : Int), Value.slice a n' c] 30) := ⟨_, rfl⟩
  obtain ⟨V2, hV2⟩ : ∃ W, W = V1.alloc (Obj.cells #[Value.int .i64 (x : Int)] 3) := ⟨_, rfl⟩
  rw [← hV1, ← hV2]
  have HX2 : Hid (GBox V2 w.heap.size (n : Int) (.slice a n' c)) := by show GBox _ _ _ _; rw [hV2, hV1]; exact (GBox.new _ _ _).below (below_new _ _)
  have b2 : Below w.heap.size w V2 := by rw [hV2, hV1]; exact (below_new _ _).alloc (by simp) _
  have HO2 : Hid (InOwn V2 (w.heap.size + 1) (.slice (some ⟨w.heap.size + 1, 0, none⟩) 1 1) (nI [x])) := by
    show InOwn _ _ _ _
    rw [hV2]
    have hz : V1.heap.size = w.heap.size + 1 := by rw [hV1]; simp
    have h := heap_alloc_new V1 (Obj.cells #[Value.int .i64 (x : Int)] 3)
    rw [hz] at h
    exact ⟨rfl, .inr ⟨w.heap.size + 1, 1, #[Value.int .i64 (x : Int)], rfl, Nat.le_refl _, h, Nat.le_refl _, by decide, rfl, rfl⟩⟩
  clear hV1 hV2
  go_loopw [7, 8] (fun inl i wr => ∃ (j : Nat) (U : List Nat), i = .int .i64 (j : Int) ∧ j ≤ U.length ∧ Hid (Bfs F f x j [] U) ∧ Hid (InOwn wr (w.heap.size + 1) inl (nI U)) ∧ Hid (GBox wr w.heap.size (n : Int) (.slice a n' c)) ∧ Below w.heap.size w wr) (fun _ i _ => 9 - (intOf i).toNat)
  case atStart => exact ⟨0, [x], rfl, Nat.zero_le _, HB0, HO2, HX2, b2⟩
  case round =>
    clear HB0 HO2 HX2 b2
    obtain ⟨j, U, rfl, hj, HB, HO, HX, hb⟩ := hrel
    obtain ⟨A, cp, rfl, _⟩ := intsAt_of_own (unhide HO)
    have hU9 := unhide HFEW j [] U (unhide HB)
    obtain ⟨p0, p1⟩ := (unhide HX).cells
    have hXl := (unhide HX).lt
    obtain ⟨ul, hul⟩ : ∃ ul, ul = U.length := ⟨_, rfl⟩
    have HUL := hide hul
    have hnl : (nI U).length = ul := by rw [nI_len, hul]
    rw [hnl]
    rw [← hul] at hj hU9
    clear hul
    by_cases hlt : j < ul
    · have hjU : j < U.length := by have := unhide HUL; omega
      obtain ⟨g, cg, hA, hgb, hgl⟩ := World.ownsRow.form (unhide HO) (by rw [hnl]; omega)
      rw [hnl] at hA
      simp at hA
      obtain ⟨rfl, rfl⟩ := hA
      have e0 : wr.cell? ⟨g, j, none⟩ = some (.int .i64 ((U[j] : Nat) : Int)) := by
        have ho := unhide HO
        unfold InOwn at ho
        rw [hnl] at ho
        rw [ho.cellAt j (by omega)]
        simp [intsV, nI, hjU]
      obtain ⟨y, N, hy, hN⟩ : ∃ (y : Nat) (N : List Nat), y = U[j] ∧ N = nxt Q y n := ⟨_, _, rfl, rfl⟩
      have NXJ : Hid (∀ w1, Below w.heap.size w w1 → Calls Try.prog 42 #[.agg #[.int .i64 (n : Int), .slice a n' c], .int .i64 (y : Int)] w1 fun e w' => (∃ d, e = .returned d ∧ InOwn w' w1.heap.size d (nI N)) ∧ Below w1.heap.size w1 w') := fun w1 hb1 => by
        have h9 := unhide NX y w1 hb1
        rw [nxt_is, ← hN] at h9
        exact h9
      have HNAJ : Hid (∀ k (h : k < N.length), N[k] < n ∧ F y N[k] = true) := fun k h => by subst hN; exact unhide HNA y k h
      have HNLJ : Hid (∀ z, z < n → F y z = true → z ∈ N) := fun z hz h => by rw [hN]; exact unhide HNL y z hz h
      have hml : N.length ≤ n := by rw [hN]; exact unhide NXL y
      have HYU : Hid (∃ h : j < U.length, U[j] = y) := ⟨hjU, hy.symm⟩
      rw [← hy] at e0
      have hx0 : (0 : Int) ≤ (j : Int) := by omega
      have hx1 : (j : Int) < (ul : Int) := by omega
      have hzb := hb.size
      have hbd : Below w.heap.size w wr.drew := hb.drew
      have hgw : w.heap.size < g := by omega
      have HNL0 := hide hnl
      clear hN hy hnl
      go_wp2_with fail
      go_region_held3 (fun u => u.cell? ⟨w.heap.size, 0, none⟩ = some (.int .i64 (n : Int)) ∧ u.cell? ⟨w.heap.size, 1, none⟩ = some (.slice a n' c) ∧ u.cell? ⟨g, j, none⟩ = some (.int .i64 (y : Int)))
        (first | go_keep | exact ⟨(hb3.cell (p := ⟨w.heap.size, 0, none⟩) hXl).trans p0, (hb3.cell (p := ⟨w.heap.size, 1, none⟩) hXl).trans p1, (hb3.cell (p := ⟨g, j, none⟩) hgl).trans e0⟩)
        ((go_at_call 42; refine (unhide NXJ _ hbd).mono ?_; rintro e w3 ⟨⟨d, rfl, hd⟩, hb3⟩; obtain ⟨A5, c5, rfl, hI5⟩ := intsAt_of_own hd))
      have hb13 : Below wr.heap.size wr w3 := (Below.refl wr.heap.size wr).drew.trans hb3
      have HO3 := hide ((unhide HO).below hb13)
      have HX3 := hide ((unhide HX).below hb13)
      have b3 : Below w.heap.size w w3 := hb.trans (hb13.mono hb.size)
      have hdb : Hid (∀ g', (Value.slice A5 (nI N).length c5).ownBlock = some g' → wr.heap.size ≤ g' ∧ g' < w3.heap.size) := fun g' hg => World.ownsRow.lt hd g' hg
      have HD3 := hide hd
      have HDIS : Hid (∀ g', (Value.slice (some ⟨g, 0, none⟩) ul cp).ownBlock = some g' → (Value.slice A5 (nI N).length c5).ownBlock ≠ some g') := fun g' hg e => by
        have := (unhide hdb g' e).1
        simp [Value.ownBlock] at hg
        omega
      have hwb : wr.heap.size ≤ w3.heap.size := hb13.size
      obtain ⟨m, hm⟩ : ∃ m, m = N.length := ⟨_, rfl⟩
      have HMM := hide hm
      have hmn : (nI N).length = m := by rw [nI_len, hm]
      have hm9 : m ≤ n := by omega
      unfold InOwn at HD3
      rw [hmn] at HD3 HDIS
      rw [hmn]
      have HI0 : Hid (Bfs F f x j (N.take 0) U) := unhide HB
      clear hd hb3 hb13 hI5 e0 hbd NXJ hdb hb hm hmn HO HX p0 p1 HB
      go_wp2_with fail
      obtain ⟨wo, hwo⟩ : ∃ W, W = wr := ⟨_, rfl⟩
      subst hwo
      go_loopw [7, 10] (fun inl i wq => ∃ (k : Nat) (U' : List Nat), i = .int .i64 (k : Int) ∧ k ≤ m ∧ Hid (Bfs F f x j (N.take k) U') ∧ Hid (∃ h : j < U'.length, U'[j] = y) ∧ Hid (InOwn wq (w.heap.size + 1) inl (nI U')) ∧ Hid (World.ownsRow wq wo.heap.size 3 1 (.slice A5 m c5) m (intsV (nI N))) ∧ Hid (∀ g', inl.ownBlock = some g' → (Value.slice A5 m c5).ownBlock ≠ some g') ∧ Hid (GBox wq w.heap.size (n : Int) (.slice a n' c)) ∧ Below w.heap.size w wq) (fun _ i _ => m - (intOf i).toNat)
      case atStart => exact ⟨0, U, rfl, Nat.zero_le _, HI0, HYU, by rw [← unhide HNL0]; exact HO3, HD3, by rw [← unhide HNL0]; exact HDIS, HX3, b3⟩
      case round =>
        clear HI0 HYU HO3 HD3 HDIS HX3 b3
        obtain ⟨k, U', rfl, hk, HB, HY, HO, HD, HDIS, HX, hb⟩ := hrel
        have hU9' := unhide HFEW j _ U' (unhide HB)
        obtain ⟨A2, cp2, rfl, hI2⟩ := intsAt_of_own (unhide HO)
        have hzb2 := hb.size
        by_cases hkm : k < m
        · have hkN : k < N.length := by have := unhide HMM; omega
          obtain ⟨hz, hFz⟩ := unhide HNAJ k hkN
          obtain ⟨g5, c5', hA5, _, hg5⟩ := World.ownsRow.form (unhide HD) (by omega)
          simp at hA5
          obtain ⟨rfl, rfl⟩ := hA5
          have c1 : wr.cell? ⟨g5, k, none⟩ = some (.int .i64 ((N[k] : Nat) : Int)) := by
            rw [(unhide HD).cellAt k (by omega)]
            simp [intsV, nI, hkN]
          have htk : N.take (k + 1) = N.take k ++ [N[k]] := List.take_succ_eq_append_getElem hkN
          have hfz := unhide HFX N[k] hz
          have IUZ := hide (unhide IU U' hU9' A2 cp2 wr.heap.size wr hI2 N[k])
          rw [inK_nI] at IUZ
          have IKZ := hide (unhide IK (N[k] : Int) wr hb)
          have HSKZ : Hid (N[k] ∈ U' ∨ f N[k] = false → Bfs F f x j (N.take (k + 1)) U') := fun h => by rw [htk]; exact unhide HSK j _ U' (unhide HB) _ h
          have HADZ : Hid (N[k] ∉ U' → f N[k] = true → Bfs F f x j (N.take (k + 1)) (U' ++ [N[k]])) := fun h1 h2 => by
            obtain ⟨hj', hy'⟩ := unhide HY
            rw [htk]
            exact unhide HAD j _ U' (unhide HB) hj' _ (by omega) (by rw [hy']; exact hFz) h1 h2
          obtain ⟨z, hzz⟩ : ∃ z, z = N[k] := ⟨_, rfl⟩
          rw [← hzz] at c1 hfz IUZ IKZ HSKZ HADZ
          have hx2 : (k : Int) < (m : Int) := by omega
          have hx3 : (0 : Int) ≤ (k : Int) := by omega
          clear hzz hFz htk hz
          by_cases hin : z ∈ U'
          · rw [decide_eq_true hin] at IUZ
            have HB' := hide (unhide HSKZ (.inl hin))
            clear hin hfz
            go_wp2_with fail
            refine (unhide IUZ).mono ?_
            rintro e w5 ⟨rfl, hw5⟩
            have hw6 := hw5.symm
            subst hw6
            clear hw5
            go_wp2_with fail
            exact ⟨⟨k + 1, U', by go_num, by omega, HB', HY, HO, HD, HDIS, HX, hb⟩, by simp [intOf]; omega⟩
          · rw [decide_eq_false hin] at IUZ
            cases hik : inK K (z : Int)
            · rw [hik] at IKZ hfz
              have HB' := hide (unhide HADZ hin hfz)
              have HY' : Hid (∃ h : j < (U' ++ [z]).length, (U' ++ [z])[j] = y) := by
                obtain ⟨hj', hy'⟩ := unhide HY
                exact ⟨by simp; omega, by rw [List.getElem_append_left hj']; exact hy'⟩
              have hown := unhide HO
              unfold InOwn at hown
              have hul : (nI U').length ≤ 9 := by rw [nI_len]; exact hU9'
              clear hin hik hfz HSKZ HADZ HO
              go_wp2_with fail
              refine (unhide IUZ).mono ?_
              rintro e w5 ⟨rfl, hw5⟩
              have hw6 := hw5.symm
              subst hw6
              clear hw5
              go_wp2_with fail
              refine (unhide IKZ).mono ?_
              rintro e w5 ⟨rfl, hw5⟩
              have hw6 := hw5.symm
              subst hw6
              clear hw5
              go_wp2_with (at_builtin; refine wpList_append_own_at _ rfl _ _ 26 rfl (w.heap.size + 1) 3 i0 (.int .i64 0) 1 8 Try.underlying26 hi hz0 hz1 hz2 rfl (by decide) _ _ _ rfl (hown.alloc _) ⟨wr.heap.size, 0, none⟩ 1 1 [.int .i64 (z : Int)] rfl rfl (cell_one_new _ _ _) (one_intL _) ?_ ?_ ?_ ?_)
              · unfold maxLen; omega
              · omega
              · first | omega | (simp; omega)
              intro v' w7 hown' hgrow _ hat
              have hbA := below_append (B := w.heap.size + 1) (w := wr) (wr := wr) (Below.refl _ _) (by omega) hown hgrow
              have hb7 : Below w.heap.size w w7 := hb.trans (hbA.mono (by omega))
              have HX7 : Hid (GBox w7 w.heap.size (n : Int) (.slice a n' c)) := (unhide HX).kept (S := fun _ => False) (Kept.refl _ _) (fun h => h) |> fun h9 => by
                have h10 := h9.below (below_new wr (Obj.cells #[Value.int .i64 (z : Int)] 3))
                exact (hgrow.block _ h10.lt (fun e => by have h8 := hown.lt w.heap.size e.symm; omega)).trans h10
              have HD7 : Hid (World.ownsRow w7 wo.heap.size 3 1 (.slice (some ⟨g5, 0, none⟩) m c5) m (intsV (nI N))) := World.ownsRow.kept ((unhide HD).alloc _) hgrow (.inr (fun e => by
                have := unhide HDIS g5 (by rw [← e]; rfl)
                exact this rfl))
              have HDIS7 : Hid (∀ g', v'.ownBlock = some g' → (Value.slice (some ⟨g5, 0, none⟩) m c5).ownBlock ≠ some g') := fun g' hg e => by
                rcases hat with hat | hat
                · exact unhide HDIS g' (by rw [← hat]; exact hg) e
                · rw [hat] at hg
                  simp [Value.ownBlock] at hg e
                  omega
              rw [← intsV_snocL, ← nI_snoc] at hown'
              have hfe : (nI U').length + 1 = (nI (U' ++ [z])).length := by rw [nI_len, nI_len]; simp
              rw [hfe] at hown'
              have HO7 : Hid (InOwn w7 (w.heap.size + 1) v' (nI (U' ++ [z]))) := hown'
              clear hown' hgrow hown hat hbA hfe hul HD HX HDIS hI2 HB HY c1
              go_wp2_with fail
              exact ⟨⟨k + 1, _, by go_num, by omega, HB', HY', HO7, HD7, HDIS7, HX7, hb7⟩, by simp [intOf]; omega⟩
            · rw [hik] at IKZ hfz
              have HB' := hide (unhide HSKZ (.inr hfz))
              clear hin hik hfz
              go_wp2_with fail
              refine (unhide IUZ).mono ?_
              rintro e w5 ⟨rfl, hw5⟩
              have hw6 := hw5.symm
              subst hw6
              clear hw5
              go_wp2_with fail
              refine (unhide IKZ).mono ?_
              rintro e w5 ⟨rfl, hw5⟩
              have hw6 := hw5.symm
              subst hw6
              clear hw5
              go_wp2_with fail
              exact ⟨⟨k + 1, U', by go_num, by omega, HB', HY, HO, HD, HDIS, HX, hb⟩, by simp [intOf]; omega⟩
        · obtain rfl : k = m := by omega
          have HB' : Hid (Bfs F f x (j + 1) [] U') := by
            obtain ⟨hj', hy'⟩ := unhide HY
            have h9 := unhide HB
            rw [unhide HMM, List.take_length] at h9
            exact unhide HNX j N U' h9 hj' (fun z _ hF hf => unhide HNLJ z (unhide HFL z hf) (by rw [← hy']; exact hF))
          have hjl : j + 1 ≤ U'.length := (unhide HY).1
          go_wp2_with fail
          exact ⟨⟨j + 1, U', by go_num, hjl, HB', HO, HX, hb⟩, by simp [intOf]; omega⟩
    · obtain rfl : j = ul := by omega
      have hul9 := hU9
      have HIN : Hid (∀ y : Nat, inK (nI U) (y : Int) = rch F f x y) := fun y => by
        rw [inK_nI]
        have h9 := unhide HB
        rw [unhide HUL] at h9
        exact unhide HEN U h9 y
      have HI3 : Hid (IntsAt wr A j wr.heap.size (nI U)) := by
        have h9 := unhide HO
        unfold InOwn at h9
        rw [hnl] at h9
        obtain ⟨a8, c8, e8, hI8⟩ := intsAt_of_own h9
        simp at e8
        obtain ⟨rfl, rfl⟩ := e8
        exact hI8
      have IUF : Hid (∀ (y : Nat) W, Below wr.heap.size wr W → Calls Try.prog 75 #[.slice A j cp, .int .i64 (y : Int)] W fun e w' => e = .returned (.bool (rch F f x y)) ∧ w' = W) := fun y W hW => by
        have h9 := unhide IU U (by rw [← unhide HUL]; exact hU9) A cp wr.heap.size W (by rw [hnl]; exact (unhide HI3).below hW (Nat.le_refl _)) y
        rw [unhide HIN y, hnl] at h9
        exact h9
      obtain ⟨wo, hwo⟩ : ∃ W, W = wr := ⟨_, rfl⟩
      subst hwo
      have HXo := hide (unhide HX)
      have HOo : Hid (InOwn (wo.alloc (Obj.cells #[] 3)) wo.heap.size (.slice (some ⟨wo.heap.size, 0, none⟩) 0 0) []) := World.ownsRow_made wo (e := 3) #[] 0 (Nat.le_refl _) (Nat.zero_le _) (show (#[] : Array Value).size = 0 * 1 from rfl)
      clear HO HX HB HIN HI3 hlt
      go_wp2_with fail
      go_loopw [11, 12] (fun out i wq => ∃ k : Nat, i = .int .i64 (k : Int) ∧ k ≤ n ∧ Hid (InOwn wq wo.heap.size out (setTo (rch F f x) k)) ∧ Below wo.heap.size wo wq) (fun _ i _ => n - (intOf i).toNat)
      case atStart => exact ⟨0, rfl, Nat.zero_le _, HOo, below_new _ _⟩
      case round =>
        clear HOo p0 p1
        obtain ⟨k, rfl, hk, HO, hb3⟩ := hrel
        obtain ⟨A4, cp4, rfl, _⟩ := intsAt_of_own (unhide HO)
        obtain ⟨p0, p1⟩ := ((unhide HXo).below hb3).cells
        have hzb := hb3.size
        by_cases hlt : k < n
        · have IUK := hide (unhide IUF k wr hb3)
          have hy1 : (k : Int) < (n : Int) := by omega
          have hy0 : (0 : Int) ≤ (k : Int) := by omega
          cases hq : rch F f x k
          · have HF := hide (unhide HS0 k hq)
            rw [hq] at IUK
            clear hq
            go_wp2_with fail
            refine (unhide IUK).mono ?_
            rintro e w5 ⟨rfl, hw5⟩
            have hw6 := hw5.symm
            subst hw6
            clear hw5
            go_wp2_with fail
            exact ⟨⟨k + 1, by go_num, by omega, (by show InOwn _ _ _ _; rw [unhide HF]; exact unhide HO), hb3⟩, by simp [intOf]; omega⟩
          · have HF := hide (unhide HS1 k hq)
            rw [hq] at IUK
            have hfl := unhide HSL k
            have hown := unhide HO
            unfold InOwn at hown
            clear hq HO
            go_wp2_with fail
            refine (unhide IUK).mono ?_
            rintro e w5 ⟨rfl, hw5⟩
            have hw6 := hw5.symm
            subst hw6
            clear hw5
            go_wp2_with (at_builtin; refine wpList_append_own _ rfl _ _ 26 rfl wo.heap.size 3 i0 (.int .i64 0) 1 8 Try.underlying26 hi hz0 hz1 hz2 rfl (by decide) _ _ _ rfl (hown.alloc _) ⟨wr.heap.size, 0, none⟩ 1 1 [.int .i64 (k : Int)] rfl rfl (cell_one_new _ _ _) (one_intL _) ?_ ?_ ?_ ?_)
            · unfold maxLen; omega
            · omega
            · first | omega | (simp; omega)
            intro v' w4 hown' hgrow _
            have hb4 := below_append hb3 (Nat.le_refl _) hown hgrow
            rw [← intsV_snocL, ← unhide HF] at hown'
            have hfe : (setTo (rch F f x) k).length + 1 = (setTo (rch F f x) (k + 1)).length := by rw [unhide HF]; simp
            rw [hfe] at hown'
            have HO4 : Hid (InOwn w4 wo.heap.size v' (setTo (rch F f x) (k + 1))) := hown'
            clear hown' hgrow hown HF hfe hfl
            go_wp2_with fail
            exact ⟨⟨k + 1, by go_num, by omega, HO4, hb4⟩, by simp [intOf]; omega⟩
        · obtain rfl : k = n := by omega
          have HO' := hide ((unhide HO).lower hb.size)
          go_wp2_with fail
          go_ret
          exact ⟨⟨_, rfl, unhide HO'⟩, hb.trans (hb3.mono hb.size)⟩

end Lk
end Go.Proofs.Ytejfknkcakeakaa
