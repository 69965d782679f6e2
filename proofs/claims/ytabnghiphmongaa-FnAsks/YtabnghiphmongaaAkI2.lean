/-
  The contract of impl.ReadAsk.
-/
import Derived.Test.YtabnghiphmongaaAkI0
import Derived.Test.YtabnghiphmongaaAk1
import Derived.Deep.Cut
namespace Go.Proofs.Ytabnghiphmongaa
namespace Gr
open Go.RowKit

/-- An ask whose numbers are these, in memory. -/
def akC (op : Int) (L : List Int) : Array Value := #[.int .i64 op, .int .i64 (L.getD 0 0), .int .i64 (L.getD 1 0), .int .i64 (L.getD 2 0), .int .i64 (L.getD 3 0), .int .i64 (L.getD 4 0)]

theorem akC_at (op : Int) (L : List Int) (k : Nat) (h : k < 5) : (akC op L)[k + 1]? = some (.int .i64 (L.getD k 0)) := by
  match k, h with
  | 0, _ => rfl
  | 1, _ => rfl
  | 2, _ => rfl
  | 3, _ => rfl
  | 4, _ => rfl

theorem akC_set (op : Int) (L : List Int) (k : Nat) (y : Int) (h : k < 5) (hl : L.length = 5) : (akC op L).setIfInBounds (k + 1) (.int .i64 y) = akC op (L.set k y) := by
  match L, hl with
  | [a, b, c, d, e], _ =>
    match k, h with
    | 0, _ => rfl
    | 1, _ => rfl
    | 2, _ => rfl
    | 3, _ => rfl
    | 4, _ => rfl

set_option maxRecDepth 100000 in
set_option maxHeartbeats 1000000 in
theorem implReadAsk_any (t : ByteArray) (ht : t.size ≤ 1048576) (w : World) :
    Calls Try.prog 10 #[.string t] w fun e w' => e = .returned (.tuple #[(raV t).v, .bool (raOk t)]) ∧ Below w.heap.size w w' := by
  have hV : raV t = if raOk t = true then raX t else AskI.zero := rfl
  by_cases h0 : t.size = 0
  · have hO : raOk t = false := by unfold raOk; rw [h0]; rfl
    rw [hO] at hV ⊢
    simp at hV
    rw [hV]
    unfold AskI.v AskI.zero
    simp only
    have et : t = ⟨#[]⟩ := by
      apply ByteArray.ext
      exact Array.eq_empty_of_size_eq_zero h0
    subst et
    clear h0 hV hO
    go_enter Try.func10, Try.ntmps10
    go_wp2_with fail
    go_returns
    exact ⟨rfl, (Below.refl _ _).alloc (Nat.le_refl _) _⟩
  · have hM := raM_is t
    unfold raM at hM
    have hX : raX t = askOf (opOf t) (rdN t (askN (opOf t)) ⟨1, false⟩).1 := rfl
    have TD := hide (fun w => told_is (opOf t) w)
    have PL := hide (fun g w => places_any g w)
    have RV := hide (fun a w => implRead_any t a (by omega) w)
    have hn5 := askN_le (opOf t)
    have HSN := hide (fun k => rdN_snoc t k ⟨1, false⟩)
    have HLN := hide (fun k => rdN_length t k ⟨1, false⟩)
    have HBL := hide (fun k h => rdN_bad_le t ⟨1, false⟩ k (askN (opOf t)) h)
    have HTX := hide (fun k h => (rdN_text t k ⟨1, false⟩ (by show 1 ≤ t.size; omega) h).1)
    have HON : Hid (opIn (opOf t) = false → askN (opOf t) = 0) := fun h => by
      unfold opIn at h
      simp at h
      unfold askN
      rw [if_neg (by omega), if_neg (by omega)]
    have HRT : Hid (∀ c : CS, c.b = false → (rd t c).2.b = true → readA t (c.p : Int) = none) := fun c h1 h2 => rd_true h1 h2
    have HRF : Hid (∀ c : CS, (rd t c).2.b = false → ∃ x e, readA t (c.p : Int) = some (x, e) ∧ rd t c = ((x : Int), ⟨e, false⟩)) := fun c h2 => (rd_false h2).2
    have hlt0 : 0 < t.size := by omega
    rw [decide_eq_true hlt0, Bool.true_and] at hM
    have hop : ((t[0]'hlt0).toNat : Int) = opOf t := by
      unfold opOf
      rw [byteAt_eq hlt0]
    have hopr := opOf_range t
    have hb0 : (0 : Int) ≤ ((t[0]'hlt0).toNat : Int) := by omega
    have hb255 : ((t[0]'hlt0).toNat : Int) ≤ 255 := by rw [hop]; omega
    have hp0 : (0 : Int) < (t.size : Int) := by omega
    have hne : t.toList.isEmpty = false := by
      rw [ByteArray.toList_eq]
      cases h : t.data.toList with
      | nil =>
        have := congrArg List.length h
        rw [Array.length_toList] at this
        exact absurd this h0
      | cons => rfl
    have HPL : Hid (∀ g k, k < 5 → (plC g)[k]? = some (.pointer (some ⟨g, k + 1, none⟩))) := fun g k h => by
      match k, h with
      | 0, _ => rfl
      | 1, _ => rfl
      | 2, _ => rfl
      | 3, _ => rfl
      | 4, _ => rfl
    have HZ := hide h0
    have HOP := hide hop
    have hP : (decide (1 ≤ opOf t) && decide (opOf t ≤ 6)) = opIn (opOf t) := rfl
    rw [hP] at hM
    generalize raOk t = O at hM hV ⊢
    generalize raV t = X at hV ⊢
    have HV := hide hV
    have HO := hide hM
    have HX := hide hX
    clear hV hM hX hop h0 hP
    generalize askN (opOf t) = n at TD HO HX hn5 HBL HON
    generalize opIn (opOf t) = oi at TD HO HON
    rw [← unhide HOP] at TD
    go_enter Try.func10, Try.ntmps10
    go_wp2_with fail
    obtain ⟨V, hVV⟩ : ∃ W, W = (w.alloc (Obj.cells #[Value.int .i64 0, Value.int .i64 0, Value.int .i64 0, Value.int .i64 0, Value.int .i64 0, Value.int .i64 0] 26)).alloc (Obj.cells #[Value.int .i64 ((t[0]'hlt0).toNat : Int), Value.int .i64 0, Value.int .i64 0, Value.int .i64 0, Value.int .i64 0, Value.int .i64 0] 26) := ⟨_, rfl⟩
    rw [← hVV]
    have bV : Below w.heap.size w V := by rw [hVV]; exact (below_new _ _).alloc (by simp) _
    have HR0 : Hid (Blk V w.heap.size #[Value.int .i64 0, Value.int .i64 0, Value.int .i64 0, Value.int .i64 0, Value.int .i64 0, Value.int .i64 0] 26) := by show Blk _ _ _ _; rw [hVV]; exact Blk.new0.alloc
    have HX0 : Hid (Blk V (w.heap.size + 1) (akC (opOf t) (padL [])) 26) := by show Blk _ _ _ _; rw [hVV, ← unhide HOP]; exact Blk.new1
    clear hVV
    refine (unhide TD _).mono ?_
    rintro e w1 ⟨rfl, rfl⟩
    go_wp2_with fail
    refine (unhide PL (w.heap.size + 1) w1).mono ?_
    rintro e w2 ⟨⟨p, rfl, hp, hP⟩, hb2⟩
    have b2 := bV.trans (hb2.mono bV.size)
    have hx1lt : w.heap.size + 1 < p := by have := (unhide HX0).lt; omega
    have HR0 := hide ((unhide HR0).below hb2)
    have HX0 := hide ((unhide HX0).below hb2)
    have HP := hide hP
    clear hb2 bV PL TD hP
    have hn0 : (0 : Int) ≤ (n : Int) := by omega
    have hn5' : (n : Int) ≤ 5 := by omega
    go_wp2_with fail
    go_loopw [6, 7, 27] (fun ov av iv wr => ∃ (k : Nat) (c : CS) (M : List Int), iv = .int .i64 (k : Int) ∧ av = .int .i64 (c.p : Int) ∧ ov = .bool oi ∧ k ≤ n ∧ Hid (rdN t k ⟨1, false⟩ = (M, c)) ∧ Hid (c.b = false) ∧ Hid (Blk wr (w.heap.size + 1) (akC (opOf t) (padL M)) 26) ∧ Hid (Blk wr p (plC (w.heap.size + 1)) 47) ∧ Hid (Blk wr w.heap.size #[Value.int .i64 0, Value.int .i64 0, Value.int .i64 0, Value.int .i64 0, Value.int .i64 0, Value.int .i64 0] 26) ∧ Hid (Below w.heap.size w wr)) (fun _ _ iv _ => n - (intOf iv).toNat)
    case atStart => exact ⟨0, ⟨1, false⟩, [], rfl, rfl, rfl, Nat.zero_le _, rfl, rfl, HX0, HP, HR0, b2⟩
    case round =>
      obtain ⟨k, c, M, rfl, rfl, rfl, hk, HRD, HCB, HBX, HBP, HBR, HBB⟩ := hrel
      have hMl : M.length = k := by have := unhide HLN k; rw [unhide HRD] at this; exact this
      have hcp : c.p ≤ t.size := by have := unhide HTX k (by rw [unhide HRD]; exact unhide HCB); rw [unhide HRD] at this; exact this
      have HML := hide hMl
      clear hMl
      obtain ⟨cp, cb⟩ := c
      simp only at hcp HCB
      by_cases hlt : k < n
      · have hx0 : (0 : Int) ≤ (k : Int) := by omega
        have hx1 : (k : Int) < (n : Int) := by omega
        have c0 : wr.cell? ⟨p, k, none⟩ = some (.pointer (some ⟨w.heap.size + 1, k + 1, none⟩)) := (unhide HBP).cell k _ (unhide HPL _ k (by omega))
        have HSk : Hid (rdN t (k + 1) ⟨1, false⟩ = (M ++ [(rd t ⟨cp, cb⟩).1], (rd t ⟨cp, cb⟩).2)) := by show _ = _; rw [unhide HSN k, unhide HRD]
        have RVk := hide (fun w1 => unhide RV (cp : Int) w1)
        cases hbb : (rd t ⟨cp, cb⟩).2.b with
        | false =>
          obtain ⟨x, e, hr, he⟩ := unhide HRF ⟨cp, cb⟩ hbb
          simp only at hr
          rw [hr] at RVk
          rw [he] at HSk
          simp only at HSk
          clear hbb hr he
          go_wp2_with fail
          refine (unhide RVk _).mono ?_
          rintro e' w3 ⟨rfl, hb3⟩
          unfold rvOut
          simp only
          have x3 : Blk w3 (w.heap.size + 1) (akC (opOf t) (padL M)) 26 := (unhide HBX).below hb3
          have p3 : Blk w3 p (plC (w.heap.size + 1)) 47 := (unhide HBP).below hb3
          have r3 : Blk w3 w.heap.size #[Value.int .i64 0, Value.int .i64 0, Value.int .i64 0, Value.int .i64 0, Value.int .i64 0, Value.int .i64 0] 26 := (unhide HBR).below hb3
          have b3 : Below w.heap.size w w3 := (unhide HBB).trans (hb3.mono (unhide HBB).size)
          have q1 := x3.cell (k + 1) _ (akC_at (opOf t) (padL M) k (by omega))
          have f1 := x3.froz (k + 1)
          have hoi : oi = true := by
            cases ho : oi with
            | true => rfl
            | false => have := unhide HON ho; omega
          have HX3 : Hid (Blk (w3.setCell ⟨w.heap.size + 1, k + 1, none⟩ (.int .i64 (x : Int))) (w.heap.size + 1) (akC (opOf t) (padL (M ++ [(x : Int)]))) 26) := by
            show Blk _ _ _ _
            have h := x3.set (k + 1) (.int .i64 (x : Int))
            have hml := unhide HML
            rw [akC_set _ _ k _ (by omega) (padL_length M (by omega))] at h
            have h2 := padL_set M (x : Int) (by omega)
            rw [hml] at h2
            rw [h2] at h
            exact h
          have HP3 : Hid (Blk (w3.setCell ⟨w.heap.size + 1, k + 1, none⟩ (.int .i64 (x : Int))) p (plC (w.heap.size + 1)) 47) := p3.set_other (by omega) _ _
          have HR3 : Hid (Blk (w3.setCell ⟨w.heap.size + 1, k + 1, none⟩ (.int .i64 (x : Int))) w.heap.size #[Value.int .i64 0, Value.int .i64 0, Value.int .i64 0, Value.int .i64 0, Value.int .i64 0, Value.int .i64 0] 26) := r3.set_other (by omega) _ _
          have HB3 : Hid (Below w.heap.size w (w3.setCell ⟨w.heap.size + 1, k + 1, none⟩ (.int .i64 (x : Int)))) := b3.setCell (p := ⟨w.heap.size + 1, k + 1, none⟩) (by simp) _
          generalize (padL M).getD k 0 = y0 at q1
          have HOI := hide hoi
          clear hb3 x3 p3 r3 b3 RVk HBX HBP HBR HBB c0 hoi
          go_wp2_with fail
          exact ⟨⟨k + 1, ⟨e, false⟩, _, by go_num, rfl, by rw [unhide HOI], by omega, HSk, rfl, HX3, HP3, HR3, HB3⟩, by simp [intOf]; omega⟩
        | true =>
          have hr := unhide HRT ⟨cp, cb⟩ (unhide HCB) hbb
          simp only at hr
          rw [hr] at RVk
          have hOf : O = false := by
            rw [← unhide HO, unhide HBL (k + 1) (by omega) (by rw [unhide HSk]; exact hbb)]
            simp
          have hXf : X = AskI.zero := by rw [unhide HV, hOf]; rfl
          subst hOf hXf
          clear hbb hr HSk HO HV
          go_wp2_with fail
          refine (unhide RVk _).mono ?_
          rintro e' w3 ⟨rfl, hb3⟩
          unfold rvOut
          simp only
          have x3 : Blk w3 (w.heap.size + 1) (akC (opOf t) (padL M)) 26 := (unhide HBX).below hb3
          have r3 : Blk w3 w.heap.size #[Value.int .i64 0, Value.int .i64 0, Value.int .i64 0, Value.int .i64 0, Value.int .i64 0, Value.int .i64 0] 26 := (unhide HBR).below hb3
          have b3 : Below w.heap.size w w3 := (unhide HBB).trans (hb3.mono (unhide HBB).size)
          have q1 := x3.cell (k + 1) _ (akC_at (opOf t) (padL M) k (by omega))
          have f1 := x3.froz (k + 1)
          generalize (padL M).getD k 0 = y0 at q1
          obtain ⟨W4, hW4⟩ : ∃ W, W = w3.setCell ⟨w.heap.size + 1, k + 1, none⟩ (.int .i64 0) := ⟨_, rfl⟩
          have R0 : Blk W4 w.heap.size #[Value.int .i64 0, Value.int .i64 0, Value.int .i64 0, Value.int .i64 0, Value.int .i64 0, Value.int .i64 0] 26 := by rw [hW4]; exact r3.set_other (by omega) _ _
          have h0 : Below w.heap.size w W4 := by rw [hW4]; exact b3.setCell (p := ⟨w.heap.size + 1, k + 1, none⟩) (by simp) _
          have HBS : Hid (∀ a0 a1 a2 a3 a4 a5 : Int, Below w.heap.size w ((((((W4.setCell ⟨w.heap.size, 0, none⟩ (.int .i64 a0)).setCell ⟨w.heap.size, 1, none⟩ (.int .i64 a1)).setCell ⟨w.heap.size, 2, none⟩ (.int .i64 a2)).setCell ⟨w.heap.size, 3, none⟩ (.int .i64 a3)).setCell ⟨w.heap.size, 4, none⟩ (.int .i64 a4)).setCell ⟨w.heap.size, 5, none⟩ (.int .i64 a5)) ∧ Blk ((((((W4.setCell ⟨w.heap.size, 0, none⟩ (.int .i64 a0)).setCell ⟨w.heap.size, 1, none⟩ (.int .i64 a1)).setCell ⟨w.heap.size, 2, none⟩ (.int .i64 a2)).setCell ⟨w.heap.size, 3, none⟩ (.int .i64 a3)).setCell ⟨w.heap.size, 4, none⟩ (.int .i64 a4)).setCell ⟨w.heap.size, 5, none⟩ (.int .i64 a5)) w.heap.size #[.int .i64 a0, .int .i64 a1, .int .i64 a2, .int .i64 a3, .int .i64 a4, .int .i64 a5] 26) := fun a0 a1 a2 a3 a4 a5 => by
            exact ⟨((((((h0.setCell (p := ⟨w.heap.size, 0, none⟩) (Nat.le_refl _) _).setCell (p := ⟨w.heap.size, 1, none⟩) (Nat.le_refl _) _).setCell (p := ⟨w.heap.size, 2, none⟩) (Nat.le_refl _) _).setCell (p := ⟨w.heap.size, 3, none⟩) (Nat.le_refl _) _).setCell (p := ⟨w.heap.size, 4, none⟩) (Nat.le_refl _) _).setCell (p := ⟨w.heap.size, 5, none⟩) (Nat.le_refl _) _), ((((((R0.set 0 _).set 1 _).set 2 _).set 3 _).set 4 _).set 5 _)⟩
          have HR0 := hide R0
          clear hb3 x3 r3 b3 RVk HBX HBP HBR HBB c0 R0 h0
          have HW4 := hide hW4
          clear hW4
          go_upto_region 10 with fail
          rw [← unhide HW4]
          clear HW4 q1 f1
          have R0 := unhide HR0
          have zr := R0.lt
          have r0 : W4.cell? ⟨w.heap.size, 0, none⟩ = some (.int .i64 0) := R0.cell 0 _ rfl
          have fr0 := R0.froz 0
          have r1 : W4.cell? ⟨w.heap.size, 1, none⟩ = some (.int .i64 0) := R0.cell 1 _ rfl
          have fr1 := R0.froz 1
          have r2 : W4.cell? ⟨w.heap.size, 2, none⟩ = some (.int .i64 0) := R0.cell 2 _ rfl
          have fr2 := R0.froz 2
          have r3 : W4.cell? ⟨w.heap.size, 3, none⟩ = some (.int .i64 0) := R0.cell 3 _ rfl
          have fr3 := R0.froz 3
          have r4 : W4.cell? ⟨w.heap.size, 4, none⟩ = some (.int .i64 0) := R0.cell 4 _ rfl
          have fr4 := R0.froz 4
          have r5 : W4.cell? ⟨w.heap.size, 5, none⟩ = some (.int .i64 0) := R0.cell 5 _ rfl
          have fr5 := R0.froz 5
          clear R0 HR0
          go_wp2_with fail
          obtain ⟨hbf, hkf⟩ := unhide HBS 0 0 0 0 0 0
          (try simp only [Exit.inBlock, Exit.then])
          refine bodyPost_ret (results_ask2 Try.results10 _ _ w.heap.size _ rfl hkf rfl) rfl ?_
          exact ⟨rfl, hbf⟩
      · obtain rfl : k = n := by omega
        have hx1 : ¬ ((k : Int) < (k : Int)) := by omega
        have R0 := unhide HBR
        have h0 := unhide HBB
        have HBS : Hid (∀ a0 a1 a2 a3 a4 a5 : Int, Below w.heap.size w ((((((wr.setCell ⟨w.heap.size, 0, none⟩ (.int .i64 a0)).setCell ⟨w.heap.size, 1, none⟩ (.int .i64 a1)).setCell ⟨w.heap.size, 2, none⟩ (.int .i64 a2)).setCell ⟨w.heap.size, 3, none⟩ (.int .i64 a3)).setCell ⟨w.heap.size, 4, none⟩ (.int .i64 a4)).setCell ⟨w.heap.size, 5, none⟩ (.int .i64 a5)) ∧ Blk ((((((wr.setCell ⟨w.heap.size, 0, none⟩ (.int .i64 a0)).setCell ⟨w.heap.size, 1, none⟩ (.int .i64 a1)).setCell ⟨w.heap.size, 2, none⟩ (.int .i64 a2)).setCell ⟨w.heap.size, 3, none⟩ (.int .i64 a3)).setCell ⟨w.heap.size, 4, none⟩ (.int .i64 a4)).setCell ⟨w.heap.size, 5, none⟩ (.int .i64 a5)) w.heap.size #[.int .i64 a0, .int .i64 a1, .int .i64 a2, .int .i64 a3, .int .i64 a4, .int .i64 a5] 26) := fun a0 a1 a2 a3 a4 a5 => by
          exact ⟨((((((h0.setCell (p := ⟨w.heap.size, 0, none⟩) (Nat.le_refl _) _).setCell (p := ⟨w.heap.size, 1, none⟩) (Nat.le_refl _) _).setCell (p := ⟨w.heap.size, 2, none⟩) (Nat.le_refl _) _).setCell (p := ⟨w.heap.size, 3, none⟩) (Nat.le_refl _) _).setCell (p := ⟨w.heap.size, 4, none⟩) (Nat.le_refl _) _).setCell (p := ⟨w.heap.size, 5, none⟩) (Nat.le_refl _) _), ((((((R0.set 0 _).set 1 _).set 2 _).set 3 _).set 4 _).set 5 _)⟩
        have r0 : wr.cell? ⟨w.heap.size, 0, none⟩ = some (.int .i64 0) := R0.cell 0 _ rfl
        have fr0 := R0.froz 0
        have r1 : wr.cell? ⟨w.heap.size, 1, none⟩ = some (.int .i64 0) := R0.cell 1 _ rfl
        have fr1 := R0.froz 1
        have r2 : wr.cell? ⟨w.heap.size, 2, none⟩ = some (.int .i64 0) := R0.cell 2 _ rfl
        have fr2 := R0.froz 2
        have r3 : wr.cell? ⟨w.heap.size, 3, none⟩ = some (.int .i64 0) := R0.cell 3 _ rfl
        have fr3 := R0.froz 3
        have r4 : wr.cell? ⟨w.heap.size, 4, none⟩ = some (.int .i64 0) := R0.cell 4 _ rfl
        have fr4 := R0.froz 4
        have r5 : wr.cell? ⟨w.heap.size, 5, none⟩ = some (.int .i64 0) := R0.cell 5 _ rfl
        have fr5 := R0.froz 5
        have zr := R0.lt
        clear R0 h0
        have hOe : O = (oi && decide (cp = t.size)) := by
          rw [← unhide HO, unhide HRD]
          simp only [unhide HCB]
          simp
        cases oi with
        | false =>
          have hXf : X = AskI.zero := by rw [unhide HV, hOe]; rfl
          simp at hOe
          subst hOe hXf
          clear HO HV HBX HBP HBR HBB HRD HX
          go_wp2_with fail
          obtain ⟨hbf, hkf⟩ := unhide HBS 0 0 0 0 0 0
          (try simp only [Exit.inBlock, Exit.then])
          refine bodyPost_ret (results_ask2 Try.results10 _ _ w.heap.size _ rfl hkf rfl) rfl ?_
          exact ⟨rfl, hbf⟩
        | true =>
          rw [Bool.true_and] at hOe
          by_cases hcs : cp < t.size
          · have hOf : O = false := by rw [hOe]; exact decide_eq_false (by omega)
            have hXf : X = AskI.zero := by rw [unhide HV, hOf]; rfl
            clear hOe
            subst hOf hXf
            have hcs' : (cp : Int) < (t.size : Int) := by omega
            clear HO HV HBX HBP HBR HBB HRD HX
            go_wp2_with fail
            obtain ⟨hbf, hkf⟩ := unhide HBS 0 0 0 0 0 0
            (try simp only [Exit.inBlock, Exit.then])
            refine bodyPost_ret (results_ask2 Try.results10 _ _ w.heap.size _ rfl hkf rfl) rfl ?_
            exact ⟨rfl, hbf⟩
          · have hOf : O = true := by rw [hOe]; exact decide_eq_true (by omega)
            have hXf : X = askOf (opOf t) M := by rw [unhide HV, hOf, unhide HX, unhide HRD]; rfl
            clear hOe
            subst hOf
            have hcs' : ¬ (cp : Int) < (t.size : Int) := by omega
            have hml := unhide HML
            have hpl := padL_length M (by omega)
            obtain ⟨y0, y1, y2, y3, y4, hyL⟩ : ∃ y0 y1 y2 y3 y4, padL M = [y0, y1, y2, y3, y4] := by
              match padL M, hpl with
              | [a, b, c, d, e], _ => exact ⟨a, b, c, d, e, rfl⟩
            have HXF : Hid (X = ⟨opOf t, y0, y1, y2, y3, y4⟩) := by
              show _ = _
              rw [hXf]
              unfold askOf
              rw [hyL]
              rfl
            have X0 : Blk wr (w.heap.size + 1) #[Value.int .i64 (opOf t), Value.int .i64 y0, Value.int .i64 y1, Value.int .i64 y2, Value.int .i64 y3, Value.int .i64 y4] 26 := by
              have h := unhide HBX
              rw [hyL] at h
              exact h
            have zx := X0.lt
            have g0 : wr.cell? ⟨w.heap.size + 1, 0, none⟩ = some (.int .i64 (opOf t)) := X0.cell 0 _ rfl
            have g1 : wr.cell? ⟨w.heap.size + 1, 1, none⟩ = some (.int .i64 y0) := X0.cell 1 _ rfl
            have g2 : wr.cell? ⟨w.heap.size + 1, 2, none⟩ = some (.int .i64 y1) := X0.cell 2 _ rfl
            have g3 : wr.cell? ⟨w.heap.size + 1, 3, none⟩ = some (.int .i64 y2) := X0.cell 3 _ rfl
            have g4 : wr.cell? ⟨w.heap.size + 1, 4, none⟩ = some (.int .i64 y3) := X0.cell 4 _ rfl
            have g5 : wr.cell? ⟨w.heap.size + 1, 5, none⟩ = some (.int .i64 y4) := X0.cell 5 _ rfl
            clear HO HV HBX HBP HBR HBB HRD HX X0 hyL hpl hml hXf HML hcs
            go_wp2_with fail
            obtain ⟨hbf, hkf⟩ := unhide HBS (opOf t) y0 y1 y2 y3 y4
            (try simp only [Exit.inBlock, Exit.then])
            refine bodyPost_ret (results_ask2 Try.results10 _ _ w.heap.size _ rfl hkf rfl) rfl ?_
            rw [unhide HXF]
            exact ⟨rfl, hbf⟩
end Gr
end Go.Proofs.Ytabnghiphmongaa
