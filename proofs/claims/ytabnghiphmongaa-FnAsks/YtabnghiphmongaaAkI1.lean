/-
  The contract of impl.AskText.
-/
import Derived.Test.YtabnghiphmongaaAkI0
namespace Go.Proofs.Ytabnghiphmongaa
namespace Gr
open Go.RowKit

theorem opB_one (op : Int) : (⟨(byL [op]).toArray⟩ : ByteArray) = opB op := rfl

set_option maxRecDepth 100000 in
set_option maxHeartbeats 2000000 in
theorem implAskText_any (x : AskI) (w : World) :
    Calls Try.prog 8 #[x.v] w fun e w' => e = .returned (.tuple #[.string (askT x), .bool (askOk x)]) ∧ Below w.heap.size w w' := by
  have TD := hide (fun w => told_is x.Op w)
  have PL := hide (fun g w => places_any g w)
  have VN := hide (fun y hy w => implVar_no y hy w)
  have VY := hide (fun y hy w => implVar_yes y hy w)
  have BO := hide (fun a n c B L hn hL w hB hs => bytesOf_any a n c B L hn hL w hB hs)
  have hT : askT x = (askR x).getD ⟨#[]⟩ := rfl
  have hO : askOk x = (askR x).isSome := rfl
  have hR : askR x = if 1 ≤ x.Op ∧ x.Op ≤ 6 then askGo (askN x.Op) 0 (opB x.Op) (askL x) else none := rfl
  have hn5 := askN_le x.Op
  have HSTEP := hide (fun k s h => askGo_step (askN x.Op) k s (askL x) h)
  have HEND : Hid (∀ s, askGo (askN x.Op) 5 s ((askL x).drop 5) = some s) := fun s => rfl
  have HLL : Hid ((askL x).length = 5) := rfl
  have HPL : Hid (∀ g k, k < 5 → (plC g)[k]? = some (.pointer (some ⟨g, k + 1, none⟩))) := fun g k h => by
    match k, h with
    | 0, _ => rfl
    | 1, _ => rfl
    | 2, _ => rfl
    | 3, _ => rfl
    | 4, _ => rfl
  have HCE : Hid (∀ k (h : k < (askL x).length), (#[Value.int .i64 x.Op, Value.int .i64 x.A, Value.int .i64 x.B, Value.int .i64 x.W1, Value.int .i64 x.W2, Value.int .i64 x.W3] : Array Value)[k + 1]? = some (.int .i64 (askL x)[k])) := fun k h => by
    match k, h with
    | 0, _ => rfl
    | 1, _ => rfl
    | 2, _ => rfl
    | 3, _ => rfl
    | 4, _ => rfl
  have H0 : Hid (∀ n s, askGo n 0 s (askL x) = askGo n 0 s ((askL x).drop 0)) := fun _ _ => rfl
  generalize askT x = T at hT ⊢
  generalize askOk x = O at hO ⊢
  generalize askR x = A at hT hO hR
  have HT := hide hT
  have HO := hide hO
  clear hT hO
  generalize askL x = L at HSTEP HEND HLL HCE H0 hR
  obtain ⟨op, x1, x2, x3, x4, x5⟩ := x
  unfold AskI.v
  simp only at hR TD hn5 HSTEP HEND HCE ⊢
  by_cases h1 : 1 ≤ op ∧ op ≤ 6
  · rw [if_pos h1] at hR
    have e1 : opIn op = true := by unfold opIn; simp; exact h1
    rw [e1] at TD
    have HR2 := hide (hR.trans (unhide H0 _ _))
    have hsz : (opB op).size = 1 := rfl
    have BO1 : Hid (∀ w1 (g : Nat), g < w1.heap.size → w1.cell? ⟨g, 0, none⟩ = some (.int .i64 op) → Calls Try.prog 20 #[.slice (some ⟨g, 0, none⟩) 1 1] w1 fun e w' => e = .returned (.string (opB op)) ∧ Below w1.heap.size w1 w') := fun w1 g hg hc => by
      rw [← opB_one]
      refine unhide BO (some ⟨g, 0, none⟩) 1 1 w1.heap.size [op] (by omega) (fun y hy => by simp at hy; subst hy; omega) w1 (Nat.le_refl _) ⟨rfl, fun j hj => ⟨g, 0, rfl, hg, ?_⟩⟩
      obtain rfl : j = 0 := by simp at hj; omega
      exact hc
    generalize opB op = ob at HR2 hsz BO1
    generalize askN op = n at TD HR2 hn5 HSTEP HEND
    clear e1 hR H0 BO
    go_enter Try.func8, Try.ntmps8
    go_wp2_with fail
    refine (unhide TD _).mono ?_
    rintro e w1 ⟨rfl, rfl⟩
    go_wp2_with fail
    obtain ⟨V, hV⟩ : ∃ W, W = (w.alloc (Obj.cells #[Value.int .i64 op, Value.int .i64 x1, Value.int .i64 x2, Value.int .i64 x3, Value.int .i64 x4, Value.int .i64 x5] 26)).alloc (Obj.cells #[Value.int .i64 op] 3) := ⟨_, rfl⟩
    rw [← hV]
    have bV : Below w.heap.size w V := by rw [hV]; exact (below_new _ _).alloc (by simp) _
    have m0 : Blk V w.heap.size #[Value.int .i64 op, Value.int .i64 x1, Value.int .i64 x2, Value.int .i64 x3, Value.int .i64 x4, Value.int .i64 x5] 26 := by rw [hV]; exact Blk.new0.alloc
    have m1 : Blk V (w.heap.size + 1) #[Value.int .i64 op] 3 := by rw [hV]; exact Blk.new1
    clear hV h1
    refine (unhide BO1 V (w.heap.size + 1) m1.lt (m1.cell 0 _ rfl)).mono ?_
    rintro e w2 ⟨rfl, hb2⟩
    have b2 := bV.trans (hb2.mono bV.size)
    have HM := hide (m0.below hb2)
    clear m0 m1 hb2 bV TD BO1
    go_wp2_with fail
    refine (unhide PL w.heap.size w2).mono ?_
    rintro e w3 ⟨⟨p, rfl, hp, hP⟩, hb3⟩
    have b3 := b2.trans (hb3.mono b2.size)
    have HM := hide ((unhide HM).below hb3)
    have HP := hide hP
    have zp := hP.lt
    have z0 := (unhide HM).lt
    clear hP hb3 b2 PL
    go_wp2_with fail
    go_loopw [6, 25] (fun sv iv wr => ∃ (k : Nat) (s : ByteArray), iv = .int .i64 (k : Int) ∧ sv = .string s ∧ k ≤ 5 ∧ s.size ≤ 1 + 5 * k ∧ Hid (A = askGo n k s (L.drop k)) ∧ Below w3.heap.size w3 wr) (fun _ iv _ => 5 - (intOf iv).toNat)
    case atStart => exact ⟨0, ob, rfl, rfl, Nat.zero_le _, by omega, unhide HR2, Below.refl _ _⟩
    case round =>
      obtain ⟨k, s, rfl, rfl, hk, hs, HA, hbr⟩ := hrel
      have bw := b3.trans (hbr.mono b3.size)
      by_cases hlt : k < 5
      · have hkL : k < L.length := by have := unhide HLL; omega
        have c0 : wr.cell? ⟨p, k, none⟩ = some (.pointer (some ⟨w.heap.size, k + 1, none⟩)) := ((unhide HP).below hbr).cell k _ (unhide HPL _ k hlt)
        have c1 : wr.cell? ⟨w.heap.size, k + 1, none⟩ = some (.int .i64 L[k]) := ((unhide HM).below hbr).cell (k + 1) _ (unhide HCE k hkL)
        have HS := hide ((unhide HA).trans (unhide HSTEP k s hkL))
        generalize L[k] = y at c1 HS
        have hx0 : (0 : Int) ≤ (k : Int) := by omega
        have hx1 : (k : Int) < 5 := by omega
        by_cases ty : 0 ≤ y ∧ y ≤ 1000000000
        · have ey : (decide (0 ≤ y) && decide (y ≤ 1000000000)) = true := by simp; exact ty
          rw [ey] at HS
          obtain ⟨yn, rfl⟩ := Int.eq_ofNat_of_zero_le ty.1
          have VR := hide (fun w => unhide VY yn (by omega) w)
          have HVB : Hid ((⟨(varB 4 yn).toArray⟩ : ByteArray) = vB (yn : Int)) := rfl
          have hvs := vB_size (yn : Int)
          by_cases tk : k < n
          · have ek : decide (k < n) = true := decide_eq_true tk
            have HS2 : Hid (A = askGo n (k + 1) (s ++ vB (yn : Int)) (L.drop (k + 1))) := by
              show _ = _
              rw [unhide HS, ek, if_pos tk]
              simp
            have hge : ¬ ((n : Int) ≤ (k : Int)) := by omega
            have hlt2 : (k : Int) < (n : Int) := by omega
            clear HS ey ty ek
            go_wp2_with fail
            refine (unhide VR _).mono ?_
            rintro e w4 ⟨rfl, hb4⟩
            rw [unhide HVB]
            have b4 := hbr.trans (hb4.mono hbr.size)
            have hs2 : (s ++ vB (yn : Int)).size ≤ 1 + 5 * (k + 1) := by rw [ByteArray.size_append]; omega
            generalize vB (yn : Int) = d at HS2 hvs hs2
            have hcat : ¬ 9223372036854775807 < s.size + d.size := by omega
            clear c0 c1 hb4 VR HVB
            go_wp2_with fail
            exact ⟨⟨k + 1, _, by go_num, rfl, by omega, hs2, unhide HS2, b4⟩, by simp [intOf]; omega⟩
          · have ek : decide (k < n) = false := decide_eq_false tk
            have hge : (n : Int) ≤ (k : Int) := by omega
            have hlt2 : ¬ (k : Int) < (n : Int) := by omega
            rw [ek] at HS
            by_cases tz : yn = 0
            · subst tz
              have HS2 : Hid (A = askGo n (k + 1) s (L.drop (k + 1))) := by
                show _ = _
                rw [unhide HS, if_neg tk]
                simp
              clear HS ey ty ek
              go_wp2_with fail
              refine (unhide VR _).mono ?_
              rintro e w4 ⟨rfl, hb4⟩
              have b4 := hbr.trans (hb4.mono hbr.size)
              have c2 : w4.cell? ⟨w.heap.size, k + 1, none⟩ = some (.int .i64 ((0 : Nat) : Int)) := by rw [hb4.cell (p := ⟨w.heap.size, k + 1, none⟩) (by have := hbr.size; simp; omega)]; exact c1
              clear c0 c1 hb4 VR HVB
              go_wp2_with fail
              exact ⟨⟨k + 1, _, by go_num, rfl, by omega, by omega, unhide HS2, b4⟩, by simp [intOf]; omega⟩
            · have HS2 : Hid (A = none) := by
                show _ = _
                rw [unhide HS]
                simp [tz]
              have ez : ((yn : Int) != 0) = true := by simp; omega
              have HZ := hide tz
              clear HS ey ty ek tz
              go_wp2_with fail
              refine (unhide VR _).mono ?_
              rintro e w4 ⟨rfl, hb4⟩
              have b4 := bw.trans (hb4.mono bw.size)
              have c2 : w4.cell? ⟨w.heap.size, k + 1, none⟩ = some (.int .i64 (yn : Int)) := by rw [hb4.cell (p := ⟨w.heap.size, k + 1, none⟩) (by have := hbr.size; simp; omega)]; exact c1
              clear c0 c1 hb4 VR HVB
              go_wp2_with fail
              go_ret2
              refine ⟨?_, b4⟩
              rw [unhide HT, unhide HO, unhide HS2]
              rfl
        · have ey : (decide (0 ≤ y) && decide (y ≤ 1000000000)) = false := by simp; omega
          have HS2 : Hid (A = none) := by
            show _ = _
            rw [unhide HS, ey]
            simp
          have VR := hide (fun w => unhide VN y (by omega) w)
          have TY := hide ty
          clear HS ey ty
          go_wp2_with fail
          refine (unhide VR _).mono ?_
          rintro e w4 ⟨rfl, rfl⟩
          clear c0 c1 VR
          go_wp2_with fail
          go_ret2
          refine ⟨?_, bw⟩
          rw [unhide HT, unhide HO, unhide HS2]
          rfl
      · obtain rfl : k = 5 := by omega
        have HA2 : Hid (A = some s) := (unhide HA).trans (unhide HEND s)
        go_wp2_with fail
        go_ret2
        refine ⟨?_, bw⟩
        rw [unhide HT, unhide HO, unhide HA2]
        rfl
  · rw [if_neg h1] at hR
    have e1 : opIn op = false := by unfold opIn; simp; omega
    rw [e1] at TD
    have HR2 := hide hR
    have H1 := hide h1
    generalize askN op = n at TD hn5 HSTEP HEND
    clear h1 hR e1
    go_enter Try.func8, Try.ntmps8
    go_wp2_with fail
    refine (unhide TD _).mono ?_
    rintro e w1 ⟨rfl, rfl⟩
    go_wp2_with fail
    go_ret2
    refine ⟨?_, below_new _ _⟩
    rw [unhide HT, unhide HO, unhide HR2]
    rfl
end Gr
end Go.Proofs.Ytabnghiphmongaa
