/-
  The contract of spec.AskText.
-/
import Derived.Test.YtabnghiphmongaaAkSpec
namespace Go.Proofs.Ytabnghiphmongaa
namespace Gr
open Go.RowKit

theorem opByte_at (op : Int) (h0 : 0 ≤ op) (h1 : op ≤ 255) (g : Nat) (W : World) (hc : W.cell? ⟨g, 0, none⟩ = some (.int .u8 op)) : (convert 33 9 (.slice (some ⟨g, 0, none⟩) 1 1)).run Try.prog W = .ok (.string (opB op)) W := by
  refine run_convert_bytes_back _ 33 9 5 ⟨g, 0, none⟩ 1 [UInt8.ofNat op.toNat] Try.underlying33 Try.underlying5 Try.underlying9 fun j hj => ?_
  obtain rfl : j = 0 := by simp at hj; omega
  have e : (((UInt8.ofNat op.toNat).toNat : Nat) : Int) = op := by
    rw [UInt8.toNat_ofNat_of_lt' (by show op.toNat < 256; omega)]
    omega
  show W.cell? ⟨g, 0 + 0, none⟩ = some (.int .u8 ((UInt8.ofNat op.toNat).toNat : Int))
  rw [e]
  exact hc

set_option maxRecDepth 100000 in
set_option maxHeartbeats 2000000 in
theorem specAskText_any (x : AskI) (w : World) :
    Calls Try.prog 6 #[x.v] w fun e w' => e = .returned (.tuple #[.string (askT x), .bool (askOk x)]) ∧ Below w.heap.size w w' := by
  have IN := hide (fun y a b w => l01In_any y a b w)
  have NM := hide (fun w => askNum_is x.Op w)
  have LS := hide (fun w => askList_any x w)
  have hT : askT x = (askR x).getD ⟨#[]⟩ := rfl
  have hO : askOk x = (askR x).isSome := rfl
  have hR : askR x = if 1 ≤ x.Op ∧ x.Op ≤ 6 then askGo (askN x.Op) 0 (opB x.Op) (askL x) else none := rfl
  have hn5 := askN_le x.Op
  have HSTEP := hide (fun k s h => askGo_step (askN x.Op) k s (askL x) h)
  have HEND : Hid (∀ s, askGo (askN x.Op) 5 s ((askL x).drop 5) = some s) := fun s => rfl
  have HLL : Hid ((askL x).length = 5) := rfl
  have HCE : Hid (∀ k (h : k < (askL x).length), (#[Value.int .i64 x.A, Value.int .i64 x.B, Value.int .i64 x.W1, Value.int .i64 x.W2, Value.int .i64 x.W3] : Array Value)[k]? = some (.int .i64 (askL x)[k])) := fun k h => by
    match k, h with
    | 0, _ => rfl
    | 1, _ => rfl
    | 2, _ => rfl
    | 3, _ => rfl
    | 4, _ => rfl
  have H0 : Hid (∀ n s, askGo n 0 s (askL x) = askGo n 0 s ((askL x).drop 0)) := fun _ _ => rfl
  generalize askT x = T at hT ⊢
  generalize askOk x = O at hO ⊢
  generalize askR x = A at hT hO hR
  have HT := hide hT
  have HO := hide hO
  clear hT hO
  generalize askL x = L at HSTEP HEND HLL HCE H0 hR
  obtain ⟨op, x1, x2, x3, x4, x5⟩ := x
  unfold AskI.v at LS ⊢
  simp only at hR NM LS hn5 HSTEP HEND HCE ⊢
  by_cases h1 : 1 ≤ op ∧ op ≤ 6
  · rw [if_pos h1] at hR
    have e1 : (decide (1 ≤ op) && decide (op ≤ 6)) = true := by simp; exact h1
    have IN1 : Hid (∀ w, Calls Try.prog 15 #[.int .i64 op, .int .i64 1, .int .i64 6] w fun e w' => e = .returned (.bool true) ∧ w' = w) := fun w => by have := unhide IN op 1 6 w; rwa [e1] at this
    have hcv := opByte_at op (by omega) (by omega) (w.heap.size + 1) ((w.alloc (Obj.cells #[Value.int .i64 op, Value.int .i64 x1, Value.int .i64 x2, Value.int .i64 x3, Value.int .i64 x4, Value.int .i64 x5] 26)).alloc (Obj.cells #[Value.int .u8 op] 5)) (Blk.new1.cell 0 _ rfl)
    have HR2 := hide (hR.trans (unhide H0 _ _))
    have hsz : (opB op).size = 1 := rfl
    generalize opB op = ob at hcv HR2 hsz
    generalize askN op = n at NM HR2 hn5 HSTEP HEND
    clear e1 hR H0
    go_enter Try.func6, Try.ntmps6
    go_wp2_with fail
    refine (unhide IN1 _).mono ?_
    rintro e w1 ⟨rfl, rfl⟩
    go_wp2_with fail
    obtain ⟨V, hV⟩ : ∃ W, W = (w.alloc (Obj.cells #[Value.int .i64 op, Value.int .i64 x1, Value.int .i64 x2, Value.int .i64 x3, Value.int .i64 x4, Value.int .i64 x5] 26)).alloc (Obj.cells #[Value.int .u8 op] 5) := ⟨_, rfl⟩
    rw [← hV]
    have bV : Below w.heap.size w V := by rw [hV]; exact (below_new _ _).alloc (by simp) _
    have m0 : Blk V w.heap.size #[Value.int .i64 op, Value.int .i64 x1, Value.int .i64 x2, Value.int .i64 x3, Value.int .i64 x4, Value.int .i64 x5] 26 := by rw [hV]; exact Blk.new0.alloc
    clear hV hcv h1
    refine (unhide LS V).mono ?_
    rintro e w2 ⟨⟨g, rfl, hg, hG⟩, hb2⟩
    have b2 := bV.trans (hb2.mono bV.size)
    have HM := hide (m0.below hb2)
    have HG := hide hG
    have zg := hG.lt
    have z0 := (unhide HM).lt
    clear m0 hG hb2 bV LS IN1
    go_wp2_with fail
    go_loopw [4, 6] (fun sv iv wr => ∃ (k : Nat) (s : ByteArray), iv = .int .i64 (k : Int) ∧ sv = .string s ∧ k ≤ 5 ∧ s.size ≤ 1 + 5 * k ∧ Hid (A = askGo n k s (L.drop k)) ∧ Below w2.heap.size w2 wr) (fun _ iv _ => 5 - (intOf iv).toNat)
    case atStart => exact ⟨0, ob, rfl, rfl, Nat.zero_le _, by omega, unhide HR2, Below.refl _ _⟩
    case round =>
      obtain ⟨k, s, rfl, rfl, hk, hs, HA, hbr⟩ := hrel
      have bw := b2.trans (hbr.mono b2.size)
      have q0 : wr.cell? ⟨w.heap.size, 0, none⟩ = some (.int .i64 op) := ((unhide HM).below hbr).cell 0 _ rfl
      by_cases hlt : k < 5
      · have hkL : k < L.length := by have := unhide HLL; omega
        have c1 : wr.cell? ⟨g, k, none⟩ = some (.int .i64 L[k]) := ((unhide HG).below hbr).cell k _ (unhide HCE k hkL)
        have HS := hide ((unhide HA).trans (unhide HSTEP k s hkL))
        have INk := hide (fun w => unhide IN L[k] 0 1000000000 w)
        generalize L[k] = y at c1 HS INk
        have hx0 : (0 : Int) ≤ (k : Int) := by omega
        have hx1 : (k : Int) < 5 := by omega
        by_cases ty : 0 ≤ y ∧ y ≤ 1000000000
        · have ey : (decide (0 ≤ y) && decide (y ≤ 1000000000)) = true := by simp; exact ty
          rw [ey] at INk HS
          obtain ⟨yn, rfl⟩ := Int.eq_ofNat_of_zero_le ty.1
          by_cases tk : k < n
          · have ek : decide (k < n) = true := decide_eq_true tk
            have HS2 : Hid (A = askGo n (k + 1) (s ++ vB (yn : Int)) (L.drop (k + 1))) := by
              show _ = _
              rw [unhide HS, ek, if_pos tk]
              simp
            have hge : ¬ ((n : Int) ≤ (k : Int)) := by omega
            have hlt2 : (k : Int) < (n : Int) := by omega
            have VR := hide (fun w => l01Var_any yn (by omega) w)
            have hvs := vB_size (yn : Int)
            have HVB : Hid ((⟨(varB 4 yn).toArray⟩ : ByteArray) = vB (yn : Int)) := rfl
            clear HS ey ty ek
            go_wp2_with fail
            refine (unhide INk _).mono ?_
            rintro e w3 ⟨rfl, rfl⟩
            go_wp2_with fail
            refine (unhide NM _).mono ?_
            rintro e w4 ⟨rfl, rfl⟩
            go_wp2_with fail
            refine (unhide NM _).mono ?_
            rintro e w5 ⟨rfl, rfl⟩
            go_wp2_with fail
            refine (unhide VR _).mono ?_
            rintro e w6 ⟨rfl, hb6⟩
            have hb7 := hbr.trans (hb6.mono hbr.size)
            have hsz2 : (s ++ vB (yn : Int)).size ≤ 1 + 5 * (k + 1) := by rw [ByteArray.size_append]; omega
            rw [unhide HVB]
            generalize vB (yn : Int) = vy at hvs HS2 hsz2
            clear hb6 HVB VR q0 c1
            go_wp2_with fail
            exact ⟨⟨k + 1, s ++ vy, by go_num, rfl, by omega, hsz2, unhide HS2, hb7⟩, by simp [intOf]; omega⟩
          · have ek : decide (k < n) = false := decide_eq_false tk
            have hge : (n : Int) ≤ (k : Int) := by omega
            have hlt2 : ¬ (k : Int) < (n : Int) := by omega
            by_cases t0 : yn = 0
            · subst t0
              have HS2 : Hid (A = askGo n (k + 1) s (L.drop (k + 1))) := by
                show _ = _
                rw [unhide HS, if_neg tk]
                simp
              clear HS ey ty ek
              go_wp2_with fail
              refine (unhide INk _).mono ?_
              rintro e w3 ⟨rfl, rfl⟩
              go_wp2_with fail
              refine (unhide NM _).mono ?_
              rintro e w4 ⟨rfl, rfl⟩
              go_wp2_with fail
              refine (unhide NM _).mono ?_
              rintro e w5 ⟨rfl, rfl⟩
              go_wp2_with fail
              exact ⟨⟨k + 1, s, by go_num, rfl, by omega, by omega, unhide HS2, hbr⟩, by simp [intOf]; omega⟩
            · have ez : (((yn : Nat) : Int) != 0) = true := by simp; omega
              have ez2 : decide (((yn : Nat) : Int) = 0) = false := decide_eq_false (by omega)
              have hA : A = none := by rw [unhide HS, ek, ez2]; rfl
              have hTn : T = ⟨#[]⟩ := by rw [unhide HT, hA]; rfl
              have hOn : O = false := by rw [unhide HO, hA]; rfl
              clear HS ey ty ek ez2 hA HA HT HO HR2
              subst hTn hOn
              have HT0 := hide t0
              clear t0
              go_wp2_with fail
              refine (unhide INk _).mono ?_
              rintro e w3 ⟨rfl, rfl⟩
              go_wp2_with fail
              refine (unhide NM _).mono ?_
              rintro e w4 ⟨rfl, rfl⟩
              go_wp2_with fail
              go_ret2
              exact ⟨rfl, bw⟩
        · have ey : (decide (0 ≤ y) && decide (y ≤ 1000000000)) = false := by
            rw [Bool.eq_false_iff]
            simp
            omega
          rw [ey] at INk HS
          have hA : A = none := by rw [unhide HS]; rfl
          have hTn : T = ⟨#[]⟩ := by rw [unhide HT, hA]; rfl
          have hOn : O = false := by rw [unhide HO, hA]; rfl
          clear HS ey ty hA HA HT HO HR2
          subst hTn hOn
          go_wp2_with fail
          refine (unhide INk _).mono ?_
          rintro e w3 ⟨rfl, rfl⟩
          go_wp2_with fail
          go_ret2
          exact ⟨rfl, bw⟩
      · obtain rfl : k = 5 := by omega
        have hA : A = some s := (unhide HA).trans (unhide HEND s)
        have hTn : T = s := by rw [unhide HT, hA]; rfl
        have hOn : O = true := by rw [unhide HO, hA]; rfl
        clear hA HA HT HO HR2
        subst hTn hOn
        go_wp2_with fail
        go_ret2
        exact ⟨rfl, bw⟩
  · rw [if_neg h1] at hR
    have e1 : (decide (1 ≤ op) && decide (op ≤ 6)) = false := by
      rw [Bool.eq_false_iff]
      simp
      omega
    have IN1 : Hid (∀ w, Calls Try.prog 15 #[.int .i64 op, .int .i64 1, .int .i64 6] w fun e w' => e = .returned (.bool false) ∧ w' = w) := fun w => by have := unhide IN op 1 6 w; rwa [e1] at this
    have hTn : T = ⟨#[]⟩ := by rw [unhide HT, hR]; rfl
    have hOn : O = false := by rw [unhide HO, hR]; rfl
    clear hR e1 HT HO
    subst hTn hOn
    go_enter Try.func6, Try.ntmps6
    go_wp2_with fail
    refine (unhide IN1 _).mono ?_
    rintro e w1 ⟨rfl, rfl⟩
    go_wp2_with fail
    go_ret2
    exact ⟨rfl, below_new _ _⟩
end Gr
end Go.Proofs.Ytabnghiphmongaa
