/-
  Texts of this claim, one behind the other: AkSpec, AkSpec2, AkI0, AkI1.
-/
import Derived.Test.YtjhnippfepbjmaaGreatDoorJ3
import Derived.Test.YtjhnippfepbjmaaGreatDoorJ11
import Derived.Test.YtjhnippfepbjmaaGreatDoorJ7

/-
  The contract of spec.AskText.
-/
namespace Go.Proofs.YtjhnippfepbjmaaGreatDoor
namespace Gr
open Go.RowKit

set_option maxRecDepth 100000 in
theorem askNum_is (op : Int) (w : World) : Calls Tryz.prog 47 #[.int .i64 op] w fun e w' => e = .returned (.int .i64 ((askN op : Nat) : Int)) ∧ w' = w := by
  have hR : askN op = if op = 1 ∨ op = 3 ∨ op = 5 then 1 else if op = 2 then 5 else 0 := rfl
  generalize askN op = R at hR ⊢
  by_cases h1 : op = 1
  · subst h1
    simp at hR
    subst hR
    go_enter Tryz.func47, Tryz.ntmps47
    go_wp2
    go_ret
    exact ⟨rfl, rfl⟩
  by_cases h3 : op = 3
  · subst h3
    simp at hR
    subst hR
    go_enter Tryz.func47, Tryz.ntmps47
    go_wp2
    go_ret
    exact ⟨rfl, rfl⟩
  by_cases h5 : op = 5
  · subst h5
    simp at hR
    subst hR
    go_enter Tryz.func47, Tryz.ntmps47
    go_wp2
    go_ret
    exact ⟨rfl, rfl⟩
  by_cases h2 : op = 2
  · subst h2
    simp at hR
    subst hR
    go_enter Tryz.func47, Tryz.ntmps47
    go_wp2
    go_ret
    exact ⟨rfl, rfl⟩
  · have e1 : (op == 1) = false := by simp; exact h1
    have e3 : (op == 3) = false := by simp; exact h3
    have e5 : (op == 5) = false := by simp; exact h5
    have e2 : (op == 2) = false := by simp; exact h2
    simp [h1, h3, h5, h2] at hR
    subst hR
    clear h1 h2 h3 h5
    go_enter Tryz.func47, Tryz.ntmps47
    go_wp2
    go_ret
    exact ⟨rfl, rfl⟩

set_option maxRecDepth 100000 in
set_option maxHeartbeats 1000000 in
theorem askList_any (x : AskI) (w : World) : Calls Tryz.prog 46 #[x.v] w fun e w' => (∃ g, e = .returned (.slice (some ⟨g, 0, none⟩) 5 5) ∧ w.heap.size ≤ g ∧ Blk w' g #[.int .i64 x.A, .int .i64 x.B, .int .i64 x.W1, .int .i64 x.W2, .int .i64 x.W3] 3) ∧ Below w.heap.size w w' := by
  obtain ⟨x0, x1, x2, x3, x4, x5⟩ := x
  unfold AskI.v
  simp only
  go_enter Tryz.func46, Tryz.ntmps46
  go_wp2_with fail
  go_ret
  refine ⟨⟨w.heap.size + 1, rfl, by omega, Blk.new1⟩, (below_new _ _).alloc (by simp) _⟩
end Gr
end Go.Proofs.YtjhnippfepbjmaaGreatDoor

/-
  The contract of spec.AskText.
-/
namespace Go.Proofs.YtjhnippfepbjmaaGreatDoor
namespace Gr
open Go.RowKit

theorem opByte_at (op : Int) (h0 : 0 ≤ op) (h1 : op ≤ 255) (g : Nat) (W : World) (hc : W.cell? ⟨g, 0, none⟩ = some (.int .u8 op)) : (convert 66 9 (.slice (some ⟨g, 0, none⟩) 1 1)).run Tryz.prog W = .ok (.string (opB op)) W := by
  refine run_convert_bytes_back _ 66 9 5 ⟨g, 0, none⟩ 1 [UInt8.ofNat op.toNat] Tryz.underlying66 Tryz.underlying5 Tryz.underlying9 fun j hj => ?_
  obtain rfl : j = 0 := by simp at hj; omega
  have e : (((UInt8.ofNat op.toNat).toNat : Nat) : Int) = op := by
    rw [UInt8.toNat_ofNat_of_lt' (by show op.toNat < 256; omega)]
    omega
  show W.cell? ⟨g, 0 + 0, none⟩ = some (.int .u8 ((UInt8.ofNat op.toNat).toNat : Int))
  rw [e]
  exact hc

set_option maxRecDepth 100000 in
set_option maxHeartbeats 2000000 in
theorem specAskText_any (x : AskI) (w : World) :
    Calls Tryz.prog 36 #[x.v] w fun e w' => e = .returned (.tuple #[.string (askT x), .bool (askOk x)]) ∧ Below w.heap.size w w' := by
  have IN := hide (fun y a b w => l01In_any y a b w)
  have NM := hide (fun w => askNum_is x.Op w)
  have LS := hide (fun w => askList_any x w)
  have hT : askT x = (askR x).getD ⟨#[]⟩ := rfl
  have hO : askOk x = (askR x).isSome := rfl
  have hR : askR x = if 1 ≤ x.Op ∧ x.Op ≤ 6 then askGo (askN x.Op) 0 (opB x.Op) (askL x) else none := rfl
  have hn5 := askN_le x.Op
  have HSTEP := hide (fun k s h => askGo_step (askN x.Op) k s (askL x) h)
  have HEND : Hid (∀ s, askGo (askN x.Op) 5 s ((askL x).drop 5) = some s) := fun s => rfl
  have HLL : Hid ((askL x).length = 5) := rfl
  have HCE : Hid (∀ k (h : k < (askL x).length), (#[Value.int .i64 x.A, Value.int .i64 x.B, Value.int .i64 x.W1, Value.int .i64 x.W2, Value.int .i64 x.W3] : Array Value)[k]? = some (.int .i64 (askL x)[k])) := fun k h => by
    match k, h with
    | 0, _ => rfl
    | 1, _ => rfl
    | 2, _ => rfl
    | 3, _ => rfl
    | 4, _ => rfl
  have H0 : Hid (∀ n s, askGo n 0 s (askL x) = askGo n 0 s ((askL x).drop 0)) := fun _ _ => rfl
  generalize askT x = T at hT ⊢
  generalize askOk x = O at hO ⊢
  generalize askR x = A at hT hO hR
  have HT := hide hT
  have HO := hide hO
  clear hT hO
  generalize askL x = L at HSTEP HEND HLL HCE H0 hR
  obtain ⟨op, x1, x2, x3, x4, x5⟩ := x
  unfold AskI.v at LS ⊢
  simp only at hR NM LS hn5 HSTEP HEND HCE ⊢
  by_cases h1 : 1 ≤ op ∧ op ≤ 6
  · rw [if_pos h1] at hR
    have e1 : (decide (1 ≤ op) && decide (op ≤ 6)) = true := by simp; exact h1
    have IN1 : Hid (∀ w, Calls Tryz.prog 31 #[.int .i64 op, .int .i64 1, .int .i64 6] w fun e w' => e = .returned (.bool true) ∧ w' = w) := fun w => by have := unhide IN op 1 6 w; rwa [e1] at this
    have hcv := opByte_at op (by omega) (by omega) (w.heap.size + 1) ((w.alloc (Obj.cells #[Value.int .i64 op, Value.int .i64 x1, Value.int .i64 x2, Value.int .i64 x3, Value.int .i64 x4, Value.int .i64 x5] 75)).alloc (Obj.cells #[Value.int .u8 op] 5)) (Blk.new1.cell 0 _ rfl)
    have HR2 := hide (hR.trans (unhide H0 _ _))
    have hsz : (opB op).size = 1 := rfl
    generalize opB op = ob at hcv HR2 hsz
    generalize askN op = n at NM HR2 hn5 HSTEP HEND
    clear e1 hR H0
    go_enter Tryz.func36, Tryz.ntmps36
    go_wp2_with fail
    refine (unhide IN1 _).mono ?_
    rintro e w1 ⟨rfl, rfl⟩
    go_wp2_with fail
    obtain ⟨V, hV⟩ : ∃ W, W = (w.alloc (Obj.cells #[Value.int .i64 op, Value.int .i64 x1, Value.int .i64 x2, Value.int .i64 x3, Value.int .i64 x4, Value.int .i64 x5] 75)).alloc (Obj.cells #[Value.int .u8 op] 5) := ⟨_, rfl⟩
    rw [← hV]
    have bV : Below w.heap.size w V := by rw [hV]; exact (below_new _ _).alloc (by simp) _
    have m0 : Blk V w.heap.size #[Value.int .i64 op, Value.int .i64 x1, Value.int .i64 x2, Value.int .i64 x3, Value.int .i64 x4, Value.int .i64 x5] 75 := by rw [hV]; exact Blk.new0.alloc
    clear hV hcv h1
    refine (unhide LS V).mono ?_
    rintro e w2 ⟨⟨g, rfl, hg, hG⟩, hb2⟩
    have b2 := bV.trans (hb2.mono bV.size)
    have HM := hide (m0.below hb2)
    have HG := hide hG
    have zg := hG.lt
    have z0 := (unhide HM).lt
    clear m0 hG hb2 bV LS IN1
    go_wp2_with fail
    go_loopw [4, 6] (fun sv iv wr => ∃ (k : Nat) (s : ByteArray), iv = .int .i64 (k : Int) ∧ sv = .string s ∧ k ≤ 5 ∧ s.size ≤ 1 + 5 * k ∧ Hid (A = askGo n k s (L.drop k)) ∧ Below w2.heap.size w2 wr) (fun _ iv _ => 5 - (intOf iv).toNat)
    case atStart => exact ⟨0, ob, rfl, rfl, Nat.zero_le _, by omega, unhide HR2, Below.refl _ _⟩
    case round =>
      obtain ⟨k, s, rfl, rfl, hk, hs, HA, hbr⟩ := hrel
      have bw := b2.trans (hbr.mono b2.size)
      have q0 : wr.cell? ⟨w.heap.size, 0, none⟩ = some (.int .i64 op) := ((unhide HM).below hbr).cell 0 _ rfl
      by_cases hlt : k < 5
      · have hkL : k < L.length := by have := unhide HLL; omega
        have c1 : wr.cell? ⟨g, k, none⟩ = some (.int .i64 L[k]) := ((unhide HG).below hbr).cell k _ (unhide HCE k hkL)
        have HS := hide ((unhide HA).trans (unhide HSTEP k s hkL))
        have INk := hide (fun w => unhide IN L[k] 0 1000000000 w)
        generalize L[k] = y at c1 HS INk
        have hx0 : (0 : Int) ≤ (k : Int) := by omega
        have hx1 : (k : Int) < 5 := by omega
        by_cases ty : 0 ≤ y ∧ y ≤ 1000000000
        · have ey : (decide (0 ≤ y) && decide (y ≤ 1000000000)) = true := by simp; exact ty
          rw [ey] at INk HS
          obtain ⟨yn, rfl⟩ := Int.eq_ofNat_of_zero_le ty.1
          by_cases tk : k < n
          · have ek : decide (k < n) = true := decide_eq_true tk
            have HS2 : Hid (A = askGo n (k + 1) (s ++ vB (yn : Int)) (L.drop (k + 1))) := by
              show _ = _
              rw [unhide HS, ek, if_pos tk]
              simp
            have hge : ¬ ((n : Int) ≤ (k : Int)) := by omega
            have hlt2 : (k : Int) < (n : Int) := by omega
            have VR := hide (fun w => l01Var_any yn (by omega) w)
            have hvs := vB_size (yn : Int)
            have HVB : Hid ((⟨(varB 4 yn).toArray⟩ : ByteArray) = vB (yn : Int)) := rfl
            clear HS ey ty ek
            go_wp2_with fail
            refine (unhide INk _).mono ?_
            rintro e w3 ⟨rfl, rfl⟩
            go_wp2_with fail
            refine (unhide NM _).mono ?_
            rintro e w4 ⟨rfl, rfl⟩
            go_wp2_with fail
            refine (unhide NM _).mono ?_
            rintro e w5 ⟨rfl, rfl⟩
            go_wp2_with fail
            refine (unhide VR _).mono ?_
            rintro e w6 ⟨rfl, hb6⟩
            have hb7 := hbr.trans (hb6.mono hbr.size)
            have hsz2 : (s ++ vB (yn : Int)).size ≤ 1 + 5 * (k + 1) := by rw [ByteArray.size_append]; omega
            rw [unhide HVB]
            generalize vB (yn : Int) = vy at hvs HS2 hsz2
            clear hb6 HVB VR q0 c1
            go_wp2_with fail
            exact ⟨⟨k + 1, s ++ vy, by go_num, rfl, by omega, hsz2, unhide HS2, hb7⟩, by simp [intOf]; omega⟩
          · have ek : decide (k < n) = false := decide_eq_false tk
            have hge : (n : Int) ≤ (k : Int) := by omega
            have hlt2 : ¬ (k : Int) < (n : Int) := by omega
            by_cases t0 : yn = 0
            · subst t0
              have HS2 : Hid (A = askGo n (k + 1) s (L.drop (k + 1))) := by
                show _ = _
                rw [unhide HS, if_neg tk]
                simp
              clear HS ey ty ek
              go_wp2_with fail
              refine (unhide INk _).mono ?_
              rintro e w3 ⟨rfl, rfl⟩
              go_wp2_with fail
              refine (unhide NM _).mono ?_
              rintro e w4 ⟨rfl, rfl⟩
              go_wp2_with fail
              refine (unhide NM _).mono ?_
              rintro e w5 ⟨rfl, rfl⟩
              go_wp2_with fail
              exact ⟨⟨k + 1, s, by go_num, rfl, by omega, by omega, unhide HS2, hbr⟩, by simp [intOf]; omega⟩
            · have ez : (((yn : Nat) : Int) != 0) = true := by simp; omega
              have ez2 : decide (((yn : Nat) : Int) = 0) = false := decide_eq_false (by omega)
              have hA : A = none := by rw [unhide HS, ek, ez2]; rfl
              have hTn : T = ⟨#[]⟩ := by rw [unhide HT, hA]; rfl
              have hOn : O = false := by rw [unhide HO, hA]; rfl
              clear HS ey ty ek ez2 hA HA HT HO HR2
              subst hTn hOn
              have HT0 := hide t0
              clear t0
              go_wp2_with fail
              refine (unhide INk _).mono ?_
              rintro e w3 ⟨rfl, rfl⟩
              go_wp2_with fail
              refine (unhide NM _).mono ?_
              rintro e w4 ⟨rfl, rfl⟩
              go_wp2_with fail
              go_ret2
              exact ⟨rfl, bw⟩
        · have ey : (decide (0 ≤ y) && decide (y ≤ 1000000000)) = false := by
            rw [Bool.eq_false_iff]
            simp
            omega
          rw [ey] at INk HS
          have hA : A = none := by rw [unhide HS]; rfl
          have hTn : T = ⟨#[]⟩ := by rw [unhide HT, hA]; rfl
          have hOn : O = false := by rw [unhide HO, hA]; rfl
          clear HS ey ty hA HA HT HO HR2
          subst hTn hOn
          go_wp2_with fail
          refine (unhide INk _).mono ?_
          rintro e w3 ⟨rfl, rfl⟩
          go_wp2_with fail
          go_ret2
          exact ⟨rfl, bw⟩
      · obtain rfl : k = 5 := by omega
        have hA : A = some s := (unhide HA).trans (unhide HEND s)
        have hTn : T = s := by rw [unhide HT, hA]; rfl
        have hOn : O = true := by rw [unhide HO, hA]; rfl
        clear hA HA HT HO HR2
        subst hTn hOn
        go_wp2_with fail
        go_ret2
        exact ⟨rfl, bw⟩
  · rw [if_neg h1] at hR
    have e1 : (decide (1 ≤ op) && decide (op ≤ 6)) = false := by
      rw [Bool.eq_false_iff]
      simp
      omega
    have IN1 : Hid (∀ w, Calls Tryz.prog 31 #[.int .i64 op, .int .i64 1, .int .i64 6] w fun e w' => e = .returned (.bool false) ∧ w' = w) := fun w => by have := unhide IN op 1 6 w; rwa [e1] at this
    have hTn : T = ⟨#[]⟩ := by rw [unhide HT, hR]; rfl
    have hOn : O = false := by rw [unhide HO, hR]; rfl
    clear hR e1 HT HO
    subst hTn hOn
    go_enter Tryz.func36, Tryz.ntmps36
    go_wp2_with fail
    refine (unhide IN1 _).mono ?_
    rintro e w1 ⟨rfl, rfl⟩
    go_wp2_with fail
    go_ret2
    exact ⟨rfl, below_new _ _⟩
end Gr
end Go.Proofs.YtjhnippfepbjmaaGreatDoor

/-
  The program's contracts of asks, the small ones: toldNumbers, bytesOf, places.
-/
namespace Go.Proofs.YtjhnippfepbjmaaGreatDoor
namespace Gr
open Go.RowKit

def opIn (op : Int) : Bool := decide (1 ≤ op) && decide (op ≤ 6)

set_option maxRecDepth 100000 in
theorem told_is (op : Int) (w : World) : Calls Tryz.prog 100 #[.int .i64 op] w fun e w' => e = .returned (.tuple #[.int .i64 ((askN op : Nat) : Int), .bool (opIn op)]) ∧ w' = w := by
  have hR : askN op = if op = 1 ∨ op = 3 ∨ op = 5 then 1 else if op = 2 then 5 else 0 := rfl
  have hO : opIn op = (decide (1 ≤ op) && decide (op ≤ 6)) := rfl
  generalize askN op = R at hR ⊢
  generalize opIn op = O at hO ⊢
  by_cases h1 : op = 1
  · subst h1
    simp at hR hO
    subst hR hO
    go_enter Tryz.func100, Tryz.ntmps100
    go_wp2
    go_ret2
    exact ⟨rfl, rfl⟩
  by_cases h3 : op = 3
  · subst h3
    simp at hR hO
    subst hR hO
    go_enter Tryz.func100, Tryz.ntmps100
    go_wp2
    go_ret2
    exact ⟨rfl, rfl⟩
  by_cases h5 : op = 5
  · subst h5
    simp at hR hO
    subst hR hO
    go_enter Tryz.func100, Tryz.ntmps100
    go_wp2
    go_ret2
    exact ⟨rfl, rfl⟩
  by_cases h2 : op = 2
  · subst h2
    simp at hR hO
    subst hR hO
    go_enter Tryz.func100, Tryz.ntmps100
    go_wp2
    go_ret2
    exact ⟨rfl, rfl⟩
  by_cases h4 : op = 4
  · subst h4
    simp at hR hO
    subst hR hO
    go_enter Tryz.func100, Tryz.ntmps100
    go_wp2
    go_ret2
    exact ⟨rfl, rfl⟩
  by_cases h6 : op = 6
  · subst h6
    simp at hR hO
    subst hR hO
    go_enter Tryz.func100, Tryz.ntmps100
    go_wp2
    go_ret2
    exact ⟨rfl, rfl⟩
  · have e1 : (op == 1) = false := by simp; exact h1
    have e3 : (op == 3) = false := by simp; exact h3
    have e5 : (op == 5) = false := by simp; exact h5
    have e2 : (op == 2) = false := by simp; exact h2
    have e4 : (op == 4) = false := by simp; exact h4
    have e6 : (op == 6) = false := by simp; exact h6
    have hO2 : O = false := by rw [hO]; simp; omega
    simp [h1, h3, h5, h2] at hR
    clear hO
    subst hR hO2
    clear h1 h2 h3 h4 h5 h6
    go_enter Tryz.func100, Tryz.ntmps100
    go_wp2
    go_ret2
    exact ⟨rfl, rfl⟩

/-- Numbers below 256 as bytes. -/
def byL (L : List Int) : List UInt8 := L.map fun x => UInt8.ofNat x.toNat

set_option maxRecDepth 100000 in
set_option maxHeartbeats 1000000 in
theorem bytesOf_any (a : Option Addr) (n c B : Nat) (L : List Int) (hn : n ≤ 100000) (hL : ∀ x ∈ L, 0 ≤ x ∧ x ≤ 255) (w : World) (hB : B ≤ w.heap.size) (hs : IntsAt w a n B L) :
    Calls Tryz.prog 118 #[.slice a n c] w fun e w' => e = .returned (.string ⟨(byL L).toArray⟩) ∧ Below w.heap.size w w' := by
  obtain ⟨i0, hi, hz0, hz1, hz2⟩ := info_parts info5
  obtain ⟨hl, hc⟩ := hs
  have HC := hide hc
  have HL := hide hl
  have HX := hide hL
  have HEND : Hid (byL L = byL (L.take n)) := by show _ = _; rw [← hl, List.take_length]
  have HSN : Hid (∀ k (h : k < L.length), byL (L.take (k + 1)) = byL (L.take k) ++ [UInt8.ofNat (L[k]).toNat]) := fun k h => by
    unfold byL
    rw [List.take_succ_eq_append_getElem h, List.map_append]
    rfl
  have HLN : Hid (∀ k, k ≤ n → (byL (L.take k)).length = k) := fun k h => by unfold byL; simp; omega
  clear hc hl hL
  go_enter Tryz.func118, Tryz.ntmps118
  go_wp2_with fail
  go_loopw [8, 3] (fun iv out wr => ∃ (k : Nat) (ov : Value), iv = .int .i64 (k : Int) ∧ ov = out ∧ k ≤ n ∧ wr.ownsRow w.heap.size 5 1 ov k (bytesV (byL (L.take k))) ∧ Below w.heap.size w wr) (fun iv _ _ => n - (intOf iv).toNat)
  case atStart => exact ⟨0, _, rfl, rfl, Nat.zero_le _, World.ownsRow_nil _ _ _ _, Below.refl _ _⟩
  case round =>
    obtain ⟨k, ov, rfl, rfl, hk, hown, hb⟩ := hrel
    have hbs := hb.size
    by_cases hlt : k < n
    · have hkL : k < L.length := by have := unhide HL; omega
      obtain ⟨b, off, rfl, hbB, c1⟩ := unhide HC k hkL
      rw [← hb.cell (p := ⟨b, off + k, none⟩) (by simp; omega)] at c1
      have hx := unhide HX _ (List.getElem_mem hkL)
      have HS := hide (unhide HSN k hkL)
      have hlen := unhide HLN k hk
      have hlen1 := unhide HLN (k + 1) hlt
      generalize L[k] = x at c1 hx HS
      obtain ⟨xn, rfl⟩ := Int.eq_ofNat_of_zero_le hx.1
      have hx1 : (k : Int) < (n : Int) := by omega
      have hx0 : (0 : Int) ≤ (k : Int) := by omega
      have hxn : xn ≤ 255 := by omega
      have HLE := hide hlen
      have HLE1 := hide hlen1
      clear hlen hlen1
      go_wp2_with (at_builtin; refine wpList_append_own _ rfl _ _ 66 rfl w.heap.size 5 i0 (.int .u8 0) 1 1 Tryz.underlying66 hi hz0 hz1 hz2 rfl (by decide) _ _ _ rfl (hown.alloc _) ⟨wr.heap.size, 0, none⟩ 1 1 [.int .u8 (xn : Int)] rfl rfl (cell_one_new _ _ _) (one_byte _) ?c3 ?c4 ?c5 ?_)
      case c3 => unfold maxLen; omega
      case c4 => omega
      case c5 => simp; omega
      intro v' w1 hown' hgrow _
      have hb1 := below_append hb (Nat.le_refl _) hown hgrow
      have hown2 : w1.ownsRow w.heap.size 5 1 v' (k + 1) (bytesV (byL (L.take (k + 1)))) := by
        have e := unhide HLE
        have h := own_snoc (pre := byL (L.take k)) (c := UInt8.ofNat xn) (by rw [toNat_ofNat_small _ (by omega)]) (by rw [e]; exact hown')
        rw [unhide HS]
        have e2 := unhide HLE1
        rw [unhide HS] at e2
        simp only [Int.toNat_natCast] at e2 h ⊢
        rw [e2] at h
        exact h
      clear hown' hgrow hown hb c1
      go_wp2
      exact ⟨⟨k + 1, _, by go_num, rfl, by omega, hown2, hb1⟩, by simp [intOf]; omega⟩
    · obtain rfl : k = n := by omega
      have hlen := unhide HLN k hk
      have hown1 : wr.ownsRow w.heap.size 5 1 ov (byL (L.take k)).length (bytesV (byL (L.take k))) := by rw [hlen]; exact hown
      have hcv := convert_own wr 66 9 5 w.heap.size ov _ Tryz.underlying66 Tryz.underlying5 Tryz.underlying9 hown1
      rw [← unhide HEND] at hcv
      have HLE := hide hlen
      clear hown1 hown hlen
      go_wp2
      go_ret
      exact ⟨rfl, hb⟩

/-- What places hands back: where each number of an ask lies. -/
def plC (g : Nat) : Array Value := #[.pointer (some ⟨g, 1, none⟩), .pointer (some ⟨g, 2, none⟩), .pointer (some ⟨g, 3, none⟩), .pointer (some ⟨g, 4, none⟩), .pointer (some ⟨g, 5, none⟩)]

set_option maxRecDepth 100000 in
set_option maxHeartbeats 1000000 in
theorem places_any (g : Nat) (w : World) : Calls Tryz.prog 101 #[.pointer (some ⟨g, 0, none⟩)] w fun e w' => (∃ p, e = .returned (.slice (some ⟨p, 0, none⟩) 5 5) ∧ w.heap.size ≤ p ∧ Blk w' p (plC g) 165) ∧ Below w.heap.size w w' := by
  go_enter Tryz.func101, Tryz.ntmps101
  go_wp2_with fail
  go_region
  go_wp2_with fail
  go_ret
  refine ⟨⟨w.heap.size, rfl, by omega, ?_⟩, ?_⟩
  · exact Blk.new0.drew
  · exact (below_new _ _).drew
end Gr
end Go.Proofs.YtjhnippfepbjmaaGreatDoor

/-
  The contract of impl.AskText.
-/
namespace Go.Proofs.YtjhnippfepbjmaaGreatDoor
namespace Gr
open Go.RowKit

theorem opB_one (op : Int) : (⟨(byL [op]).toArray⟩ : ByteArray) = opB op := rfl

set_option maxRecDepth 100000 in
set_option maxHeartbeats 2000000 in
theorem implAskText_any (x : AskI) (w : World) :
    Calls Tryz.prog 102 #[x.v] w fun e w' => e = .returned (.tuple #[.string (askT x), .bool (askOk x)]) ∧ Below w.heap.size w w' := by
  have TD := hide (fun w => told_is x.Op w)
  have PL := hide (fun g w => places_any g w)
  have VN := hide (fun y hy w => implVar_no y hy w)
  have VY := hide (fun y hy w => implVar_yes y hy w)
  have BO := hide (fun a n c B L hn hL w hB hs => bytesOf_any a n c B L hn hL w hB hs)
  have hT : askT x = (askR x).getD ⟨#[]⟩ := rfl
  have hO : askOk x = (askR x).isSome := rfl
  have hR : askR x = if 1 ≤ x.Op ∧ x.Op ≤ 6 then askGo (askN x.Op) 0 (opB x.Op) (askL x) else none := rfl
  have hn5 := askN_le x.Op
  have HSTEP := hide (fun k s h => askGo_step (askN x.Op) k s (askL x) h)
  have HEND : Hid (∀ s, askGo (askN x.Op) 5 s ((askL x).drop 5) = some s) := fun s => rfl
  have HLL : Hid ((askL x).length = 5) := rfl
  have HPL : Hid (∀ g k, k < 5 → (plC g)[k]? = some (.pointer (some ⟨g, k + 1, none⟩))) := fun g k h => by
    match k, h with
    | 0, _ => rfl
    | 1, _ => rfl
    | 2, _ => rfl
    | 3, _ => rfl
    | 4, _ => rfl
  have HCE : Hid (∀ k (h : k < (askL x).length), (#[Value.int .i64 x.Op, Value.int .i64 x.A, Value.int .i64 x.B, Value.int .i64 x.W1, Value.int .i64 x.W2, Value.int .i64 x.W3] : Array Value)[k + 1]? = some (.int .i64 (askL x)[k])) := fun k h => by
    match k, h with
    | 0, _ => rfl
    | 1, _ => rfl
    | 2, _ => rfl
    | 3, _ => rfl
    | 4, _ => rfl
  have H0 : Hid (∀ n s, askGo n 0 s (askL x) = askGo n 0 s ((askL x).drop 0)) := fun _ _ => rfl
  generalize askT x = T at hT ⊢
  generalize askOk x = O at hO ⊢
  generalize askR x = A at hT hO hR
  have HT := hide hT
  have HO := hide hO
  clear hT hO
  generalize askL x = L at HSTEP HEND HLL HCE H0 hR
  obtain ⟨op, x1, x2, x3, x4, x5⟩ := x
  unfold AskI.v
  simp only at hR TD hn5 HSTEP HEND HCE ⊢
  by_cases h1 : 1 ≤ op ∧ op ≤ 6
  · rw [if_pos h1] at hR
    have e1 : opIn op = true := by unfold opIn; simp; exact h1
    rw [e1] at TD
    have HR2 := hide (hR.trans (unhide H0 _ _))
    have hsz : (opB op).size = 1 := rfl
    have BO1 : Hid (∀ w1 (g : Nat), g < w1.heap.size → w1.cell? ⟨g, 0, none⟩ = some (.int .i64 op) → Calls Tryz.prog 118 #[.slice (some ⟨g, 0, none⟩) 1 1] w1 fun e w' => e = .returned (.string (opB op)) ∧ Below w1.heap.size w1 w') := fun w1 g hg hc => by
      rw [← opB_one]
      refine unhide BO (some ⟨g, 0, none⟩) 1 1 w1.heap.size [op] (by omega) (fun y hy => by simp at hy; subst hy; omega) w1 (Nat.le_refl _) ⟨rfl, fun j hj => ⟨g, 0, rfl, hg, ?_⟩⟩
      obtain rfl : j = 0 := by simp at hj; omega
      exact hc
    generalize opB op = ob at HR2 hsz BO1
    generalize askN op = n at TD HR2 hn5 HSTEP HEND
    clear e1 hR H0 BO
    go_enter Tryz.func102, Tryz.ntmps102
    go_wp2_with fail
    refine (unhide TD _).mono ?_
    rintro e w1 ⟨rfl, rfl⟩
    go_wp2_with fail
    obtain ⟨V, hV⟩ : ∃ W, W = (w.alloc (Obj.cells #[Value.int .i64 op, Value.int .i64 x1, Value.int .i64 x2, Value.int .i64 x3, Value.int .i64 x4, Value.int .i64 x5] 75)).alloc (Obj.cells #[Value.int .i64 op] 3) := ⟨_, rfl⟩
    rw [← hV]
    have bV : Below w.heap.size w V := by rw [hV]; exact (below_new _ _).alloc (by simp) _
    have m0 : Blk V w.heap.size #[Value.int .i64 op, Value.int .i64 x1, Value.int .i64 x2, Value.int .i64 x3, Value.int .i64 x4, Value.int .i64 x5] 75 := by rw [hV]; exact Blk.new0.alloc
    have m1 : Blk V (w.heap.size + 1) #[Value.int .i64 op] 3 := by rw [hV]; exact Blk.new1
    clear hV h1
    refine (unhide BO1 V (w.heap.size + 1) m1.lt (m1.cell 0 _ rfl)).mono ?_
    rintro e w2 ⟨rfl, hb2⟩
    have b2 := bV.trans (hb2.mono bV.size)
    have HM := hide (m0.below hb2)
    clear m0 m1 hb2 bV TD BO1
    go_wp2_with fail
    refine (unhide PL w.heap.size w2).mono ?_
    rintro e w3 ⟨⟨p, rfl, hp, hP⟩, hb3⟩
    have b3 := b2.trans (hb3.mono b2.size)
    have HM := hide ((unhide HM).below hb3)
    have HP := hide hP
    have zp := hP.lt
    have z0 := (unhide HM).lt
    clear hP hb3 b2 PL
    go_wp2_with fail
    go_loopw [6, 25] (fun sv iv wr => ∃ (k : Nat) (s : ByteArray), iv = .int .i64 (k : Int) ∧ sv = .string s ∧ k ≤ 5 ∧ s.size ≤ 1 + 5 * k ∧ Hid (A = askGo n k s (L.drop k)) ∧ Below w3.heap.size w3 wr) (fun _ iv _ => 5 - (intOf iv).toNat)
    case atStart => exact ⟨0, ob, rfl, rfl, Nat.zero_le _, by omega, unhide HR2, Below.refl _ _⟩
    case round =>
      obtain ⟨k, s, rfl, rfl, hk, hs, HA, hbr⟩ := hrel
      have bw := b3.trans (hbr.mono b3.size)
      by_cases hlt : k < 5
      · have hkL : k < L.length := by have := unhide HLL; omega
        have c0 : wr.cell? ⟨p, k, none⟩ = some (.pointer (some ⟨w.heap.size, k + 1, none⟩)) := ((unhide HP).below hbr).cell k _ (unhide HPL _ k hlt)
        have c1 : wr.cell? ⟨w.heap.size, k + 1, none⟩ = some (.int .i64 L[k]) := ((unhide HM).below hbr).cell (k + 1) _ (unhide HCE k hkL)
        have HS := hide ((unhide HA).trans (unhide HSTEP k s hkL))
        generalize L[k] = y at c1 HS
        have hx0 : (0 : Int) ≤ (k : Int) := by omega
        have hx1 : (k : Int) < 5 := by omega
        by_cases ty : 0 ≤ y ∧ y ≤ 1000000000
        · have ey : (decide (0 ≤ y) && decide (y ≤ 1000000000)) = true := by simp; exact ty
          rw [ey] at HS
          obtain ⟨yn, rfl⟩ := Int.eq_ofNat_of_zero_le ty.1
          have VR := hide (fun w => unhide VY yn (by omega) w)
          have HVB : Hid ((⟨(varB 4 yn).toArray⟩ : ByteArray) = vB (yn : Int)) := rfl
          have hvs := vB_size (yn : Int)
          by_cases tk : k < n
          · have ek : decide (k < n) = true := decide_eq_true tk
            have HS2 : Hid (A = askGo n (k + 1) (s ++ vB (yn : Int)) (L.drop (k + 1))) := by
              show _ = _
              rw [unhide HS, ek, if_pos tk]
              simp
            have hge : ¬ ((n : Int) ≤ (k : Int)) := by omega
            have hlt2 : (k : Int) < (n : Int) := by omega
            clear HS ey ty ek
            go_wp2_with fail
            refine (unhide VR _).mono ?_
            rintro e w4 ⟨rfl, hb4⟩
            rw [unhide HVB]
            have b4 := hbr.trans (hb4.mono hbr.size)
            have hs2 : (s ++ vB (yn : Int)).size ≤ 1 + 5 * (k + 1) := by rw [ByteArray.size_append]; omega
            generalize vB (yn : Int) = d at HS2 hvs hs2
            have hcat : ¬ 9223372036854775807 < s.size + d.size := by omega
            clear c0 c1 hb4 VR HVB
            go_wp2_with fail
            exact ⟨⟨k + 1, _, by go_num, rfl, by omega, hs2, unhide HS2, b4⟩, by simp [intOf]; omega⟩
          · have ek : decide (k < n) = false := decide_eq_false tk
            have hge : (n : Int) ≤ (k : Int) := by omega
            have hlt2 : ¬ (k : Int) < (n : Int) := by omega
            rw [ek] at HS
            by_cases tz : yn = 0
            · subst tz
              have HS2 : Hid (A = askGo n (k + 1) s (L.drop (k + 1))) := by
                show _ = _
                rw [unhide HS, if_neg tk]
                simp
              clear HS ey ty ek
              go_wp2_with fail
              refine (unhide VR _).mono ?_
              rintro e w4 ⟨rfl, hb4⟩
              have b4 := hbr.trans (hb4.mono hbr.size)
              have c2 : w4.cell? ⟨w.heap.size, k + 1, none⟩ = some (.int .i64 ((0 : Nat) : Int)) := by rw [hb4.cell (p := ⟨w.heap.size, k + 1, none⟩) (by have := hbr.size; simp; omega)]; exact c1
              clear c0 c1 hb4 VR HVB
              go_wp2_with fail
              exact ⟨⟨k + 1, _, by go_num, rfl, by omega, by omega, unhide HS2, b4⟩, by simp [intOf]; omega⟩
            · have HS2 : Hid (A = none) := by
                show _ = _
                rw [unhide HS]
                simp [tz]
              have ez : ((yn : Int) != 0) = true := by simp; omega
              have HZ := hide tz
              clear HS ey ty ek tz
              go_wp2_with fail
              refine (unhide VR _).mono ?_
              rintro e w4 ⟨rfl, hb4⟩
              have b4 := bw.trans (hb4.mono bw.size)
              have c2 : w4.cell? ⟨w.heap.size, k + 1, none⟩ = some (.int .i64 (yn : Int)) := by rw [hb4.cell (p := ⟨w.heap.size, k + 1, none⟩) (by have := hbr.size; simp; omega)]; exact c1
              clear c0 c1 hb4 VR HVB
              go_wp2_with fail
              go_ret2
              refine ⟨?_, b4⟩
              rw [unhide HT, unhide HO, unhide HS2]
              rfl
        · have ey : (decide (0 ≤ y) && decide (y ≤ 1000000000)) = false := by simp; omega
          have HS2 : Hid (A = none) := by
            show _ = _
            rw [unhide HS, ey]
            simp
          have VR := hide (fun w => unhide VN y (by omega) w)
          have TY := hide ty
          clear HS ey ty
          go_wp2_with fail
          refine (unhide VR _).mono ?_
          rintro e w4 ⟨rfl, rfl⟩
          clear c0 c1 VR
          go_wp2_with fail
          go_ret2
          refine ⟨?_, bw⟩
          rw [unhide HT, unhide HO, unhide HS2]
          rfl
      · obtain rfl : k = 5 := by omega
        have HA2 : Hid (A = some s) := (unhide HA).trans (unhide HEND s)
        go_wp2_with fail
        go_ret2
        refine ⟨?_, bw⟩
        rw [unhide HT, unhide HO, unhide HA2]
        rfl
  · rw [if_neg h1] at hR
    have e1 : opIn op = false := by unfold opIn; simp; omega
    rw [e1] at TD
    have HR2 := hide hR
    have H1 := hide h1
    generalize askN op = n at TD hn5 HSTEP HEND
    clear h1 hR e1
    go_enter Tryz.func102, Tryz.ntmps102
    go_wp2_with fail
    refine (unhide TD _).mono ?_
    rintro e w1 ⟨rfl, rfl⟩
    go_wp2_with fail
    go_ret2
    refine ⟨?_, below_new _ _⟩
    rw [unhide HT, unhide HO, unhide HR2]
    rfl
end Gr
end Go.Proofs.YtjhnippfepbjmaaGreatDoor
