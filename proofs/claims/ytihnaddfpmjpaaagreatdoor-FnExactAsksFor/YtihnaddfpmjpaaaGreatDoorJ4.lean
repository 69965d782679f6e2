/-
 WDec.
-/
import Derived.Test.YtihnaddfpmjpaaaGreatDoorProg
import Derived.Test.YtihnaddfpmjpaaaGreatDoorJ1
import Derived.Lib.ItoaLen
import Derived.WalkKit
import Derived.ProofKit
import Derived.OpenShut
import Derived.WalkSpells
import Derived.WalkSmall
namespace Go.Proofs.YtihnaddfpmjpaaaGreatDoor
namespace Dc
open Go.RowKit
def digs (v : Nat) : List UInt8 := if v = 0 then [] else Lib.decDigits v
theorem digs_zero : digs 0 = [] := rfl
theorem digs_pos {v : Nat} (h : 0 < v) : digs v = Lib.decDigits v := if_neg (by omega)
theorem digs_step {v : Nat} (h : 0 < v) : digs v = digs (v / 10) ++ [UInt8.ofNat (48 + v % 10)] := by
  rw [digs_pos h, Lib.decDigits]
  by_cases h10 : v < 10
  · rw [dif_pos h10, show v / 10 = 0 by omega, digs_zero, show v % 10 = v by omega]
    rfl
  · rw [dif_neg h10, digs_pos (by omega)]
theorem digs_len {v : Nat} (h : v < 18446744073709551616) : (digs v).length ≤ 20 := by
  unfold digs
  split
  · simp
  · rw [Lib.decDigits_length]; exact Lib.nDigits_le20 v h
theorem acc_len {v u : Nat} {acc : List UInt8} (h : digs v ++ acc = digs u) (hu : u < 18446744073709551616) : acc.length ≤ 20 := by
  have := digs_len hu
  rw [← h, List.length_append] at this
  omega
theorem convert_one {P : Program} (wr : World) (src dst e : TypeId) (c : UInt8) (x : Int) (hx : x = (c.toNat : Int)) (hs : P.underlying src = some (.slice e)) (he : P.underlying e = some (.int .u8)) (hd : P.underlying dst = some .string) :
    (convert src dst (.slice (some ⟨wr.heap.size, 0, none⟩) 1 1)).run P (wr.alloc (.cells #[.int .u8 x] e)) = .ok (.string ⟨#[c]⟩) (wr.alloc (.cells #[.int .u8 x] e)) := by
  subst hx
  refine run_convert_bytes_back (wr.alloc (.cells #[.int .u8 (c.toNat : Int)] e)) src dst e ⟨wr.heap.size, 0, none⟩ 1 [c] hs he hd fun j hj => ?_
  obtain rfl : j = 0 := by simpa using hj
  exact cell_one_new wr _ e 0 _ rfl
def decI (c : Int) : Int := if 48 ≤ c ∧ c ≤ 57 then c - 48 else -1
def rf10 (s : ByteArray) : Nat → Nat → Nat → Option Nat
  | 0, _, n => some n
  | f + 1, i, n => if decI (byteAt s i) < 0 then none else rf10 s f (i + 1) (n * 10 + (decI (byteAt s i)).toNat)
theorem rf10_no {s : ByteArray} {f i n : Nat} (h : decI (byteAt s i) < 0) : rf10 s (f + 1) i n = none := by
  simp only [rf10]; rw [if_pos h]
theorem rf10_yes {s : ByteArray} {f i n : Nat} (h : ¬ decI (byteAt s i) < 0) : rf10 s (f + 1) i n = rf10 s f (i + 1) (n * 10 + (decI (byteAt s i)).toNat) := by
  simp only [rf10]; rw [if_neg h]
theorem pow10_le {i : Nat} (h : i ≤ 10) : 10 ^ i ≤ 10000000000 := by
  have : 10 ^ i ≤ 10 ^ 10 := Nat.pow_le_pow_right (by omega) h
  omega
theorem rf10_bound {s : ByteArray} : ∀ {f i n x : Nat}, n < 10 ^ i → rf10 s f i n = some x → x < 10 ^ (i + f) := by
  intro f
  induction f with
  | zero => intro i n x hn h; simp only [rf10, Option.some.injEq] at h; subst h; exact hn
  | succ f ih =>
    intro i n x hn h
    simp only [rf10] at h
    split at h
    · simp at h
    · rename_i hd
      have hb : decI (byteAt s i) ≤ 9 := by unfold decI; split <;> omega
      have := ih (i := i + 1) (by rw [Nat.pow_succ]; omega) h
      rwa [show i + (f + 1) = i + 1 + f by omega]
def rfOut : Option Nat → Value
  | none => .tuple #[.int .i64 0, .bool false]
  | some n => .tuple #[.int .i64 (n : Int), .bool true]
def rdOut (s : ByteArray) : Option Nat → Value
  | none => .tuple #[.int .i64 0, .bool false]
  | some n => if n ≤ 1000000000 ∧ Lib.itoa (n : Int) = s.toList then .tuple #[.int .i64 (n : Int), .bool true] else .tuple #[.int .i64 0, .bool false]
theorem figure_ten (x : Int) (h0 : 0 ≤ x) (h1 : x < 10) (w : World) : Calls Tryz.prog 127 #[.int .i64 x] w fun e w' => e = .returned (.int .u8 (48 + x)) ∧ w' = w := by
  go_enter Tryz.func127, Tryz.ntmps127
  go_wp2
  go_ret
  exact ⟨rfl, rfl⟩
set_option maxRecDepth 100000 in
set_option maxHeartbeats 1000000 in
theorem specDec_pos (u : Nat) (h0 : 0 < u) (h1 : u ≤ 9223372036854775807) (w : World) :
    Calls Tryz.prog 109 #[.int .i64 (u : Int)] w fun e w' => e = .returned (.string ⟨(digs u).toArray⟩) ∧ Below w.heap.size w w' := by
  have hne : ((u : Int) == 0) = false := beq_eq_false_iff_ne.2 (by omega)
  have hnn : decide ((u : Int) < 0) = false := by simp
  go_enter Tryz.func109, Tryz.ntmps109
  go_wp2_with fail
  go_loopw [0, 4, 5] (fun a s _ wr => ∃ (v : Nat) (acc : List UInt8), a = .int .i64 (v : Int) ∧ s = .string ⟨acc.toArray⟩ ∧ v ≤ u ∧ digs v ++ acc = digs u ∧ Below w.heap.size w wr)
    (fun a _ _ _ => (intOf a).toNat)
  case atStart => exact ⟨u, [], rfl, rfl, Nat.le_refl _, by simp, Below.refl _ _⟩
  case round =>
    obtain ⟨v, acc, rfl, rfl, hvu, hd, hb⟩ := hrel
    have hal := acc_len hd (by omega)
    have HD := hide hd
    clear hd
    have hbs := hb.size
    by_cases hv : v = 0
    · subst hv
      go_wp2
      go_ret
      rw [← unhide HD]
      exact ⟨rfl, hb⟩
    · have hv0 : (((v : Int)) != 0) = true := by rw [bne_iff_ne]; omega
      obtain ⟨c, hc⟩ : ∃ c, c = UInt8.ofNat (48 + v % 10) := ⟨_, rfl⟩
      have hcv := convert_one (P := Tryz.prog) wr 103 9 5 c (48 + (v : Int) % 10) (by rw [hc, toNat_ofNat_small _ (by omega)]; omega) Tryz.underlying103 Tryz.underlying5 Tryz.underlying9
      have HC := hide hc
      clear hc
      go_wp2_with fail
      refine (figure_ten _ (by omega) (by omega) _).mono ?_
      rintro e w' ⟨rfl, rfl⟩
      go_wp2
      go_roundw
      case rel =>
        refine ⟨v / 10, c :: acc, by go_num, ?_, by omega, ?_, hb.alloc hbs _⟩
        · exact congrArg Value.string (ByteArray.mk_append_mk [c] acc)
        · rw [← unhide HD, digs_step (show 0 < v by omega), unhide HC]
          simp
      case measure => simp [intOf]; omega
set_option maxRecDepth 100000 in
set_option maxHeartbeats 1000000 in
theorem specDec_neg (u : Nat) (h0 : 0 < u) (h1 : u ≤ 9223372036854775808) (w : World) :
    Calls Tryz.prog 109 #[.int .i64 (-(u : Int))] w fun e w' => e = .returned (.string ⟨(45 :: digs u).toArray⟩) ∧ Below w.heap.size w w' := by
  have hne : ((-(u : Int)) == 0) = false := beq_eq_false_iff_ne.2 (by omega)
  have hnn : decide ((-(u : Int)) < 0) = true := by simp; omega
  go_enter Tryz.func109, Tryz.ntmps109
  go_wp2_with fail
  go_loopw [0, 4, 5] (fun a s _ wr => ∃ (v : Nat) (acc : List UInt8), a = .int .i64 (-(v : Int)) ∧ s = .string ⟨acc.toArray⟩ ∧ v ≤ u ∧ digs v ++ acc = digs u ∧ Below w.heap.size w wr)
    (fun a _ _ _ => (intOf a).natAbs)
  case atStart => exact ⟨u, [], rfl, rfl, Nat.le_refl _, by simp, Below.refl _ _⟩
  case round =>
    obtain ⟨v, acc, rfl, rfl, hvu, hd, hb⟩ := hrel
    have hal := acc_len hd (by omega)
    have HD := hide hd
    clear hd
    have hbs := hb.size
    by_cases hv : v = 0
    · subst hv
      have e45 : (ByteArray.mk #[45] ++ ByteArray.mk acc.toArray) = ByteArray.mk (45 :: acc).toArray := ByteArray.mk_append_mk [45] acc
      go_wp2
      go_ret
      rw [← unhide HD]
      exact ⟨congrArg (fun t => Ending.returned (Value.string t)) e45, hb⟩
    · have hv0 : ((-(v : Int)) != 0) = true := by rw [bne_iff_ne]; omega
      have hm : (-(v : Int)).tmod 10 = -((v : Int) % 10) := by rw [Int.neg_tmod, Int.tmod_eq_emod_of_nonneg (by omega)]
      have hq : (-(v : Int)).tdiv 10 = -((v : Int) / 10) := by rw [Int.neg_tdiv, Int.tdiv_eq_ediv_of_nonneg (by omega)]
      obtain ⟨c, hc⟩ : ∃ c, c = UInt8.ofNat (48 + v % 10) := ⟨_, rfl⟩
      have hcv := convert_one (P := Tryz.prog) wr 103 9 5 c (48 + (v : Int) % 10) (by rw [hc, toNat_ofNat_small _ (by omega)]; omega) Tryz.underlying103 Tryz.underlying5 Tryz.underlying9
      have HC := hide hc
      clear hc
      by_cases hz : 0 < (v : Int) % 10
      · go_wp2_with fail
        refine (figure_ten _ (by omega) (by omega) _).mono ?_
        rintro e w' ⟨rfl, rfl⟩
        go_wp2
        go_roundw
        case rel =>
          refine ⟨v / 10, c :: acc, by go_num, ?_, by omega, ?_, hb.alloc hbs _⟩
          · exact congrArg Value.string (ByteArray.mk_append_mk [c] acc)
          · rw [← unhide HD, digs_step (show 0 < v by omega), unhide HC]
            simp
        case measure => simp [intOf]; omega
      · have hz0 : (v : Int) % 10 = 0 := by omega
        rw [hz0] at hm hcv
        have hf := figure_ten 0 (by omega) (by omega)
        simp only [Int.add_zero] at hcv hf
        have HF := hide hf
        clear hf
        go_wp2_with fail
        refine (unhide HF _).mono ?_
        rintro e w' ⟨rfl, rfl⟩
        go_wp2
        go_roundw
        case rel =>
          refine ⟨v / 10, c :: acc, by go_num, ?_, by omega, ?_, hb.alloc hbs _⟩
          · exact congrArg Value.string (ByteArray.mk_append_mk [c] acc)
          · rw [← unhide HD, digs_step (show 0 < v by omega), unhide HC]
            simp
        case measure => simp [intOf]; omega
theorem specDec_zero (w : World) : Calls Tryz.prog 109 #[.int .i64 0] w fun e w' => e = .returned (.string ⟨(Lib.itoa 0).toArray⟩) ∧ Below w.heap.size w w' := by
  have e0 : Lib.itoa 0 = [48] := (Lib.itoa_nonneg 0).trans (Lib.decDigits_one (by omega))
  rw [e0]
  clear e0
  go_enter Tryz.func109, Tryz.ntmps109
  go_wp2
  go_ret
  exact ⟨rfl, Below.refl _ _⟩
theorem specDec_any (n : Int) (h0 : -9223372036854775808 ≤ n) (h1 : n ≤ 9223372036854775807) (w : World) :
    Calls Tryz.prog 109 #[.int .i64 n] w fun e w' => e = .returned (.string ⟨(Lib.itoa n).toArray⟩) ∧ Below w.heap.size w w' := by
  by_cases hn : n < 0
  · obtain ⟨u, rfl⟩ : ∃ u : Nat, n = -(u : Int) := ⟨n.natAbs, by omega⟩
    have h := specDec_neg u (by omega) (by omega) w
    rw [digs_pos (by omega), ← Lib.itoa_neg u (by omega)] at h
    exact h
  · obtain ⟨u, rfl⟩ : ∃ u : Nat, n = u := ⟨n.toNat, by omega⟩
    by_cases hu : u = 0
    · subst hu
      exact specDec_zero w
    · have h := specDec_pos u (by omega) (by omega) w
      rw [digs_pos (by omega), ← Lib.itoa_nonneg u] at h
      exact h
theorem specRD_no (s : ByteArray) (h : (10 : Int) < (s.size : Int)) (w : World) :
    Calls Tryz.prog 98 #[.string s] w fun e w' => e = .returned (rfOut none) ∧ w' = w := by
  go_enter Tryz.func98, Tryz.ntmps98
  go_wp2
  go_ret2
  exact ⟨rfl, rfl⟩
set_option maxRecDepth 100000 in
set_option maxHeartbeats 1000000 in
theorem specRD_yes (s : ByteArray) (hs : s.size ≤ 10) (w : World) :
    Calls Tryz.prog 98 #[.string s] w fun e w' => e = .returned (rdOut s (rf10 s s.size 0 0)) ∧ Below w.heap.size w w' := by
  go_enter Tryz.func98, Tryz.ntmps98
  go_wp2_with fail
  go_loop [4, 5] (fun a4 a5 => ∃ n i f : Nat, a4 = .int .i64 n ∧ a5 = .int .i64 i ∧ i + f = s.size ∧ n < 10 ^ i ∧ rf10 s f i n = rf10 s s.size 0 0)
    (fun _ a5 => s.size - (intOf a5).toNat)
  case atStart => exact ⟨0, 0, s.size, rfl, rfl, by omega, by simp, rfl⟩
  case round =>
    obtain ⟨n, i, f, rfl, rfl, hif, hn, hv⟩ := hrel
    have HV := hide hv
    clear hv
    have hp := pow10_le (i := i) (by omega)
    by_cases hlt : i < s.size
    · obtain ⟨f, rfl⟩ : ∃ f', f = f' + 1 := ⟨f - 1, by omega⟩
      have hB : ((s[i]'hlt).toNat : Int) ≤ 255 := by have := UInt8.toNat_lt (s[i]'hlt); omega
      have HB := hide (show (byteAt s i : Int) = ((s[i]'hlt).toNat : Int) by rw [byteAt_eq hlt])
      by_cases ha : 48 ≤ ((s[i]'hlt).toNat : Int) ∧ ((s[i]'hlt).toNat : Int) ≤ 57
      · have HE := hide (show decI (byteAt s i) = ((s[i]'hlt).toNat : Int) - 48 from by rw [unhide HB, decI, if_pos ha])
        obtain ⟨ha1, ha2⟩ := ha
        go_wp2
        go_round
        case rel =>
          refine ⟨n * 10 + (decI (byteAt s i)).toNat, i + 1, f, ?_, by go_num, by omega, ?_, ?_⟩
          · rw [unhide HE]; go_num
          · rw [unhide HE, Nat.pow_succ]; omega
          · rw [← unhide HV, rf10_yes (by rw [unhide HE]; omega)]
        case measure => simp [intOf]; omega
      · have HE := hide (show decI (byteAt s i) = -1 from by rw [unhide HB, decI, if_neg ha])
        by_cases hlo : ((s[i]'hlt).toNat : Int) < 48
        · go_wp2
          go_ret2
          rw [← unhide HV, rf10_no (by rw [unhide HE]; omega)]
          exact ⟨rfl, Below.refl _ _⟩
        · have hhi : 57 < ((s[i]'hlt).toNat : Int) := by omega
          clear ha
          go_wp2
          go_ret2
          rw [← unhide HV, rf10_no (by rw [unhide HE]; omega)]
          exact ⟨rfl, Below.refl _ _⟩
    · obtain rfl : f = 0 := by omega
      have hr : rdOut s (rf10 s s.size 0 0) = rdOut s (some n) := by rw [← unhide HV]; rfl
      have HR := hide hr
      clear hr
      by_cases hg : (1000000000 : Int) < (n : Int)
      · go_wp2
        go_ret2
        rw [unhide HR, rdOut, if_neg (by omega)]
        exact ⟨rfl, Below.refl _ _⟩
      · cases hq : (Lib.itoa (n : Int) == s.toList)
        · have HQ := hide hq
          go_wp2_with fail
          refine (specDec_any _ (by omega) (by omega) _).mono ?_
          rintro e w1 ⟨rfl, hb1⟩
          go_wp2
          go_ret2
          rw [unhide HR, rdOut, if_neg (fun hh => by have := unhide HQ; rw [hh.2] at this; simp at this)]
          exact ⟨rfl, hb1⟩
        · have HQ := hide hq
          go_wp2_with fail
          refine (specDec_any _ (by omega) (by omega) _).mono ?_
          rintro e w1 ⟨rfl, hb1⟩
          go_wp2
          go_ret2
          rw [unhide HR, rdOut, if_pos ⟨by omega, eq_of_beq (unhide HQ)⟩]
          exact ⟨rfl, hb1⟩
end Dc
end Go.Proofs.YtihnaddfpmjpaaaGreatDoor
