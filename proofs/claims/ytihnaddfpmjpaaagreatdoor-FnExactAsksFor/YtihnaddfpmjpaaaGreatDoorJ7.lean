/-
 Rg0.
-/
import Derived.Test.YtihnaddfpmjpaaaGreatDoorJ4
import Derived.Test.YtihnaddfpmjpaaaGreatDoorJ5
import Derived.Test.YtihnaddfpmjpaaaGreatDoorJ2
namespace Go.Proofs.YtihnaddfpmjpaaaGreatDoor
namespace Rg
open Go.RowKit
abbrev PL := List (ByteArray × ByteArray)
def tw (n : Nat) : ByteArray := if n < 10 then ⟨#[48]⟩ ++ ⟨(Lib.itoa (n : Int)).toArray⟩ else ⟨(Lib.itoa (n : Int)).toArray⟩
theorem itoa_short (n : Nat) (h : n < 18446744073709551616) : (Lib.itoa (n : Int)).length ≤ 20 := by
  rw [Lib.itoa_nonneg, Lib.decDigits_length]
  exact Lib.nDigits_le20 n h
theorem tw_size (n : Nat) (h : n < 18446744073709551616) : (tw n).size ≤ 21 := by
  have h1 := itoa_short n h
  unfold tw
  split
  · rw [ByteArray.size_append]
    have : (ByteArray.mk (Lib.itoa (n : Int)).toArray).size = (Lib.itoa (n : Int)).length := by simp [ByteArray.size]
    rw [this]
    have : (ByteArray.mk #[48]).size = 1 := rfl
    omega
  · have : (ByteArray.mk (Lib.itoa (n : Int)).toArray).size = (Lib.itoa (n : Int)).length := by simp [ByteArray.size]
    omega
theorem two_any (n : Nat) (h : n ≤ 1000000) (w : World) :
    Calls Tryz.prog 81 #[.int .i64 (n : Int)] w fun e w' => e = .returned (.string (tw n)) ∧ Below w.heap.size w w' := by
  have DE := hide (fun w1 => Dc.specDec_any (n : Int) (by omega) (by omega) w1)
  have hT : tw n = if n < 10 then ⟨#[48]⟩ ++ ⟨(Lib.itoa (n : Int)).toArray⟩ else ⟨(Lib.itoa (n : Int)).toArray⟩ := rfl
  have hs : (ByteArray.mk (Lib.itoa (n : Int)).toArray).size ≤ 20 := by have := itoa_short n (by omega); simpa [ByteArray.size] using this
  generalize tw n = T at hT ⊢
  generalize (ByteArray.mk (Lib.itoa (n : Int)).toArray) = D at DE hT hs
  by_cases h10 : n < 10
  · rw [if_pos h10] at hT
    subst hT
    have h1 : (n : Int) < 10 := by omega
    have hz : ¬ 9223372036854775807 < (ByteArray.mk #[48]).size + D.size := by
      have : (ByteArray.mk #[48]).size = 1 := rfl
      omega
    go_enter Tryz.func81, Tryz.ntmps81
    go_wp2_with fail
    refine (unhide DE _).mono ?_
    rintro e w1 ⟨rfl, hb1⟩
    go_wp2
    go_ret
    exact ⟨rfl, hb1⟩
  · rw [if_neg h10] at hT
    subst hT
    have h1 : ¬ (n : Int) < 10 := by omega
    go_enter Tryz.func81, Tryz.ntmps81
    go_wp2_with fail
    refine (unhide DE _).mono ?_
    rintro e w1 ⟨rfl, hb1⟩
    go_wp2
    go_ret
    exact ⟨rfl, hb1⟩
def getP : PL → ByteArray → Option ByteArray
  | [], _ => none
  | q :: r, k => if (q.1.toList == k.toList) = true then some q.2 else getP r k
def oT (o : Option ByteArray) : ByteArray := o.getD ⟨#[]⟩
theorem getP_step (Q : PL) (k : ByteArray) (j : Nat) (h : j < Q.length) : getP (Q.drop j) k = if (Q[j].1.toList == k.toList) = true then some Q[j].2 else getP (Q.drop (j + 1)) k := by
  rw [List.drop_eq_getElem_cons h]
  rfl
set_option maxRecDepth 100000 in
theorem get_any (a : Option Addr) (len cap B : Nat) (Q : PL) (k : ByteArray) (hlen : len ≤ 1048576) (w : World) (hs : Tr.PairsAt w a len B Q) :
    Calls Tryz.prog 80 #[.slice a len cap, .string k] w fun e w' => e = .returned (.tuple #[.string (oT (getP Q k)), .bool (getP Q k).isSome]) ∧ w' = w := by
  obtain ⟨hL, hc⟩ := hs
  have HC := hide hc
  have HST := hide (fun j h => getP_step Q k j h)
  have H0 : Hid (getP Q k = getP (Q.drop 0) k) := rfl
  generalize getP Q k = R at H0 ⊢
  clear hc
  subst hL
  go_enter Tryz.func80, Tryz.ntmps80
  go_wp2_with fail
  go_loopw [6] (fun i wr => ∃ (j : Nat), i = .int .i64 (j : Int) ∧ j ≤ Q.length ∧ Hid (R = getP (Q.drop j) k) ∧ wr = w) (fun i _ => Q.length - (intOf i).toNat)
  case atStart => exact ⟨0, rfl, Nat.zero_le _, unhide H0, rfl⟩
  case round =>
    obtain ⟨j, rfl, hj, HR, hwr⟩ := hrel
    subst hwr
    by_cases hlt : j < Q.length
    · obtain ⟨b, off, rfl, hbB, d0, d1⟩ := unhide HC j hlt
      have HR2 := hide ((unhide HR).trans (unhide HST j hlt))
      generalize Q[j] = q at d0 d1 HR2
      obtain ⟨x, y⟩ := q
      simp only at d0 d1 HR2
      cases hq : (x.toList == k.toList)
      · rw [hq, if_neg (by simp)] at HR2
        go_wp2_with fail
        exact ⟨⟨j + 1, by go_num, by omega, unhide HR2, trivial⟩, by simp [intOf]; omega⟩
      · rw [hq, if_pos rfl] at HR2
        have hR := unhide HR2
        subst hR
        go_wp2
        go_ret2
        exact ⟨rfl, rfl⟩
    · have hR : R = none := by rw [unhide HR, List.drop_eq_nil_of_le (by omega)]; rfl
      subst hR
      go_wp2
      go_ret2
      exact ⟨rfl, rfl⟩
def numP (t : ByteArray) : Option Nat := if t.size = 2 ∧ 48 ≤ byteAt t 0 ∧ byteAt t 0 ≤ 57 ∧ 48 ≤ byteAt t 1 ∧ byteAt t 1 ≤ 57 then some (10 * (byteAt t 0 - 48) + (byteAt t 1 - 48)) else none
def oN (o : Option Nat) : Int := ((o.getD 0 : Nat) : Int)
theorem numP_le {t : ByteArray} {n : Nat} (h : numP t = some n) : n ≤ 99 := by
  unfold numP at h
  split at h
  · simp at h; omega
  · simp at h
set_option maxRecDepth 100000 in
theorem num_any (t : ByteArray) (w : World) :
    Calls Tryz.prog 63 #[.string t] w fun e w' => e = .returned (.tuple #[.int .i64 (oN (numP t)), .bool (numP t).isSome]) ∧ Below w.heap.size w w' := by
  have hP : numP t = if t.size = 2 ∧ 48 ≤ byteAt t 0 ∧ byteAt t 0 ≤ 57 ∧ 48 ≤ byteAt t 1 ∧ byteAt t 1 ≤ 57 then some (10 * (byteAt t 0 - 48) + (byteAt t 1 - 48)) else none := rfl
  generalize numP t = R at hP ⊢
  by_cases h2 : t.size = 2
  · have l0 : 0 < t.size := by omega
    have l1 : 1 < t.size := by omega
    have e0 := byteAt_eq l0
    have e1 := byteAt_eq l1
    have m0 : ((t[0]'l0).toNat : Int) ≤ 255 := by have := UInt8.toNat_lt (t[0]'l0); omega
    have m1 : ((t[1]'l1).toNat : Int) ≤ 255 := by have := UInt8.toNat_lt (t[1]'l1); omega
    rw [e0, e1] at hP
    have hne : ((t.size : Int) != 2) = false := by rw [h2]; rfl
    have HP := hide hP
    have hti : (0 : Int) < (t.size : Int) := by omega
    have hti1 : (1 : Int) < (t.size : Int) := by omega
    have HH2 := hide h2
    clear e0 e1 hP h2
    by_cases a0 : ((t[0]'l0).toNat : Int) < 48
    · have hR : R = none := by rw [unhide HP, if_neg (by omega)]
      subst hR
      go_enter Tryz.func63, Tryz.ntmps63
      go_wp2
      go_ret2
      exact ⟨rfl, Below.refl _ _⟩
    · by_cases a1 : 57 < ((t[0]'l0).toNat : Int)
      · have hR : R = none := by rw [unhide HP, if_neg (by omega)]
        subst hR
        go_enter Tryz.func63, Tryz.ntmps63
        go_wp2
        go_ret2
        exact ⟨rfl, Below.refl _ _⟩
      · by_cases a2 : ((t[1]'l1).toNat : Int) < 48
        · have hR : R = none := by rw [unhide HP, if_neg (by omega)]
          subst hR
          go_enter Tryz.func63, Tryz.ntmps63
          go_wp2
          go_ret2
          exact ⟨rfl, Below.refl _ _⟩
        · by_cases a3 : 57 < ((t[1]'l1).toNat : Int)
          · have hR : R = none := by rw [unhide HP, if_neg (by omega)]
            subst hR
            go_enter Tryz.func63, Tryz.ntmps63
            go_wp2
            go_ret2
            exact ⟨rfl, Below.refl _ _⟩
          · have hR : R = some (10 * ((t[0]'l0).toNat - 48) + ((t[1]'l1).toNat - 48)) := by rw [unhide HP, if_pos ⟨unhide HH2, by omega, by omega, by omega, by omega⟩]
            have hv : oN R = 10 * (((t[0]'l0).toNat : Int) - 48) + (((t[1]'l1).toNat : Int) - 48) := by rw [hR]; unfold oN; simp; omega
            have hsome : R.isSome = true := by rw [hR]; rfl
            rw [hsome, hv]
            clear hR hv hsome HP
            go_enter Tryz.func63, Tryz.ntmps63
            go_wp2_with fail
            go_quiet (fail)
            go_wp2
            go_ret2
            exact ⟨rfl, below_drewN (Below.refl _ _) _⟩
  · have hR : R = none := by rw [hP, if_neg (by omega)]
    subst hR
    have hne : ((t.size : Int) != 2) = true := by rw [bne_iff_ne]; omega
    clear hP
    go_enter Tryz.func63, Tryz.ntmps63
    go_wp2
    go_ret2
    exact ⟨rfl, Below.refl _ _⟩
end Rg
end Go.Proofs.YtihnaddfpmjpaaaGreatDoor
