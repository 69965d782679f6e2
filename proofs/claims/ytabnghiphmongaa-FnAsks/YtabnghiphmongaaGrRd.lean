/-
  Numbers of a text, read one behind the other; what was written is read back. Without a program.
-/
import Derived.Test.YtabnghiphmongaaGrVB
import Derived.Test.YtabnghiphmongaaWTrip
namespace Go.Proofs.Ytabnghiphmongaa
namespace Gr
open Go.RowKit

/-- A reader: its place; whether a number was not there. -/
structure CS where
  p : Nat
  b : Bool

/-- A number, and the reader behind it. -/
def rd (t : ByteArray) (c : CS) : Int × CS := if c.b = true then (0, ⟨c.p, true⟩) else match readA t (c.p : Int) with | none => (0, ⟨c.p, true⟩) | some x => ((x.1 : Int), ⟨x.2, false⟩)

def rdInts (t : ByteArray) : Nat → CS → List Int × CS
  | 0, c => ([], c)
  | k + 1, c => if c.b = true then ([], c) else
    let a := rd t c
    let r := rdInts t k a.2
    (a.1 :: r.1, r.2)

theorem rd_bound (t : ByteArray) (c : CS) (hc : c.p ≤ t.size) : 0 ≤ (rd t c).1 ∧ (rd t c).1 ≤ 1000000000 ∧ (rd t c).2.p ≤ t.size := by
  unfold rd
  split
  · exact ⟨Int.le_refl _, by simp, hc⟩
  · split
    · exact ⟨Int.le_refl _, by simp, hc⟩
    · rename_i x h
      have := readA_bound (x := x.1) (e := x.2) h
      exact ⟨by simp, by simp; omega, by simp; omega⟩

/-- The bytes of a number, as a list. -/
def vL (n : Int) : List UInt8 := varB 4 n.toNat

theorem vB_list (n : Int) : (vB n).data.toList = vL n := by simp [vB, vL]

theorem app_list (a b : ByteArray) : (a ++ b).data.toList = a.data.toList ++ b.data.toList := by simp

theorem rd_back (t : ByteArray) (p r : List UInt8) (n : Int) (h0 : 0 ≤ n) (h1 : n ≤ 1000000000) (ht : t.data.toList = p ++ (vL n ++ r)) : rd t ⟨p.length, false⟩ = (n, ⟨(p ++ vL n).length, false⟩) := by
  obtain ⟨k, rfl⟩ := Int.eq_ofNat_of_zero_le h0
  have e : t = ⟨(p ++ varB 4 k ++ r).toArray⟩ := by
    apply ByteArray.ext
    rw [← Array.toList_inj, ht]
    simp [vL]
  have h := readA_var p r k (by omega)
  rw [← e] at h
  unfold rd
  rw [if_neg (by simp)]
  simp only [h]
  simp [vL]

def small (x : Int) : Prop := 0 ≤ x ∧ x ≤ 1000000000

theorem ints_back (t : ByteArray) : ∀ (Q : List Int) (p r : List UInt8), (∀ e ∈ Q, small e) → t.data.toList = p ++ (Q.flatMap vL ++ r) → rdInts t Q.length ⟨p.length, false⟩ = (Q, ⟨(p ++ Q.flatMap vL).length, false⟩)
  | [], p, r, _, _ => by simp [rdInts]
  | e :: Q, p, r, h, ht => by
    obtain ⟨a0, a1⟩ := h e (by simp)
    rw [List.flatMap_cons] at ht
    simp only [List.append_assoc] at ht
    have r1 := rd_back t p _ e a0 a1 ht
    have r6 := ints_back t Q (p ++ vL e) r (fun x hx => h x (by simp [hx])) (by rw [ht]; simp only [List.append_assoc] <;> rfl)
    rw [List.length_cons, rdInts, if_neg (by simp)]
    simp only [r1, r6]
    simp only [List.flatMap_cons, List.append_assoc]

end Gr
end Go.Proofs.Ytabnghiphmongaa
