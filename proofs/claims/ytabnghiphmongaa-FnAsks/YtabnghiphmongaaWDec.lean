/-
  The contracts of spec.Decimal, for every int, and of spec.ReadDecimal, for every text.
-/
import Derived.Test.YtabnghiphmongaaProg
import Derived.Test.YtabnghiphmongaaWMath
import Derived.Lib.ItoaLen
import Derived.WalkKit
import Derived.ProofKit
import Derived.OpenShut
import Derived.WalkSpells
import Derived.WalkSmall
namespace Go.Proofs.Ytabnghiphmongaa
namespace Dc
open Go.RowKit

def figI (x : Int) : Int := if x < 10 then 48 + x else 87 + x

/-- The digits of v, none of 0. -/
def digs (v : Nat) : List UInt8 := if v = 0 then [] else Lib.decDigits v

theorem digs_zero : digs 0 = [] := rfl

theorem digs_pos {v : Nat} (h : 0 < v) : digs v = Lib.decDigits v := if_neg (by omega)

theorem digs_step {v : Nat} (h : 0 < v) : digs v = digs (v / 10) ++ [UInt8.ofNat (48 + v % 10)] := by
  rw [digs_pos h, Lib.decDigits]
  by_cases h10 : v < 10
  · rw [dif_pos h10, show v / 10 = 0 by omega, digs_zero, show v % 10 = v by omega]
    rfl
  · rw [dif_neg h10, digs_pos (by omega)]

theorem digs_len {v : Nat} (h : v < 18446744073709551616) : (digs v).length ≤ 20 := by
  unfold digs
  split
  · simp
  · rw [Lib.decDigits_length]; exact Lib.nDigits_le20 v h

theorem acc_len {v u : Nat} {acc : List UInt8} (h : digs v ++ acc = digs u) (hu : u < 18446744073709551616) : acc.length ≤ 20 := by
  have := digs_len hu
  rw [← h, List.length_append] at this
  omega

/-- One byte made a text. -/
theorem convert_one {P : Program} (wr : World) (src dst e : TypeId) (c : UInt8) (x : Int) (hx : x = (c.toNat : Int)) (hs : P.underlying src = some (.slice e)) (he : P.underlying e = some (.int .u8)) (hd : P.underlying dst = some .string) :
    (convert src dst (.slice (some ⟨wr.heap.size, 0, none⟩) 1 1)).run P (wr.alloc (.cells #[.int .u8 x] e)) = .ok (.string ⟨#[c]⟩) (wr.alloc (.cells #[.int .u8 x] e)) := by
  subst hx
  refine run_convert_bytes_back (wr.alloc (.cells #[.int .u8 (c.toNat : Int)] e)) src dst e ⟨wr.heap.size, 0, none⟩ 1 [c] hs he hd fun j hj => ?_
  obtain rfl : j = 0 := by simpa using hj
  exact cell_one_new wr _ e 0 _ rfl

/-- The value of a decimal figure's byte; -1 where it is none. -/
def decI (c : Int) : Int := if 48 ≤ c ∧ c ≤ 57 then c - 48 else -1

/-- What decimal figures tell, from place i on, n told already; f: how many are left. -/
def rf10 (s : ByteArray) : Nat → Nat → Nat → Option Nat
  | 0, _, n => some n
  | f + 1, i, n => if decI (byteAt s i) < 0 then none else rf10 s f (i + 1) (n * 10 + (decI (byteAt s i)).toNat)

theorem rf10_no {s : ByteArray} {f i n : Nat} (h : decI (byteAt s i) < 0) : rf10 s (f + 1) i n = none := by
  simp only [rf10]; rw [if_pos h]

theorem rf10_yes {s : ByteArray} {f i n : Nat} (h : ¬ decI (byteAt s i) < 0) : rf10 s (f + 1) i n = rf10 s f (i + 1) (n * 10 + (decI (byteAt s i)).toNat) := by
  simp only [rf10]; rw [if_neg h]

theorem pow10_le {i : Nat} (h : i ≤ 10) : 10 ^ i ≤ 10000000000 := by
  have : 10 ^ i ≤ 10 ^ 10 := Nat.pow_le_pow_right (by omega) h
  omega

theorem rf10_bound {s : ByteArray} : ∀ {f i n x : Nat}, n < 10 ^ i → rf10 s f i n = some x → x < 10 ^ (i + f) := by
  intro f
  induction f with
  | zero => intro i n x hn h; simp only [rf10, Option.some.injEq] at h; subst h; exact hn
  | succ f ih =>
    intro i n x hn h
    simp only [rf10] at h
    split at h
    · simp at h
    · rename_i hd
      have hb : decI (byteAt s i) ≤ 9 := by unfold decI; split <;> omega
      have := ih (i := i + 1) (by rw [Nat.pow_succ]; omega) h
      rwa [show i + (f + 1) = i + 1 + f by omega]

def rfOut : Option Nat → Value
  | none => .tuple #[.int .i64 0, .bool false]
  | some n => .tuple #[.int .i64 (n : Int), .bool true]

/-- ReadDecimal's answer, of what the figures told. -/
def rdOut (s : ByteArray) : Option Nat → Value
  | none => .tuple #[.int .i64 0, .bool false]
  | some n => if n ≤ 1000000000 ∧ Lib.itoa (n : Int) = s.toList then .tuple #[.int .i64 (n : Int), .bool true] else .tuple #[.int .i64 0, .bool false]

theorem rdOut_form (s : ByteArray) (r : Option Nat) : ∃ y b, rdOut s r = .tuple #[.int .i64 y, .bool b] := by
  cases r with
  | none => exact ⟨_, _, rfl⟩
  | some p =>
    simp only [rdOut]
    split
    · exact ⟨_, _, rfl⟩
    · exact ⟨_, _, rfl⟩

end Dc
end Go.Proofs.Ytabnghiphmongaa
