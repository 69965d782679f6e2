/-
  Plain lemmas on bytes and decimal numerals that the other texts of this seat lean on. No condition.
-/
import Derived.WalkKit
import Derived.ProofKit
import Derived.Laws.BytesArg
import Derived.Laws.IdiomStrings
import Derived.Lib.ItoaLen
import Derived.WalkSpells
namespace Go.Proofs.YtbcefikjacjplagDoor
open Go.RowKit

theorem hide {p : Prop} (h : p) : Hid p := h
theorem unhide {p : Prop} (h : Hid p) : p := h

theorem toNat_ofNat_small (n : Nat) (h : n < 256) : (UInt8.ofNat n).toNat = n := by
  simp [UInt8.toNat_ofNat']; omega

def figI (x : Int) : Int := if x < 10 then 48 + x else 87 + x

/-- The digits of v, none of 0. -/
def digs (v : Nat) : List UInt8 := if v = 0 then [] else Lib.decDigits v

theorem digs_zero : digs 0 = [] := rfl

theorem digs_pos {v : Nat} (h : 0 < v) : digs v = Lib.decDigits v := if_neg (by omega)

theorem digs_step {v : Nat} (h : 0 < v) : digs v = digs (v / 10) ++ [UInt8.ofNat (48 + v % 10)] := by
  rw [digs_pos h, Lib.decDigits]
  by_cases h10 : v < 10
  · rw [dif_pos h10, show v / 10 = 0 by omega, digs_zero, show v % 10 = v by omega]
    rfl
  · rw [dif_neg h10, digs_pos (by omega)]

theorem digs_len {v : Nat} (h : v < 18446744073709551616) : (digs v).length ≤ 20 := by
  unfold digs
  split
  · simp
  · rw [Lib.decDigits_length]; exact Lib.nDigits_le20 v h

theorem acc_len {v u : Nat} {acc : List UInt8} (h : digs v ++ acc = digs u) (hu : u < 18446744073709551616) : acc.length ≤ 20 := by
  have := digs_len hu
  rw [← h, List.length_append] at this
  omega

/-- One byte made a text. -/
theorem convert_one {P : Program} (wr : World) (src dst e : TypeId) (c : UInt8) (x : Int) (hx : x = (c.toNat : Int)) (hs : P.underlying src = some (.slice e)) (he : P.underlying e = some (.int .u8)) (hd : P.underlying dst = some .string) :
    (convert src dst (.slice (some ⟨wr.heap.size, 0, none⟩) 1 1)).run P (wr.alloc (.cells #[.int .u8 x] e)) = .ok (.string ⟨#[c]⟩) (wr.alloc (.cells #[.int .u8 x] e)) := by
  subst hx
  refine run_convert_bytes_back (wr.alloc (.cells #[.int .u8 (c.toNat : Int)] e)) src dst e ⟨wr.heap.size, 0, none⟩ 1 [c] hs he hd fun j hj => ?_
  obtain rfl : j = 0 := by simpa using hj
  exact cell_one_new wr _ e 0 _ rfl

end Go.Proofs.YtbcefikjacjplagDoor
