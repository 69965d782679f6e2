/-
  Plain lemmas on bytes and numbers, and three on rows that a call owns: what the other texts of this seat lean on. No condition.
-/
import Derived.Test.YteaidpeifaeckaaBase
namespace Go.Proofs.Yteaidpeifaeckaa
namespace Pg
open Go.RowKit


/-- The bytes of a number by sevens, the lowest first; f: how many may come ahead of the last. -/
def varB : Nat → Nat → List UInt8
  | 0, n => [UInt8.ofNat n]
  | f + 1, n => if 127 < n then UInt8.ofNat (n % 128 + 128) :: varB f (n / 128) else [UInt8.ofNat n]




theorem varB_last (f n : Nat) (h : n ≤ 127) : varB f n = [UInt8.ofNat n] := by
  cases f with
  | zero => rfl
  | succ f => simp only [varB]; rw [if_neg (by omega)]

theorem varB_more (f n : Nat) (h : 127 < n) : varB (f + 1) n = UInt8.ofNat (n % 128 + 128) :: varB f (n / 128) := by
  simp only [varB]; rw [if_pos h]

theorem varB_length (f n : Nat) : (varB f n).length ≤ f + 1 := by
  induction f generalizing n with
  | zero => simp [varB]
  | succ f ih =>
    simp only [varB]
    split
    · have := ih (n / 128)
      simp
      omega
    · simp






def byteAt (s : ByteArray) (i : Nat) : Nat := if h : i < s.size then (s[i]'h).toNat else 0

theorem byteAt_eq {s : ByteArray} {i : Nat} (h : i < s.size) : byteAt s i = (s[i]'h).toNat := by simp [byteAt, h]

theorem byteAt_lt (s : ByteArray) (i : Nat) : byteAt s i < 256 := by
  unfold byteAt
  split
  · exact UInt8.toNat_lt _
  · omega

/-- What a number's bytes from place i on tell, n told already, with the weight sc; f: how many bytes may come. -/
def readV (s : ByteArray) (a : Nat) : Nat → Nat → Nat → Nat → Option (Nat × Nat)
  | 0, _, _, _ => none
  | f + 1, i, n, sc =>
    if i < s.size then
      if byteAt s i < 128 then
        if 1000000000 < n + byteAt s i % 128 * sc then none
        else if varB 4 (n + byteAt s i % 128 * sc) = (s.extract a (i + 1)).toList then some (n + byteAt s i % 128 * sc, i + 1) else none
      else readV s a f (i + 1) (n + byteAt s i % 128 * sc) (sc * 128)
    else none

def rvOut : Option (Nat × Nat) → Value
  | none => .tuple #[.int .i64 0, .int .i64 0, .bool false]
  | some p => .tuple #[.int .i64 (p.1 : Int), .int .i64 (p.2 : Int), .bool true]

theorem readV_end (s : ByteArray) (a f i n sc : Nat) (h : ¬ i < s.size) : readV s a f i n sc = none := by
  cases f with
  | zero => rfl
  | succ f => simp [readV, h]

theorem readV_more {s : ByteArray} {a f i n sc : Nat} (h : i < s.size) (hb : ¬ byteAt s i < 128) :
    readV s a (f + 1) i n sc = readV s a f (i + 1) (n + byteAt s i % 128 * sc) (sc * 128) := by
  simp only [readV]; rw [if_pos h, if_neg hb]

theorem readV_great {s : ByteArray} {a f i n sc : Nat} (h : i < s.size) (hb : byteAt s i < 128) (hg : 1000000000 < n + byteAt s i % 128 * sc) :
    readV s a (f + 1) i n sc = none := by
  simp only [readV]; rw [if_pos h, if_pos hb, if_pos hg]

theorem readV_yes {s : ByteArray} {a f i n sc : Nat} (h : i < s.size) (hb : byteAt s i < 128) (hg : ¬ 1000000000 < n + byteAt s i % 128 * sc)
    (he : varB 4 (n + byteAt s i % 128 * sc) = (s.extract a (i + 1)).toList) : readV s a (f + 1) i n sc = some (n + byteAt s i % 128 * sc, i + 1) := by
  simp only [readV]; rw [if_pos h, if_pos hb, if_neg hg, if_pos he]

theorem readV_other {s : ByteArray} {a f i n sc : Nat} (h : i < s.size) (hb : byteAt s i < 128) (hg : ¬ 1000000000 < n + byteAt s i % 128 * sc)
    (he : varB 4 (n + byteAt s i % 128 * sc) ≠ (s.extract a (i + 1)).toList) : readV s a (f + 1) i n sc = none := by
  simp only [readV]; rw [if_pos h, if_pos hb, if_neg hg, if_neg he]

theorem weight_le {sc f : Nat} (h : sc * 128 ^ (f + 1) = 34359738368) : sc ≤ 268435456 := by
  rw [Nat.pow_succ, ← Nat.mul_assoc] at h
  have h1 : sc * 128 ^ f = 268435456 := by omega
  have h2 : 0 < 128 ^ f := Nat.pow_pos (by omega)
  have h3 : sc * 1 ≤ sc * 128 ^ f := Nat.mul_le_mul_left sc h2
  omega

theorem weight_step {sc f : Nat} (h : sc * 128 ^ (f + 1) = 34359738368) : sc * 128 * 128 ^ f = 34359738368 := by
  rw [Nat.pow_succ] at h; rw [Nat.mul_assoc, Nat.mul_comm 128]; exact h

theorem readV_bound {s : ByteArray} {a : Nat} : ∀ {f i n sc x e : Nat}, readV s a f i n sc = some (x, e) → x ≤ 1000000000 ∧ e ≤ s.size := by
  intro f
  induction f with
  | zero => intro i n sc x e h; simp [readV] at h
  | succ f ih =>
    intro i n sc x e h
    simp only [readV] at h
    split at h
    · split at h
      · split at h
        · simp at h
        · split at h
          · simp at h
            obtain ⟨rfl, rfl⟩ := h
            exact ⟨by omega, by omega⟩
          · simp at h
      · exact ih h
    · simp at h

/-- ReadVar's answer at any place. -/
def readA (s : ByteArray) (a : Int) : Option (Nat × Nat) := if 0 ≤ a ∧ a ≤ (s.size : Int) then readV s a.toNat 5 a.toNat 0 1 else none

theorem readA_bound {s : ByteArray} {a : Int} {x e : Nat} (h : readA s a = some (x, e)) : x ≤ 1000000000 ∧ e ≤ s.size := by
  unfold readA at h
  split at h
  · exact readV_bound h
  · simp at h

/-- ReadShort's answer, of what ReadVar answered. -/
def rsOut (s : ByteArray) : Option (Nat × Nat) → Value
  | none => .tuple #[.string ⟨#[]⟩, .int .i64 0, .bool false]
  | some p => if p.1 ≤ 8000 ∧ p.1 + p.2 ≤ s.size then .tuple #[.string (s.extract p.2 (p.2 + p.1)), .int .i64 ((p.2 : Int) + (p.1 : Int)), .bool true] else .tuple #[.string ⟨#[]⟩, .int .i64 0, .bool false]

end Pg
end Go.Proofs.Yteaidpeifaeckaa
