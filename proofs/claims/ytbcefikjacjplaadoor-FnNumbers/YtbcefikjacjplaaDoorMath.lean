/-
  Plain lemmas on bytes, figures and decimal numerals that the other texts of this seat lean on. No condition.
-/
import Derived.Test.YtbcefikjacjplaaDoorDraw
import Derived.Laws.BytesArg
import Derived.Laws.IdiomStrings
import Derived.Lib.ItoaLen
namespace Go.Proofs.YtbcefikjacjplaaDoor
open Go.RowKit

/-- The bytes of a number by sevens, the lowest first; f: how many may come ahead of the last. -/
def varB : Nat → Nat → List UInt8
  | 0, n => [UInt8.ofNat n]
  | f + 1, n => if 127 < n then UInt8.ofNat (n % 128 + 128) :: varB f (n / 128) else [UInt8.ofNat n]

def bytesV (l : List UInt8) : List Value := l.map fun b => Value.int .u8 (b.toNat : Int)

theorem bytesV_snoc (l : List UInt8) (c : UInt8) : bytesV l ++ [Value.int .u8 (c.toNat : Int)] = bytesV (l ++ [c]) := by
  simp [bytesV]

theorem bytesV_length (l : List UInt8) : (bytesV l).length = l.length := by simp [bytesV]

theorem varB_last (f n : Nat) (h : n ≤ 127) : varB f n = [UInt8.ofNat n] := by
  cases f with
  | zero => rfl
  | succ f => simp only [varB]; rw [if_neg (by omega)]

theorem varB_more (f n : Nat) (h : 127 < n) : varB (f + 1) n = UInt8.ofNat (n % 128 + 128) :: varB f (n / 128) := by
  simp only [varB]; rw [if_pos h]

theorem varB_length (f n : Nat) : (varB f n).length ≤ f + 1 := by
  induction f generalizing n with
  | zero => simp [varB]
  | succ f ih =>
    simp only [varB]
    split
    · have := ih (n / 128)
      simp
      omega
    · simp

theorem toNat_ofNat_small (n : Nat) (h : n < 256) : (UInt8.ofNat n).toNat = n := by
  simp [UInt8.toNat_ofNat']; omega

theorem convert_own {P : Program} (w : World) (src dst e : TypeId) (base : Nat) (v : Value) (l : List UInt8) (hs : P.underlying src = some (.slice e)) (he : P.underlying e = some (.int .u8))
    (hd : P.underlying dst = some .string) (hown : w.ownsRow base e 1 v l.length (bytesV l)) : (convert src dst v).run P w = .ok (.string ⟨l.toArray⟩) w := by
  have hown0 := hown
  rcases hown.2 with ⟨rfl, h0⟩ | ⟨g, cap, cur, rfl, hg, hh, hnc, hcp, hcs, htake⟩
  · obtain rfl : l = [] := List.length_eq_zero_iff.1 h0
    exact run_convert_bytes_nil w src e hs he 0 0 dst hd
  · refine run_convert_bytes_back w src dst e ⟨g, 0, none⟩ cap l hs he hd fun j hj => ?_
    rw [Addr.add_lit, Nat.zero_add, hown0.cellAt j (by omega)]
    simp [bytesV, hj]

theorem own_snoc {w1 : World} {B e : Nat} {v' : Value} {pre : List UInt8} {c : UInt8} {x : Int} (hx : x = (c.toNat : Int))
    (h : w1.ownsRow B e 1 v' (pre.length + 1) (bytesV pre ++ [.int .u8 x])) : w1.ownsRow B e 1 v' (pre ++ [c]).length (bytesV (pre ++ [c])) := by
  rw [hx, bytesV_snoc] at h
  simpa using h

theorem one_byte (x : Int) : ∀ u, u ∈ [Value.int .u8 x] → u.oneCell' = true := by
  intro u hu; simp at hu; subst hu; rfl

theorem below_append {B : Nat} {w wr w1 : World} {o : Obj} {e size n : Nat} {v : Value} {xs : List Value} (hb : Below B w wr) (hB : B ≤ w.heap.size) (hown : wr.ownsRow B e size v n xs)
    (hg : (wr.alloc o).grownBy w1 v.ownBlock) : Below B w w1 := by
  have hs := hb.size
  exact (hb.alloc (by omega) o).grown hg (by simp; omega) (fun k hk => (hown.lt k hk).1)

def byteAt (s : ByteArray) (i : Nat) : Nat := if h : i < s.size then (s[i]'h).toNat else 0

theorem byteAt_eq {s : ByteArray} {i : Nat} (h : i < s.size) : byteAt s i = (s[i]'h).toNat := by simp [byteAt, h]

theorem byteAt_lt (s : ByteArray) (i : Nat) : byteAt s i < 256 := by
  unfold byteAt
  split
  · exact UInt8.toNat_lt _
  · omega

/-- What a number's bytes from place i on tell, n told already, with the weight sc; f: how many bytes may come. -/
def readV (s : ByteArray) (a : Nat) : Nat → Nat → Nat → Nat → Option (Nat × Nat)
  | 0, _, _, _ => none
  | f + 1, i, n, sc =>
    if i < s.size then
      if byteAt s i < 128 then
        if 1000000000 < n + byteAt s i % 128 * sc then none
        else if varB 4 (n + byteAt s i % 128 * sc) = (s.extract a (i + 1)).toList then some (n + byteAt s i % 128 * sc, i + 1) else none
      else readV s a f (i + 1) (n + byteAt s i % 128 * sc) (sc * 128)
    else none

def rvOut : Option (Nat × Nat) → Value
  | none => .tuple #[.int .i64 0, .int .i64 0, .bool false]
  | some p => .tuple #[.int .i64 (p.1 : Int), .int .i64 (p.2 : Int), .bool true]

theorem readV_end (s : ByteArray) (a f i n sc : Nat) (h : ¬ i < s.size) : readV s a f i n sc = none := by
  cases f with
  | zero => rfl
  | succ f => simp [readV, h]

theorem readV_more {s : ByteArray} {a f i n sc : Nat} (h : i < s.size) (hb : ¬ byteAt s i < 128) :
    readV s a (f + 1) i n sc = readV s a f (i + 1) (n + byteAt s i % 128 * sc) (sc * 128) := by
  simp only [readV]; rw [if_pos h, if_neg hb]

theorem readV_great {s : ByteArray} {a f i n sc : Nat} (h : i < s.size) (hb : byteAt s i < 128) (hg : 1000000000 < n + byteAt s i % 128 * sc) :
    readV s a (f + 1) i n sc = none := by
  simp only [readV]; rw [if_pos h, if_pos hb, if_pos hg]

theorem readV_yes {s : ByteArray} {a f i n sc : Nat} (h : i < s.size) (hb : byteAt s i < 128) (hg : ¬ 1000000000 < n + byteAt s i % 128 * sc)
    (he : varB 4 (n + byteAt s i % 128 * sc) = (s.extract a (i + 1)).toList) : readV s a (f + 1) i n sc = some (n + byteAt s i % 128 * sc, i + 1) := by
  simp only [readV]; rw [if_pos h, if_pos hb, if_neg hg, if_pos he]

theorem readV_other {s : ByteArray} {a f i n sc : Nat} (h : i < s.size) (hb : byteAt s i < 128) (hg : ¬ 1000000000 < n + byteAt s i % 128 * sc)
    (he : varB 4 (n + byteAt s i % 128 * sc) ≠ (s.extract a (i + 1)).toList) : readV s a (f + 1) i n sc = none := by
  simp only [readV]; rw [if_pos h, if_pos hb, if_neg hg, if_neg he]

theorem weight_le {sc f : Nat} (h : sc * 128 ^ (f + 1) = 34359738368) : sc ≤ 268435456 := by
  rw [Nat.pow_succ, ← Nat.mul_assoc] at h
  have h1 : sc * 128 ^ f = 268435456 := by omega
  have h2 : 0 < 128 ^ f := Nat.pow_pos (by omega)
  have h3 : sc * 1 ≤ sc * 128 ^ f := Nat.mul_le_mul_left sc h2
  omega

theorem weight_step {sc f : Nat} (h : sc * 128 ^ (f + 1) = 34359738368) : sc * 128 * 128 ^ f = 34359738368 := by
  rw [Nat.pow_succ] at h; rw [Nat.mul_assoc, Nat.mul_comm 128]; exact h

theorem readV_bound {s : ByteArray} {a : Nat} : ∀ {f i n sc x e : Nat}, readV s a f i n sc = some (x, e) → x ≤ 1000000000 ∧ e ≤ s.size := by
  intro f
  induction f with
  | zero => intro i n sc x e h; simp [readV] at h
  | succ f ih =>
    intro i n sc x e h
    simp only [readV] at h
    split at h
    · split at h
      · split at h
        · simp at h
        · split at h
          · simp at h
            obtain ⟨rfl, rfl⟩ := h
            exact ⟨by omega, by omega⟩
          · simp at h
      · exact ih h
    · simp at h

/-- ReadVar's answer at any place. -/
def readA (s : ByteArray) (a : Int) : Option (Nat × Nat) := if 0 ≤ a ∧ a ≤ (s.size : Int) then readV s a.toNat 5 a.toNat 0 1 else none

theorem readA_bound {s : ByteArray} {a : Int} {x e : Nat} (h : readA s a = some (x, e)) : x ≤ 1000000000 ∧ e ≤ s.size := by
  unfold readA at h
  split at h
  · exact readV_bound h
  · simp at h

/-- ReadShort's answer, of what ReadVar answered. -/
def rsOut (s : ByteArray) : Option (Nat × Nat) → Value
  | none => .tuple #[.string ⟨#[]⟩, .int .i64 0, .bool false]
  | some p => if p.1 ≤ 8000 ∧ p.1 + p.2 ≤ s.size then .tuple #[.string (s.extract p.2 (p.2 + p.1)), .int .i64 ((p.2 : Int) + (p.1 : Int)), .bool true] else .tuple #[.string ⟨#[]⟩, .int .i64 0, .bool false]

/-- The byte of a figure. -/
def figI (x : Int) : Int := if x < 10 then 48 + x else 87 + x

theorem figI_bd (x : Int) (h0 : 0 ≤ x) (h1 : x < 16) : 0 ≤ figI x ∧ figI x ≤ 255 := by
  unfold figI; split <;> omega

def fig (x : Nat) : UInt8 := UInt8.ofNat (figI (x : Int)).toNat

theorem fig_toNat (x : Nat) (h : x < 16) : ((fig x).toNat : Int) = figI (x : Int) := by
  have hb := figI_bd (x : Int) (by omega) (by omega)
  unfold fig
  rw [toNat_ofNat_small _ (by omega)]
  omega

def hexB (l : List UInt8) : List UInt8 := l.flatMap fun c => [fig (c.toNat / 16), fig (c.toNat % 16)]

theorem hexB_length (l : List UInt8) : (hexB l).length = 2 * l.length := by
  induction l with
  | nil => rfl
  | cons a l ih => simp only [hexB, List.flatMap_cons, List.length_append, List.length_cons, List.length_nil] at ih ⊢; omega

theorem hexB_snoc (l : List UInt8) (c : UInt8) : hexB (l ++ [c]) = hexB l ++ [fig (c.toNat / 16), fig (c.toNat % 16)] := by
  simp [hexB]

theorem take_snoc (s : ByteArray) (k : Nat) (h : k < s.size) : s.data.toList.take (k + 1) = s.data.toList.take k ++ [s[k]] := by
  rw [List.take_succ_eq_append_getElem (by simpa using h)]; rfl

theorem two_bytes (x y : Int) : ∀ u, u ∈ [Value.int .u8 x, Value.int .u8 y] → u.oneCell' = true := by
  intro u hu; simp at hu; rcases hu with rfl | rfl <;> rfl

theorem own_two {w1 : World} {B e : Nat} {v' : Value} {pre : List UInt8} {c d : UInt8} {x y : Int} (hx : x = (c.toNat : Int)) (hy : y = (d.toNat : Int))
    (h : w1.ownsRow B e 1 v' (pre.length + 2) (bytesV pre ++ [.int .u8 x, .int .u8 y])) : w1.ownsRow B e 1 v' (pre ++ [c, d]).length (bytesV (pre ++ [c, d])) := by
  subst hx hy
  simpa [bytesV] using h

theorem below_append_drew {B : Nat} {w wr w1 : World} {o : Obj} {e size n : Nat} {v : Value} {xs : List Value} (hb : Below B w wr) (hB : B ≤ w.heap.size) (hown : wr.ownsRow B e size v n xs)
    (hg : (wr.alloc o).drew.grownBy w1 v.ownBlock) : Below B w w1 := by
  have hs := hb.size
  exact ((hb.alloc (by omega) o).drew).grown hg (by simp; omega) (fun k hk => (hown.lt k hk).1)

theorem hex_step {w1 : World} {B e : Nat} {v' : Value} {s : ByteArray} {k : Nat} (h : k < s.size)
    (ho : w1.ownsRow B e 1 v' ((hexB (s.data.toList.take k)).length + 2) (bytesV (hexB (s.data.toList.take k)) ++ [.int .u8 (figI (((s[k]'h).toNat : Int) / 16)), .int .u8 (figI (((s[k]'h).toNat : Int) % 16))])) :
    w1.ownsRow B e 1 v' (hexB (s.data.toList.take (k + 1))).length (bytesV (hexB (s.data.toList.take (k + 1)))) := by
  have hB := UInt8.toNat_lt (s[k]'h)
  rw [take_snoc s k h, hexB_snoc]
  refine own_two ?_ ?_ ho
  · rw [fig_toNat _ (by omega)]; rfl
  · rw [fig_toNat _ (by omega)]; rfl

/-- The value of a figure's byte; -1 where it is none. -/
def valI (c : Int) : Int := if 48 ≤ c ∧ c ≤ 57 then c - 48 else if 97 ≤ c ∧ c ≤ 102 then c - 87 else -1

theorem valI_bd (c : Int) : -1 ≤ valI c ∧ valI c ≤ 15 := by
  unfold valI
  split
  · omega
  · split <;> omega

def unhexF (s : ByteArray) : Nat → Nat → List UInt8 → Option (List UInt8)
  | 0, _, acc => some acc
  | f + 1, i, acc =>
    if valI (byteAt s i) < 0 ∨ valI (byteAt s (i + 1)) < 0 then none
    else unhexF s f (i + 2) (acc ++ [UInt8.ofNat (16 * valI (byteAt s i) + valI (byteAt s (i + 1))).toNat])

def uhOut : Option (List UInt8) → Value
  | none => .tuple #[.string ⟨#[]⟩, .bool false]
  | some l => .tuple #[.string ⟨l.toArray⟩, .bool true]

theorem unhexF_no {s : ByteArray} {f i : Nat} {acc : List UInt8} (h : valI (byteAt s i) < 0 ∨ valI (byteAt s (i + 1)) < 0) : unhexF s (f + 1) i acc = none := by
  simp only [unhexF]; rw [if_pos h]

theorem unhexF_yes {s : ByteArray} {f i : Nat} {acc : List UInt8} (h : ¬ (valI (byteAt s i) < 0 ∨ valI (byteAt s (i + 1)) < 0)) :
    unhexF s (f + 1) i acc = unhexF s f (i + 2) (acc ++ [UInt8.ofNat (16 * valI (byteAt s i) + valI (byteAt s (i + 1))).toNat]) := by
  simp only [unhexF]; rw [if_neg h]

/-- What figures of the base 16 tell, from place i on, n told already; f: how many are left. -/
def rf16 (s : ByteArray) : Nat → Nat → Nat → Option Nat
  | 0, _, n => some n
  | f + 1, i, n => if valI (byteAt s i) < 0 then none else rf16 s f (i + 1) (n * 16 + (valI (byteAt s i)).toNat)

def rfOut : Option Nat → Value
  | none => .tuple #[.int .i64 0, .bool false]
  | some n => .tuple #[.int .i64 (n : Int), .bool true]

theorem rf16_no {s : ByteArray} {f i n : Nat} (h : valI (byteAt s i) < 0) : rf16 s (f + 1) i n = none := by
  simp only [rf16]; rw [if_pos h]

theorem rf16_yes {s : ByteArray} {f i n : Nat} (h : ¬ valI (byteAt s i) < 0) : rf16 s (f + 1) i n = rf16 s f (i + 1) (n * 16 + (valI (byteAt s i)).toNat) := by
  simp only [rf16]; rw [if_neg h]

theorem pow16_le {i : Nat} (h : i ≤ 14) : 16 ^ i ≤ 72057594037927936 := by
  have : 16 ^ i ≤ 16 ^ 14 := Nat.pow_le_pow_right (by omega) h
  omega

theorem byteAt_list (s : ByteArray) (i : Nat) : byteAt s i = ((s.data.toList)[i]?.map UInt8.toNat).getD 0 := by
  unfold byteAt
  split
  · rename_i h
    have h2 : i < s.data.toList.length := by simpa using h
    rw [List.getElem?_eq_getElem h2]
    rfl
  · rename_i h
    have h2 : s.data.toList.length ≤ i := by simpa using h
    rw [List.getElem?_eq_none h2]
    rfl

theorem byteAt_extract (s : ByteArray) (a b j : Nat) (h : a + j < b) (hb : b ≤ s.size) : byteAt (s.extract a b) j = byteAt s (a + j) := by
  have h1 : j < (s.extract a b).size := by simp [ByteArray.size_extract]; omega
  rw [byteAt_eq h1, byteAt_eq (show a + j < s.size by omega)]
  congr 1
  exact ByteArray.getElem_extract ..

theorem rf16_two (s : ByteArray) (i : Nat) (h : i + 2 ≤ s.size) : rf16 (s.extract i (i + 2)) (s.extract i (i + 2)).size 0 0 =
    if valI (byteAt s i) < 0 ∨ valI (byteAt s (i + 1)) < 0 then none else some (16 * valI (byteAt s i) + valI (byteAt s (i + 1))).toNat := by
  have hz : (s.extract i (i + 2)).size = 2 := by simp [ByteArray.size_extract]; omega
  have e0 := byteAt_extract s i (i + 2) 0 (by omega) h
  have e1 := byteAt_extract s i (i + 2) 1 (by omega) h
  rw [hz]
  simp only [rf16, e0, e1, Nat.add_zero, Nat.zero_add]
  by_cases h0 : valI (byteAt s i) < 0
  · rw [if_pos h0, if_pos (Or.inl h0)]
  · rw [if_neg h0]
    by_cases h1 : valI (byteAt s (i + 1)) < 0
    · rw [if_pos h1, if_pos (Or.inr h1)]
    · rw [if_neg h1, if_neg (by omega)]
      congr 1
      omega

/-- The digits of v, none of 0. -/
def digs (v : Nat) : List UInt8 := if v = 0 then [] else Lib.decDigits v

theorem digs_zero : digs 0 = [] := rfl

theorem digs_pos {v : Nat} (h : 0 < v) : digs v = Lib.decDigits v := if_neg (by omega)

theorem digs_step {v : Nat} (h : 0 < v) : digs v = digs (v / 10) ++ [UInt8.ofNat (48 + v % 10)] := by
  rw [digs_pos h, Lib.decDigits]
  by_cases h10 : v < 10
  · rw [dif_pos h10, show v / 10 = 0 by omega, digs_zero, show v % 10 = v by omega]
    rfl
  · rw [dif_neg h10, digs_pos (by omega)]

theorem digs_len {v : Nat} (h : v < 18446744073709551616) : (digs v).length ≤ 20 := by
  unfold digs
  split
  · simp
  · rw [Lib.decDigits_length]; exact Lib.nDigits_le20 v h

theorem acc_len {v u : Nat} {acc : List UInt8} (h : digs v ++ acc = digs u) (hu : u < 18446744073709551616) : acc.length ≤ 20 := by
  have := digs_len hu
  rw [← h, List.length_append] at this
  omega

/-- The value of a decimal figure's byte; -1 where it is none. -/
def decI (c : Int) : Int := if 48 ≤ c ∧ c ≤ 57 then c - 48 else -1

/-- What decimal figures tell, from place i on, n told already; f: how many are left. -/
def rf10 (s : ByteArray) : Nat → Nat → Nat → Option Nat
  | 0, _, n => some n
  | f + 1, i, n => if decI (byteAt s i) < 0 then none else rf10 s f (i + 1) (n * 10 + (decI (byteAt s i)).toNat)

theorem rf10_no {s : ByteArray} {f i n : Nat} (h : decI (byteAt s i) < 0) : rf10 s (f + 1) i n = none := by
  simp only [rf10]; rw [if_pos h]

theorem rf10_yes {s : ByteArray} {f i n : Nat} (h : ¬ decI (byteAt s i) < 0) : rf10 s (f + 1) i n = rf10 s f (i + 1) (n * 10 + (decI (byteAt s i)).toNat) := by
  simp only [rf10]; rw [if_neg h]

theorem pow10_le {i : Nat} (h : i ≤ 10) : 10 ^ i ≤ 10000000000 := by
  have : 10 ^ i ≤ 10 ^ 10 := Nat.pow_le_pow_right (by omega) h
  omega

theorem rf10_bound {s : ByteArray} : ∀ {f i n x : Nat}, n < 10 ^ i → rf10 s f i n = some x → x < 10 ^ (i + f) := by
  intro f
  induction f with
  | zero => intro i n x hn h; simp only [rf10, Option.some.injEq] at h; subst h; exact hn
  | succ f ih =>
    intro i n x hn h
    simp only [rf10] at h
    split at h
    · simp at h
    · rename_i hd
      have hb : decI (byteAt s i) ≤ 9 := by unfold decI; split <;> omega
      have := ih (i := i + 1) (by rw [Nat.pow_succ]; omega) h
      rwa [show i + (f + 1) = i + 1 + f by omega]

/-- ReadDecimal's answer, of what the figures told. -/
def rdOut (s : ByteArray) : Option Nat → Value
  | none => .tuple #[.int .i64 0, .bool false]
  | some n => if n ≤ 1000000000 ∧ Lib.itoa (n : Int) = s.toList then .tuple #[.int .i64 (n : Int), .bool true] else .tuple #[.int .i64 0, .bool false]

theorem rdOut_form (s : ByteArray) (r : Option Nat) : ∃ y b, rdOut s r = .tuple #[.int .i64 y, .bool b] := by
  cases r with
  | none => exact ⟨_, _, rfl⟩
  | some p =>
    simp only [rdOut]
    split
    · exact ⟨_, _, rfl⟩
    · exact ⟨_, _, rfl⟩

end Go.Proofs.YtbcefikjacjplaaDoor
