/-
  Check sums of 32 bits, without a program: halvings are one to one, so that two texts that differ in one byte have two sums.
-/
import Derived.WalkKit
namespace Go.Proofs.Yteaidpeifaeckaa

/-- One halving. -/
def halfN (n : Nat) : Nat := if n % 2 = 1 then (n / 2) ^^^ 3558460437 else n / 2
/-- Some halvings. -/
def halves : Nat → Nat → Nat
  | 0, n => n
  | k + 1, n => halves k (halfN n)
/-- One byte more. -/
def byteN (s b : Nat) : Nat := halves 8 (s ^^^ b)
/-- A text more. -/
def sumN : Nat → List UInt8 → Nat
  | s, [] => s
  | s, b :: bs => sumN (byteN s b.toNat) bs
/-- The four bytes of a sum, the highest first. -/
def four (x : Nat) : List UInt8 := [UInt8.ofNat (x / 16777216), UInt8.ofNat (x / 65536), UInt8.ofNat (x / 256), UInt8.ofNat x]

theorem halves_succ (k n : Nat) : halves (k + 1) n = halfN (halves k n) := by
  induction k generalizing n with
  | zero => rfl
  | succ k ih => exact ih (halfN n)

theorem halfN_lt {n : Nat} (h : n < 4294967296) : halfN n < 4294967296 := by
  unfold halfN
  split
  · exact Nat.xor_lt_two_pow (n := 32) (by omega) (by omega)
  · omega

theorem halves_lt (k : Nat) {n : Nat} (h : n < 4294967296) : halves k n < 4294967296 := by
  induction k generalizing n with
  | zero => exact h
  | succ k ih => exact ih (halfN_lt h)

theorem xor_cancel {a b c : Nat} (h : a ^^^ c = b ^^^ c) : a = b := by
  have := congrArg (· ^^^ c) h
  simpa [Nat.xor_assoc] using this

theorem xor_cancel_left {a b c : Nat} (h : c ^^^ a = c ^^^ b) : a = b := by
  rw [Nat.xor_comm c a, Nat.xor_comm c b] at h
  exact xor_cancel h

theorem no_meet {a b : Nat} (ha : a < 2147483648) (hb : b < 2147483648) (h : a ^^^ 3558460437 = b) : False := by
  have e : a ^^^ b = 3558460437 := by rw [← h, ← Nat.xor_assoc, Nat.xor_self, Nat.zero_xor]
  have := Nat.xor_lt_two_pow (n := 31) (show a < 2 ^ 31 by omega) (show b < 2 ^ 31 by omega)
  omega

theorem halfN_inj {a b : Nat} (ha : a < 4294967296) (hb : b < 4294967296) (h : halfN a = halfN b) : a = b := by
  unfold halfN at h
  split at h <;> split at h
  · have := xor_cancel h; omega
  · exact (no_meet (by omega) (by omega) h).elim
  · exact (no_meet (by omega) (by omega) h.symm).elim
  · omega

theorem halves_inj (k : Nat) {a b : Nat} (ha : a < 4294967296) (hb : b < 4294967296) (h : halves k a = halves k b) : a = b := by
  induction k generalizing a b with
  | zero => exact h
  | succ k ih => exact halfN_inj ha hb (ih (halfN_lt ha) (halfN_lt hb) h)

theorem xor_lt {s b : Nat} (hs : s < 4294967296) (hb : b < 256) : s ^^^ b < 4294967296 :=
  Nat.xor_lt_two_pow (n := 32) hs (by omega)

theorem byteN_lt {s b : Nat} (hs : s < 4294967296) (hb : b < 256) : byteN s b < 4294967296 := halves_lt 8 (xor_lt hs hb)

theorem byteN_inj {s t b : Nat} (hs : s < 4294967296) (ht : t < 4294967296) (hb : b < 256) (h : byteN s b = byteN t b) : s = t :=
  xor_cancel (halves_inj 8 (xor_lt hs hb) (xor_lt ht hb) h)

theorem byteN_inj_right {s b c : Nat} (hs : s < 4294967296) (hb : b < 256) (hc : c < 256) (h : byteN s b = byteN s c) : b = c :=
  xor_cancel_left (halves_inj 8 (xor_lt hs hb) (xor_lt hs hc) h)

theorem sumN_lt (l : List UInt8) {s : Nat} (hs : s < 4294967296) : sumN s l < 4294967296 := by
  induction l generalizing s with
  | nil => exact hs
  | cons b l ih => exact ih (byteN_lt hs b.toNat_lt)

theorem sumN_append (s : Nat) (l m : List UInt8) : sumN s (l ++ m) = sumN (sumN s l) m := by
  induction l generalizing s with
  | nil => rfl
  | cons b l ih => exact ih _

theorem sumN_inj (l : List UInt8) {s t : Nat} (hs : s < 4294967296) (ht : t < 4294967296) (h : sumN s l = sumN t l) : s = t := by
  induction l generalizing s t with
  | nil => exact h
  | cons b l ih => exact byteN_inj hs ht b.toNat_lt (ih (byteN_lt hs b.toNat_lt) (byteN_lt ht b.toNat_lt) h)

/-- One byte turned is another sum. -/
theorem sumN_turned (l m : List UInt8) (x y : UInt8) {s : Nat} (hs : s < 4294967296) (hne : x ≠ y) : sumN s (l ++ x :: m) ≠ sumN s (l ++ y :: m) := by
  intro h
  rw [sumN_append, sumN_append] at h
  have hl := sumN_lt l hs
  have h2 := sumN_inj m (byteN_lt hl x.toNat_lt) (byteN_lt hl y.toNat_lt) h
  exact hne (UInt8.toNat_inj.mp (byteN_inj_right hl x.toNat_lt y.toNat_lt h2))

theorem sumN_take_succ (s : Nat) (l : List UInt8) (k : Nat) (h : k < l.length) : sumN s (l.take (k + 1)) = byteN (sumN s (l.take k)) (l[k]).toNat := by
  rw [List.take_succ_eq_append_getElem h, sumN_append]
  rfl

theorem ofNat_inj_mod {a b : Nat} (h : UInt8.ofNat a = UInt8.ofNat b) : a % 256 = b % 256 := by
  have := congrArg UInt8.toNat h
  simpa using this

theorem four_inj {x y : Nat} (hx : x < 4294967296) (hy : y < 4294967296) (h : four x = four y) : x = y := by
  unfold four at h
  injection h with h1 h
  injection h with h2 h
  injection h with h3 h
  injection h with h4 h
  have h1 := ofNat_inj_mod h1
  have h2 := ofNat_inj_mod h2
  have h3 := ofNat_inj_mod h3
  have h4 := ofNat_inj_mod h4
  omega

theorem xor_half (a b : Nat) : (a ^^^ b) / 2 = a / 2 ^^^ b / 2 := by
  apply Nat.eq_of_testBit_eq
  intro i
  simp [Nat.testBit_div_two, Nat.testBit_xor]

theorem xor_odd (a b : Nat) : (a ^^^ b) % 2 = (a % 2 + b % 2) % 2 := by
  have h := Nat.testBit_xor a b 0
  simp only [Nat.testBit_zero] at h
  rcases Nat.mod_two_eq_zero_or_one a with h1 | h1 <;> rcases Nat.mod_two_eq_zero_or_one b with h2 | h2 <;> rcases Nat.mod_two_eq_zero_or_one (a ^^^ b) with h3 | h3 <;> simp [h1, h2, h3] at h ⊢

theorem halfN_xor (a b : Nat) : halfN (a ^^^ b) = halfN a ^^^ halfN b := by
  have h := xor_odd a b
  have e := xor_half a b
  unfold halfN
  rcases Nat.mod_two_eq_zero_or_one a with h1 | h1 <;> rcases Nat.mod_two_eq_zero_or_one b with h2 | h2
  · have h3 : (a ^^^ b) % 2 = 0 := by omega
    rw [h1, h2, h3, e]; rfl
  · have h3 : (a ^^^ b) % 2 = 1 := by omega
    simp only [h1, h2, h3, e, if_true]
    rw [if_neg (by omega), Nat.xor_assoc]
  · have h3 : (a ^^^ b) % 2 = 1 := by omega
    simp only [h1, h2, h3, e, if_true]
    rw [if_neg (by omega), Nat.xor_assoc, Nat.xor_assoc, Nat.xor_comm (b / 2)]
  · have h3 : (a ^^^ b) % 2 = 0 := by omega
    simp only [h1, h2, h3, e, if_true]
    rw [if_neg (by omega), Nat.xor_assoc, ← Nat.xor_assoc 3558460437, Nat.xor_comm 3558460437, Nat.xor_assoc, Nat.xor_self, Nat.xor_zero]

theorem halves_xor (k a b : Nat) : halves k (a ^^^ b) = halves k a ^^^ halves k b := by
  induction k generalizing a b with
  | zero => rfl
  | succ k ih => show halves k (halfN (a ^^^ b)) = _; rw [halfN_xor, ih]; rfl

theorem halves_high (y : Nat) : halves 8 (256 * y) = y := by
  have h : ∀ n, halfN (2 * n) = n := fun n => by unfold halfN; rw [if_neg (by omega)]; omega
  show halfN (halfN (halfN (halfN (halfN (halfN (halfN (halfN (256 * y)))))))) = y
  rw [show 256 * y = 2 * (128 * y) by omega, h, show 128 * y = 2 * (64 * y) by omega, h, show 64 * y = 2 * (32 * y) by omega, h, show 32 * y = 2 * (16 * y) by omega, h,
    show 16 * y = 2 * (8 * y) by omega, h, show 8 * y = 2 * (4 * y) by omega, h, show 4 * y = 2 * (2 * y) by omega, h, h]

theorem high_low (x : Nat) : (256 * (x / 256)) ^^^ (x % 256) = x := by
  apply Nat.eq_of_testBit_eq
  intro i
  have e1 : (256 * (x / 256)).testBit i = (decide (8 ≤ i) && x.testBit i) := by
    rw [show (256 : Nat) = 2 ^ 8 from rfl, Nat.testBit_two_pow_mul, Nat.testBit_div_two_pow]
    by_cases h : 8 ≤ i
    · simp [h, Nat.sub_add_cancel h]
    · simp [h]
  have e2 : (x % 256).testBit i = (decide (i < 8) && x.testBit i) := by
    rw [show (256 : Nat) = 2 ^ 8 from rfl, Nat.testBit_mod_two_pow]
  rw [Nat.testBit_xor, e1, e2]
  by_cases h : 8 ≤ i
  · have h2 : ¬ i < 8 := by omega
    simp [h, h2]
  · have h2 : i < 8 := by omega
    simp [h, h2]

/-- A byte more by a table of eight halvings of each byte. -/
theorem byteN_table (s b : Nat) : byteN s b = (s / 256) ^^^ halves 8 ((s % 256) ^^^ b) := by
  have e : s ^^^ b = (256 * (s / 256)) ^^^ ((s % 256) ^^^ b) := by rw [← Nat.xor_assoc, high_low]
  unfold byteN
  rw [e, halves_xor, halves_high]

end Go.Proofs.Yteaidpeifaeckaa
