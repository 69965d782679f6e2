/-
  Pages, without a program: what an item takes, when a page is right, its text, and what is read of a text.
-/
import Derived.Test.YteaidpeifaeckaaWMath
import Derived.Test.YteaidpeifaeckaaSealSpec
namespace Go.Proofs.Yteaidpeifaeckaa
namespace Pg

/-- An item: its key, its value, its page. -/
structure It where
  key : ByteArray
  val : ByteArray
  pg : Int

/-- The bytes of a number, where it is within the limits. -/
def varT (n : Int) : ByteArray := if 0 ≤ n ∧ n ≤ 1000000000 then ⟨(varB 4 n.toNat).toArray⟩ else ⟨#[]⟩

/-- A text behind its length. -/
def shortB (s : ByteArray) : ByteArray := ⟨(varB 4 s.size).toArray⟩ ++ s

theorem varB_pos (f n : Nat) : 0 < (varB f n).length := by
  cases f with
  | zero => simp [varB]
  | succ f => simp only [varB]; split <;> simp

theorem varT_yes {n : Int} (h : 0 ≤ n ∧ n ≤ 1000000000) : varT n = ⟨(varB 4 n.toNat).toArray⟩ := if_pos h
theorem varT_no {n : Int} (h : ¬ (0 ≤ n ∧ n ≤ 1000000000)) : varT n = ⟨#[]⟩ := if_neg h
theorem varT_nat {n : Nat} (h : n ≤ 1000000000) : varT (n : Int) = ⟨(varB 4 n).toArray⟩ := by
  rw [varT_yes ⟨by omega, by omega⟩, Int.toNat_natCast]

theorem size_mk (l : List UInt8) : (ByteArray.mk l.toArray).size = l.length := by simp [ByteArray.size]

theorem varT_size (n : Int) : (varT n).size ≤ 5 := by
  unfold varT
  split
  · rw [size_mk]; exact varB_length 4 _
  · simp [ByteArray.size]

theorem shortB_size (s : ByteArray) : (shortB s).size = (varB 4 s.size).length + s.size := by
  unfold shortB
  rw [ByteArray.size_append, size_mk]

theorem shortB_bd (s : ByteArray) : s.size + 1 ≤ (shortB s).size ∧ (shortB s).size ≤ s.size + 5 := by
  rw [shortB_size]
  have := varB_pos 4 s.size
  have := varB_length 4 s.size
  omega

/-- What stands behind a key. -/
def restT (k : Int) (x : It) : ByteArray := if k = 1 then shortB x.val else if k = 2 then varT x.pg else ⟨#[]⟩

def itSize (k : Int) (x : It) : Nat := if k = 1 ∨ k = 2 then (shortB x.key).size + (restT k x).size else 0

theorem itSize_one (x : It) : itSize 1 x = (shortB x.key).size + (shortB x.val).size := by simp [itSize, restT]
theorem itSize_two (x : It) : itSize 2 x = (shortB x.key).size + (varT x.pg).size := by simp [itSize, restT]
theorem itSize_other {k : Int} (h1 : k ≠ 1) (h2 : k ≠ 2) (x : It) : itSize k x = 0 := by simp [itSize, h1, h2]

theorem itSize_le (k : Int) (x : It) : itSize k x ≤ x.key.size + x.val.size + 10 := by
  have h1 := shortB_bd x.key
  have h2 := shortB_bd x.val
  have h3 := varT_size x.pg
  by_cases k1 : k = 1
  · subst k1; rw [itSize_one]; omega
  · by_cases k2 : k = 2
    · subst k2; rw [itSize_two]; omega
    · rw [itSize_other k1 k2]; omega

def sizeTo (k : Int) (Q : List It) (n : Nat) : Nat := ((Q.take n).map (itSize k)).sum

theorem sizeTo_zero (k : Int) (Q : List It) : sizeTo k Q 0 = 0 := by simp [sizeTo]
theorem sizeTo_succ (k : Int) (Q : List It) (n : Nat) (h : n < Q.length) : sizeTo k Q (n + 1) = sizeTo k Q n + itSize k Q[n] := by
  unfold sizeTo
  rw [List.take_succ_eq_append_getElem h, List.map_append, List.sum_append]
  simp

theorem sizeTo_mono (k : Int) (Q : List It) {m n : Nat} (h : m ≤ n) : sizeTo k Q m ≤ sizeTo k Q n := by
  obtain ⟨d, rfl⟩ := Nat.exists_eq_add_of_le h
  induction d with
  | zero => exact Nat.le_refl _
  | succ d ih =>
    by_cases hl : m + d < Q.length
    · have := sizeTo_succ k Q (m + d) hl
      have := ih (by omega)
      show _ ≤ sizeTo k Q (m + d + 1)
      omega
    · have e : sizeTo k Q (m + (d + 1)) = sizeTo k Q (m + d) := by
        unfold sizeTo; rw [List.take_of_length_le (by omega), List.take_of_length_le (by omega)]
      rw [e]; exact ih (by omega)

/-- The key ahead of the n-th. -/
def prevK (Q : List It) (n : Nat) : ByteArray := if n = 0 then ⟨#[]⟩ else ((Q[n - 1]?).map It.key).getD ⟨#[]⟩

theorem prevK_zero (Q : List It) : prevK Q 0 = ⟨#[]⟩ := rfl
theorem prevK_succ (Q : List It) (n : Nat) (h : n < Q.length) : prevK Q (n + 1) = Q[n].key := by
  simp [prevK, h]

/-- Whether what stands behind a key is right. -/
def restOk (k : Int) (x : It) : Bool := if k = 1 then x.pg == 0 else (x.val.size == 0) && (decide (0 ≤ x.pg) && decide (x.pg < 400))

/-- Whether the n-th item may stand where it does. -/
def okAt (k : Int) (Q : List It) (n : Nat) (x : It) : Bool := Op.bytesLess (prevK Q n).toList x.key.toList && restOk k x

/-- Whether a page is right. -/
def PageOk (k : Int) (Q : List It) : Prop := (k = 1 ∨ k = 2) ∧ 0 < Q.length ∧ (∀ n (h : n < Q.length), okAt k Q n Q[n] = true) ∧ sizeTo k Q Q.length ≤ 54

instance (k : Int) (Q : List It) : Decidable (PageOk k Q) := by unfold PageOk; exact inferInstance

def itT (k : Int) (x : It) : ByteArray := shortB x.key ++ restT k x

/-- The bytes of a page up to its n-th item. -/
def pageTo (k : Int) (Q : List It) (n : Nat) : ByteArray := (Q.take n).foldl (fun s x => s ++ itT k x) (⟨#[UInt8.ofNat k.toNat]⟩ ++ varT (Q.length : Int))

theorem pageTo_zero (k : Int) (Q : List It) : pageTo k Q 0 = ⟨#[UInt8.ofNat k.toNat]⟩ ++ varT (Q.length : Int) := by simp [pageTo]

theorem pageTo_succ (k : Int) (Q : List It) (n : Nat) (h : n < Q.length) : pageTo k Q (n + 1) = pageTo k Q n ++ itT k Q[n] := by
  unfold pageTo
  rw [List.take_succ_eq_append_getElem h, List.foldl_append]
  rfl

theorem itT_size {k : Int} (h : k = 1 ∨ k = 2) (x : It) : (itT k x).size = itSize k x := by
  unfold itT itSize
  rw [if_pos h, ByteArray.size_append]

theorem pageTo_size {k : Int} (hk : k = 1 ∨ k = 2) (Q : List It) (n : Nat) (h : n ≤ Q.length) : (pageTo k Q n).size = 1 + (varT (Q.length : Int)).size + sizeTo k Q n := by
  induction n with
  | zero =>
    have h1 : (ByteArray.mk #[UInt8.ofNat k.toNat]).size = 1 := rfl
    rw [pageTo_zero, sizeTo_zero, ByteArray.size_append, h1]; rfl
  | succ n ih => rw [pageTo_succ k Q n (by omega), sizeTo_succ k Q n (by omega), ByteArray.size_append, ih (by omega), itT_size hk]; omega

theorem pageTo_small {k : Int} (hk : k = 1 ∨ k = 2) (Q : List It) (n : Nat) (h : n ≤ Q.length) (hs : sizeTo k Q Q.length ≤ 54) : (pageTo k Q n).size ≤ 60 := by
  rw [pageTo_size hk Q n h]
  have := varT_size (Q.length : Int)
  have := sizeTo_mono k Q h
  omega

/-- What PageText answers. -/
def pageA (k : Int) (Q : List It) : Value := if PageOk k Q then .tuple #[.string (sealB (pageTo k Q Q.length)), .bool true] else .tuple #[.string ⟨#[]⟩, .bool false]

theorem pageA_yes {k : Int} {Q : List It} (h : PageOk k Q) : pageA k Q = .tuple #[.string (sealB (pageTo k Q Q.length)), .bool true] := if_pos h
theorem pageA_no {k : Int} {Q : List It} (h : ¬ PageOk k Q) : pageA k Q = .tuple #[.string ⟨#[]⟩, .bool false] := if_neg h

theorem pageA_two (k : Int) (Q : List It) : ∃ (t : ByteArray) (b : Bool), pageA k Q = .tuple #[.string t, .bool b] := by
  unfold pageA
  split
  · exact ⟨_, _, rfl⟩
  · exact ⟨_, _, rfl⟩

/-- An item is of more than one byte. -/
theorem itSize_pos {k : Int} (h : k = 1 ∨ k = 2) (x : It) : 1 ≤ itSize k x := by
  have h1 := shortB_bd x.key
  unfold itSize
  rw [if_pos h]
  omega

theorem sizeTo_ge {k : Int} (hk : k = 1 ∨ k = 2) (Q : List It) (n : Nat) (h : n ≤ Q.length) : n ≤ sizeTo k Q n := by
  induction n with
  | zero => omega
  | succ n ih =>
    have := ih (by omega)
    have := sizeTo_succ k Q n (by omega)
    have := itSize_pos hk Q[n]
    omega

/-- Nothing is less than the empty text. -/
theorem less_nil (l : List UInt8) : Op.bytesLess l [] = false := by cases l <;> rfl
theorem nil_less (l : List UInt8) : Op.bytesLess [] l = !l.isEmpty := by cases l <;> rfl

theorem less_total : ∀ (a b : List UInt8), (Op.bytesLess b a || b == a) = !Op.bytesLess a b
  | [], [] => rfl
  | [], _ :: _ => rfl
  | _ :: _, [] => rfl
  | x :: a, y :: b => by
    have ih := less_total a b
    rcases Nat.lt_trichotomy x.toNat y.toNat with h | h | h
    · have h1 : x < y := h
      have h2 : ¬ y < x := by intro e; exact absurd (show y.toNat < x.toNat from e) (by omega)
      have h3 : ¬ y = x := by intro e; subst e; omega
      simp [Op.bytesLess, h1, h2, h3]
    · obtain rfl : x = y := UInt8.toNat_inj.mp h
      have h1 : ¬ x < x := by intro e; exact absurd (show x.toNat < x.toNat from e) (by omega)
      simp [Op.bytesLess, h1] at ih ⊢
      exact ih
    · have h1 : y < x := h
      have h2 : ¬ x < y := by intro e; exact absurd (show x.toNat < y.toNat from e) (by omega)
      have h3 : ¬ x = y := by intro e; subst e; omega
      simp [Op.bytesLess, h1, h2, h3]

/-- ReadShort's answer at a place. -/
def rsA (s : ByteArray) (a : Nat) : Option (ByteArray × Nat) :=
  match readA s (a : Int) with
  | none => none
  | some p => if p.1 ≤ 8000 ∧ p.1 + p.2 ≤ s.size then some (s.extract p.2 (p.2 + p.1), p.2 + p.1) else none

theorem rsOut_none {s : ByteArray} {a : Nat} (h : rsA s a = none) : rsOut s (readA s (a : Int)) = .tuple #[.string ⟨#[]⟩, .int .i64 0, .bool false] := by
  unfold rsA at h
  cases hr : readA s (a : Int) with
  | none => rfl
  | some p =>
    rw [hr] at h
    simp only at h
    simp only [rsOut]
    split at h
    · simp at h
    · rename_i hn
      rw [if_neg hn]

theorem rsOut_some {s : ByteArray} {a : Nat} {t : ByteArray} {e : Nat} (h : rsA s a = some (t, e)) : rsOut s (readA s (a : Int)) = .tuple #[.string t, .int .i64 (e : Int), .bool true] := by
  unfold rsA at h
  cases hr : readA s (a : Int) with
  | none => rw [hr] at h; simp at h
  | some p =>
    rw [hr] at h
    simp only at h
    simp only [rsOut]
    split at h
    · rename_i hn
      rw [if_pos hn]
      simp at h
      obtain ⟨rfl, rfl⟩ := h
      rw [Int.natCast_add]
    · simp at h

theorem readV_ahead {s : ByteArray} {a : Nat} : ∀ {f i n sc x e : Nat}, readV s a f i n sc = some (x, e) → i < e := by
  intro f
  induction f with
  | zero => intro i n sc x e h; simp [readV] at h
  | succ f ih =>
    intro i n sc x e h
    simp only [readV] at h
    split at h
    · split at h
      · split at h
        · simp at h
        · split at h
          · simp at h
            omega
          · simp at h
      · have := ih h; omega
    · simp at h

theorem readA_ahead {s : ByteArray} {a x e : Nat} (h : readA s (a : Int) = some (x, e)) : a < e ∧ e ≤ s.size ∧ x ≤ 1000000000 := by
  have hb := readA_bound h
  unfold readA at h
  split at h
  · have := readV_ahead h
    simp at this
    omega
  · simp at h

theorem rsA_ahead {s : ByteArray} {a : Nat} {t : ByteArray} {e : Nat} (h : rsA s a = some (t, e)) : a < e ∧ e ≤ s.size ∧ t.size ≤ 8000 := by
  unfold rsA at h
  cases hr : readA s (a : Int) with
  | none => rw [hr] at h; simp at h
  | some p =>
    obtain ⟨x, y⟩ := p
    have hb := readA_ahead hr
    rw [hr] at h
    simp only at h
    split at h
    · rename_i hn
      simp at h
      obtain ⟨rfl, rfl⟩ := h
      refine ⟨by omega, by omega, ?_⟩
      simp [ByteArray.size_extract]
      omega
    · simp at h

/-- What is read behind a key. -/
def restA (k : Int) (s : ByteArray) (a : Nat) : Option (ByteArray × Int × Nat) :=
  if k = 1 then (rsA s a).map (fun p => (p.1, 0, p.2)) else (readA s (a : Int)).map (fun p => (⟨#[]⟩, (p.1 : Int), p.2))

/-- An item that is read. -/
def itA (k : Int) (s : ByteArray) (a : Nat) : Option (It × Nat) := (rsA s a).bind fun p => (restA k s p.2).map fun q => (⟨p.1, q.1, q.2.1⟩, q.2.2)

/-- So many items that are read. -/
def itsA (k : Int) (s : ByteArray) : Nat → Nat → Option (List It)
  | 0, _ => some []
  | n + 1, a => (itA k s a).bind fun p => (itsA k s n p.2).map (p.1 :: ·)

/-- A page that is read, right or not. -/
def pgA (s : ByteArray) : Option (Int × List It) :=
  if h : 0 < s.size then (readA s 1).bind fun p => (itsA ((s[0]'h).toNat : Int) s p.1 p.2).map fun Q => (((s[0]'h).toNat : Int), Q) else none

theorem itA_ahead {k : Int} {s : ByteArray} {a : Nat} {x : It} {e : Nat} (h : itA k s a = some (x, e)) : a < e ∧ e ≤ s.size ∧ x.key.size ≤ 8000 ∧ x.val.size ≤ 8000 := by
  unfold itA at h
  cases hr : rsA s a with
  | none => rw [hr] at h; simp at h
  | some p =>
    obtain ⟨t, b⟩ := p
    have h1 := rsA_ahead hr
    rw [hr] at h
    simp only [Option.bind_some, restA] at h
    split at h
    · cases hq : rsA s b with
      | none => rw [hq] at h; simp at h
      | some q =>
        obtain ⟨u, c⟩ := q
        have h2 := rsA_ahead hq
        rw [hq] at h
        simp at h
        obtain ⟨rfl, rfl⟩ := h
        exact ⟨by omega, h2.2.1, h1.2.2, h2.2.2⟩
    · cases hq : readA s (b : Int) with
      | none => rw [hq] at h; simp at h
      | some q =>
        obtain ⟨u, c⟩ := q
        have h2 := readA_ahead hq
        rw [hq] at h
        simp at h
        obtain ⟨rfl, rfl⟩ := h
        exact ⟨by omega, h2.2.1, h1.2.2, by simp [ByteArray.size]⟩

end Pg
end Go.Proofs.Yteaidpeifaeckaa
