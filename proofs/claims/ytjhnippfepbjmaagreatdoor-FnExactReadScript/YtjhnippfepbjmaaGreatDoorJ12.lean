/-
  Texts of this claim, one behind the other: Sc0, Sc1, ScK, ScM, ScMm, ScN, ScO.
-/
import Derived.Test.YtjhnippfepbjmaaGreatDoorJ8
import Derived.Test.YtjhnippfepbjmaaGreatDoorJ9
import Derived.Test.YtjhnippfepbjmaaGreatDoorJ11
import Derived.Test.YtjhnippfepbjmaaGreatDoorJ3
import Derived.Lib.DecodeN
import Derived.Lib.SplitLaws
import Derived.Test.YtjhnippfepbjmaaGreatDoorJ7
import Derived.Test.YtjhnippfepbjmaaGreatDoorJ2
import Derived.Test.YtjhnippfepbjmaaGreatDoorJ5

/-
  Scripts, as mathematics: lines, commands, deeds, what a script tells.
-/
namespace Go.Proofs.YtjhnippfepbjmaaGreatDoor
namespace Sc
open Go.RowKit
open Gr (DeedI deedOk askN askR askOf)

/-! ### Numbers -/

def rdD (s : ByteArray) : Option Nat := if s.size ≤ 10 then (match Dc.rf10 s s.size 0 0 with | none => none | some n => if n ≤ 1000000000 ∧ Lib.itoa (n : Int) = s.toList then some n else none) else none

def oN (o : Option Nat) : Int := ((o.getD 0 : Nat) : Int)

theorem rdD_le {s : ByteArray} {n : Nat} (h : rdD s = some n) : n ≤ 1000000000 := by
  unfold rdD at h
  split at h
  · split at h
    · simp at h
    · split at h
      · rename_i hh
        simp at h
        omega
      · simp at h
  · simp at h

theorem oN_bd (s : ByteArray) : 0 ≤ oN (rdD s) ∧ oN (rdD s) ≤ 1000000000 := by
  unfold oN
  cases h : rdD s with
  | none => simp
  | some n => have := rdD_le h; simp; omega

/-- Numbers in a row; none: one of them is none. -/
def numsM : List ByteArray → Option (List Int)
  | [] => some []
  | x :: r => match rdD x with | none => none | some n => (numsM r).map (fun l => (n : Int) :: l)

theorem numsM_length : ∀ {L : List ByteArray} {K : List Int}, numsM L = some K → K.length = L.length
  | [], K, h => by simp [numsM] at h; subst h; rfl
  | x :: r, K, h => by
    simp only [numsM] at h
    split at h
    · simp at h
    · obtain ⟨l, hl, rfl⟩ := Option.map_eq_some_iff.1 h
      simp [numsM_length hl]

/-! ### Commands -/

/-- The number of a command's word; 0: it is none of an ask. -/
def opW (x : ByteArray) : Int :=
  if (x.toList == [106, 111, 105, 110]) = true then 1
  else if (x.toList == [108, 105, 110, 107]) = true then 2
  else if (x.toList == [108, 101, 97, 118, 101]) = true then 3
  else if (x.toList == [99, 108, 101, 97, 114]) = true then 4
  else if (x.toList == [97, 117, 100, 105, 116]) = true then 5
  else if (x.toList == [115, 104, 111, 119]) = true then 6
  else 0

theorem opW_bd (x : ByteArray) : 0 ≤ opW x ∧ opW x ≤ 6 := by unfold opW; (repeat' split) <;> omega

def unhexO (h : ByteArray) : Option ByteArray := if h.size ≤ 16000 ∧ h.size % 2 = 0 then (Ux.unhexF h (h.size / 2) 0 []).map (fun l => ⟨l.toArray⟩) else none

def isRaw (x : ByteArray) : Bool := x.toList == [114, 97, 119]

/-- The numbers behind a word, as the text of an ask. -/
def askM (op : Int) (r : List ByteArray) : Option ByteArray := if op = 0 then none else if r.length = askN op then (match numsM r with | none => none | some ns => askR (askOf op ns)) else none

/-- The text of what the parts of a line ask. -/
def textM : List ByteArray → Option ByteArray
  | [] => none
  | x :: r => if isRaw x = true then (match r with | [h] => unhexO h | _ => none) else askM (opW x) r

theorem raw_op {x : ByteArray} (h : isRaw x = true) : opW x = 0 := by
  unfold isRaw at h
  have e : x.toList = [114, 97, 119] := by simpa using h
  unfold opW
  rw [e]
  rfl

/-! ### Pieces between commas, lines -/

def piecesF (t : ByteArray) : Nat → Nat → Nat → List ByteArray
  | 0, b, _ => [t.extract b t.size]
  | f + 1, b, i => if byteAt t i = 44 then t.extract b i :: piecesF t f (i + 1) (i + 1) else piecesF t f b (i + 1)

def pieces (t : ByteArray) : List ByteArray := piecesF t t.size 0 0

def keepM (t : ByteArray) : Option (List Int) := numsM (pieces t)

def linesF (t : ByteArray) : Nat → Nat → Nat → List ByteArray
  | 0, b, _ => if b < t.size then [t.extract b t.size] else []
  | f + 1, b, i => if byteAt t i = 10 then t.extract b i :: linesF t f (i + 1) (i + 1) else linesF t f b (i + 1)

def lines (t : ByteArray) : List ByteArray := linesF t t.size 0 0

theorem linesF_hit {t : ByteArray} {f b i : Nat} (h : byteAt t i = 10) : linesF t (f + 1) b i = t.extract b i :: linesF t f (i + 1) (i + 1) := by simp only [linesF]; rw [if_pos h]
theorem linesF_miss {t : ByteArray} {f b i : Nat} (h : byteAt t i ≠ 10) : linesF t (f + 1) b i = linesF t f b (i + 1) := by simp only [linesF]; rw [if_neg h]

theorem linesF_skip (t : ByteArray) (b : Nat) : ∀ (k f i : Nat), (∀ j, j < k → byteAt t (i + j) ≠ 10) → linesF t (f + k) b i = linesF t f b (i + k)
  | 0, f, i, _ => rfl
  | k + 1, f, i, h => by
    rw [show f + (k + 1) = (f + k) + 1 by omega, linesF_miss (by simpa using h 0 (by omega)), linesF_skip t b k f (i + 1) (fun j hj => by have := h (j + 1) (by omega); rwa [show i + 1 + j = i + (j + 1) by omega])]
    congr 1
    omega

theorem linesF_each (t : ByteArray) : ∀ (f b i : Nat), i + f = t.size → b ≤ i → ∀ x ∈ linesF t f b i, x.size ≤ t.size
  | 0, b, i, h, _, x, hx => by
    simp only [linesF] at hx
    split at hx
    · simp at hx; subst hx; simp [ByteArray.size_extract]
    · simp at hx
  | f + 1, b, i, h, hb, x, hx => by
    simp only [linesF] at hx
    split at hx
    · rcases List.mem_cons.1 hx with rfl | hx
      · simp [ByteArray.size_extract]; omega
      · exact linesF_each t f (i + 1) (i + 1) (by omega) (Nat.le_refl _) x hx
    · exact linesF_each t f b (i + 1) (by omega) (by omega) x hx

theorem linesF_len (t : ByteArray) : ∀ (f b i : Nat), (linesF t f b i).length ≤ f + 1
  | 0, b, i => by simp only [linesF]; split <;> simp
  | f + 1, b, i => by
    simp only [linesF]
    split
    · have := linesF_len t f (i + 1) (i + 1); simp; omega
    · have := linesF_len t f b (i + 1); omega

theorem get_byteAt (s : ByteArray) (i : Nat) (h : i < s.size) : (s.get! i).toNat = byteAt s i := by
  rw [byteAt_eq h]
  congr 1
  show s.data[i]! = _
  rw [getElem!_pos s.data i h]
  rfl

/-- A rune's bytes: how many they are; only a rune of one byte is a break. -/
theorem rune_at (s : ByteArray) (pos : Nat) (h : pos < s.size) : pos + (Utf8.decode s pos).2 ≤ s.size ∧ 1 ≤ (Utf8.decode s pos).2 ∧ (∀ j, 0 < j → j < (Utf8.decode s pos).2 → byteAt s (pos + j) ≠ 10) ∧ ((Utf8.decode s pos).1 = 10 ↔ byteAt s pos = 10) ∧ ((Utf8.decode s pos).1 = 10 → (Utf8.decode s pos).2 = 1) ∧ (Utf8.decode s pos).1 ≤ 1114111 := by
  rw [Lib.decode_at, get_byteAt s pos h]
  have e1 : pos + 1 < s.size → (s.get! (pos + 1)).toNat = byteAt s (pos + 1) := get_byteAt s _
  have e2 : pos + 2 < s.size → (s.get! (pos + 2)).toNat = byteAt s (pos + 2) := get_byteAt s _
  have e3 : pos + 3 < s.size → (s.get! (pos + 3)).toNat = byteAt s (pos + 3) := get_byteAt s _
  have hb := byteAt_lt s pos
  generalize (s.get! (pos + 1)).toNat = b1 at *
  generalize (s.get! (pos + 2)).toNat = b2 at *
  generalize (s.get! (pos + 3)).toNat = b3 at *
  obtain ⟨x1, hx1⟩ : ∃ x, x = byteAt s (pos + 1) := ⟨_, rfl⟩
  obtain ⟨x2, hx2⟩ : ∃ x, x = byteAt s (pos + 2) := ⟨_, rfl⟩
  obtain ⟨x3, hx3⟩ : ∃ x, x = byteAt s (pos + 3) := ⟨_, rfl⟩
  rw [← hx1] at e1
  rw [← hx2] at e2
  rw [← hx3] at e3
  have key : ∀ (j w : Nat), 0 < j → j < w → w ≤ 4 → (1 < w → x1 ≠ 10) → (2 < w → x2 ≠ 10) → (3 < w → x3 ≠ 10) → byteAt s (pos + j) ≠ 10 := by
    intro j w h0 h1 h2 k1 k2 k3
    have : j = 1 ∨ j = 2 ∨ j = 3 := by omega
    rcases this with rfl | rfl | rfl
    · rw [← hx1]; exact k1 (by omega)
    · rw [← hx2]; exact k2 (by omega)
    · rw [← hx3]; exact k3 (by omega)
  generalize byteAt s pos = b0 at *
  unfold Lib.decodeN
  repeat' split
  all_goals (refine ⟨by first | omega | (dsimp only; omega), by first | omega | (dsimp only; omega), fun j h0 h1 => ?_, by first | omega | (dsimp only; omega), by first | omega | (dsimp only; omega) | (intro; rfl), by first | omega | (dsimp only; omega)⟩)
  all_goals (dsimp only at h1)
  all_goals (first | (exfalso; omega) | exact key j _ h0 h1 (by omega) (by omega) (by omega) (by omega))

/-! ### Deeds -/

def isPow (x : ByteArray) : Bool := x.toList == [112, 111, 119, 101, 114]
def isHall (x : ByteArray) : Bool := x.toList == [104, 97, 108, 108]
def isFig (x : ByteArray) : Bool := decide (48 ≤ byteAt x 0) && decide (byteAt x 0 ≤ 57)

def deedOf (c : Bool) (s o p : Int) (K : List Int) (q : List ByteArray) : Option (DeedI × List Int) :=
  match textM q with
  | none => none
  | some T => if deedOk ⟨T, c, s, o, p⟩ K = true then some (⟨T, c, s, o, p⟩, K) else none

/-- What stands behind the three numbers of power. -/
def powM (s o p : Int) : List ByteArray → Option (DeedI × List Int)
  | [] => none
  | k :: q => if isFig k = true then (match keepM k with | none => none | some K => deedOf true s o p K q) else deedOf true s o p [] (k :: q)

def deedM (p : List ByteArray) : Option (DeedI × List Int) :=
  match p with
  | [] => none
  | x :: r => if isPow x = true then (match numsM (r.take 3) with | some [a, b, c] => powM a b c (r.drop 3) | _ => none) else deedOf false 0 0 0 [] (x :: r)

def hallM : List ByteArray → Option Nat
  | [x, n] => if isHall x = true then (match rdD n with | some k => if 4 ≤ k ∧ k ≤ 400 then some k else none | none => none) else none
  | _ => none

/-! ### A script -/

structure St where
  s : Nat
  d : List (DeedI × List Int)

def isRem (x : ByteArray) : Bool := decide (byteAt x 0 = 35)

/-- What parts of a line that is not passed over tell. -/
def tellM (st : St) (p : List ByteArray) : Option St :=
  if st.s = 0 then (hallM p).map (fun n => ⟨n, st.d⟩) else (match deedM p with | none => none | some d => if st.d.length < 40 then some ⟨st.s, st.d ++ [d]⟩ else none)

def partM (st : St) (p : List ByteArray) : Option St :=
  match p with
  | [] => some st
  | x :: r => if isRem x = true then some st else tellM st (x :: r)

structure Res where
  s : Nat
  d : List (DeedI × List Int)
  f : Int

/-- The rest of a script, line by line; P: the parts of a line. -/
def runM (P : ByteArray → Option (List ByteArray)) : Nat → List ByteArray → St → Res
  | _, [], st => if st.s = 0 then ⟨0, [], 1⟩ else ⟨st.s, st.d, 0⟩
  | i, l :: r, st => match P l with
    | none => ⟨0, [], ((i + 1 : Nat) : Int)⟩
    | some p => match partM st p with
      | none => ⟨0, [], ((i + 1 : Nat) : Int)⟩
      | some st' => runM P (i + 1) r st'

def scriptM (P : ByteArray → Option (List ByteArray)) (t : ByteArray) : Res :=
  if 6000 < t.size then ⟨0, [], -1⟩ else if 60 < (lines t).length then ⟨0, [], -1⟩ else runM P 0 (lines t) ⟨0, []⟩

/-! ### The same pieces by the library's words -/

def splitL (c : UInt8) : List UInt8 → List (List UInt8)
  | [] => [[]]
  | b :: l => if b = c then [] :: splitL c l else (match splitL c l with | [] => [[b]] | x :: r => (b :: x) :: r)

theorem splitL_ne (c : UInt8) : ∀ l, splitL c l ≠ []
  | [] => by simp [splitL]
  | b :: l => by
    simp only [splitL]
    split
    · simp
    · split <;> simp

theorem splitK_one (c : UInt8) : ∀ l : List UInt8, Lib.splitK [c] 0 (Lib.count l [c]) l = splitL c l
  | [] => by
    have h : Lib.count ([] : List UInt8) [c] = 0 := by rw [Lib.count_one]; rfl
    rw [h]
    rfl
  | b :: l => by
    have ih := splitK_one c l
    by_cases e : b = c
    · subst e
      rw [Lib.count_cons_eq, Nat.add_comm]
      have hix : Lib.index (b :: l) [b] = 0 := by rw [Lib.index]; simp [List.isPrefixOf]
      simp only [Lib.splitK, splitL, hix]
      rw [← ih]
      simp
    · rw [Lib.count_cons_ne b c l e]
      have hp : ([c] : List UInt8).isPrefixOf (b :: l) = false := by simp [List.isPrefixOf, Ne.symm e]
      have hix : Lib.index (b :: l) [c] = if Lib.index l [c] == -1 then -1 else Lib.index l [c] + 1 := by rw [Lib.index, hp]; simp
      simp only [splitL]
      rw [if_neg e, ← ih]
      generalize Lib.count l [c] = k
      have hge := Lib.index_ge l [c]
      cases k with
      | zero => rfl
      | succ k =>
        simp only [Lib.splitK, hix]
        by_cases hm : Lib.index l [c] = -1
        · simp [hm]
        · have h1 : (Lib.index l [c] == -1) = false := by simpa using hm
          have h2 : (Lib.index l [c] + 1 == -1) = false := by simp; omega
          have e3 : (Lib.index l [c] + 1).toNat = (Lib.index l [c]).toNat + 1 := by omega
          simp only [h1, Bool.false_eq_true, if_false]
          rw [if_neg (by rw [h2]; simp), e3]
          simp

theorem drop_byte (t : ByteArray) (i : Nat) (h : i < t.size) : t.data.toList.drop i = t[i] :: t.data.toList.drop (i + 1) := by
  rw [List.drop_eq_getElem_cons (by simpa using h)]; rfl

def cutL (t : ByteArray) (a b : Nat) : List UInt8 := (t.data.toList.drop a).take (b - a)

theorem cutL_more (t : ByteArray) (a i : Nat) (ha : a ≤ i) (h : i < t.size) : cutL t a (i + 1) = cutL t a i ++ [t[i]] := by
  unfold cutL
  rw [show i + 1 - a = (i - a) + 1 by omega, List.take_succ_eq_append_getElem (by simp; have : t.size = t.data.size := rfl; omega)]
  congr 1
  simp only [List.getElem_drop, List.cons.injEq, and_true]
  have e : a + (i - a) = i := by omega
  simp only [e]
  rfl

theorem extract_list (t : ByteArray) (a b : Nat) : (t.extract a b).data.toList = cutL t a b := by
  rw [Lib.extract_data]
  rfl

theorem piecesF_list (t : ByteArray) : ∀ (f b i : Nat), i + f = t.size → b ≤ i → (piecesF t f b i).map (·.data.toList) = (match splitL 44 (t.data.toList.drop i) with | [] => [] | x :: r => (cutL t b i ++ x) :: r)
  | 0, b, i, h, hb => by
    have e : t.data.toList.drop i = [] := List.drop_of_length_le (by simp; have : t.size = t.data.size := rfl; omega)
    rw [e]
    have hi : i = t.size := by omega
    simp only [piecesF, splitL, List.map_cons, List.map_nil, extract_list, List.append_nil, hi]
  | f + 1, b, i, h, hb => by
    have hi : i < t.size := by omega
    rw [drop_byte t i hi]
    simp only [piecesF, splitL]
    by_cases e : byteAt t i = 44
    · have e2 : t[i] = 44 := by rw [byteAt_eq hi] at e; exact UInt8.toNat_inj.1 (by rw [e]; rfl)
      rw [if_pos e, if_pos e2, List.map_cons, piecesF_list t f (i + 1) (i + 1) (by omega) (Nat.le_refl _), extract_list]
      have e3 : cutL t (i + 1) (i + 1) = [] := by simp [cutL]
      rw [e3]
      cases hs : splitL 44 (t.data.toList.drop (i + 1)) with
      | nil => exact absurd hs (splitL_ne _ _)
      | cons x r => simp
    · have e2 : ¬ t[i] = 44 := fun e2 => e (by rw [byteAt_eq hi, e2]; rfl)
      rw [if_neg e, if_neg e2, piecesF_list t f b (i + 1) (by omega) (by omega)]
      cases hs : splitL 44 (t.data.toList.drop (i + 1)) with
      | nil => exact absurd hs (splitL_ne _ _)
      | cons x r =>
        simp only
        rw [cutL_more t b i hb hi]
        simp

theorem map_data_inj : ∀ {L M : List ByteArray}, L.map (·.data.toList) = M.map (·.data.toList) → L = M
  | [], [], _ => rfl
  | x :: L, y :: M, h => by
    simp only [List.map_cons, List.cons.injEq] at h
    rw [map_data_inj h.2]
    congr 1
    exact ByteArray.ext (Array.toList_inj.1 h.1)
  | [], y :: M, h => by simp at h
  | x :: L, [], h => by simp at h

theorem pieces_is (t : ByteArray) : Lib.splitB ⟨#[44]⟩ 0 (Lib.countB t ⟨#[44]⟩) t = pieces t := by
  apply map_data_inj
  rw [Lib.splitB_data]
  show Lib.splitK [44] 0 (Lib.count t.data.toList [44]) t.data.toList = _
  rw [splitK_one, pieces, piecesF_list t t.size 0 0 (by omega) (Nat.le_refl _)]
  simp only [List.drop_zero]
  cases hs : splitL 44 t.data.toList with
  | nil => exact absurd hs (splitL_ne _ _)
  | cons x r => simp [cutL]

end Sc
end Go.Proofs.YtjhnippfepbjmaaGreatDoor

/-
  Rows of texts that can be read; the specification's readers of lines, words and numbers with commas.
-/
namespace Go.Proofs.YtjhnippfepbjmaaGreatDoor
namespace Sc
open Go.RowKit
open Gr (DeedI deedOk askN askR askOf own_below)

def tx (L : List ByteArray) : List Value := L.map Value.string

theorem tx_length (L : List ByteArray) : (tx L).length = L.length := by simp [tx]
theorem tx_at (L : List ByteArray) (i : Nat) (h : i < L.length) : (tx L)[i]? = some (.string L[i]) := by simp [tx, h]

theorem info9 : (Tryz.prog.info? 9).map (fun i => (i.zero, i.size, i.bytes)) = some (some (.string ⟨#[]⟩), 1, 16) := by kernel_rfl
theorem info3 : (Tryz.prog.info? 3).map (fun i => (i.zero, i.size, i.bytes)) = some (some (.int .i64 0), 1, 8) := by kernel_rfl

/-- Texts that can be read, all below block B. -/
def txAt (w : World) (a : Option Addr) (B : Nat) (L : List ByteArray) : Prop :=
  ∀ j (h : j < L.length), ∃ b off, a = some ⟨b, off, none⟩ ∧ b < B ∧ w.cell? ⟨b, off + j, none⟩ = some (.string L[j])

theorem txAt.below {w w' : World} {a : Option Addr} {B C : Nat} {L : List ByteArray} (h : txAt w a B L) (hb : Below C w w') (hC : B ≤ C) : txAt w' a B L := by
  intro j hj
  obtain ⟨b, off, e, hbB, c0⟩ := h j hj
  exact ⟨b, off, e, hbB, by rw [hb.cell (p := ⟨b, off + j, none⟩) (by simp; omega)]; exact c0⟩

theorem txAt.mono {w : World} {a : Option Addr} {B C : Nat} {L : List ByteArray} (h : txAt w a B L) (hC : B ≤ C) : txAt w a C L := by
  intro j hj
  obtain ⟨b, off, e, hbB, c0⟩ := h j hj
  exact ⟨b, off, e, by omega, c0⟩

theorem txAt.nil (w : World) (a : Option Addr) (B : Nat) : txAt w a B [] := fun j hj => by simp at hj

/-- The texts behind the first k, as slicing finds them. -/
theorem txAt.drop {w : World} {b off c B : Nat} {L : List ByteArray} (h : txAt w (some ⟨b, off, none⟩) B L) (k : Nat) (hc : L.length ≤ c) : txAt w (if c = k then some ⟨b, off, none⟩ else some ⟨b, off + k, none⟩) B (L.drop k) := by
  intro j hj
  have hj2 : k + j < L.length := by simp at hj; omega
  obtain ⟨b', off', e, hb, hcell⟩ := h (k + j) hj2
  simp at e
  obtain ⟨rfl, rfl⟩ := e
  rw [if_neg (by omega)]
  refine ⟨b, off + k, rfl, hb, ?_⟩
  rw [List.getElem_drop, show off + k + j = off + (k + j) by omega]
  exact hcell

theorem own_tx {w : World} {B : Nat} {v : Value} {L : List ByteArray} (h : w.ownsRow B 9 1 v L.length (tx L)) : ∃ a c, v = .slice a L.length c ∧ L.length ≤ c ∧ txAt w a w.heap.size L ∧ (0 < L.length → ∃ g, a = some ⟨g, 0, none⟩) := by
  have h0 := h
  rcases h.2 with ⟨rfl, hz⟩ | ⟨g, cap, cur, rfl, hg, hh, hcap, _⟩
  · have hl : L = [] := List.length_eq_zero_iff.1 hz
    subst hl
    exact ⟨none, 0, rfl, by simp, txAt.nil _ _ _, by simp⟩
  · have hlt : g < w.heap.size := (h0.lt g rfl).2
    refine ⟨some ⟨g, 0, none⟩, cap, rfl, hcap, fun j hj => ⟨g, 0, rfl, hlt, ?_⟩, fun _ => ⟨g, rfl⟩⟩
    rw [Nat.zero_add, h0.cellAt j (by omega)]
    exact tx_at L j hj

theorem tx_snoc {w1 : World} {B e : Nat} {v' : Value} {L : List ByteArray} {x : ByteArray} (h : w1.ownsRow B e 1 v' (L.length + 1) (tx L ++ [.string x])) : w1.ownsRow B e 1 v' (L ++ [x]).length (tx (L ++ [x])) := by
  simpa [tx] using h

theorem one_text (x : ByteArray) : ∀ u, u ∈ [Value.string x] → u.oneCell' = true := by
  intro u hu; simp at hu; subst hu; rfl
theorem one_int (x : Int) : ∀ u, u ∈ [Value.int .i64 x] → u.oneCell' = true := by
  intro u hu; simp at hu; subst hu; rfl

theorem made_tx (wr : World) (B : Nat) (h : B ≤ wr.heap.size) : (wr.alloc (.cells #[] 9)).ownsRow B 9 1 (.slice (some ⟨wr.heap.size, 0, none⟩) 0 0) 0 (tx []) :=
  World.ownsRow_made wr #[] 0 h (Nat.zero_le _) rfl

theorem made_in (wr : World) (B : Nat) (h : B ≤ wr.heap.size) : (wr.alloc (.cells #[] 3)).ownsRow B 3 1 (.slice (some ⟨wr.heap.size, 0, none⟩) 0 0) 0 (Gr.intsV []) :=
  World.ownsRow_made wr #[] 0 h (Nat.zero_le _) rfl

theorem in_snoc {w1 : World} {B e : Nat} {v' : Value} {L : List Int} {x : Int} (h : w1.ownsRow B e 1 v' (L.length + 1) (Gr.intsV L ++ [.int .i64 x])) : w1.ownsRow B e 1 v' (L ++ [x]).length (Gr.intsV (L ++ [x])) := by
  simpa [Gr.intsV] using h

/-- A new row of texts. -/
def TxPost (w w' : World) (e : Ending) (L : List ByteArray) : Prop := ∃ v, e = .returned v ∧ w'.ownsRow w.heap.size 9 1 v L.length (tx L)

/-- A new row of numbers, or none. -/
def InPost (w w' : World) (e : Ending) (o : Option (List Int)) : Prop := ∃ v, e = .returned (.tuple #[v, .bool o.isSome]) ∧ w'.ownsRow w.heap.size 3 1 v (o.getD []).length (Gr.intsV (o.getD []))

/-! ### spec.ReadDecimal -/

theorem specRD (s : ByteArray) (w : World) : Calls Tryz.prog 11 #[.string s] w fun e w' => e = .returned (.tuple #[.int .i64 (oN (rdD s)), .bool (rdD s).isSome]) ∧ Below w.heap.size w w' := by
  unfold rdD
  by_cases h : s.size ≤ 10
  · rw [if_pos h]
    refine (Dc.specRD_yes s h w).mono ?_
    rintro e w' ⟨rfl, hb⟩
    refine ⟨?_, hb⟩
    cases hr : Dc.rf10 s s.size 0 0 with
    | none => rfl
    | some n =>
      simp only [Dc.rdOut]
      split <;> rfl
  · rw [if_neg h]
    refine (Dc.specRD_no s (by omega) w).mono ?_
    rintro e w' ⟨rfl, rfl⟩
    exact ⟨rfl, Below.refl _ _⟩

/-! ### spec.l16Lines -/

set_option maxRecDepth 100000 in
set_option maxHeartbeats 2000000 in
theorem specLines (t : ByteArray) (hs : t.size ≤ 1000000) (w : World) :
    Calls Tryz.prog 9 #[.string t] w fun e w' => TxPost w w' e (lines t) ∧ Below w.heap.size w w' := by
  obtain ⟨i0, hi0, hz0, hz1, hz2⟩ := info_parts info9
  obtain ⟨R, hR⟩ : ∃ R, R = lines t := ⟨_, rfl⟩
  rw [← hR]
  have HR0 := hide hR
  clear hR
  go_enter Tryz.func9, Tryz.ntmps9
  go_wp2_with fail
  go_loopw [3, 4, 5] (fun out a4 a5 wr => ∃ (i bg f : Nat) (done : List ByteArray), a5 = .int .i64 i ∧ a4 = .int .i64 bg ∧ Hid (i + f = t.size) ∧ i ≤ t.size ∧ bg ≤ i ∧ done.length ≤ bg ∧ Hid (done ++ linesF t f bg i = R) ∧ wr.ownsRow w.heap.size 9 1 out done.length (tx done) ∧ Below w.heap.size w wr)
    (fun _ _ a5 _ => t.size - (intOf a5).toNat)
  case atStart =>
    exact ⟨0, 0, t.size, [], rfl, rfl, by show _ = _; omega, by omega, by omega, by simp, by show _ = _; rw [unhide HR0]; rfl, made_tx w _ (Nat.le_refl _), (Below.refl _ _).alloc (Nat.le_refl _) _⟩
  case round =>
    obtain ⟨i, bg, f, done, rfl, rfl, HF, hi, hbg, hdl, HR, hown, hb⟩ := hrel
    have hbs := hb.size
    by_cases hlt : i < t.size
    · obtain ⟨f, rfl⟩ : ∃ f', f = f' + 1 := ⟨f - 1, by have := unhide HF; omega⟩
      have hB : ((t[i]'hlt).toNat : Int) ≤ 255 := by have := UInt8.toNat_lt (t[i]'hlt); omega
      have HB := hide (show (byteAt t i : Int) = ((t[i]'hlt).toNat : Int) by rw [byteAt_eq hlt])
      by_cases h1 : ((t[i]'hlt).toNat : Int) = 10
      · have h1b : (((t[i]'hlt).toNat : Int) == 10) = true := by rw [beq_iff_eq]; exact h1
        have HE := hide (show byteAt t i = 10 by have := unhide HB; omega)
        clear h1
        have hsl : ∀ u, (Instr.slice 9 (.string t) (some (.int .i64 (bg : Int))) (some (.int .i64 (i : Int))) none).run Tryz.prog u = .ok (.string (t.extract bg i)) u := fun u => by
          have h := run_slice_string (P := Tryz.prog) u 9 t .i64 .i64 (bg : Int) (i : Int) Tryz.underlying9 (by omega) (by omega) (by omega)
          simpa using h
        go_wp2_with (at_builtin; refine wpList_append_own _ rfl _ _ 28 rfl w.heap.size 9 i0 (.string ⟨#[]⟩) 1 16 Tryz.underlying28 hi0 hz0 hz1 hz2 rfl (by decide) _ _ _ rfl (hown.alloc _) ⟨wr.heap.size, 0, none⟩ 1 1 [.string (t.extract bg i)] rfl rfl (cell_one_new _ _ _) (one_text _) ?_ ?_ ?_ ?_)
        · unfold maxLen; omega
        · omega
        · first | omega | (simp; omega)
        intro v' w1 hown' hgrow _
        have hb1 := below_append hb (Nat.le_refl _) hown hgrow
        have HO1 := hide (tx_snoc hown')
        clear hown' hgrow hown hb
        go_wp2
        go_roundw
        case rel =>
          refine ⟨i + 1, i + 1, f, done ++ [t.extract bg i], by go_num, by go_num, by show _ = _; have := unhide HF; omega, by omega, Nat.le_refl _, by simp; omega, ?_, unhide HO1, hb1⟩
          show _ = _
          rw [← unhide HR, linesF_hit (unhide HE)]
          simp
        case measure => simp [intOf]; omega
      · have h1b : (((t[i]'hlt).toNat : Int) == 10) = false := by rw [beq_eq_false_iff_ne]; exact h1
        have HE := hide (show byteAt t i ≠ 10 by have := unhide HB; omega)
        have HO := hide hown
        clear h1 hown
        go_wp2
        go_roundw
        case rel =>
          refine ⟨i + 1, bg, f, done, by go_num, rfl, by show _ = _; have := unhide HF; omega, by omega, by omega, hdl, ?_, unhide HO, hb⟩
          show _ = _
          rw [← unhide HR, linesF_miss (unhide HE)]
        case measure => simp [intOf]; omega
    · obtain rfl : i = t.size := by omega
      obtain rfl : f = 0 := by have := unhide HF; omega
      by_cases hb2 : bg < t.size
      · have hbI : (bg : Int) < (t.size : Int) := by omega
        have HRR : Hid (R = done ++ [t.extract bg t.size]) := by show _ = _; rw [← unhide HR]; simp only [linesF]; rw [if_pos hb2]
        go_wp2_with (at_builtin; refine wpList_append_own _ rfl _ _ 28 rfl w.heap.size 9 i0 (.string ⟨#[]⟩) 1 16 Tryz.underlying28 hi0 hz0 hz1 hz2 rfl (by decide) _ _ _ rfl (hown.alloc _) ⟨wr.heap.size, 0, none⟩ 1 1 [.string (t.extract bg t.size)] rfl rfl (cell_one_new _ _ _) (one_text _) ?_ ?_ ?_ ?_)
        · unfold maxLen; omega
        · omega
        · first | omega | (simp; omega)
        intro v' w1 hown' hgrow _
        have hb1 := below_append hb (Nat.le_refl _) hown hgrow
        have HO1 := hide (tx_snoc hown')
        clear hown' hgrow hown hb
        go_wp2
        go_ret
        refine ⟨⟨_, rfl, ?_⟩, hb1⟩
        rw [unhide HRR]
        exact unhide HO1
      · have HRR : Hid (R = done) := by show _ = _; rw [← unhide HR]; simp only [linesF]; rw [if_neg hb2]; simp
        have HO := hide hown
        clear hown
        go_wp2
        go_ret
        refine ⟨⟨_, rfl, ?_⟩, hb⟩
        rw [unhide HRR]
        exact unhide HO

/-! ### spec.l16Word -/

def cntW (x : ByteArray) : Int := if opW x = 0 then -1 else (askN (opW x) : Int)

theorem word_any (x : ByteArray) (w : World) : Calls Tryz.prog 35 #[.string x] w fun e w' => e = .returned (.tuple #[.int .i64 (opW x), .int .i64 (cntW x)]) ∧ w' = w := by
  have key : ∀ o : Int, opW x = o → cntW x = if o = 0 then -1 else (askN o : Int) := fun o h => by unfold cntW; rw [h]
  by_cases h0 : (x.toList == [106, 111, 105, 110]) = true
  · have e1 : opW x = 1 := by unfold opW; rw [ if_pos h0]
    have e2 : cntW x = 1 := by rw [key _ e1]; rfl
    have E1 := hide e1
    have E2 := hide e2
    clear e1 e2 key
    go_enter Tryz.func35, Tryz.ntmps35
    go_wp2
    go_ret2
    rw [unhide E1, unhide E2]
    exact ⟨rfl, rfl⟩
  replace h0 : (x.toList == [106, 111, 105, 110]) = false := by simpa using h0
  by_cases h1 : (x.toList == [108, 105, 110, 107]) = true
  · have e1 : opW x = 2 := by unfold opW; rw [if_neg (by rw [h0]; simp), if_pos h1]
    have e2 : cntW x = 5 := by rw [key _ e1]; rfl
    have E1 := hide e1
    have E2 := hide e2
    clear e1 e2 key
    go_enter Tryz.func35, Tryz.ntmps35
    go_wp2
    go_ret2
    rw [unhide E1, unhide E2]
    exact ⟨rfl, rfl⟩
  replace h1 : (x.toList == [108, 105, 110, 107]) = false := by simpa using h1
  by_cases h2 : (x.toList == [108, 101, 97, 118, 101]) = true
  · have e1 : opW x = 3 := by unfold opW; rw [if_neg (by rw [h0]; simp), if_neg (by rw [h1]; simp), if_pos h2]
    have e2 : cntW x = 1 := by rw [key _ e1]; rfl
    have E1 := hide e1
    have E2 := hide e2
    clear e1 e2 key
    go_enter Tryz.func35, Tryz.ntmps35
    go_wp2
    go_ret2
    rw [unhide E1, unhide E2]
    exact ⟨rfl, rfl⟩
  replace h2 : (x.toList == [108, 101, 97, 118, 101]) = false := by simpa using h2
  by_cases h3 : (x.toList == [99, 108, 101, 97, 114]) = true
  · have e1 : opW x = 4 := by unfold opW; rw [if_neg (by rw [h0]; simp), if_neg (by rw [h1]; simp), if_neg (by rw [h2]; simp), if_pos h3]
    have e2 : cntW x = 0 := by rw [key _ e1]; rfl
    have E1 := hide e1
    have E2 := hide e2
    clear e1 e2 key
    go_enter Tryz.func35, Tryz.ntmps35
    go_wp2
    go_ret2
    rw [unhide E1, unhide E2]
    exact ⟨rfl, rfl⟩
  replace h3 : (x.toList == [99, 108, 101, 97, 114]) = false := by simpa using h3
  by_cases h4 : (x.toList == [97, 117, 100, 105, 116]) = true
  · have e1 : opW x = 5 := by unfold opW; rw [if_neg (by rw [h0]; simp), if_neg (by rw [h1]; simp), if_neg (by rw [h2]; simp), if_neg (by rw [h3]; simp), if_pos h4]
    have e2 : cntW x = 1 := by rw [key _ e1]; rfl
    have E1 := hide e1
    have E2 := hide e2
    clear e1 e2 key
    go_enter Tryz.func35, Tryz.ntmps35
    go_wp2
    go_ret2
    rw [unhide E1, unhide E2]
    exact ⟨rfl, rfl⟩
  replace h4 : (x.toList == [97, 117, 100, 105, 116]) = false := by simpa using h4
  by_cases h5 : (x.toList == [115, 104, 111, 119]) = true
  · have e1 : opW x = 6 := by unfold opW; rw [if_neg (by rw [h0]; simp), if_neg (by rw [h1]; simp), if_neg (by rw [h2]; simp), if_neg (by rw [h3]; simp), if_neg (by rw [h4]; simp), if_pos h5]
    have e2 : cntW x = 0 := by rw [key _ e1]; rfl
    have E1 := hide e1
    have E2 := hide e2
    clear e1 e2 key
    go_enter Tryz.func35, Tryz.ntmps35
    go_wp2
    go_ret2
    rw [unhide E1, unhide E2]
    exact ⟨rfl, rfl⟩
  replace h5 : (x.toList == [115, 104, 111, 119]) = false := by simpa using h5
  have e1 : opW x = 0 := by unfold opW; rw [if_neg (by rw [h0]; simp), if_neg (by rw [h1]; simp), if_neg (by rw [h2]; simp), if_neg (by rw [h3]; simp), if_neg (by rw [h4]; simp), if_neg (by rw [h5]; simp)]
  have e2 : cntW x = -1 := by rw [key _ e1]; rfl
  have E1 := hide e1
  have E2 := hide e2
  clear e1 e2 key
  go_enter Tryz.func35, Tryz.ntmps35
  go_wp2
  go_ret2
  rw [unhide E1, unhide E2]
  exact ⟨rfl, rfl⟩

end Sc
end Go.Proofs.YtjhnippfepbjmaaGreatDoor

/-
  Rows of deeds that a call has made: each with a row of numbers of its own.
-/
namespace Go.Proofs.YtjhnippfepbjmaaGreatDoor
namespace Sc
open Go.RowKit
open Gr (DeedI own_below own_lower InOwn InAt DeAt Blk Kept below_new)

/-- A row's cells; ks: the deeds' own rows. -/
def dsC : List Value → List (DeedI × List Int) → List Value
  | k :: ks, d :: D => .string d.1.T :: .bool d.1.c :: .int .i64 d.1.s :: k :: .int .i64 d.1.o :: .int .i64 d.1.p :: dsC ks D
  | _, _ => []

theorem dsC_length : ∀ (ks : List Value) (D : List (DeedI × List Int)), ks.length = D.length → (dsC ks D).length = D.length * 6
  | [], [], _ => rfl
  | k :: ks, d :: D, h => by
    have := dsC_length ks D (by simpa using h)
    simp only [dsC, List.length_cons, this]
    omega
  | [], d :: D, h => by simp at h
  | k :: ks, [], h => by simp at h

theorem dsC_snoc : ∀ (ks : List Value) (D : List (DeedI × List Int)) (k : Value) (d : DeedI × List Int), ks.length = D.length → dsC (ks ++ [k]) (D ++ [d]) = dsC ks D ++ [.string d.1.T, .bool d.1.c, .int .i64 d.1.s, k, .int .i64 d.1.o, .int .i64 d.1.p]
  | [], [], _, _, _ => rfl
  | k :: ks, d :: D, k', d', h => by
    have := dsC_snoc ks D k' d' (by simpa using h)
    simp only [List.cons_append, dsC, this]
  | [], d :: D, _, _, h => by simp at h
  | k :: ks, [], _, _, h => by simp at h

theorem dsC_at : ∀ (ks : List Value) (D : List (DeedI × List Int)) (j : Nat) (h1 : j < ks.length) (h2 : j < D.length),
    (dsC ks D)[j * 6]? = some (.string D[j].1.T) ∧ (dsC ks D)[j * 6 + 1]? = some (.bool D[j].1.c) ∧ (dsC ks D)[j * 6 + 2]? = some (.int .i64 D[j].1.s) ∧ (dsC ks D)[j * 6 + 3]? = some ks[j] ∧ (dsC ks D)[j * 6 + 4]? = some (.int .i64 D[j].1.o) ∧ (dsC ks D)[j * 6 + 5]? = some (.int .i64 D[j].1.p)
  | k :: ks, d :: D, 0, _, _ => ⟨rfl, rfl, rfl, rfl, rfl, rfl⟩
  | k :: ks, d :: D, j + 1, h1, h2 => by
    have := dsC_at ks D j (by simpa using h1) (by simpa using h2)
    have e : (j + 1) * 6 = j * 6 + 6 := by omega
    rw [e]
    simpa [dsC] using this
  | [], _, _, h1, _ => by simp at h1
  | _ :: _, [], _, _, h2 => by simp at h2

/-- A row of deeds that a call has made. -/
def DsOwn (w : World) (B : Nat) (v : Value) (ks : List Value) (D : List (DeedI × List Int)) : Prop :=
  ks.length = D.length ∧ w.ownsRow B 46 6 v D.length (dsC ks D) ∧ ∀ j (h1 : j < ks.length) (h2 : j < D.length), InOwn w B ks[j] D[j].2

theorem DsOwn.below {w w' : World} {B : Nat} {v : Value} {ks : List Value} {D : List (DeedI × List Int)} (h : DsOwn w B v ks D) (hb : Below w.heap.size w w') : DsOwn w' B v ks D :=
  ⟨h.1, own_below h.2.1 hb, fun j h1 h2 => (h.2.2 j h1 h2).below hb⟩

theorem DsOwn.lower {w : World} {B C : Nat} {v : Value} {ks : List Value} {D : List (DeedI × List Int)} (h : DsOwn w B v ks D) (hC : C ≤ B) : DsOwn w C v ks D :=
  ⟨h.1, own_lower hC h.2.1, fun j h1 h2 => (h.2.2 j h1 h2).lower hC⟩

theorem DsOwn.kept {S : Nat → Prop} {w w' : World} {B : Nat} {v : Value} {ks : List Value} {D : List (DeedI × List Int)} (h : DsOwn w B v ks D) (hk : Kept S w w') (hS : ∀ k, B ≤ k → ¬ S k) : DsOwn w' B v ks D :=
  ⟨h.1, hk.own h.2.1 (fun g hg => hS g (h.2.1.lt g hg).1), fun j h1 h2 => (h.2.2 j h1 h2).kept hk (fun g hg => hS g ((h.2.2 j h1 h2).blk g hg).1)⟩

theorem DsOwn.nil (w : World) (B : Nat) : DsOwn w B (.slice none 0 0) [] [] := ⟨rfl, ⟨rfl, .inl ⟨rfl, rfl⟩⟩, fun j h1 => by simp at h1⟩

theorem DsOwn.made (w : World) (B : Nat) (h : B ≤ w.heap.size) : DsOwn (w.alloc (.cells #[] 46)) B (.slice (some ⟨w.heap.size, 0, none⟩) 0 0) [] [] :=
  ⟨rfl, World.ownsRow_made w #[] 0 h (Nat.zero_le _) rfl, fun j h1 => by simp at h1⟩

theorem DsOwn.shape {w : World} {B : Nat} {v : Value} {ks : List Value} {D : List (DeedI × List Int)} (h : DsOwn w B v ks D) : ∃ a c, v = .slice a D.length c := by
  rcases h.2.1.2 with ⟨rfl, h0⟩ | ⟨g, cap, cur, rfl, _⟩
  · exact ⟨none, 0, by rw [h0]⟩
  · exact ⟨_, _, rfl⟩

/-- The own rows lie in blocks of their own. -/
def DistK (ks : List Value) : Prop := ∀ i j (hi : i < ks.length) (hj : j < ks.length) g, ks[i].ownBlock = some g → ks[j].ownBlock = some g → i = j

theorem DistK.nil : DistK [] := fun i _ hi => by simp at hi

theorem DistK.snoc {ks : List Value} {k : Value} (h : DistK ks) (hk : ∀ i (hi : i < ks.length) g, ks[i].ownBlock = some g → k.ownBlock ≠ some g) : DistK (ks ++ [k]) := by
  intro i j hi hj g e1 e2
  rw [List.length_append] at hi hj
  simp only [List.length_cons, List.length_nil] at hi hj
  by_cases ci : i < ks.length
  · rw [List.getElem_append_left ci] at e1
    by_cases cj : j < ks.length
    · rw [List.getElem_append_left cj] at e2
      exact h i j ci cj g e1 e2
    · obtain rfl : j = ks.length := by omega
      rw [List.getElem_append_right (Nat.le_refl _)] at e2
      simp at e2
      exact absurd e2 (hk i ci g e1)
  · obtain rfl : i = ks.length := by omega
    rw [List.getElem_append_right (Nat.le_refl _)] at e1
    simp at e1
    by_cases cj : j < ks.length
    · rw [List.getElem_append_left cj] at e2
      exact absurd e1 (hk j cj g e2)
    · omega

theorem infoDeed : (Tryz.prog.info? 46).map (fun i => (i.zero, i.size, i.bytes)) = some (some (.agg #[.string ⟨#[]⟩, .bool false, .int .i64 0, .slice none 0 0, .int .i64 0, .int .i64 0]), 6, 72) := by kernel_rfl

theorem six_one (T : ByteArray) (c : Bool) (s o p : Int) (a : Option Addr) (n cp : Nat) : ∀ u ∈ [Value.string T, Value.bool c, Value.int .i64 s, Value.slice a n cp, Value.int .i64 o, Value.int .i64 p], u.oneCell' = true := by
  intro u hu
  simp at hu
  rcases hu with rfl | rfl | rfl | rfl | rfl | rfl <;> rfl

/-- A deed behind the others: the row has grown, its own row is as it was. -/
theorem DsOwn.snoc {w w1 : World} {B : Nat} {v v' : Value} {ks : List Value} {D : List (DeedI × List Int)} {k : Value} {d : DeedI × List Int} (h : DsOwn w B v ks D) (hk : InOwn w B k d.2) (hg : w.grownBy w1 v.ownBlock)
    (ho : w1.ownsRow B 46 6 v' (D.length + 1) (dsC ks D ++ [.string d.1.T, .bool d.1.c, .int .i64 d.1.s, k, .int .i64 d.1.o, .int .i64 d.1.p])) : DsOwn w1 B v' (ks ++ [k]) (D ++ [d]) := by
  have hkp := Kept.of_grown hg
  have hne : ∀ {u : Value} {K : List Int}, InOwn w B u K → ∀ g, u.ownBlock = some g → ¬ v.ownBlock = some g := fun hu g hg' e => by
    rcases h.2.1.2 with ⟨rfl, _⟩ | ⟨g1, cap, cur, rfl, _, hc, _⟩
    · simp [Value.ownBlock] at e
    · rcases hu.2 with ⟨rfl, _⟩ | ⟨g2, cap2, cur2, rfl, _, hc2, _⟩
      · simp [Value.ownBlock] at hg'
      · simp [Value.ownBlock] at hg' e
        subst hg' e
        rw [hc] at hc2
        have hc3 := Option.some.inj hc2
        simp at hc3
  have hin : ∀ {u : Value} {K : List Int}, InOwn w B u K → InOwn w1 B u K := fun hu => hu.kept hkp (fun g hg' e => hne hu g hg' e)
  refine ⟨by simp [h.1], ?_, ?_⟩
  · rw [dsC_snoc ks D k d h.1, List.length_append]
    exact ho
  · intro j h1 h2
    by_cases hj : j < D.length
    · have hjm : j < ks.length := by rw [h.1]; exact hj
      rw [List.getElem_append_left hjm]
      have := hin (h.2.2 j hjm hj)
      rw [show (D ++ [d])[j] = D[j] from List.getElem_append_left hj]
      exact this
    · have hj2 : j = D.length := by simp at h2; omega
      subst hj2
      have e1 : (ks ++ [k])[D.length]'h1 = k := by rw [List.getElem_append_right (by rw [h.1]; exact Nat.le_refl _)]; simp [h.1]
      have e2 : (D ++ [d])[D.length]'h2 = d := by rw [List.getElem_append_right (Nat.le_refl _)]; simp
      rw [e1, e2]
      exact hin hk

end Sc
end Go.Proofs.YtjhnippfepbjmaaGreatDoor

/-
  Rows of deeds as results: equal ones; what marks make of them.
-/
namespace Go.Proofs.YtjhnippfepbjmaaGreatDoor
namespace Sc
open Go.RowKit
open Gr (DeedI own_below own_lower InOwn InAt InBlk DeAt Blk Kept below_new Grown wp_region_grown dsize eqDeed_gen marksN marksN_length)

theorem DsOwn.deed {w : World} {B : Nat} {v : Value} {ks : List Value} {D : List (DeedI × List Int)} (h : DsOwn w B v ks D) (j : Nat) (h1 : j < ks.length) (h2 : j < D.length) (hs : dsize D[j].1 D[j].2 ≤ 1048576) :
    ∃ a c, ks[j] = .slice a D[j].2.length c ∧ DeAt w (.agg #[.string D[j].1.T, .bool D[j].1.c, .int .i64 D[j].1.s, .slice a D[j].2.length c, .int .i64 D[j].1.o, .int .i64 D[j].1.p]) w.heap.size D[j].1 D[j].2 := by
  have ha := (h.2.2 j h1 h2).at
  obtain ⟨a, c, e⟩ := ha.shape
  rw [e] at ha
  obtain ⟨l1, l2⟩ := Gr.dsize_le hs
  exact ⟨a, c, e, a, c, rfl, ha, by omega, by omega⟩

set_option maxRecDepth 100000 in
set_option maxHeartbeats 2000000 in
theorem eqDeedS_any (v u : Value) (ks ls : List Value) (B B' : Nat) (D : List (DeedI × List Int)) (hn : D.length ≤ 1048576) (hm : ∀ d ∈ D, dsize d.1 d.2 ≤ 1048576) (w : World) (h : DsOwn w B v ks D) (h' : DsOwn w B' u ls D) :
    Calls Tryz.prog 6 #[v, u] w fun e w' => e = .returned (.bool true) ∧ Below w.heap.size w w' := by
  obtain ⟨a, c, rfl⟩ := h.shape
  obtain ⟨a', c', rfl⟩ := h'.shape
  have H := hide h
  have H' := hide h'
  have HM := hide hm
  obtain ⟨n, hn'⟩ : ∃ n, n = D.length := ⟨_, rfl⟩
  have HN := hide hn'
  rw [← hn'] at hn ⊢
  clear h h' hm hn'
  go_enter Tryz.func6, Tryz.ntmps6
  go_wp2_with fail
  go_loopw [5] (fun i wr => ∃ k : Nat, i = .int .i64 (k : Int) ∧ k ≤ n ∧ Below w.heap.size w wr) (fun i _ => n - (intOf i).toNat)
  case atStart => exact ⟨0, rfl, Nat.zero_le _, Below.refl _ _⟩
  case round =>
    obtain ⟨k, rfl, hk, hb⟩ := hrel
    by_cases hlt : k < n
    · have hkD : k < D.length := by have := unhide HN; omega
      have o := (unhide H).below hb
      have o' := (unhide H').below hb
      have hk1 : k < ks.length := by rw [o.1]; exact hkD
      have hk2 : k < ls.length := by rw [o'.1]; exact hkD
      have hs := unhide HM _ (List.getElem_mem hkD)
      obtain ⟨x, cx, e1, q1⟩ := o.deed k hk1 hkD hs
      obtain ⟨y, cy, e2, q2⟩ := o'.deed k hk2 hkD hs
      obtain ⟨g, cap, hA, _, hgl⟩ := o.2.1.form (by omega)
      obtain ⟨g', cap', hA', _, hgl'⟩ := o'.2.1.form (by omega)
      simp at hA hA'
      obtain ⟨rfl, rfl⟩ := hA
      obtain ⟨rfl, rfl⟩ := hA'
      have EG : Hid (∀ d : Grown wr.heap.size wr, Calls Tryz.prog 16 #[.agg #[.string D[k].1.T, .bool D[k].1.c, .int .i64 D[k].1.s, .slice x D[k].2.length cx, .int .i64 D[k].1.o, .int .i64 D[k].1.p], .agg #[.string D[k].1.T, .bool D[k].1.c, .int .i64 D[k].1.s, .slice y D[k].2.length cy, .int .i64 D[k].1.o, .int .i64 D[k].1.p]] d.w fun e w' => e = .returned (.bool true) ∧ Below d.w.heap.size d.w w') := fun d => by
        have := d.below.size
        exact eqDeed_gen _ _ wr.heap.size wr.heap.size D[k].1 D[k].2 hs d.w this this (q1.below d.below (Nat.le_refl _)) (q2.below d.below (Nat.le_refl _))
      have P : ∀ i, i < 6 → wr.cell? ⟨g, k * 6 + i, none⟩ = (dsC ks D)[k * 6 + i]? := fun i hi => o.2.1.cellAt (k * 6 + i) (by omega)
      have P' : ∀ i, i < 6 → wr.cell? ⟨g', k * 6 + i, none⟩ = (dsC ls D)[k * 6 + i]? := fun i hi => o'.2.1.cellAt (k * 6 + i) (by omega)
      obtain ⟨c0, c1, c2, c3, c4, c5⟩ := dsC_at ks D k hk1 hkD
      obtain ⟨d0, d1, d2, d3, d4, d5⟩ := dsC_at ls D k hk2 hkD
      rw [e1] at c3
      rw [e2] at d3
      have C0 : ∀ d : Grown wr.heap.size wr, d.w.cell? ⟨g, k * 6, none⟩ = some (.string D[k].1.T) := fun d => d.cell hgl ((P 0 (by omega)).trans c0)
      have C1 : ∀ d : Grown wr.heap.size wr, d.w.cell? ⟨g, k * 6 + 1, none⟩ = some (.bool D[k].1.c) := fun d => d.cell hgl ((P 1 (by omega)).trans c1)
      have C2 : ∀ d : Grown wr.heap.size wr, d.w.cell? ⟨g, k * 6 + 2, none⟩ = some (.int .i64 D[k].1.s) := fun d => d.cell hgl ((P 2 (by omega)).trans c2)
      have C3 : ∀ d : Grown wr.heap.size wr, d.w.cell? ⟨g, k * 6 + 3, none⟩ = some (.slice x D[k].2.length cx) := fun d => d.cell hgl ((P 3 (by omega)).trans c3)
      have C4 : ∀ d : Grown wr.heap.size wr, d.w.cell? ⟨g, k * 6 + 4, none⟩ = some (.int .i64 D[k].1.o) := fun d => d.cell hgl ((P 4 (by omega)).trans c4)
      have C5 : ∀ d : Grown wr.heap.size wr, d.w.cell? ⟨g, k * 6 + 5, none⟩ = some (.int .i64 D[k].1.p) := fun d => d.cell hgl ((P 5 (by omega)).trans c5)
      have D0 : ∀ d : Grown wr.heap.size wr, d.w.cell? ⟨g', k * 6, none⟩ = some (.string D[k].1.T) := fun d => d.cell hgl' ((P' 0 (by omega)).trans d0)
      have D1 : ∀ d : Grown wr.heap.size wr, d.w.cell? ⟨g', k * 6 + 1, none⟩ = some (.bool D[k].1.c) := fun d => d.cell hgl' ((P' 1 (by omega)).trans d1)
      have D2 : ∀ d : Grown wr.heap.size wr, d.w.cell? ⟨g', k * 6 + 2, none⟩ = some (.int .i64 D[k].1.s) := fun d => d.cell hgl' ((P' 2 (by omega)).trans d2)
      have D3 : ∀ d : Grown wr.heap.size wr, d.w.cell? ⟨g', k * 6 + 3, none⟩ = some (.slice y D[k].2.length cy) := fun d => d.cell hgl' ((P' 3 (by omega)).trans d3)
      have D4 : ∀ d : Grown wr.heap.size wr, d.w.cell? ⟨g', k * 6 + 4, none⟩ = some (.int .i64 D[k].1.o) := fun d => d.cell hgl' ((P' 4 (by omega)).trans d4)
      have D5 : ∀ d : Grown wr.heap.size wr, d.w.cell? ⟨g', k * 6 + 5, none⟩ = some (.int .i64 D[k].1.p) := fun d => d.cell hgl' ((P' 5 (by omega)).trans d5)
      clear o o' P P' c0 c1 c2 c3 c4 c5 d0 d1 d2 d3 d4 d5 e1 e2 q1 q2 hs
      generalize D[k].2.length = m at C3 D3 EG
      generalize D[k].1.T = T at C0 D0 EG
      generalize D[k].1.c = cc at C1 D1 EG
      generalize D[k].1.s = s at C2 D2 EG
      generalize D[k].1.o = oo at C4 D4 EG
      generalize D[k].1.p = pp at C5 D5 EG
      have hkn : (k : Int) < (n : Int) := by omega
      have hz := hb.size
      go_wp2_with fail
      refine wp_region_grown wr.heap.size (by kernel_rfl) (by kernel_rfl) ?_
      repeat (go_big_quiet_step (first | (go_at_call 16; exact Gr.Calls.grown (Nat.le_refl _) (unhide EG _))))
      refine wpQuiet_nil ?_
      rintro w5 ⟨d5, rfl⟩
      go_wp2_with fail
      exact ⟨⟨k + 1, by go_num, by omega, hb.trans (d5.below.mono hb.size)⟩, by simp [intOf]; omega⟩
    · go_wp2_with fail
      go_ret
      exact ⟨rfl, hb⟩

end Sc
end Go.Proofs.YtjhnippfepbjmaaGreatDoor

/-
  Marks of deeds, as mathematics.
-/
namespace Go.Proofs.YtjhnippfepbjmaaGreatDoor
namespace Sc
open Go.RowKit
open Gr (DeedI own_below own_lower InOwn InAt InBlk DeAt Blk Kept below_new marksN marksN_length)

/-- The mark of a number. -/
def mtxD (k : Nat) : ByteArray := if k = 0 then ⟨#[109, 48]⟩ else markT k

theorem mark_textD (k : Nat) (h1 : k ≤ 1000000000) (w : World) : Calls Tryz.prog 17 #[.int .i64 (k : Int)] w fun e w' => e = .returned (.string (mtxD k)) ∧ Below w.heap.size w w' := by
  rcases Nat.eq_zero_or_pos k with h | h
  · subst h
    go_enter Tryz.func17, Tryz.ntmps17
    go_wp2
    go_ret
    exact ⟨rfl, Below.refl _ _⟩
  · have : mtxD k = markT k := if_neg (by omega)
    rw [this]
    exact markText_any k h h1 w

/-- A marked deed with m numbers. -/
def mkDd (y m : Nat) : DeedI × List Int := (⟨mtxD y, (((y : Int) + 1) % 3 == 0), (y : Int) + 1 + 1, ((y + 3 + m : Nat) : Int), ((y + 3 + m : Nat) : Int) + 1⟩, marksN (y + 3) m)

def offD (D : List (DeedI × List Int)) (j : Nat) : Nat := ((D.take j).map (fun q => q.2.length + 5)).sum

theorem offD_zero (D : List (DeedI × List Int)) : offD D 0 = 0 := by simp [offD]
theorem offD_succ (D : List (DeedI × List Int)) (j : Nat) (h : j < D.length) : offD D (j + 1) = offD D j + D[j].2.length + 5 := by
  unfold offD
  rw [List.take_succ_eq_append_getElem h, List.map_append, List.sum_append]
  simp
  omega
theorem offD_le (D : List (DeedI × List Int)) (j : Nat) : offD D j ≤ offD D D.length := by
  unfold offD
  rw [List.take_length]
  conv => rhs; rw [← List.take_append_drop j D]
  rw [List.map_append, List.sum_append]
  omega
theorem offD_ge (D : List (DeedI × List Int)) : D.length ≤ offD D D.length := by
  unfold offD
  rw [List.take_length]
  induction D with
  | nil => simp
  | cons q r ih => simp only [List.map_cons, List.sum_cons, List.length_cons]; omega

theorem offD_most (D : List (DeedI × List Int)) (M : Nat) (h : ∀ d ∈ D, d.2.length ≤ M) : offD D D.length ≤ D.length * (M + 5) := by
  unfold offD
  rw [List.take_length]
  induction D with
  | nil => simp
  | cons q r ih =>
    have h1 := h q (by simp)
    have h2 := ih (fun d hd => h d (by simp [hd]))
    simp only [List.map_cons, List.sum_cons, List.length_cons]
    rw [Nat.succ_mul]
    omega

/-- The deeds with the first j marked. -/
def mixD (k : Nat) (D : List (DeedI × List Int)) (j : Nat) : List (DeedI × List Int) := D.mapIdx fun i d => if i < j then mkDd (k + offD D i) d.2.length else d

theorem mixD_length (k : Nat) (D : List (DeedI × List Int)) (j : Nat) : (mixD k D j).length = D.length := by simp [mixD]
theorem mixD_at (k : Nat) (D : List (DeedI × List Int)) (j i : Nat) (h : i < (mixD k D j).length) (h2 : i < D.length) : (mixD k D j)[i] = if i < j then mkDd (k + offD D i) D[i].2.length else D[i] := by simp [mixD]
theorem mixD_zero (k : Nat) (D : List (DeedI × List Int)) : mixD k D 0 = D := by
  apply List.ext_getElem
  · simp [mixD]
  · intro i h1 h2; rw [mixD_at k D 0 i h1 h2, if_neg (by omega)]
theorem mixD_set (k : Nat) (D : List (DeedI × List Int)) (j : Nat) (h : j < D.length) : (mixD k D j).set j (mkDd (k + offD D j) D[j].2.length) = mixD k D (j + 1) := by
  apply List.ext_getElem
  · simp [mixD]
  · intro i h1 h2
    have hi : i < D.length := by rw [mixD_length] at h2; exact h2
    rw [List.getElem_set, mixD_at k D (j + 1) i h2 hi]
    by_cases e : j = i
    · subst e
      simp
    · rw [if_neg e, mixD_at k D j i _ hi]
      have : i < j + 1 ↔ i < j := by omega
      simp only [this]

theorem dsC_put : ∀ (ks : List Value) (D : List (DeedI × List Int)) (j : Nat) (d : DeedI × List Int), j < ks.length → j < D.length →
    dsC ks (D.set j d) = (((((dsC ks D).set (j * 6) (.string d.1.T)).set (j * 6 + 1) (.bool d.1.c)).set (j * 6 + 2) (.int .i64 d.1.s)).set (j * 6 + 4) (.int .i64 d.1.o)).set (j * 6 + 5) (.int .i64 d.1.p)
  | k :: ks, x :: D, 0, d, _, _ => rfl
  | k :: ks, x :: D, j + 1, d, h1, h2 => by
    have := dsC_put ks D j d (by simpa using h1) (by simpa using h2)
    have e : (j + 1) * 6 = j * 6 + 6 := by omega
    rw [e]
    simpa [dsC] using this
  | [], _, _, _, h1, _ => by simp at h1
  | _ :: _, [], _, _, _, h2 => by simp at h2

theorem own_othersD {w : World} {B B' : Nat} {e e' s s' n n' : Nat} {u v : Value} {xs ys : List Value} (hu : w.ownsRow B e s u n xs) (hv : w.ownsRow B' e' s' v n' ys) (hne : e ≠ e') : ∀ g, u.ownBlock = some g → v.ownBlock ≠ some g := by
  intro g h1 h2
  rcases hu.2 with ⟨rfl, _⟩ | ⟨g1, cap, cur, rfl, _, hc, _⟩
  · simp [Value.ownBlock] at h1
  · rcases hv.2 with ⟨rfl, _⟩ | ⟨g2, cap2, cur2, rfl, _, hc2, _⟩
    · simp [Value.ownBlock] at h2
    · simp [Value.ownBlock] at h1 h2
      subst h1 h2
      rw [hc] at hc2
      have hc3 := Option.some.inj hc2
      simp at hc3
      exact hne hc3.2

/-- The blocks of deeds. -/
def DsBlk (v : Value) (ks : List Value) (g : Nat) : Prop := v.ownBlock = some g ∨ ∃ j, ∃ h : j < ks.length, ks[j].ownBlock = some g

theorem DsOwn.blk {w : World} {B : Nat} {v : Value} {ks : List Value} {D : List (DeedI × List Int)} (h : DsOwn w B v ks D) : ∀ g, DsBlk v ks g → B ≤ g := by
  rintro g (hg | ⟨j, hj, hg⟩)
  · exact (h.2.1.lt g hg).1
  · exact ((h.2.2 j hj (by rw [← h.1]; exact hj)).blk g hg).1

/-- One deed is written over: three cells, its own row, two cells. -/
theorem DsOwn.put {w : World} {B g n cap j : Nat} {ks : List Value} {D : List (DeedI × List Int)} (h : DsOwn w B (.slice (some ⟨g, 0, none⟩) n cap) ks D) (hn : n = D.length) (hd : DistK ks) (hj : j < D.length) (hjk : j < ks.length) (d : DeedI × List Int) :
    let V := ((w.setCell ⟨g, j * 6, none⟩ (.string d.1.T)).setCell ⟨g, j * 6 + 1, none⟩ (.bool d.1.c)).setCell ⟨g, j * 6 + 2, none⟩ (.int .i64 d.1.s)
    InOwn V B ks[j] D[j].2 ∧ V.cell? ⟨g, j * 6 + 3, none⟩ = some ks[j] ∧ ∀ w2, InOwn w2 B ks[j] d.2 → Kept (InBlk ks[j]) V w2 →
      (w2.cell? ⟨g, j * 6 + 4, none⟩ = some (.int .i64 D[j].1.o) ∧ w2.cell? ⟨g, j * 6 + 5, none⟩ = some (.int .i64 D[j].1.p) ∧ w2.frozen? ⟨g, j * 6 + 4, none⟩ = false ∧ w2.frozen? ⟨g, j * 6 + 5, none⟩ = false) ∧
      DsOwn ((w2.setCell ⟨g, j * 6 + 4, none⟩ (.int .i64 d.1.o)).setCell ⟨g, j * 6 + 5, none⟩ (.int .i64 d.1.p)) B (.slice (some ⟨g, 0, none⟩) n cap) ks (D.set j d) := by
  subst hn
  intro V
  have hne : ∀ i (hi : i < ks.length), ∀ b, ks[i].ownBlock = some b → ¬ b = g := fun i hi b hb e => by
    subst e
    exact own_othersD (h.2.2 i hi (by rw [← h.1]; exact hi)) h.2.1 (by decide) b hb rfl
  obtain ⟨c0, c1, c2, c3, c4, c5⟩ := dsC_at ks D j hjk hj
  have r1 := (h.2.1.stored (j * 6) (.string d.1.T)).1
  have r2 := (r1.stored (j * 6 + 1) (.bool d.1.c)).1
  have r3 := (r2.stored (j * 6 + 2) (.int .i64 d.1.s)).1
  have kV : Kept (fun b => b = g) w V := ((Kept.set (S := fun b => b = g) w g (j * 6) _ rfl).trans (Kept.set _ g (j * 6 + 1) _ rfl)).trans (Kept.set _ g (j * 6 + 2) _ rfl)
  have oV : ∀ i (h1 : i < ks.length) (h2 : i < D.length), InOwn V B ks[i] D[i].2 := fun i h1 h2 => (h.2.2 i h1 h2).kept kV (fun b hb => hne i h1 b hb)
  refine ⟨oV j hjk hj, ?_, fun w2 ho hk => ?_⟩
  · have := r3.cellAt (j * 6 + 3) (by omega)
    rw [List.getElem?_set_ne (by omega), List.getElem?_set_ne (by omega), List.getElem?_set_ne (by omega), c3] at this
    exact this
  · have r4 : w2.ownsRow _ _ _ _ _ _ := hk.own r3 (fun b hb hb' => hne j hjk b hb' (by simpa [Value.ownBlock] using hb.symm))
    have q4 := r4.cellAt (j * 6 + 4) (by omega)
    rw [List.getElem?_set_ne (by omega), List.getElem?_set_ne (by omega), List.getElem?_set_ne (by omega), c4] at q4
    have r5 := (r4.stored (j * 6 + 4) (.int .i64 d.1.o)).1
    have q5 := r4.cellAt (j * 6 + 5) (by omega)
    rw [List.getElem?_set_ne (by omega), List.getElem?_set_ne (by omega), List.getElem?_set_ne (by omega), c5] at q5
    have r6 := (r5.stored (j * 6 + 5) (.int .i64 d.1.p)).1
    have k6 : Kept (fun b => b = g) w2 ((w2.setCell ⟨g, j * 6 + 4, none⟩ (.int .i64 d.1.o)).setCell ⟨g, j * 6 + 5, none⟩ (.int .i64 d.1.p)) := (Kept.set (S := fun b => b = g) w2 g (j * 6 + 4) _ rfl).trans (Kept.set _ g (j * 6 + 5) _ rfl)
    refine ⟨⟨q4, q5, r4.frozenAt _, r4.frozenAt _⟩, by rw [List.length_set]; exact h.1, ?_, fun i h1 h2 => ?_⟩
    · rw [List.length_set, dsC_put ks D j d hjk hj]
      exact r6
    · have hi : i < D.length := by rw [List.length_set] at h2; exact h2
      by_cases e : j = i
      · subst e
        rw [List.getElem_set_self]
        exact ho.kept k6 (fun b hb => hne j h1 b hb)
      · rw [List.getElem_set_ne e]
        have o := (oV i h1 hi).kept hk (fun b hb hb' => e (hd j i hjk h1 b hb' hb))
        exact o.kept k6 (fun b hb => hne i h1 b hb)

end Sc
end Go.Proofs.YtjhnippfepbjmaaGreatDoor

/-
  The contract of laws.markDeedS.
-/
namespace Go.Proofs.YtjhnippfepbjmaaGreatDoor
namespace Sc
open Go.RowKit
open Gr (DeedI own_below own_lower InOwn InAt InBlk DeAt Blk Kept below_new marksN marksN_length markInts_gen)

set_option maxRecDepth 100000 in
set_option maxHeartbeats 2000000 in
theorem markDeedS_any (v : Value) (ks : List Value) (B k : Nat) (D : List (DeedI × List Int)) (hk : k + offD D D.length ≤ 100000000) (hd : DistK ks) (w : World) (h : DsOwn w B v ks D) :
    Calls Tryz.prog 7 #[v, .int .i64 (k : Int)] w fun e w' => e = .returned (.int .i64 ((k + offD D D.length : Nat) : Int)) ∧ DsOwn w' B v ks (mixD k D D.length) ∧ Kept (DsBlk v ks) w w' := by
  obtain ⟨A, c, rfl⟩ := h.shape
  have hvl := h.1
  have h2 := h
  rw [← mixD_zero k D] at h2
  have H := hide h2
  have HD := hide hd
  obtain ⟨n, hn⟩ : ∃ n, n = D.length := ⟨_, rfl⟩
  have HN := hide hn
  have HV : Hid (ks.length = n) := by show _ = _; omega
  have HLE := hide (offD_le D)
  obtain ⟨t, ht⟩ : ∃ t, t = offD D D.length := ⟨_, rfl⟩
  have HT := hide ht
  have hn8 : n ≤ 100000000 := by have := offD_ge D; omega
  rw [← ht] at hk HLE ⊢
  rw [← hn] at ⊢
  clear h h2 hd hn hvl ht
  go_enter Tryz.func7, Tryz.ntmps7
  go_wp2_with fail
  go_loopw [1, 5] (fun a1 a5 wr => ∃ j y : Nat, a5 = .int .i64 j ∧ j ≤ n ∧ Hid (y = k + offD D j) ∧ y ≤ 100000000 ∧ a1 = .int .i64 (y : Int) ∧ Hid (DsOwn wr B (.slice A n c) ks (mixD k D j)) ∧ Hid (Kept (DsBlk (.slice A n c) ks) w wr)) (fun _ a5 _ => n - (intOf a5).toNat)
  case atStart => exact ⟨0, k, rfl, Nat.zero_le _, by show _ = _; rw [offD_zero]; rfl, by omega, rfl, (by have h := unhide H; rw [mixD_length, ← unhide HN] at h; exact h), Kept.refl _ _⟩
  case round =>
    obtain ⟨j, y, rfl, hj, HY, hyl, rfl, HG, HKP⟩ := hrel
    by_cases hlt : j < n
    · have hjD : j < D.length := by have := unhide HN; omega
      have hjv : j < ks.length := by have := unhide HV; omega
      have hjm : j < (mixD k D j).length := by rw [mixD_length]; exact hjD
      have hg := unhide HG
      obtain ⟨g, cap, hA, _, hgl⟩ := hg.2.1.form (by omega)
      simp at hA
      obtain ⟨rfl, hnn, rfl⟩ := hA
      have hs := offD_succ D j hjD
      have hle := unhide HLE (j + 1)
      have hy2 : y + D[j].2.length + 5 ≤ 100000000 := by have := unhide HY; omega
      have e0 : (mixD k D j)[j] = D[j] := by rw [mixD_at k D j j hjm hjD, if_neg (by omega)]
      have HS : Hid (y + D[j].2.length + 5 = k + offD D (j + 1)) := by show _ = _; rw [hs, unhide HY]; omega
      have MT := hide (fun w => mark_textD y (by omega) w)
      have hset := mixD_set k D j hjD
      rw [← unhide HY] at hset
      obtain ⟨a1, c1, e1⟩ := (hg.2.2 j hjv hjm).at.shape
      rw [e0] at e1
      have HC : Hid (∀ i, i < 6 → ∃ x, (dsC ks (mixD k D j))[j * 6 + i]? = some x) := fun i hi => by
        have := dsC_length ks (mixD k D j) hg.1
        rw [mixD_length] at this
        exact ⟨_, List.getElem?_eq_getElem (by omega)⟩
      have HP : Hid (∀ w1, Below wr.heap.size wr w1 → DsOwn w1 B (.slice (some ⟨g, 0, none⟩) n c) ks (mixD k D j)) := fun w1 hb => hg.below hb
      have HI : Hid (∀ w1, InOwn w1 B (.slice a1 D[j].2.length c1) (mixD k D j)[j].2 → Calls Tryz.prog 18 #[.slice a1 D[j].2.length c1, .int .i64 ((y : Int) + 1 + 1 + 1)] w1 fun e w' => e = .returned (.int .i64 ((y + 3 + D[j].2.length : Nat) : Int)) ∧ InOwn w' B (.slice a1 D[j].2.length c1) (marksN (y + 3) D[j].2.length) ∧ Kept (InBlk (.slice a1 D[j].2.length c1)) w1 w') := fun w1 ho => by
        rw [e0] at ho
        have := markInts_gen _ B (y + 3) D[j].2 (by omega) w1 ho
        have e : ((y + 3 : Nat) : Int) = (y : Int) + 1 + 1 + 1 := by omega
        rw [e] at this
        exact this
      clear hg hs hle e0
      have HNN := hide hnn
      clear hnn
      generalize hm : D[j].2.length = m at e1 HI HS hy2 hset
      clear hm
      have hx0 : (0 : Int) ≤ (j : Int) := by omega
      have hx1 : (j : Int) < (n : Int) := by omega
      have HST := hide hset
      clear hset
      go_wp2_with fail
      refine (unhide MT _).mono ?_
      rintro e w1 ⟨rfl, hb1⟩
      have hp := unhide HP w1 hb1
      have hput := hp.put (unhide HNN) (unhide HD) hjm hjv (mkDd y m)
      rw [unhide HST] at hput
      obtain ⟨x0, ex0⟩ := unhide HC 0 (by omega)
      obtain ⟨x1, ex1⟩ := unhide HC 1 (by omega)
      obtain ⟨x2, ex2⟩ := unhide HC 2 (by omega)
      have s0 := hp.2.1
      rw [← unhide HNN] at s0
      have hf0 := s0.frozenAt (j * 6)
      have hce0 := s0.cellAt (j * 6) (by omega)
      rw [show (dsC ks (mixD k D j))[j * 6]? = some x0 from ex0] at hce0
      have s1 := (s0.stored (j * 6) (.string (mtxD y))).1
      have hf1 := s1.frozenAt (j * 6 + 1)
      have hce1 := s1.cellAt (j * 6 + 1) (by omega)
      rw [List.getElem?_set_ne (by omega), ex1] at hce1
      have s2 := (s1.stored (j * 6 + 1) (.bool (((y : Int) + 1) % 3 == 0))).1
      have hf2 := s2.frozenAt (j * 6 + 2)
      have hce2 := s2.cellAt (j * 6 + 2) (by omega)
      rw [List.getElem?_set_ne (by omega), List.getElem?_set_ne (by omega), ex2] at hce2
      have hp1 : InOwn (((w1.setCell ⟨g, j * 6, none⟩ (.string (mtxD y))).setCell ⟨g, j * 6 + 1, none⟩ (.bool (((y : Int) + 1) % 3 == 0))).setCell ⟨g, j * 6 + 2, none⟩ (.int .i64 ((y : Int) + 1 + 1))) B ks[j] (mixD k D j)[j].2 := hput.1
      have hp2 : (((w1.setCell ⟨g, j * 6, none⟩ (.string (mtxD y))).setCell ⟨g, j * 6 + 1, none⟩ (.bool (((y : Int) + 1) % 3 == 0))).setCell ⟨g, j * 6 + 2, none⟩ (.int .i64 ((y : Int) + 1 + 1))).cell? ⟨g, j * 6 + 3, none⟩ = some ks[j] := hput.2.1
      rw [e1] at hp1 hp2
      have HP1 := hide (unhide HI _ hp1)
      have HP3 := hide hput.2.2
      have HKV : Hid (Kept (DsBlk (.slice (some ⟨g, 0, none⟩) n c) ks) w (((w1.setCell ⟨g, j * 6, none⟩ (.string (mtxD y))).setCell ⟨g, j * 6 + 1, none⟩ (.bool (((y : Int) + 1) % 3 == 0))).setCell ⟨g, j * 6 + 2, none⟩ (.int .i64 ((y : Int) + 1 + 1)))) := ((((unhide HKP).trans (Kept.of_below hb1)).trans (Kept.set _ g (j * 6) _ (.inl rfl))).trans (Kept.set _ g (j * 6 + 1) _ (.inl rfl))).trans (Kept.set _ g (j * 6 + 2) _ (.inl rfl))
      clear hput hp s0 s1 s2 HP HC hp1 ex0 ex1 ex2 HI hb1
      go_wp2_with fail
      refine (unhide HP1).mono ?_
      rintro e w2 ⟨rfl, ho2, hk2⟩
      rw [← e1] at ho2 hk2
      obtain ⟨⟨q4, q5, f4, f5⟩, hD⟩ := unhide HP3 w2 ho2 hk2
      have HK2 : Hid (Kept (DsBlk (.slice (some ⟨g, 0, none⟩) n c) ks) w ((w2.setCell ⟨g, j * 6 + 4, none⟩ (.int .i64 ((y + 3 + m : Nat) : Int))).setCell ⟨g, j * 6 + 5, none⟩ (.int .i64 (((y + 3 + m : Nat) : Int) + 1)))) := (((unhide HKV).trans (hk2.weak (fun i hi => .inr ⟨j, hjv, hi⟩))).trans (Kept.set _ g (j * 6 + 4) _ (.inl rfl))).trans (Kept.set _ g (j * 6 + 5) _ (.inl rfl))
      have HDD := hide hD
      generalize (mixD k D j)[j].1.o = o1 at q4
      generalize (mixD k D j)[j].1.p = o2 at q5
      clear hD ho2 hk2 HP3 HKV hce0 hce1 hce2 hf0 hf1 hf2 hp2 HP1 HG HKP
      go_wp2
      go_roundw
      case rel => exact ⟨j + 1, y + m + 5, by go_num, by omega, unhide HS, by omega, by go_num, unhide HDD, unhide HK2⟩
      case measure => simp [intOf]; omega
    · obtain rfl : j = n := by omega
      go_wp2
      go_ret
      refine ⟨?_, unhide HG, unhide HKP⟩
      have e : (y : Int) = ((k + t : Nat) : Int) := by
        have h1 := unhide HY
        rw [unhide HN, ← unhide HT] at h1
        rw [h1]
      rw [← e]
      rfl
end Sc
end Go.Proofs.YtjhnippfepbjmaaGreatDoor

/-
  The contract of laws.heldDeedS.
-/
namespace Go.Proofs.YtjhnippfepbjmaaGreatDoor
namespace Sc
open Go.RowKit
open Gr (DeedI own_below own_lower InOwn InAt InBlk DeAt Blk Kept below_new marksN marksN_length heldInts_gen Grown wp_region_grown)

set_option maxRecDepth 100000 in
set_option maxHeartbeats 2000000 in
theorem heldDeedS_any (v : Value) (ks : List Value) (B k : Nat) (D : List (DeedI × List Int)) (hk : k + offD D D.length ≤ 100000000) (w : World) (h : DsOwn w B v ks (mixD k D D.length)) :
    Calls Tryz.prog 8 #[v, .int .i64 (k : Int)] w fun e w' => e = .returned (.int .i64 ((k + offD D D.length : Nat) : Int)) ∧ Below w.heap.size w w' := by
  obtain ⟨A, c, rfl⟩ := h.shape
  have H := hide h
  obtain ⟨n, hn⟩ : ∃ n, n = D.length := ⟨_, rfl⟩
  have HN := hide hn
  have HV : Hid (ks.length = n) := by show _ = _; rw [h.1, mixD_length]; exact hn.symm
  have HLE := hide (offD_le D)
  obtain ⟨t, ht⟩ : ∃ t, t = offD D D.length := ⟨_, rfl⟩
  have HT := hide ht
  have hn8 : n ≤ 100000000 := by have := offD_ge D; omega
  rw [← ht] at hk HLE ⊢
  rw [mixD_length, ← hn] at H ⊢
  clear h hn ht
  go_enter Tryz.func8, Tryz.ntmps8
  go_wp2_with fail
  go_loopw [1, 5] (fun a1 a5 wr => ∃ j y : Nat, a5 = .int .i64 j ∧ j ≤ n ∧ Hid (y = k + offD D j) ∧ y ≤ 100000000 ∧ a1 = .int .i64 (y : Int) ∧ Below w.heap.size w wr) (fun _ a5 _ => n - (intOf a5).toNat)
  case atStart => exact ⟨0, k, rfl, Nat.zero_le _, by show _ = _; rw [offD_zero]; rfl, by omega, rfl, Below.refl _ _⟩
  case round =>
    obtain ⟨j, y, rfl, hj, HY, hyl, rfl, hb⟩ := hrel
    by_cases hlt : j < n
    · have hjD : j < D.length := by have := unhide HN; omega
      have hjv : j < ks.length := by have := unhide HV; omega
      have hjm : j < (mixD k D n).length := by rw [mixD_length]; exact hjD
      have hg := (unhide H).below hb
      obtain ⟨g, cap, hA, _, hgl⟩ := hg.2.1.form (by omega)
      simp at hA
      obtain ⟨rfl, hnn, rfl⟩ := hA
      have e0 : (mixD k D n)[j] = mkDd y D[j].2.length := by rw [mixD_at k D _ j hjm hjD, if_pos hlt, ← unhide HY]
      have hs := offD_succ D j hjD
      have hle := unhide HLE (j + 1)
      have hy2 : y + D[j].2.length + 5 ≤ 100000000 := by have := unhide HY; omega
      have HS : Hid (y + D[j].2.length + 5 = k + offD D (j + 1)) := by show _ = _; rw [hs, unhide HY]; omega
      have oj := hg.2.2 j hjv hjm
      rw [e0] at oj
      have oa := oj.at
      obtain ⟨a1, c1, e1⟩ := oa.shape
      rw [show (mkDd y D[j].2.length).2 = marksN (y + 3) D[j].2.length from rfl, marksN_length] at e1
      rw [e1] at oa
      have HI : Hid (∀ w1, Below wr.heap.size wr w1 → Calls Tryz.prog 19 #[.slice a1 D[j].2.length c1, .int .i64 ((y : Int) + 1 + 1 + 1)] w1 fun e w' => e = .returned (.int .i64 ((y + 3 + D[j].2.length : Nat) : Int)) ∧ Below w1.heap.size w1 w') := fun w1 hb1 => by
        have := heldInts_gen _ wr.heap.size (y + 3) D[j].2.length (by omega) w1 hb1.size (oa.below hb1 (Nat.le_refl _))
        have e : ((y + 3 : Nat) : Int) = (y : Int) + 1 + 1 + 1 := by omega
        rw [e] at this
        exact this
      have hrow := hg.2.1
      rw [← hnn] at hrow
      have P : ∀ i, i < 6 → wr.cell? ⟨g, j * 6 + i, none⟩ = (dsC ks (mixD k D n))[j * 6 + i]? := fun i hi => hrow.cellAt (j * 6 + i) (by omega)
      obtain ⟨c0, c1', c2, c3, c4, c5⟩ := dsC_at ks (mixD k D n) j hjv hjm
      rw [e0] at c0 c1' c2 c4 c5
      rw [e1] at c3
      have C0 : wr.cell? ⟨g, j * 6, none⟩ = some (.string (mtxD y)) := (P 0 (by omega)).trans c0
      have C1 : wr.cell? ⟨g, j * 6 + 1, none⟩ = some (.bool (((y : Int) + 1) % 3 == 0)) := (P 1 (by omega)).trans c1'
      have C2 : wr.cell? ⟨g, j * 6 + 2, none⟩ = some (.int .i64 ((y : Int) + 1 + 1)) := (P 2 (by omega)).trans c2
      have C3 : wr.cell? ⟨g, j * 6 + 3, none⟩ = some (.slice a1 D[j].2.length c1) := (P 3 (by omega)).trans c3
      have C4 : wr.cell? ⟨g, j * 6 + 4, none⟩ = some (.int .i64 ((y + 3 + D[j].2.length : Nat) : Int)) := (P 4 (by omega)).trans c4
      have C5 : wr.cell? ⟨g, j * 6 + 5, none⟩ = some (.int .i64 (((y + 3 + D[j].2.length : Nat) : Int) + 1)) := (P 5 (by omega)).trans c5
      have MT := hide (fun w => mark_textD y (by omega) w)
      have HNN := hide hnn
      clear hg hs hle e0 oj oa hrow P c0 c1' c2 c3 c4 c5 e1 hnn
      generalize D[j].2.length = m at C3 C4 C5 HI HS hy2
      generalize mtxD y = T at C0 MT
      have hx0 : (0 : Int) ≤ (j : Int) := by omega
      have hx1 : (j : Int) < (n : Int) := by omega
      have hz := hb.size
      have hng : ¬ ((y + 3 + m : Nat) : Int) < 0 := by omega
      have D0 : ∀ d : Grown wr.heap.size wr, d.w.cell? ⟨g, j * 6, none⟩ = some (.string T) := fun d => d.cell hgl C0
      have HCE : Hid (∀ i x, wr.cell? ⟨g, i, none⟩ = some x → ∀ w1, Below wr.heap.size wr w1 → w1.cell? ⟨g, i, none⟩ = some x) := fun i x h w1 hb1 => (hb1.cell (p := ⟨g, i, none⟩) hgl).trans h
      go_wp2_with fail
      refine wp_region_grown wr.heap.size (by kernel_rfl) (by kernel_rfl) ?_
      repeat (go_big_quiet_step (first | (go_at_call 17; exact Gr.Calls.grown (Nat.le_refl _) (unhide MT _))))
      refine wpQuiet_nil ?_
      rintro w5 ⟨d5, rfl⟩
      have hb5 := d5.below
      have c1 := unhide HCE _ _ C1 _ hb5
      have c2 := unhide HCE _ _ C2 _ hb5
      have c3 := unhide HCE _ _ C3 _ hb5
      have c4 := unhide HCE _ _ C4 _ hb5
      have c5 := unhide HCE _ _ C5 _ hb5
      have HI5 := hide (unhide HI _ hb5)
      have hgl5 : g < d5.w.heap.size := by have := hb5.size; omega
      have hbe := hb.trans (hb5.mono hb.size)
      clear C0 C1 C2 C3 C4 C5 D0 HI HCE hb5 hb hz
      generalize d5.w = w5 at *
      have t0 : ((((y : Int) + 1) % 3 == 0) != (((y : Int) + 1) % 3 == 0)) = false := by simp
      go_wp2_with fail
      refine (unhide HI5).mono ?_
      rintro e w6 ⟨rfl, hb6⟩
      rw [← hb6.cell (p := ⟨g, j * 6 + 4, none⟩) hgl5] at c4
      rw [← hb6.cell (p := ⟨g, j * 6 + 5, none⟩) hgl5] at c5
      have hb7 := hbe.trans (hb6.mono hbe.size)
      clear c1 c2 c3 hb6 hbe HI5
      go_wp2
      go_roundw
      case rel => exact ⟨j + 1, y + m + 5, by go_num, by omega, unhide HS, by omega, by go_num, hb7⟩
      case measure => simp [intOf]; omega
    · obtain rfl : j = n := by omega
      go_wp2
      go_ret
      refine ⟨?_, hb⟩
      have e : (y : Int) = ((k + t : Nat) : Int) := by
        have h1 := unhide HY
        rw [unhide HN, ← unhide HT] at h1
        rw [h1]
      rw [← e]
      rfl
end Sc
end Go.Proofs.YtjhnippfepbjmaaGreatDoor
