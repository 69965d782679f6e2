/-
  The contracts of spec.PartsOf, impl.allPrintable, strings.Clone and impl.PartsOf.
-/
import Derived.Test.YtbcefikjacjplagDoorStrs
import Derived.Test.YtbcefikjacjplagDoorFields
import Derived.Lib.Strings
import Derived.Lib.LaidTab
namespace Go.Proofs.YtbcefikjacjplagDoor
open Go.RowKit

theorem info9 : (Tryd.prog.info? 9).map (fun i => (i.zero, i.size, i.bytes)) = some (some (.string ⟨#[]⟩), 1, 16) := by kernel_rfl

def printable (s : ByteArray) : Prop := ∀ j, j < s.size → 32 ≤ byteAt s j ∧ byteAt s j ≤ 126
def good (s : ByteArray) : Prop := s.size ≤ 400 ∧ printable s ∧ (Lib.fields s.data.toList).length ≤ 8
/-- What PartsOf answers. -/
def IsParts (s : ByteArray) (L : List (List UInt8)) (b : Bool) : Prop := (good s ∧ L = Lib.fields s.data.toList ∧ b = true) ∨ (¬ good s ∧ L = [] ∧ b = false)

theorem IsParts.same {s : ByteArray} {L M : List (List UInt8)} {b c : Bool} (h : IsParts s L b) (k : IsParts s M c) : L = M ∧ b = c := by
  rcases h with ⟨h1, rfl, rfl⟩ | ⟨h1, rfl, rfl⟩ <;> rcases k with ⟨k1, rfl, rfl⟩ | ⟨k1, rfl, rfl⟩
  · exact ⟨rfl, rfl⟩
  · exact absurd h1 k1
  · exact absurd k1 h1
  · exact ⟨rfl, rfl⟩

theorem IsParts.few {s : ByteArray} {L : List (List UInt8)} {b : Bool} (h : IsParts s L b) : L.length ≤ 8 := by
  rcases h with ⟨h1, rfl, rfl⟩ | ⟨h1, rfl, rfl⟩
  · exact h1.2.2
  · simp

def cut (s : ByteArray) (a b : Nat) : List UInt8 := (s.data.toList.drop a).take (b - a)

theorem cut_value (s : ByteArray) (a b : Nat) : s.extract a b = ⟨(cut s a b).toArray⟩ := by
  apply ByteArray.ext
  apply Array.toList_inj.1
  rw [Lib.extract_data]
  rfl

theorem drop_at (s : ByteArray) (i : Nat) (h : i < s.size) : s.data.toList.drop i = s[i] :: s.data.toList.drop (i + 1) := by
  rw [List.drop_eq_getElem_cons (by simpa using h)]; rfl

theorem cut_self (s : ByteArray) (i : Nat) : cut s i i = [] := by simp [cut]

theorem cut_more (s : ByteArray) (a i : Nat) (ha : a ≤ i) (h : i < s.size) : cut s a (i + 1) = cut s a i ++ [s[i]] := by
  unfold cut
  rw [show i + 1 - a = (i - a) + 1 by omega, List.take_succ_eq_append_getElem (by simp; have : s.size = s.data.size := rfl; omega)]
  congr 1
  simp only [List.getElem_drop, List.cons.injEq, and_true]
  have e : a + (i - a) = i := by omega
  simp only [e]
  rfl

theorem cut_ne (s : ByteArray) (a i : Nat) (ha : a < i) (h : i ≤ s.size) : cut s a i ≠ [] := by
  intro e
  have : (cut s a i).length = 0 := by rw [e]; rfl
  simp [cut] at this
  have h2 : s.size = s.data.size := rfl
  omega

/-- What is left to be told at place i, the last part having begun at a. -/
def rest (s : ByteArray) (a i : Nat) : List (List UInt8) := if i ≤ s.size then Lib.fieldsGo (cut s a i) (s.data.toList.drop i) else []

theorem rest_start (s : ByteArray) : rest s 0 0 = Lib.fields s.data.toList := by
  rw [rest, if_pos (Nat.zero_le _)]
  simp [cut, Lib.fields]

theorem rest_past (s : ByteArray) (a i : Nat) (h : s.size < i) : rest s a i = [] := if_neg (by omega)

theorem rest_word (s : ByteArray) (a i : Nat) (ha : a ≤ i) (h : i < s.size) (hp : 32 < byteAt s i ∧ byteAt s i ≤ 126) : rest s a i = rest s a (i + 1) := by
  rw [rest, rest, if_pos (by omega), if_pos (by omega), drop_at s i h, cut_more s a i ha h]
  refine Lib.fieldsGo_more _ _ _ ?_
  rw [byteAt_eq h] at hp
  unfold Lib.isSp
  have key : ∀ c : UInt8, c.toNat ≤ 32 → ((s[i]'h) == c) = false := fun c hc => by
    rw [beq_eq_false_iff_ne]
    intro e
    rw [e] at hp
    omega
  rw [key 9 (by decide), key 10 (by decide), key 11 (by decide), key 12 (by decide), key 13 (by decide), key 32 (by decide)]
  rfl

theorem isSp_blank (s : ByteArray) (i : Nat) (h : i < s.size) (hp : byteAt s i = 32) : Lib.isSp (s[i]'h) = true := by
  rw [byteAt_eq h] at hp
  have e : (s[i]'h) = 32 := UInt8.toNat_inj.1 (by rw [hp]; rfl)
  rw [e]
  decide

theorem rest_end (s : ByteArray) (a i : Nat) (ha : a < i) (h : i < s.size) (hp : byteAt s i = 32) : rest s a i = cut s a i :: rest s (i + 1) (i + 1) := by
  rw [rest, rest, if_pos (by omega), if_pos (by omega), drop_at s i h, cut_self]
  exact Lib.fieldsGo_end _ _ _ (isSp_blank s i h hp) (cut_ne s a i ha (by omega))

theorem rest_blank (s : ByteArray) (i : Nat) (h : i < s.size) (hp : byteAt s i = 32) : rest s i i = rest s (i + 1) (i + 1) := by
  rw [rest, rest, if_pos (by omega), if_pos (by omega), drop_at s i h, cut_self, cut_self]
  exact Lib.fieldsGo_sp _ _ (isSp_blank s i h hp)

theorem rest_last (s : ByteArray) (a : Nat) (ha : a < s.size) : rest s a s.size = cut s a s.size :: rest s (s.size + 1) (s.size + 1) := by
  rw [rest, if_pos (Nat.le_refl _), rest_past s _ _ (by omega)]
  rw [List.drop_of_length_le (by simp)]
  have hne := cut_ne s a s.size ha (Nat.le_refl _)
  simp only [Lib.fieldsGo]
  cases hc : cut s a s.size with
  | nil => exact absurd hc hne
  | cons x y => rfl

theorem rest_none (s : ByteArray) : rest s s.size s.size = rest s (s.size + 1) (s.size + 1) := by
  rw [rest, if_pos (Nat.le_refl _), rest_past s _ _ (by omega), cut_self]
  rw [List.drop_of_length_le (by simp)]
  rfl

theorem strsV_snoc (L : List (List UInt8)) (l : List UInt8) : strsV L ++ [.string ⟨l.toArray⟩] = strsV (L ++ [l]) := by simp [strsV]

theorem own_str_snoc {w1 : World} {B e : Nat} {v' : Value} {L : List (List UInt8)} {l : List UInt8} {x : ByteArray} (hx : x = ⟨l.toArray⟩)
    (h : w1.ownsRow B e 1 v' (L.length + 1) (strsV L ++ [.string x])) : w1.ownsRow B e 1 v' (L ++ [l]).length (strsV (L ++ [l])) := by
  rw [hx, strsV_snoc] at h
  simpa using h

theorem one_text (x : ByteArray) : ∀ u, u ∈ [Value.string x] → u.oneCell' = true := by
  intro u hu; simp at hu; subst hu; rfl

theorem below_append {B : Nat} {w wr w1 : World} {o : Obj} {e size n : Nat} {v : Value} {xs : List Value} (hb : Below B w wr) (hB : B ≤ w.heap.size) (hown : wr.ownsRow B e size v n xs)
    (hg : (wr.alloc o).grownBy w1 v.ownBlock) : Below B w w1 := by
  have hs := hb.size
  exact (hb.alloc (by omega) o).grown hg (by simp; omega) (fun k hk => (hown.lt k hk).1)

theorem clone_any (s : ByteArray) (hs : s.size ≤ 140737488355328) (w : World) :
    Calls Tryd.prog 20 #[.string s] w fun e w' => e = .returned (.string s) ∧ Below w.heap.size w w' := by
  have H := hide (Tryd.stringslite_Clone s w (by omega))
  go_enter Tryd.func20, Tryd.ntmps20
  go_wp2_with fail
  refine (unhide H).mono ?_
  rintro e w1 ⟨rfl, hb1⟩
  go_wp2
  go_ret
  exact ⟨rfl, hb1⟩

set_option maxRecDepth 100000 in
theorem printable_yes (s : ByteArray) (hs : s.size ≤ 400) (hq : printable s) (w : World) :
    Calls Tryd.prog 18 #[.string s] w fun e w' => e = .returned (.bool true) ∧ w' = w := by
  have HQ := hide hq
  clear hq
  go_enter Tryd.func18, Tryd.ntmps18
  go_wp2_with fail
  go_loop [3] (fun a3 => ∃ i : Nat, a3 = .int .i64 i ∧ i ≤ s.size ∧ ∀ j, j < i → 32 ≤ byteAt s j ∧ byteAt s j ≤ 126) (fun a3 => s.size - (intOf a3).toNat)
  case atStart => exact ⟨0, rfl, Nat.zero_le _, fun j h => by omega⟩
  case round =>
    obtain ⟨i, rfl, hi, hp⟩ := hrel
    have HP := hide hp
    clear hp
    by_cases hlt : i < s.size
    · have hB : ((s[i]'hlt).toNat : Int) ≤ 255 := by have := UInt8.toNat_lt (s[i]'hlt); omega
      have HB := hide (show (byteAt s i : Int) = ((s[i]'hlt).toNat : Int) by rw [byteAt_eq hlt])
      obtain ⟨h1, h2⟩ : 32 ≤ ((s[i]'hlt).toNat : Int) ∧ ((s[i]'hlt).toNat : Int) ≤ 126 := by have := unhide HQ i hlt; have := unhide HB; omega
      go_wp2
      go_round
      case rel =>
        refine ⟨i + 1, by go_num, by omega, fun j hj => ?_⟩
        by_cases hji : j < i
        · exact unhide HP j hji
        · obtain rfl : j = i := by omega
          have := unhide HB
          omega
      case measure => simp [intOf]; omega
    · go_wp2
      go_ret
      exact ⟨rfl, rfl⟩

set_option maxRecDepth 100000 in
theorem printable_no (s : ByteArray) (hs : s.size ≤ 400) (hq : ¬ printable s) (w : World) :
    Calls Tryd.prog 18 #[.string s] w fun e w' => e = .returned (.bool false) ∧ w' = w := by
  have HQ := hide hq
  clear hq
  go_enter Tryd.func18, Tryd.ntmps18
  go_wp2_with fail
  go_loop [3] (fun a3 => ∃ i : Nat, a3 = .int .i64 i ∧ i ≤ s.size ∧ ∀ j, j < i → 32 ≤ byteAt s j ∧ byteAt s j ≤ 126) (fun a3 => s.size - (intOf a3).toNat)
  case atStart => exact ⟨0, rfl, Nat.zero_le _, fun j h => by omega⟩
  case round =>
    obtain ⟨i, rfl, hi, hp⟩ := hrel
    have HP := hide hp
    clear hp
    by_cases hlt : i < s.size
    · have hB : ((s[i]'hlt).toNat : Int) ≤ 255 := by have := UInt8.toNat_lt (s[i]'hlt); omega
      have HB := hide (show (byteAt s i : Int) = ((s[i]'hlt).toNat : Int) by rw [byteAt_eq hlt])
      by_cases h1 : ((s[i]'hlt).toNat : Int) < 32
      · go_wp2
        go_ret
        exact ⟨rfl, rfl⟩
      · by_cases h2 : 126 < ((s[i]'hlt).toNat : Int)
        · go_wp2
          go_ret
          exact ⟨rfl, rfl⟩
        · go_wp2
          go_round
          case rel =>
            refine ⟨i + 1, by go_num, by omega, fun j hj => ?_⟩
            by_cases hji : j < i
            · exact unhide HP j hji
            · obtain rfl : j = i := by omega
              have := unhide HB
              omega
          case measure => simp [intOf]; omega
    · exact absurd (fun j hj => unhide HP j (by omega)) (unhide HQ)
end Go.Proofs.YtbcefikjacjplagDoor
