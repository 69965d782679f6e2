/-
  Texts of this claim, one behind the other: WPart.
-/
import Derived.Test.YtjhnippfepbjmaaGreatDoorJ1
import Derived.Test.YtjhnippfepbjmaaGreatDoorJ2
import Derived.Test.YtjhnippfepbjmaaGreatDoorShelf
import Derived.Test.YtjhnippfepbjmaaGreatDoorJ16
import Derived.Deep.QuietTactic
import Derived.BigQuiet
import Derived.Deep.RegionHeld3
import Derived.Lib.Strings
import Derived.Lib.LaidTab

/-
  The parts of a line: spec.PartsOf, impl.allPrintable, strings.Clone and impl.PartsOf, for every text (namespace Pt; out of stage 1's texts).
-/
namespace Go.Proofs.YtjhnippfepbjmaaGreatDoor
namespace Pt
open Go.RowKit
open Gr (own_below)

def strsV (L : List (List UInt8)) : List Value := L.map fun l => Value.string ⟨l.toArray⟩
theorem strsV_length (L : List (List UInt8)) : (strsV L).length = L.length := by simp [strsV]
theorem strsV_at (L : List (List UInt8)) (i : Nat) (h : i < L.length) : (strsV L)[i]? = some (.string ⟨(L[i]'h).toArray⟩) := by
  simp [strsV, h]
theorem own_slice {w : World} {B e n : Nat} {v : Value} {xs : List Value} (h : w.ownsRow B e 1 v n xs) : ∃ a c, v = .slice a n c ∧ (0 < n → ∃ g, a = some ⟨g, 0, none⟩) := by
  rcases h.2 with ⟨rfl, rfl⟩ | ⟨g, cap, cur, rfl, _⟩
  · exact ⟨_, _, rfl, fun h => by omega⟩
  · exact ⟨_, _, rfl, fun _ => ⟨g, rfl⟩⟩


theorem info9 : (Tryz.prog.info? 9).map (fun i => (i.zero, i.size, i.bytes)) = some (some (.string ⟨#[]⟩), 1, 16) := by kernel_rfl

def printable (s : ByteArray) : Prop := ∀ j, j < s.size → 32 ≤ byteAt s j ∧ byteAt s j ≤ 126
def good (s : ByteArray) : Prop := s.size ≤ 400 ∧ printable s ∧ (Lib.fields s.data.toList).length ≤ 8
/-- What PartsOf answers. -/
def IsParts (s : ByteArray) (L : List (List UInt8)) (b : Bool) : Prop := (good s ∧ L = Lib.fields s.data.toList ∧ b = true) ∨ (¬ good s ∧ L = [] ∧ b = false)

theorem IsParts.same {s : ByteArray} {L M : List (List UInt8)} {b c : Bool} (h : IsParts s L b) (k : IsParts s M c) : L = M ∧ b = c := by
  rcases h with ⟨h1, rfl, rfl⟩ | ⟨h1, rfl, rfl⟩ <;> rcases k with ⟨k1, rfl, rfl⟩ | ⟨k1, rfl, rfl⟩
  · exact ⟨rfl, rfl⟩
  · exact absurd h1 k1
  · exact absurd k1 h1
  · exact ⟨rfl, rfl⟩

theorem IsParts.few {s : ByteArray} {L : List (List UInt8)} {b : Bool} (h : IsParts s L b) : L.length ≤ 8 := by
  rcases h with ⟨h1, rfl, rfl⟩ | ⟨h1, rfl, rfl⟩
  · exact h1.2.2
  · simp

def cut (s : ByteArray) (a b : Nat) : List UInt8 := (s.data.toList.drop a).take (b - a)

theorem cut_value (s : ByteArray) (a b : Nat) : s.extract a b = ⟨(cut s a b).toArray⟩ := by
  apply ByteArray.ext
  apply Array.toList_inj.1
  rw [Lib.extract_data]
  rfl

theorem drop_at (s : ByteArray) (i : Nat) (h : i < s.size) : s.data.toList.drop i = s[i] :: s.data.toList.drop (i + 1) := by
  rw [List.drop_eq_getElem_cons (by simpa using h)]; rfl

theorem cut_self (s : ByteArray) (i : Nat) : cut s i i = [] := by simp [cut]

theorem cut_more (s : ByteArray) (a i : Nat) (ha : a ≤ i) (h : i < s.size) : cut s a (i + 1) = cut s a i ++ [s[i]] := by
  unfold cut
  rw [show i + 1 - a = (i - a) + 1 by omega, List.take_succ_eq_append_getElem (by simp; have : s.size = s.data.size := rfl; omega)]
  congr 1
  simp only [List.getElem_drop, List.cons.injEq, and_true]
  have e : a + (i - a) = i := by omega
  simp only [e]
  rfl

theorem cut_ne (s : ByteArray) (a i : Nat) (ha : a < i) (h : i ≤ s.size) : cut s a i ≠ [] := by
  intro e
  have : (cut s a i).length = 0 := by rw [e]; rfl
  simp [cut] at this
  have h2 : s.size = s.data.size := rfl
  omega

/-- What is left to be told at place i, the last part having begun at a. -/
def rest (s : ByteArray) (a i : Nat) : List (List UInt8) := if i ≤ s.size then Lib.fieldsGo (cut s a i) (s.data.toList.drop i) else []

theorem rest_start (s : ByteArray) : rest s 0 0 = Lib.fields s.data.toList := by
  rw [rest, if_pos (Nat.zero_le _)]
  simp [cut, Lib.fields]

theorem rest_past (s : ByteArray) (a i : Nat) (h : s.size < i) : rest s a i = [] := if_neg (by omega)

theorem rest_word (s : ByteArray) (a i : Nat) (ha : a ≤ i) (h : i < s.size) (hp : 32 < byteAt s i ∧ byteAt s i ≤ 126) : rest s a i = rest s a (i + 1) := by
  rw [rest, rest, if_pos (by omega), if_pos (by omega), drop_at s i h, cut_more s a i ha h]
  refine Lib.fieldsGo_more _ _ _ ?_
  rw [byteAt_eq h] at hp
  unfold Lib.isSp
  have key : ∀ c : UInt8, c.toNat ≤ 32 → ((s[i]'h) == c) = false := fun c hc => by
    rw [beq_eq_false_iff_ne]
    intro e
    rw [e] at hp
    omega
  rw [key 9 (by decide), key 10 (by decide), key 11 (by decide), key 12 (by decide), key 13 (by decide), key 32 (by decide)]
  rfl

theorem isSp_blank (s : ByteArray) (i : Nat) (h : i < s.size) (hp : byteAt s i = 32) : Lib.isSp (s[i]'h) = true := by
  rw [byteAt_eq h] at hp
  have e : (s[i]'h) = 32 := UInt8.toNat_inj.1 (by rw [hp]; rfl)
  rw [e]
  decide

theorem rest_end (s : ByteArray) (a i : Nat) (ha : a < i) (h : i < s.size) (hp : byteAt s i = 32) : rest s a i = cut s a i :: rest s (i + 1) (i + 1) := by
  rw [rest, rest, if_pos (by omega), if_pos (by omega), drop_at s i h, cut_self]
  exact Lib.fieldsGo_end _ _ _ (isSp_blank s i h hp) (cut_ne s a i ha (by omega))

theorem rest_blank (s : ByteArray) (i : Nat) (h : i < s.size) (hp : byteAt s i = 32) : rest s i i = rest s (i + 1) (i + 1) := by
  rw [rest, rest, if_pos (by omega), if_pos (by omega), drop_at s i h, cut_self, cut_self]
  exact Lib.fieldsGo_sp _ _ (isSp_blank s i h hp)

theorem rest_last (s : ByteArray) (a : Nat) (ha : a < s.size) : rest s a s.size = cut s a s.size :: rest s (s.size + 1) (s.size + 1) := by
  rw [rest, if_pos (Nat.le_refl _), rest_past s _ _ (by omega)]
  rw [List.drop_of_length_le (by simp)]
  have hne := cut_ne s a s.size ha (Nat.le_refl _)
  simp only [Lib.fieldsGo]
  cases hc : cut s a s.size with
  | nil => exact absurd hc hne
  | cons x y => rfl

theorem rest_none (s : ByteArray) : rest s s.size s.size = rest s (s.size + 1) (s.size + 1) := by
  rw [rest, if_pos (Nat.le_refl _), rest_past s _ _ (by omega), cut_self]
  rw [List.drop_of_length_le (by simp)]
  rfl

theorem strsV_snoc (L : List (List UInt8)) (l : List UInt8) : strsV L ++ [.string ⟨l.toArray⟩] = strsV (L ++ [l]) := by simp [strsV]

theorem own_str_snoc {w1 : World} {B e : Nat} {v' : Value} {L : List (List UInt8)} {l : List UInt8} {x : ByteArray} (hx : x = ⟨l.toArray⟩)
    (h : w1.ownsRow B e 1 v' (L.length + 1) (strsV L ++ [.string x])) : w1.ownsRow B e 1 v' (L ++ [l]).length (strsV (L ++ [l])) := by
  rw [hx, strsV_snoc] at h
  simpa using h

theorem one_text (x : ByteArray) : ∀ u, u ∈ [Value.string x] → u.oneCell' = true := by
  intro u hu; simp at hu; subst hu; rfl



theorem clone_any (s : ByteArray) (hs : s.size ≤ 140737488355328) (w : World) :
    Calls Tryz.prog 39 #[.string s] w fun e w' => e = .returned (.string s) ∧ Below w.heap.size w w' := by
  have H := hide (Tryz.stringslite_Clone s w (by omega))
  go_enter Tryz.func39, Tryz.ntmps39
  go_wp2_with fail
  refine (unhide H).mono ?_
  rintro e w1 ⟨rfl, hb1⟩
  go_wp2
  go_ret
  exact ⟨rfl, hb1⟩

set_option maxRecDepth 100000 in
theorem printable_yes (s : ByteArray) (hs : s.size ≤ 400) (hq : printable s) (w : World) :
    Calls Tryz.prog 37 #[.string s] w fun e w' => e = .returned (.bool true) ∧ w' = w := by
  have HQ := hide hq
  clear hq
  go_enter Tryz.func37, Tryz.ntmps37
  go_wp2_with fail
  go_loop [3] (fun a3 => ∃ i : Nat, a3 = .int .i64 i ∧ i ≤ s.size ∧ ∀ j, j < i → 32 ≤ byteAt s j ∧ byteAt s j ≤ 126) (fun a3 => s.size - (intOf a3).toNat)
  case atStart => exact ⟨0, rfl, Nat.zero_le _, fun j h => by omega⟩
  case round =>
    obtain ⟨i, rfl, hi, hp⟩ := hrel
    have HP := hide hp
    clear hp
    by_cases hlt : i < s.size
    · have hB : ((s[i]'hlt).toNat : Int) ≤ 255 := by have := UInt8.toNat_lt (s[i]'hlt); omega
      have HB := hide (show (byteAt s i : Int) = ((s[i]'hlt).toNat : Int) by rw [byteAt_eq hlt])
      obtain ⟨h1, h2⟩ : 32 ≤ ((s[i]'hlt).toNat : Int) ∧ ((s[i]'hlt).toNat : Int) ≤ 126 := by have := unhide HQ i hlt; have := unhide HB; omega
      go_wp2
      go_round
      case rel =>
        refine ⟨i + 1, by go_num, by omega, fun j hj => ?_⟩
        by_cases hji : j < i
        · exact unhide HP j hji
        · obtain rfl : j = i := by omega
          have := unhide HB
          omega
      case measure => simp [intOf]; omega
    · go_wp2
      go_ret
      exact ⟨rfl, rfl⟩

set_option maxRecDepth 100000 in
theorem printable_no (s : ByteArray) (hs : s.size ≤ 400) (hq : ¬ printable s) (w : World) :
    Calls Tryz.prog 37 #[.string s] w fun e w' => e = .returned (.bool false) ∧ w' = w := by
  have HQ := hide hq
  clear hq
  go_enter Tryz.func37, Tryz.ntmps37
  go_wp2_with fail
  go_loop [3] (fun a3 => ∃ i : Nat, a3 = .int .i64 i ∧ i ≤ s.size ∧ ∀ j, j < i → 32 ≤ byteAt s j ∧ byteAt s j ≤ 126) (fun a3 => s.size - (intOf a3).toNat)
  case atStart => exact ⟨0, rfl, Nat.zero_le _, fun j h => by omega⟩
  case round =>
    obtain ⟨i, rfl, hi, hp⟩ := hrel
    have HP := hide hp
    clear hp
    by_cases hlt : i < s.size
    · have hB : ((s[i]'hlt).toNat : Int) ≤ 255 := by have := UInt8.toNat_lt (s[i]'hlt); omega
      have HB := hide (show (byteAt s i : Int) = ((s[i]'hlt).toNat : Int) by rw [byteAt_eq hlt])
      by_cases h1 : ((s[i]'hlt).toNat : Int) < 32
      · go_wp2
        go_ret
        exact ⟨rfl, rfl⟩
      · by_cases h2 : 126 < ((s[i]'hlt).toNat : Int)
        · go_wp2
          go_ret
          exact ⟨rfl, rfl⟩
        · go_wp2
          go_round
          case rel =>
            refine ⟨i + 1, by go_num, by omega, fun j hj => ?_⟩
            by_cases hji : j < i
            · exact unhide HP j hji
            · obtain rfl : j = i := by omega
              have := unhide HB
              omega
          case measure => simp [intOf]; omega
    · exact absurd (fun j hj => unhide HP j (by omega)) (unhide HQ)



/-- The parts, in a list of the call's own (from block B on). -/
def PartsPost (B : Nat) (s : ByteArray) (e : Ending) (w : World) : Prop :=
  ∃ v L b, e = .returned (.tuple #[v, .bool b]) ∧ IsParts s L b ∧ w.ownsRow B 9 1 v L.length (strsV L)

theorem bad_post {B : Nat} {s : ByteArray} {w : World} (v : Value) (hg : ¬ good s) (ho : w.ownsRow B 9 1 v 0 []) : PartsPost B s (.returned (.tuple #[v, .bool false])) w :=
  ⟨v, [], false, rfl, Or.inr ⟨hg, rfl, rfl⟩, ho⟩

theorem good_post {B : Nat} {s : ByteArray} {w : World} (v : Value) (hg : good s) (ho : w.ownsRow B 9 1 v (Lib.fields s.data.toList).length (strsV (Lib.fields s.data.toList))) : PartsPost B s (.returned (.tuple #[v, .bool true])) w :=
  ⟨v, _, true, rfl, Or.inl ⟨hg, rfl, rfl⟩, ho⟩

theorem made_empty (wr : World) (B : Nat) (h : B ≤ wr.heap.size) : (wr.alloc (.cells #[] 9)).ownsRow B 9 1 (.slice (some ⟨wr.heap.size, 0, none⟩) 0 0) 0 [] :=
  World.ownsRow_made wr #[] 0 h (Nat.zero_le _) rfl

set_option maxRecDepth 100000 in
theorem specParts_long (s : ByteArray) (h : (400 : Int) < (s.size : Int)) (w : World) :
    Calls Tryz.prog 10 #[.string s] w fun e w' => PartsPost w.heap.size s e w' ∧ Below w.heap.size w w' := by
  go_enter Tryz.func10, Tryz.ntmps10
  go_wp2
  go_ret2
  exact ⟨bad_post _ (fun hg => by have := hg.1; omega) (made_empty w _ (Nat.le_refl _)), (Below.refl _ _).alloc (Nat.le_refl _) _⟩

set_option maxRecDepth 100000 in
set_option maxHeartbeats 2000000 in
theorem specParts_short (s : ByteArray) (hs : s.size ≤ 400) (w : World) :
    Calls Tryz.prog 10 #[.string s] w fun e w' => PartsPost w.heap.size s e w' ∧ Below w.heap.size w w' := by
  obtain ⟨i0, hi0, hz0, hz1, hz2⟩ := info_parts info9
  go_enter Tryz.func10, Tryz.ntmps10
  go_wp2_with fail
  go_loopw [4, 5, 6] (fun out a5 a6 wr => ∃ (i bg : Nat) (done : List (List UInt8)), a6 = .int .i64 i ∧ a5 = .int .i64 bg ∧ done.length ≤ bg ∧ bg ≤ i ∧ i ≤ s.size + 1 ∧
      (∀ j, j < i → j < s.size → 32 ≤ byteAt s j ∧ byteAt s j ≤ 126) ∧ done ++ rest s bg i = Lib.fields s.data.toList ∧ wr.ownsRow w.heap.size 9 1 out done.length (strsV done) ∧ Below w.heap.size w wr)
    (fun _ _ a6 _ => s.size + 1 - (intOf a6).toNat)
  case atStart =>
    refine ⟨0, 0, [], rfl, rfl, Nat.zero_le _, Nat.le_refl _, by omega, fun j h => by omega, by rw [rest_start]; rfl, ?_, (Below.refl _ _).alloc (Nat.le_refl _) _⟩
    exact made_empty w _ (Nat.le_refl _)
  case round =>
    obtain ⟨i, bg, done, rfl, rfl, hdl, hbi, hi, hp, hr, hown, hb⟩ := hrel
    have HP := hide hp
    have HR := hide hr
    clear hp hr
    have hbs := hb.size
    by_cases hle : i ≤ s.size
    · by_cases hlt : i < s.size
      · have hB : ((s[i]'hlt).toNat : Int) ≤ 255 := by have := UInt8.toNat_lt (s[i]'hlt); omega
        have HB := hide (show (byteAt s i : Int) = ((s[i]'hlt).toNat : Int) by rw [byteAt_eq hlt])
        by_cases h1 : ((s[i]'hlt).toNat : Int) < 32
        · clear hown
          go_wp2
          go_ret2
          exact ⟨bad_post _ (fun hg => by have := hg.2.1 i hlt; have := unhide HB; omega) (made_empty wr _ hbs), hb.alloc hbs _⟩
        · by_cases h2 : 126 < ((s[i]'hlt).toNat : Int)
          · clear hown
            go_wp2
            go_ret2
            exact ⟨bad_post _ (fun hg => by have := hg.2.1 i hlt; have := unhide HB; omega) (made_empty wr _ hbs), hb.alloc hbs _⟩
          · have HN := hide (show ∀ j, j < i + 1 → j < s.size → 32 ≤ byteAt s j ∧ byteAt s j ≤ 126 from fun j hj hjs => by
              by_cases hji : j < i
              · exact unhide HP j hji hjs
              · obtain rfl : j = i := by omega
                have := unhide HB
                omega)
            clear HP
            by_cases h3 : ((s[i]'hlt).toNat : Int) = 32
            · have h3b : (((s[i]'hlt).toNat : Int) != 32) = false := by rw [bne_eq_false_iff_eq]; exact h3
              have HE := hide (show byteAt s i = 32 by have := unhide HB; omega)
              clear h3
              by_cases hbg : bg < i
              · have hbgI : (bg : Int) < (i : Int) := by omega
                have hsl : ∀ u, (Instr.slice 9 (.string s) (some (.int .i64 (bg : Int))) (some (.int .i64 (i : Int))) none).run Tryz.prog u = .ok (.string (s.extract bg i)) u := fun u => by
                  have h := run_slice_string (P := Tryz.prog) u 9 s .i64 .i64 (bg : Int) (i : Int) Tryz.underlying9 (by omega) (by omega) (by omega)
                  simpa using h
                go_wp2_with (at_builtin; refine wpList_append_own _ rfl _ _ 28 rfl w.heap.size 9 i0 (.string ⟨#[]⟩) 1 16 Tryz.underlying28 hi0 hz0 hz1 hz2 rfl (by decide) _ _ _ rfl (hown.alloc _) ⟨wr.heap.size, 0, none⟩ 1 1 [.string (s.extract bg i)] rfl rfl (cell_one_new _ _ _) (one_text _) ?_ ?_ ?_ ?_)
                · unfold maxLen; omega
                · omega
                · first | omega | (simp; omega)
                intro v' w1 hown' hgrow _
                have hb1 := below_append hb (Nat.le_refl _) hown hgrow
                have hown1 := own_str_snoc (cut_value s bg i) hown'
                have HO1 := hide hown1
                clear hown' hgrow hown hb hown1
                go_wp2
                go_roundw
                case rel =>
                  refine ⟨i + 1, i + 1, done ++ [cut s bg i], by go_num, by go_num, by simp; omega, Nat.le_refl _, by omega, unhide HN, ?_, unhide HO1, hb1⟩
                  rw [← unhide HR, rest_end s bg i hbg hlt (unhide HE)]
                  simp
                case measure => simp [intOf]; omega
              · obtain rfl : bg = i := by omega
                have HO := hide hown
                clear hown
                go_wp2
                go_roundw
                case rel =>
                  refine ⟨bg + 1, bg + 1, done, by go_num, by go_num, by omega, Nat.le_refl _, by omega, unhide HN, ?_, unhide HO, hb⟩
                  rw [← unhide HR, rest_blank s bg hlt (unhide HE)]
                case measure => simp [intOf]; omega
            · have h3b : (((s[i]'hlt).toNat : Int) != 32) = true := by rw [bne_iff_ne]; exact h3
              have HE := hide (show 32 < byteAt s i ∧ byteAt s i ≤ 126 by have := unhide HB; omega)
              have HO := hide hown
              clear hown h3
              go_wp2
              go_roundw
              case rel => exact ⟨i + 1, bg, done, by go_num, rfl, hdl, by omega, by omega, unhide HN, by rw [← unhide HR, rest_word s bg i hbi hlt (unhide HE)], unhide HO, hb⟩
              case measure => simp [intOf]; omega
      · obtain rfl : i = s.size := by omega
        have HN := hide (show ∀ j, j < s.size + 1 → j < s.size → 32 ≤ byteAt s j ∧ byteAt s j ≤ 126 from fun j _ hjs => unhide HP j hjs hjs)
        by_cases hbg : bg < s.size
        · have hbgI : (bg : Int) < (s.size : Int) := by omega
          have hsl : ∀ u, (Instr.slice 9 (.string s) (some (.int .i64 (bg : Int))) (some (.int .i64 (s.size : Int))) none).run Tryz.prog u = .ok (.string (s.extract bg s.size)) u := fun u => by
            have h := run_slice_string (P := Tryz.prog) u 9 s .i64 .i64 (bg : Int) (s.size : Int) Tryz.underlying9 (by omega) (by omega) (by omega)
            simpa using h
          go_wp2_with (at_builtin; refine wpList_append_own _ rfl _ _ 28 rfl w.heap.size 9 i0 (.string ⟨#[]⟩) 1 16 Tryz.underlying28 hi0 hz0 hz1 hz2 rfl (by decide) _ _ _ rfl (hown.alloc _) ⟨wr.heap.size, 0, none⟩ 1 1 [.string (s.extract bg s.size)] rfl rfl (cell_one_new _ _ _) (one_text _) ?_ ?_ ?_ ?_)
          · unfold maxLen; omega
          · omega
          · first | omega | (simp; omega)
          intro v' w1 hown' hgrow _
          have hb1 := below_append hb (Nat.le_refl _) hown hgrow
          have hown1 := own_str_snoc (cut_value s bg s.size) hown'
          have HO1 := hide hown1
          clear hown' hgrow hown hb hown1
          go_wp2
          go_roundw
          case rel =>
            refine ⟨s.size + 1, s.size + 1, done ++ [cut s bg s.size], by go_num, by go_num, by simp; omega, Nat.le_refl _, by omega, unhide HN, ?_, unhide HO1, hb1⟩
            rw [← unhide HR, rest_last s bg hbg]
            simp
          case measure => simp [intOf]
        · obtain rfl : bg = s.size := by omega
          have HO := hide hown
          clear hown
          go_wp2
          go_roundw
          case rel =>
            refine ⟨s.size + 1, s.size + 1, done, by go_num, by go_num, by omega, Nat.le_refl _, by omega, unhide HN, ?_, unhide HO, hb⟩
            rw [← unhide HR, rest_none s]
          case measure => simp [intOf]
    · have hpr : printable s := fun j hj => unhide HP j (by omega) hj
      have hdone : done = Lib.fields s.data.toList := by
        have := unhide HR
        rwa [rest_past s bg i (by omega), List.append_nil] at this
      subst hdone
      have HPR := hide hpr
      obtain ⟨a, c, hv, _⟩ := own_slice hown
      have HO := hide hown
      clear hpr hown
      rw [hv] at HO ⊢
      by_cases h8 : (8 : Int) < ((Lib.fields s.data.toList).length : Int)
      · go_wp2
        go_ret2
        exact ⟨bad_post _ (fun hg => by have := hg.2.2; omega) (made_empty wr _ hbs), hb.alloc hbs _⟩
      · go_wp2
        go_ret2
        exact ⟨good_post _ ⟨hs, unhide HPR, by omega⟩ (unhide HO), hb⟩

theorem nil_own (w : World) (B : Nat) : w.ownsRow B 9 1 (.slice none 0 0) 0 [] := World.ownsRow_nil w B 9 1

theorem ascii_of {s : ByteArray} (h : printable s) : ∀ (j : Nat) b, s.data.toList[j]? = some b → b.toNat < 128 := by
  intro j b hj
  have hlt : j < s.data.toList.length := (List.getElem?_eq_some_iff.1 hj).1
  have hlt2 : j < s.size := by simpa using hlt
  have := h j hlt2
  rw [byteAt_eq hlt2] at this
  have e : s[j] = b := by
    have h2 := (List.getElem?_eq_some_iff.1 hj).2
    exact h2
  rw [e] at this
  omega

set_option maxRecDepth 100000 in
theorem implParts_long (s : ByteArray) (h : (400 : Int) < (s.size : Int)) (w : World) :
    Calls Tryz.prog 26 #[.string s] w fun e w' => PartsPost w.heap.size s e w' ∧ Below w.heap.size w w' := by
  go_enter Tryz.func26, Tryz.ntmps26
  go_wp2
  go_ret2
  exact ⟨bad_post _ (fun hg => by have := hg.1; omega) (nil_own _ _), Below.refl _ _⟩

set_option maxRecDepth 100000 in
theorem implParts_other (s : ByteArray) (hs : s.size ≤ 400) (hq : ¬ printable s) (w : World) :
    Calls Tryz.prog 26 #[.string s] w fun e w' => PartsPost w.heap.size s e w' ∧ Below w.heap.size w w' := by
  have H := hide (printable_no s hs hq)
  have HQ := hide hq
  clear hq
  go_enter Tryz.func26, Tryz.ntmps26
  go_wp2_with fail
  refine (unhide H _).mono ?_
  rintro e w' ⟨rfl, rfl⟩
  go_wp2
  go_ret2
  exact ⟨bad_post _ (fun hg => unhide HQ hg.2.1) (nil_own _ _), Below.refl _ _⟩

theorem fields_row (w : World) (L : List (List UInt8)) (h : L.length ≤ maxLen) :
    (w.alloc (.cells (L.map fun l => Value.string ⟨l.toArray⟩).toArray 9)).ownsRow w.heap.size 9 1 (.slice (some ⟨w.heap.size, 0, none⟩) L.length L.length) L.length (strsV L) :=
  ⟨by simp [strsV], .inr ⟨w.heap.size, L.length, _, rfl, Nat.le_refl _, heap_alloc_new w _, Nat.le_refl _, h, by simp, by rw [List.toList_toArray, List.take_of_length_le (by simp)]; rfl⟩⟩

theorem field_small (s : ByteArray) (hs : s.size ≤ 400) (i : Nat) (h : i < (Lib.fields s.data.toList).length) : (ByteArray.mk ((Lib.fields s.data.toList)[i]'h).toArray).size ≤ 140737488355328 := by
  have key : ∀ (l cur : List UInt8) (x : List UInt8), x ∈ Lib.fieldsGo cur l → x.length ≤ cur.length + l.length := by
    intro l
    induction l with
    | nil =>
      intro cur x hx
      simp only [Lib.fieldsGo] at hx
      split at hx
      · simp at hx
      · simp at hx; subst hx; simp
    | cons b l ih =>
      intro cur x hx
      simp only [Lib.fieldsGo] at hx
      split at hx
      · split at hx
        · have := ih _ _ hx
          simp at this ⊢
          omega
        · rcases List.mem_cons.1 hx with rfl | hx
          · simp
          · have := ih _ _ hx
            simp at this ⊢
            omega
      · have := ih _ _ hx
        simp at this ⊢
        omega
  have hm := key s.data.toList [] _ (List.getElem_mem h)
  have e2 : (ByteArray.mk ((Lib.fields s.data.toList)[i]'h).toArray).size = ((Lib.fields s.data.toList)[i]'h).length := by simp [ByteArray.size]
  rw [e2]
  simp at hm
  have e3 : s.data.size = s.size := rfl
  have hm2 : ((Lib.fields s.data.toList)[i]'h).length ≤ s.data.size := hm
  omega

theorem set_same (L : List (List UInt8)) (i : Nat) (h : i < L.length) : (strsV L).set i (.string ⟨(L[i]'h).toArray⟩) = strsV L := by
  apply List.ext_getElem?
  intro j
  rw [List.getElem?_set]
  split
  · rename_i e
    subst e
    rw [strsV_length, if_pos h, strsV_at L i h]
  · rfl

set_option maxRecDepth 100000 in
set_option maxHeartbeats 2000000 in
theorem implParts_short (s : ByteArray) (hs : s.size ≤ 400) (hq : printable s) (w : World) (htab : Lib.TabIs Tryz.prog w "strings.asciiSpace" .u8 Lib.asciiSpaceTab) :
    Calls Tryz.prog 26 #[.string s] w fun e w' => PartsPost w.heap.size s e w' ∧ Below w.heap.size w w' := by
  have H := hide (printable_yes s hs hq)
  have hf := Tryz.strings_Fields s w (by omega) (ascii_of hq) htab
  have HQ := hide hq
  have hsm := hide (field_small s hs)
  have hgood : (Lib.fields s.data.toList).length ≤ 8 → good s := fun h => ⟨hs, hq, h⟩
  have hbad : 8 < (Lib.fields s.data.toList).length → ¬ good s := fun h hg => by have := hg.2.2; omega
  have HG : Hid (∀ v (w' : World) B, (Lib.fields s.data.toList).length ≤ 8 → w'.ownsRow B 9 1 v (Lib.fields s.data.toList).length (strsV (Lib.fields s.data.toList)) → PartsPost B s (.returned (.tuple #[v, .bool true])) w') := fun v w' B h ho => good_post v (hgood h) ho
  have HBd := hide hbad
  clear hq hgood hbad htab
  generalize Lib.fields s.data.toList = F at hf hsm HG HBd
  have HF := hide hf
  clear hf
  by_cases h8 : (8 : Int) < (F.length : Int)
  · go_enter Tryz.func26, Tryz.ntmps26
    go_wp2_with fail
    refine (unhide H _).mono ?_
    rintro e w' ⟨rfl, rfl⟩
    go_wp2_with fail
    refine (unhide HF).mono ?_
    rintro e w' ⟨rfl, rfl⟩
    go_wp2
    go_ret2
    exact ⟨bad_post _ (unhide HBd (by omega)) (nil_own _ _), (Below.refl _ _).alloc (Nat.le_refl _) _⟩
  · have hown0 := fields_row w F (by unfold maxLen; omega)
    have HO0 := hide hown0
    clear hown0
    go_enter Tryz.func26, Tryz.ntmps26
    go_wp2_with fail
    refine (unhide H _).mono ?_
    rintro e w' ⟨rfl, rfl⟩
    go_wp2_with fail
    refine (unhide HF).mono ?_
    rintro e w2 ⟨rfl, rfl⟩
    go_wp2_with fail
    go_loopw [22] (fun a22 wr => ∃ i : Nat, a22 = .int .i64 i ∧ i ≤ F.length ∧ wr.ownsRow w'.heap.size 9 1 (.slice (some ⟨w'.heap.size, 0, none⟩) F.length F.length) F.length (strsV F) ∧ Below w'.heap.size w' wr) (fun a22 _ => F.length - (intOf a22).toNat)
    case atStart => exact ⟨0, rfl, Nat.zero_le _, unhide HO0, (Below.refl _ _).alloc (Nat.le_refl _) _⟩
    case round =>
      obtain ⟨i, rfl, hi, hown, hb⟩ := hrel
      have hbs := hb.size
      by_cases hlt : i < F.length
      · have hx0 : (0 : Int) ≤ (i : Int) := by omega
        have hx1 : (i : Int) < (F.length : Int) := by omega
        have hce : wr.cell? ⟨w'.heap.size, i, none⟩ = some (.string ⟨(F[i]'hlt).toArray⟩) := (hown.cellAt i (by omega)).trans (strsV_at F i hlt)
        have HC := hide (clone_any ⟨(F[i]'hlt).toArray⟩ (unhide hsm i hlt))
        have HO := hide (fun (w2 : World) (h2 : Below wr.heap.size wr w2) => own_below hown h2)
        clear hown
        go_wp2_with fail
        refine (unhide HC _).mono ?_
        rintro e w2 ⟨rfl, hb2⟩
        have hown2 := unhide HO w2 hb2
        have hfz := hown2.frozenAt i
        have hce2 : w2.cell? ⟨w'.heap.size, i, none⟩ = some (.string ⟨(F[i]'hlt).toArray⟩) := (hown2.cellAt i (by omega)).trans (strsV_at F i hlt)
        have hst := (hown2.stored i (.string ⟨(F[i]'hlt).toArray⟩)).1
        rw [set_same F i hlt] at hst
        have hb3 : Below w'.heap.size w' (w2.setCell ⟨w'.heap.size, i, none⟩ (.string ⟨(F[i]'hlt).toArray⟩)) := (hb.trans (hb2.mono hbs)).setCell (p := ⟨w'.heap.size, i, none⟩) (Nat.le_refl _) _
        have HST := hide hst
        clear hst hown2
        go_wp2
        go_roundw
        case rel => exact ⟨i + 1, by go_num, by omega, unhide HST, hb3⟩
        case measure => simp [intOf]; omega
      · have HO := hide hown
        clear hown
        go_wp2
        go_ret2
        exact ⟨unhide HG _ _ _ (by omega) (unhide HO), hb⟩

theorem implParts_any (s : ByteArray) (w : World) (htab : Lib.TabIs Tryz.prog w "strings.asciiSpace" .u8 Lib.asciiSpaceTab) :
    Calls Tryz.prog 26 #[.string s] w fun e w' => PartsPost w.heap.size s e w' ∧ Below w.heap.size w w' := by
  by_cases h : (400 : Int) < (s.size : Int)
  · exact implParts_long s h w
  · by_cases hq : printable s
    · exact implParts_short s (by omega) hq w htab
    · exact implParts_other s (by omega) hq w

theorem specParts_any (s : ByteArray) (w : World) :
    Calls Tryz.prog 10 #[.string s] w fun e w' => PartsPost w.heap.size s e w' ∧ Below w.heap.size w w' := by
  by_cases h : (400 : Int) < (s.size : Int)
  · exact specParts_long s h w
  · exact specParts_short s (by omega) w

/-! ### As a function -/

def goodB (s : ByteArray) : Bool := decide (s.size ≤ 400) && (s.data.toList.all fun b => decide (32 ≤ b.toNat) && decide (b.toNat ≤ 126)) && decide ((Lib.fields s.data.toList).length ≤ 8)

theorem good_iff (s : ByteArray) : good s ↔ goodB s = true := by
  unfold good goodB printable
  simp only [Bool.and_eq_true, decide_eq_true_eq, List.all_eq_true]
  constructor
  · rintro ⟨h1, h2, h3⟩
    refine ⟨⟨h1, fun b hb => ?_⟩, h3⟩
    obtain ⟨j, hj, rfl⟩ := List.getElem_of_mem hb
    have hj2 : j < s.size := by simpa using hj
    have := h2 j hj2
    rw [byteAt_eq hj2] at this
    exact this
  · rintro ⟨⟨h1, h2⟩, h3⟩
    refine ⟨h1, fun j hj => ?_, h3⟩
    rw [byteAt_eq hj]
    exact h2 s[j] (by
      have hj2 : j < s.data.toList.length := by simpa using hj
      have := List.getElem_mem hj2
      exact this)

def bs (l : List UInt8) : ByteArray := ⟨l.toArray⟩

/-- The parts of a line; none: it is refused. -/
def partsO (s : ByteArray) : Option (List ByteArray) := if goodB s = true then some ((Lib.fields s.data.toList).map bs) else none

theorem strsV_bs (L : List (List UInt8)) : strsV L = (L.map bs).map Value.string := by simp [strsV, bs]

/-- What PartsOf leaves. -/
def PtPost (B : Nat) (s : ByteArray) (e : Ending) (w : World) : Prop :=
  ∃ v, e = .returned (.tuple #[v, .bool (partsO s).isSome]) ∧ w.ownsRow B 9 1 v ((partsO s).getD []).length (((partsO s).getD []).map Value.string)

theorem PartsPost.fn {B : Nat} {s : ByteArray} {e : Ending} {w : World} (h : PartsPost B s e w) : PtPost B s e w := by
  obtain ⟨v, L, b, rfl, hp, ho⟩ := h
  rcases hp with ⟨h1, rfl, rfl⟩ | ⟨h1, rfl, rfl⟩
  · refine ⟨v, ?_, ?_⟩
    · simp [partsO, (good_iff s).1 h1]
    · rw [partsO, if_pos ((good_iff s).1 h1)]
      rw [strsV_bs] at ho
      simpa using ho
  · have h2 : ¬ goodB s = true := fun h => h1 ((good_iff s).2 h)
    refine ⟨v, ?_, ?_⟩
    · simp [partsO, h2]
    · rw [partsO, if_neg h2]
      simpa [strsV] using ho

theorem specParts (s : ByteArray) (w : World) : Calls Tryz.prog 10 #[.string s] w fun e w' => PtPost w.heap.size s e w' ∧ Below w.heap.size w w' := by
  refine (specParts_any s w).mono ?_
  rintro e w' ⟨h, hb⟩
  exact ⟨h.fn, hb⟩

theorem implParts (s : ByteArray) (w : World) (htab : Lib.TabIs Tryz.prog w "strings.asciiSpace" .u8 Lib.asciiSpaceTab) : Calls Tryz.prog 26 #[.string s] w fun e w' => PtPost w.heap.size s e w' ∧ Below w.heap.size w w' := by
  refine (implParts_any s w htab).mono ?_
  rintro e w' ⟨h, hb⟩
  exact ⟨h.fn, hb⟩

theorem fieldsGo_each : ∀ (l cur x : List UInt8), x ∈ Lib.fieldsGo cur l → x ≠ [] ∧ x.length ≤ cur.length + l.length
  | [], cur, x, hx => by
    simp only [Lib.fieldsGo] at hx
    split at hx
    · simp at hx
    · rename_i h
      simp at hx
      subst hx
      exact ⟨fun e => by simp [e] at h, by simp⟩
  | b :: l, cur, x, hx => by
    simp only [Lib.fieldsGo] at hx
    split at hx
    · split at hx
      · have := fieldsGo_each l _ _ hx
        exact ⟨this.1, by have := this.2; simp at this ⊢; omega⟩
      · rename_i h
        rcases List.mem_cons.1 hx with rfl | hx
        · exact ⟨fun e => by simp [e] at h, by simp⟩
        · have := fieldsGo_each l _ _ hx
          exact ⟨this.1, by have := this.2; simp at this ⊢; omega⟩
    · have := fieldsGo_each l _ _ hx
      exact ⟨this.1, by have := this.2; simp at this ⊢; omega⟩

/-- The parts are few, each has bytes, and not many. -/
theorem parts_each {s : ByteArray} {L : List ByteArray} (h : partsO s = some L) : L.length ≤ 8 ∧ ∀ x ∈ L, 0 < x.size ∧ x.size ≤ 400 := by
  unfold partsO at h
  split at h
  · rename_i hg
    have hg2 := (good_iff s).2 hg
    simp at h
    subst h
    refine ⟨by simpa using hg2.2.2, fun x hx => ?_⟩
    obtain ⟨l, hl, rfl⟩ := List.mem_map.1 hx
    have := fieldsGo_each s.data.toList [] l hl
    have e : (bs l).size = l.length := by simp [bs, ByteArray.size]
    have e2 : s.data.toList.length = s.size := by simp
    rw [e]
    have h1 : 0 < l.length := by
      cases l with
      | nil => exact absurd rfl this.1
      | cons a b => simp
    have h2 := this.2
    rw [e2] at h2
    have h3 := hg2.1
    simp at h2
    omega
  · simp at h

end Pt
end Go.Proofs.YtjhnippfepbjmaaGreatDoor
