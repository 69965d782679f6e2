/-
  The walks of spec.PartsOf and impl.PartsOf: each answers the parts (IsParts), in memory of its own, for every text of at most 2^20 bytes.
-/
import Derived.Test.YtbcefikjacjplagDoorParts
namespace Go.Proofs.YtbcefikjacjplagDoor
open Go.RowKit

/-- The parts, in a list of the call's own (from block B on). -/
def PartsPost (B : Nat) (s : ByteArray) (e : Ending) (w : World) : Prop :=
  ∃ v L b, e = .returned (.tuple #[v, .bool b]) ∧ IsParts s L b ∧ w.ownsRow B 9 1 v L.length (strsV L)

theorem bad_post {B : Nat} {s : ByteArray} {w : World} (v : Value) (hg : ¬ good s) (ho : w.ownsRow B 9 1 v 0 []) : PartsPost B s (.returned (.tuple #[v, .bool false])) w :=
  ⟨v, [], false, rfl, Or.inr ⟨hg, rfl, rfl⟩, ho⟩

theorem good_post {B : Nat} {s : ByteArray} {w : World} (v : Value) (hg : good s) (ho : w.ownsRow B 9 1 v (Lib.fields s.data.toList).length (strsV (Lib.fields s.data.toList))) : PartsPost B s (.returned (.tuple #[v, .bool true])) w :=
  ⟨v, _, true, rfl, Or.inl ⟨hg, rfl, rfl⟩, ho⟩

theorem made_empty (wr : World) (B : Nat) (h : B ≤ wr.heap.size) : (wr.alloc (.cells #[] 9)).ownsRow B 9 1 (.slice (some ⟨wr.heap.size, 0, none⟩) 0 0) 0 [] :=
  World.ownsRow_made wr #[] 0 h (Nat.zero_le _) rfl

set_option maxRecDepth 100000 in
theorem specParts_long (s : ByteArray) (h : (400 : Int) < (s.size : Int)) (w : World) :
    Calls Tryd.prog 10 #[.string s] w fun e w' => PartsPost w.heap.size s e w' ∧ Below w.heap.size w w' := by
  go_enter Tryd.func10, Tryd.ntmps10
  go_wp2
  go_ret2
  exact ⟨bad_post _ (fun hg => by have := hg.1; omega) (made_empty w _ (Nat.le_refl _)), (Below.refl _ _).alloc (Nat.le_refl _) _⟩

set_option maxRecDepth 100000 in
set_option maxHeartbeats 2000000 in
theorem specParts_short (s : ByteArray) (hs : s.size ≤ 400) (w : World) :
    Calls Tryd.prog 10 #[.string s] w fun e w' => PartsPost w.heap.size s e w' ∧ Below w.heap.size w w' := by
  obtain ⟨i0, hi0, hz0, hz1, hz2⟩ := info_parts info9
  go_enter Tryd.func10, Tryd.ntmps10
  go_wp2_with fail
  go_loopw [4, 5, 6] (fun out a5 a6 wr => ∃ (i bg : Nat) (done : List (List UInt8)), a6 = .int .i64 i ∧ a5 = .int .i64 bg ∧ done.length ≤ bg ∧ bg ≤ i ∧ i ≤ s.size + 1 ∧
      (∀ j, j < i → j < s.size → 32 ≤ byteAt s j ∧ byteAt s j ≤ 126) ∧ done ++ rest s bg i = Lib.fields s.data.toList ∧ wr.ownsRow w.heap.size 9 1 out done.length (strsV done) ∧ Below w.heap.size w wr)
    (fun _ _ a6 _ => s.size + 1 - (intOf a6).toNat)
  case atStart =>
    refine ⟨0, 0, [], rfl, rfl, Nat.zero_le _, Nat.le_refl _, by omega, fun j h => by omega, by rw [rest_start]; rfl, ?_, (Below.refl _ _).alloc (Nat.le_refl _) _⟩
    exact made_empty w _ (Nat.le_refl _)
  case round =>
    obtain ⟨i, bg, done, rfl, rfl, hdl, hbi, hi, hp, hr, hown, hb⟩ := hrel
    have HP := hide hp
    have HR := hide hr
    clear hp hr
    have hbs := hb.size
    by_cases hle : i ≤ s.size
    · by_cases hlt : i < s.size
      · have hB : ((s[i]'hlt).toNat : Int) ≤ 255 := by have := UInt8.toNat_lt (s[i]'hlt); omega
        have HB := hide (show (byteAt s i : Int) = ((s[i]'hlt).toNat : Int) by rw [byteAt_eq hlt])
        by_cases h1 : ((s[i]'hlt).toNat : Int) < 32
        · clear hown
          go_wp2
          go_ret2
          exact ⟨bad_post _ (fun hg => by have := hg.2.1 i hlt; have := unhide HB; omega) (made_empty wr _ hbs), hb.alloc hbs _⟩
        · by_cases h2 : 126 < ((s[i]'hlt).toNat : Int)
          · clear hown
            go_wp2
            go_ret2
            exact ⟨bad_post _ (fun hg => by have := hg.2.1 i hlt; have := unhide HB; omega) (made_empty wr _ hbs), hb.alloc hbs _⟩
          · have HN := hide (show ∀ j, j < i + 1 → j < s.size → 32 ≤ byteAt s j ∧ byteAt s j ≤ 126 from fun j hj hjs => by
              by_cases hji : j < i
              · exact unhide HP j hji hjs
              · obtain rfl : j = i := by omega
                have := unhide HB
                omega)
            clear HP
            by_cases h3 : ((s[i]'hlt).toNat : Int) = 32
            · have h3b : (((s[i]'hlt).toNat : Int) != 32) = false := by rw [bne_eq_false_iff_eq]; exact h3
              have HE := hide (show byteAt s i = 32 by have := unhide HB; omega)
              clear h3
              by_cases hbg : bg < i
              · have hbgI : (bg : Int) < (i : Int) := by omega
                have hsl : ∀ u, (Instr.slice 9 (.string s) (some (.int .i64 (bg : Int))) (some (.int .i64 (i : Int))) none).run Tryd.prog u = .ok (.string (s.extract bg i)) u := fun u => by
                  have h := run_slice_string (P := Tryd.prog) u 9 s .i64 .i64 (bg : Int) (i : Int) Tryd.underlying9 (by omega) (by omega) (by omega)
                  simpa using h
                go_wp2_with (at_builtin; refine wpList_append_own _ rfl _ _ 27 rfl w.heap.size 9 i0 (.string ⟨#[]⟩) 1 16 Tryd.underlying27 hi0 hz0 hz1 hz2 rfl (by decide) _ _ _ rfl (hown.alloc _) ⟨wr.heap.size, 0, none⟩ 1 1 [.string (s.extract bg i)] rfl rfl (cell_one_new _ _ _) (one_text _) ?_ ?_ ?_ ?_)
                · unfold maxLen; omega
                · omega
                · first | omega | (simp; omega)
                intro v' w1 hown' hgrow _
                have hb1 := below_append hb (Nat.le_refl _) hown hgrow
                have hown1 := own_str_snoc (cut_value s bg i) hown'
                have HO1 := hide hown1
                clear hown' hgrow hown hb hown1
                go_wp2
                go_roundw
                case rel =>
                  refine ⟨i + 1, i + 1, done ++ [cut s bg i], by go_num, by go_num, by simp; omega, Nat.le_refl _, by omega, unhide HN, ?_, unhide HO1, hb1⟩
                  rw [← unhide HR, rest_end s bg i hbg hlt (unhide HE)]
                  simp
                case measure => simp [intOf]; omega
              · obtain rfl : bg = i := by omega
                have HO := hide hown
                clear hown
                go_wp2
                go_roundw
                case rel =>
                  refine ⟨bg + 1, bg + 1, done, by go_num, by go_num, by omega, Nat.le_refl _, by omega, unhide HN, ?_, unhide HO, hb⟩
                  rw [← unhide HR, rest_blank s bg hlt (unhide HE)]
                case measure => simp [intOf]; omega
            · have h3b : (((s[i]'hlt).toNat : Int) != 32) = true := by rw [bne_iff_ne]; exact h3
              have HE := hide (show 32 < byteAt s i ∧ byteAt s i ≤ 126 by have := unhide HB; omega)
              have HO := hide hown
              clear hown h3
              go_wp2
              go_roundw
              case rel => exact ⟨i + 1, bg, done, by go_num, rfl, hdl, by omega, by omega, unhide HN, by rw [← unhide HR, rest_word s bg i hbi hlt (unhide HE)], unhide HO, hb⟩
              case measure => simp [intOf]; omega
      · obtain rfl : i = s.size := by omega
        have HN := hide (show ∀ j, j < s.size + 1 → j < s.size → 32 ≤ byteAt s j ∧ byteAt s j ≤ 126 from fun j _ hjs => unhide HP j hjs hjs)
        by_cases hbg : bg < s.size
        · have hbgI : (bg : Int) < (s.size : Int) := by omega
          have hsl : ∀ u, (Instr.slice 9 (.string s) (some (.int .i64 (bg : Int))) (some (.int .i64 (s.size : Int))) none).run Tryd.prog u = .ok (.string (s.extract bg s.size)) u := fun u => by
            have h := run_slice_string (P := Tryd.prog) u 9 s .i64 .i64 (bg : Int) (s.size : Int) Tryd.underlying9 (by omega) (by omega) (by omega)
            simpa using h
          go_wp2_with (at_builtin; refine wpList_append_own _ rfl _ _ 27 rfl w.heap.size 9 i0 (.string ⟨#[]⟩) 1 16 Tryd.underlying27 hi0 hz0 hz1 hz2 rfl (by decide) _ _ _ rfl (hown.alloc _) ⟨wr.heap.size, 0, none⟩ 1 1 [.string (s.extract bg s.size)] rfl rfl (cell_one_new _ _ _) (one_text _) ?_ ?_ ?_ ?_)
          · unfold maxLen; omega
          · omega
          · first | omega | (simp; omega)
          intro v' w1 hown' hgrow _
          have hb1 := below_append hb (Nat.le_refl _) hown hgrow
          have hown1 := own_str_snoc (cut_value s bg s.size) hown'
          have HO1 := hide hown1
          clear hown' hgrow hown hb hown1
          go_wp2
          go_roundw
          case rel =>
            refine ⟨s.size + 1, s.size + 1, done ++ [cut s bg s.size], by go_num, by go_num, by simp; omega, Nat.le_refl _, by omega, unhide HN, ?_, unhide HO1, hb1⟩
            rw [← unhide HR, rest_last s bg hbg]
            simp
          case measure => simp [intOf]
        · obtain rfl : bg = s.size := by omega
          have HO := hide hown
          clear hown
          go_wp2
          go_roundw
          case rel =>
            refine ⟨s.size + 1, s.size + 1, done, by go_num, by go_num, by omega, Nat.le_refl _, by omega, unhide HN, ?_, unhide HO, hb⟩
            rw [← unhide HR, rest_none s]
          case measure => simp [intOf]
    · have hpr : printable s := fun j hj => unhide HP j (by omega) hj
      have hdone : done = Lib.fields s.data.toList := by
        have := unhide HR
        rwa [rest_past s bg i (by omega), List.append_nil] at this
      subst hdone
      have HPR := hide hpr
      obtain ⟨a, c, hv, _⟩ := own_slice hown
      have HO := hide hown
      clear hpr hown
      rw [hv] at HO ⊢
      by_cases h8 : (8 : Int) < ((Lib.fields s.data.toList).length : Int)
      · go_wp2
        go_ret2
        exact ⟨bad_post _ (fun hg => by have := hg.2.2; omega) (made_empty wr _ hbs), hb.alloc hbs _⟩
      · go_wp2
        go_ret2
        exact ⟨good_post _ ⟨hs, unhide HPR, by omega⟩ (unhide HO), hb⟩

theorem nil_own (w : World) (B : Nat) : w.ownsRow B 9 1 (.slice none 0 0) 0 [] := World.ownsRow_nil w B 9 1

theorem ascii_of {s : ByteArray} (h : printable s) : ∀ (j : Nat) b, s.data.toList[j]? = some b → b.toNat < 128 := by
  intro j b hj
  have hlt : j < s.data.toList.length := (List.getElem?_eq_some_iff.1 hj).1
  have hlt2 : j < s.size := by simpa using hlt
  have := h j hlt2
  rw [byteAt_eq hlt2] at this
  have e : s[j] = b := by
    have h2 := (List.getElem?_eq_some_iff.1 hj).2
    exact h2
  rw [e] at this
  omega

set_option maxRecDepth 100000 in
theorem implParts_long (s : ByteArray) (h : (400 : Int) < (s.size : Int)) (w : World) :
    Calls Tryd.prog 11 #[.string s] w fun e w' => PartsPost w.heap.size s e w' ∧ Below w.heap.size w w' := by
  go_enter Tryd.func11, Tryd.ntmps11
  go_wp2
  go_ret2
  exact ⟨bad_post _ (fun hg => by have := hg.1; omega) (nil_own _ _), Below.refl _ _⟩

set_option maxRecDepth 100000 in
theorem implParts_other (s : ByteArray) (hs : s.size ≤ 400) (hq : ¬ printable s) (w : World) :
    Calls Tryd.prog 11 #[.string s] w fun e w' => PartsPost w.heap.size s e w' ∧ Below w.heap.size w w' := by
  have H := hide (printable_no s hs hq)
  have HQ := hide hq
  clear hq
  go_enter Tryd.func11, Tryd.ntmps11
  go_wp2_with fail
  refine (unhide H _).mono ?_
  rintro e w' ⟨rfl, rfl⟩
  go_wp2
  go_ret2
  exact ⟨bad_post _ (fun hg => unhide HQ hg.2.1) (nil_own _ _), Below.refl _ _⟩

theorem fields_row (w : World) (L : List (List UInt8)) (h : L.length ≤ maxLen) :
    (w.alloc (.cells (L.map fun l => Value.string ⟨l.toArray⟩).toArray 9)).ownsRow w.heap.size 9 1 (.slice (some ⟨w.heap.size, 0, none⟩) L.length L.length) L.length (strsV L) :=
  ⟨by simp [strsV], .inr ⟨w.heap.size, L.length, _, rfl, Nat.le_refl _, heap_alloc_new w _, Nat.le_refl _, h, by simp, by rw [List.toList_toArray, List.take_of_length_le (by simp)]; rfl⟩⟩

theorem field_small (s : ByteArray) (hs : s.size ≤ 400) (i : Nat) (h : i < (Lib.fields s.data.toList).length) : (ByteArray.mk ((Lib.fields s.data.toList)[i]'h).toArray).size ≤ 140737488355328 := by
  have key : ∀ (l cur : List UInt8) (x : List UInt8), x ∈ Lib.fieldsGo cur l → x.length ≤ cur.length + l.length := by
    intro l
    induction l with
    | nil =>
      intro cur x hx
      simp only [Lib.fieldsGo] at hx
      split at hx
      · simp at hx
      · simp at hx; subst hx; simp
    | cons b l ih =>
      intro cur x hx
      simp only [Lib.fieldsGo] at hx
      split at hx
      · split at hx
        · have := ih _ _ hx
          simp at this ⊢
          omega
        · rcases List.mem_cons.1 hx with rfl | hx
          · simp
          · have := ih _ _ hx
            simp at this ⊢
            omega
      · have := ih _ _ hx
        simp at this ⊢
        omega
  have hm := key s.data.toList [] _ (List.getElem_mem h)
  have e2 : (ByteArray.mk ((Lib.fields s.data.toList)[i]'h).toArray).size = ((Lib.fields s.data.toList)[i]'h).length := by simp [ByteArray.size]
  rw [e2]
  simp at hm
  have e3 : s.data.size = s.size := rfl
  have hm2 : ((Lib.fields s.data.toList)[i]'h).length ≤ s.data.size := hm
  omega

theorem set_same (L : List (List UInt8)) (i : Nat) (h : i < L.length) : (strsV L).set i (.string ⟨(L[i]'h).toArray⟩) = strsV L := by
  apply List.ext_getElem?
  intro j
  rw [List.getElem?_set]
  split
  · rename_i e
    subst e
    rw [strsV_length, if_pos h, strsV_at L i h]
  · rfl

set_option maxRecDepth 100000 in
set_option maxHeartbeats 2000000 in
theorem implParts_short (s : ByteArray) (hs : s.size ≤ 400) (hq : printable s) (w : World) (htab : Lib.TabIs Tryd.prog w "strings.asciiSpace" .u8 Lib.asciiSpaceTab) :
    Calls Tryd.prog 11 #[.string s] w fun e w' => PartsPost w.heap.size s e w' ∧ Below w.heap.size w w' := by
  have H := hide (printable_yes s hs hq)
  have hf := Tryd.strings_Fields s w (by omega) (ascii_of hq) htab
  have HQ := hide hq
  have hsm := hide (field_small s hs)
  have hgood : (Lib.fields s.data.toList).length ≤ 8 → good s := fun h => ⟨hs, hq, h⟩
  have hbad : 8 < (Lib.fields s.data.toList).length → ¬ good s := fun h hg => by have := hg.2.2; omega
  have HG : Hid (∀ v (w' : World) B, (Lib.fields s.data.toList).length ≤ 8 → w'.ownsRow B 9 1 v (Lib.fields s.data.toList).length (strsV (Lib.fields s.data.toList)) → PartsPost B s (.returned (.tuple #[v, .bool true])) w') := fun v w' B h ho => good_post v (hgood h) ho
  have HBd := hide hbad
  clear hq hgood hbad htab
  generalize Lib.fields s.data.toList = F at hf hsm HG HBd
  have HF := hide hf
  clear hf
  by_cases h8 : (8 : Int) < (F.length : Int)
  · go_enter Tryd.func11, Tryd.ntmps11
    go_wp2_with fail
    refine (unhide H _).mono ?_
    rintro e w' ⟨rfl, rfl⟩
    go_wp2_with fail
    refine (unhide HF).mono ?_
    rintro e w' ⟨rfl, rfl⟩
    go_wp2
    go_ret2
    exact ⟨bad_post _ (unhide HBd (by omega)) (nil_own _ _), (Below.refl _ _).alloc (Nat.le_refl _) _⟩
  · have hown0 := fields_row w F (by unfold maxLen; omega)
    have HO0 := hide hown0
    clear hown0
    go_enter Tryd.func11, Tryd.ntmps11
    go_wp2_with fail
    refine (unhide H _).mono ?_
    rintro e w' ⟨rfl, rfl⟩
    go_wp2_with fail
    refine (unhide HF).mono ?_
    rintro e w2 ⟨rfl, rfl⟩
    go_wp2_with fail
    go_loopw [22] (fun a22 wr => ∃ i : Nat, a22 = .int .i64 i ∧ i ≤ F.length ∧ wr.ownsRow w'.heap.size 9 1 (.slice (some ⟨w'.heap.size, 0, none⟩) F.length F.length) F.length (strsV F) ∧ Below w'.heap.size w' wr) (fun a22 _ => F.length - (intOf a22).toNat)
    case atStart => exact ⟨0, rfl, Nat.zero_le _, unhide HO0, (Below.refl _ _).alloc (Nat.le_refl _) _⟩
    case round =>
      obtain ⟨i, rfl, hi, hown, hb⟩ := hrel
      have hbs := hb.size
      by_cases hlt : i < F.length
      · have hx0 : (0 : Int) ≤ (i : Int) := by omega
        have hx1 : (i : Int) < (F.length : Int) := by omega
        have hce : wr.cell? ⟨w'.heap.size, i, none⟩ = some (.string ⟨(F[i]'hlt).toArray⟩) := (hown.cellAt i (by omega)).trans (strsV_at F i hlt)
        have HC := hide (clone_any ⟨(F[i]'hlt).toArray⟩ (unhide hsm i hlt))
        have HO := hide (fun (w2 : World) (h2 : Below wr.heap.size wr w2) => own_below hown h2)
        clear hown
        go_wp2_with fail
        refine (unhide HC _).mono ?_
        rintro e w2 ⟨rfl, hb2⟩
        have hown2 := unhide HO w2 hb2
        have hfz := hown2.frozenAt i
        have hce2 : w2.cell? ⟨w'.heap.size, i, none⟩ = some (.string ⟨(F[i]'hlt).toArray⟩) := (hown2.cellAt i (by omega)).trans (strsV_at F i hlt)
        have hst := (hown2.stored i (.string ⟨(F[i]'hlt).toArray⟩)).1
        rw [set_same F i hlt] at hst
        have hb3 : Below w'.heap.size w' (w2.setCell ⟨w'.heap.size, i, none⟩ (.string ⟨(F[i]'hlt).toArray⟩)) := (hb.trans (hb2.mono hbs)).setCell (p := ⟨w'.heap.size, i, none⟩) (Nat.le_refl _) _
        have HST := hide hst
        clear hst hown2
        go_wp2
        go_roundw
        case rel => exact ⟨i + 1, by go_num, by omega, unhide HST, hb3⟩
        case measure => simp [intOf]; omega
      · have HO := hide hown
        clear hown
        go_wp2
        go_ret2
        exact ⟨unhide HG _ _ _ (by omega) (unhide HO), hb⟩

theorem implParts_any (s : ByteArray) (w : World) (htab : Lib.TabIs Tryd.prog w "strings.asciiSpace" .u8 Lib.asciiSpaceTab) :
    Calls Tryd.prog 11 #[.string s] w fun e w' => PartsPost w.heap.size s e w' ∧ Below w.heap.size w w' := by
  by_cases h : (400 : Int) < (s.size : Int)
  · exact implParts_long s h w
  · by_cases hq : printable s
    · exact implParts_short s (by omega) hq w htab
    · exact implParts_other s (by omega) hq w

theorem specParts_any (s : ByteArray) (w : World) :
    Calls Tryd.prog 10 #[.string s] w fun e w' => PartsPost w.heap.size s e w' ∧ Below w.heap.size w w' := by
  by_cases h : (400 : Int) < (s.size : Int)
  · exact specParts_long s h w
  · exact specParts_short s (by omega) w
end Go.Proofs.YtbcefikjacjplagDoor
