/-
 WDecI, Ri3, Ri4, Ri5, Ri6, Ri7.
-/
import Derived.Test.YtihnaddfpmjpaaaGreatDoorJ4
import Derived.Test.YtihnaddfpmjpaaaGreatDoorShelf
import Derived.Lib.AppendIntMem
import Derived.Lib.SmallJoins
import Derived.Lib.LaidTab
import Derived.WalkMore
import Derived.Test.YtihnaddfpmjpaaaGreatDoorJ28
import Derived.Test.YtihnaddfpmjpaaaGreatDoorJ34
import Derived.BigQuiet
import Derived.Test.YtihnaddfpmjpaaaGreatDoorJ18
import Derived.Deep.RegionLaw
import Derived.Deep.AppendLies
import Derived.Test.YtihnaddfpmjpaaaGreatDoorJ2
import Derived.Test.YtihnaddfpmjpaaaGreatDoorJ16
namespace Go.Proofs.YtihnaddfpmjpaaaGreatDoor
namespace Dc
open Go.RowKit
theorem implRD_no (s : ByteArray) (h : (10 : Int) < (s.size : Int)) (w : World) :
    Calls Tryz.prog 131 #[.string s] w fun e w' => e = .returned (rfOut none) ∧ w' = w := by
  go_enter Tryz.func131, Tryz.ntmps131
  go_wp2
  go_ret2
  exact ⟨rfl, rfl⟩
set_option maxRecDepth 100000 in
set_option maxHeartbeats 1000000 in
theorem figures10 (s : ByteArray) (hs : s.size ≤ 10) (w : World) :
    Calls Tryz.prog 120 #[.string s, .int .i64 10] w fun e w' => e = .returned (rfOut (rf10 s s.size 0 0)) ∧ w' = w := by
  go_enter Tryz.func120, Tryz.ntmps120
  go_wp2_with fail
  go_step3
  go_wp2_with fail
  go_step3
  go_wp2_with fail
  go_loop [6, 7, 8] (fun a6 a7 a8 => ∃ n i f : Nat, a6 = .int .i64 n ∧ a7 = .bool true ∧ a8 = .int .i64 i ∧ i + f = s.size ∧ n < 10 ^ i ∧ rf10 s f i n = rf10 s s.size 0 0)
    (fun _ _ a8 => s.size - (intOf a8).toNat)
  case atStart => exact ⟨0, 0, s.size, rfl, rfl, rfl, by omega, by simp, rfl⟩
  case round =>
    obtain ⟨n, i, f, rfl, rfl, rfl, hif, hn, hv⟩ := hrel
    have HV := hide hv
    clear hv
    by_cases hlt : i < s.size
    · obtain ⟨f, rfl⟩ : ∃ f', f = f' + 1 := ⟨f - 1, by omega⟩
      have hp := pow10_le (i := i) (by omega)
      have hB : ((s[i]'hlt).toNat : Int) ≤ 255 := by have := UInt8.toNat_lt (s[i]'hlt); omega
      have HB := hide (show (byteAt s i : Int) = ((s[i]'hlt).toNat : Int) by rw [byteAt_eq hlt])
      by_cases ha : 48 ≤ ((s[i]'hlt).toNat : Int) ∧ ((s[i]'hlt).toNat : Int) ≤ 57
      · have HE := hide (show decI (byteAt s i) = ((s[i]'hlt).toNat : Int) - 48 from by rw [unhide HB, decI, if_pos ha])
        obtain ⟨ha1, ha2⟩ := ha
        go_wp2
        go_round
        case rel =>
          refine ⟨n * 10 + (decI (byteAt s i)).toNat, i + 1, f, ?_, rfl, by go_num, by omega, ?_, ?_⟩
          · rw [unhide HE]; go_num
          · rw [unhide HE, Nat.pow_succ]; omega
          · rw [← unhide HV, rf10_yes (by rw [unhide HE]; omega)]
        case measure => simp [intOf]; omega
      · have HE := hide (show decI (byteAt s i) = -1 from by rw [unhide HB, decI, if_neg ha])
        go_wp2
        all_goals
          go_ret2
          rw [← unhide HV, rf10_no (by rw [unhide HE]; omega)]
          exact ⟨rfl, rfl⟩
    · obtain rfl : f = 0 := by omega
      go_wp2
      go_ret2
      rw [← unhide HV]
      exact ⟨rfl, rfl⟩
theorem implDec_any (n : Int) (h0 : -9223372036854775808 ≤ n) (h1 : n ≤ 9223372036854775807) (w : World) (htab : Lib.TabIs Tryz.prog w "internal/strconv.uint64pow10" .u64 Lib.pow10Tab) :
    Calls Tryz.prog 145 #[.int .i64 n] w fun e w' => e = .returned (.string ⟨(Lib.itoa n).toArray⟩) ∧ Below w.heap.size w w' := by
  have h := Tryz.strconv_Itoa n h0 h1 w htab
  have H := hide h
  clear h htab
  go_enter Tryz.func145, Tryz.ntmps145
  go_wp2_with fail
  refine (unhide H).mono ?_
  rintro e w1 ⟨rfl, k, os, rfl⟩
  go_wp2
  go_ret
  exact ⟨rfl, Lib.below_grow _ _ (Nat.le_refl _) _ _⟩
set_option maxRecDepth 100000 in
theorem implRD_yes (s : ByteArray) (hs : s.size ≤ 10) (w : World) (htab : Lib.TabIs Tryz.prog w "internal/strconv.uint64pow10" .u64 Lib.pow10Tab) :
    Calls Tryz.prog 131 #[.string s] w fun e w' => e = .returned (rdOut s (rf10 s s.size 0 0)) ∧ Below w.heap.size w w' := by
  have hf := figures10 s hs w
  have hbd : ∀ x, rf10 s s.size 0 0 = some x → x < 10 ^ (0 + s.size) := fun x h => rf10_bound (by simp) h
  generalize rf10 s s.size 0 0 = r at hf hbd
  have HT := hide htab
  clear htab
  cases r with
  | none =>
    simp only [rfOut] at hf
    have HF := hide hf
    clear hf hbd
    go_enter Tryz.func131, Tryz.ntmps131
    go_wp2_with fail
    refine (unhide HF).mono ?_
    rintro e w' ⟨rfl, rfl⟩
    go_wp2
    go_ret2
    exact ⟨rfl, Below.refl _ _⟩
  | some n =>
    have hn := hbd n rfl
    have hp := pow10_le (i := s.size) hs
    simp only [rfOut, Nat.zero_add] at hf hn
    have HF := hide hf
    have hn2 : n < 10000000000 := by omega
    clear hf hbd hn hp
    by_cases hg : (1000000000 : Int) < (n : Int)
    · rw [show rdOut s (some n) = .tuple #[.int .i64 0, .bool false] from if_neg (by omega)]
      go_enter Tryz.func131, Tryz.ntmps131
      go_wp2_with fail
      refine (unhide HF).mono ?_
      rintro e w' ⟨rfl, rfl⟩
      go_wp2
      go_ret2
      exact ⟨rfl, Below.refl _ _⟩
    · have H7 := hide (implDec_any (n : Int) (by omega) (by omega) w (unhide HT))
      clear HT
      cases hq : (s.toList == Lib.itoa (n : Int))
      · rw [show rdOut s (some n) = .tuple #[.int .i64 0, .bool false] from if_neg (fun hh => by rw [hh.2] at hq; simp at hq)]
        go_enter Tryz.func131, Tryz.ntmps131
        go_wp2_with fail
        refine (unhide HF).mono ?_
        rintro e w' ⟨rfl, rfl⟩
        go_wp2_with fail
        refine (unhide H7).mono ?_
        rintro e w1 ⟨rfl, hb1⟩
        go_wp2
        go_ret2
        exact ⟨rfl, hb1⟩
      · rw [show rdOut s (some n) = .tuple #[.int .i64 (n : Int), .bool true] from if_pos ⟨by omega, (eq_of_beq hq).symm⟩]
        go_enter Tryz.func131, Tryz.ntmps131
        go_wp2_with fail
        refine (unhide HF).mono ?_
        rintro e w' ⟨rfl, rfl⟩
        go_wp2_with fail
        refine (unhide H7).mono ?_
        rintro e w1 ⟨rfl, hb1⟩
        go_wp2
        go_ret2
        exact ⟨rfl, hb1⟩
end Dc
end Go.Proofs.YtihnaddfpmjpaaaGreatDoor
namespace Go.Proofs.YtihnaddfpmjpaaaGreatDoor
namespace Rg
open Go.RowKit
open Gr (Blk Kept)
theorem rf_two {t : ByteArray} (h : t.size = 2) : Dc.rf10 t t.size 0 0 = numP t := by
  have b0 := byteAt_lt t 0
  have b1 := byteAt_lt t 1
  unfold numP
  rw [h]
  show (if Dc.decI (byteAt t 0) < 0 then none else if Dc.decI (byteAt t 1) < 0 then none else some ((0 * 10 + (Dc.decI (byteAt t 0)).toNat) * 10 + (Dc.decI (byteAt t 1)).toNat)) = _
  by_cases h0 : 48 ≤ byteAt t 0 ∧ byteAt t 0 ≤ 57
  · have e0 : Dc.decI ((byteAt t 0 : Nat) : Int) = ((byteAt t 0 : Nat) : Int) - 48 := by unfold Dc.decI; rw [if_pos (by omega)]
    rw [e0, if_neg (by omega)]
    by_cases h1 : 48 ≤ byteAt t 1 ∧ byteAt t 1 ≤ 57
    · have e1 : Dc.decI ((byteAt t 1 : Nat) : Int) = ((byteAt t 1 : Nat) : Int) - 48 := by unfold Dc.decI; rw [if_pos (by omega)]
      rw [e1, if_neg (by omega), if_pos ⟨rfl, h0.1, h0.2, h1.1, h1.2⟩]
      congr 1
      omega
    · have e1 : Dc.decI ((byteAt t 1 : Nat) : Int) = -1 := by unfold Dc.decI; rw [if_neg (by omega)]
      rw [e1, if_pos (by omega), if_neg (by omega)]
  · have e0 : Dc.decI ((byteAt t 0 : Nat) : Int) = -1 := by unfold Dc.decI; rw [if_neg (by omega)]
    rw [e0, if_pos (by omega), if_neg (by omega)]
def numsI (ns : List Nat) : List Int := ns.map fun (n : Nat) => (n : Int)
def KN (w w' : World) (k : ByteArray) (e : Ending) : Prop := ∃ d, e = .returned (.tuple #[d, .bool (numsK k).isSome]) ∧ Gr.InOwn w' w.heap.size d (numsI ((numsK k).getD []))
set_option maxRecDepth 100000 in
set_option maxHeartbeats 2000000 in
theorem keyNums_any (k : ByteArray) (hk : k.size ≤ 1000) (w : World) :
    Calls Tryz.prog 101 #[.string k] w fun e w' => KN w w' k e ∧ Below w.heap.size w w' := by
  obtain ⟨i0, hi0, hz0, hz1, hz2⟩ := info_parts Gr.info3
  by_cases hev : k.size % 2 = 0
  · have hN : numsK k = none := by unfold numsK; rw [if_pos hev]
    have hrem : ((k.size : Int) % 2 == 0) = true := by rw [beq_iff_eq]; omega
    unfold KN
    rw [hN]
    go_enter Tryz.func101, Tryz.ntmps101
    go_wp2
    go_ret2
    exact ⟨⟨_, rfl, rfl, .inl ⟨rfl, rfl⟩⟩, Below.refl _ _⟩
  · have hrem : ((k.size : Int) % 2 == 0) = false := by rw [beq_eq_false_iff_ne]; omega
    have H0 : Hid (numsK k = (numsF k ((k.size - 1) / 2) 1).map (([] : List Nat) ++ ·)) := by
      show _ = _
      unfold numsK
      rw [if_neg hev, show k.size / 2 = (k.size - 1) / 2 by omega]
      simp
    have hodd : Hid (k.size % 2 = 1) := by show _ = _; omega
    unfold KN
    generalize numsK k = X at H0 ⊢
    have FI := hide (fun (t : ByteArray) (h : t.size = 2) w1 => Dc.figures10 t (by omega) w1)
    clear hev
    go_enter Tryz.func101, Tryz.ntmps101
    go_wp2_with fail
    go_loopw [4, 5] (fun v i wr => ∃ (j : Nat) (L : List Nat), i = .int .i64 (j : Int) ∧ 1 ≤ j ∧ j ≤ k.size ∧ Hid (j % 2 = 1) ∧ L.length ≤ j ∧ Hid (X = (numsF k ((k.size - j) / 2) j).map (L ++ ·)) ∧ Hid (wr.ownsRow w.heap.size 3 1 v (numsI L).length (Gr.intsV (numsI L))) ∧ Below w.heap.size w wr) (fun _ i _ => k.size - (intOf i).toNat)
    case atStart => exact ⟨1, [], rfl, by omega, by have := unhide hodd; omega, rfl, by simp, unhide H0, ⟨rfl, .inl ⟨rfl, rfl⟩⟩, Below.refl _ _⟩
    case round =>
      obtain ⟨j, L, rfl, hj1, hj, HJ, hLj, HX, HO, hb⟩ := hrel
      by_cases hlt : j < k.size
      · have hj2 : j + 2 ≤ k.size := by have := unhide HJ; have := unhide hodd; omega
        have hs2 : (k.extract j (j + 2)).size = 2 := by rw [ByteArray.size_extract]; omega
        have FJ := hide (fun w1 => unhide FI (k.extract j (j + 2)) hs2 w1)
        rw [rf_two hs2] at FJ
        have HX2 : Hid (X = (match numP (k.extract j (j + 2)) with | none => none | some n => (numsF k ((k.size - (j + 2)) / 2) (j + 2)).map (n :: ·)).map (L ++ ·)) := by
          show _ = _
          rw [unhide HX, show (k.size - j) / 2 = (k.size - (j + 2)) / 2 + 1 by omega, numsF]
          rfl
        have h1 : (1 : Int) ≤ (j : Int) := by omega
        have h2 : (j : Int) < (k.size : Int) := by omega
        have h3 : (j : Int) + 2 ≤ (k.size : Int) := by omega
        have h4 : (k.size : Int) ≤ 1000 := by omega
        clear HX hs2
        generalize hnp : numP (k.extract j (j + 2)) = o at FJ HX2
        cases o with
        | none =>
          simp only [Dc.rfOut] at FJ
          obtain rfl : X = none := unhide HX2
          go_wp2_with fail
          refine (unhide FJ _).mono ?_
          rintro e w1 ⟨rfl, rfl⟩
          go_wp2
          go_ret2
          exact ⟨⟨_, rfl, rfl, .inl ⟨rfl, rfl⟩⟩, hb⟩
        | some n =>
          simp only [Dc.rfOut] at FJ
          have HX3 : Hid (X = (numsF k ((k.size - (j + 2)) / 2) (j + 2)).map ((L ++ [n]) ++ ·)) := by
            show _ = _
            rw [unhide HX2]
            cases numsF k ((k.size - (j + 2)) / 2) (j + 2) with
            | none => rfl
            | some m => simp
          have hn99 := numP_le hnp
          have hown := unhide HO
          have hbs := hb.size
          have hLL : (numsI L).length ≤ 1048576 := by unfold numsI; rw [List.length_map]; omega
          have HE : Hid (∀ (v' : Value) (w1 : World), w1.ownsRow w.heap.size 3 1 v' ((numsI L).length + 1) (Gr.intsV (numsI L) ++ [.int .i64 (n : Int)]) → w1.ownsRow w.heap.size 3 1 v' (numsI (L ++ [n])).length (Gr.intsV (numsI (L ++ [n])))) := fun v' w1 h => by
            have := own_int h
            have e : numsI L ++ [(n : Int)] = numsI (L ++ [n]) := by unfold numsI; simp
            rwa [e] at this
          generalize numsI L = NL at hown hLL HE
          clear HX2 hnp HO
          go_wp2_with fail
          refine (unhide FJ _).mono ?_
          rintro e w1 ⟨rfl, rfl⟩
          go_wp2_with (at_builtin; refine wpList_append_own _ rfl _ _ 24 rfl w.heap.size 3 i0 (.int .i64 0) 1 8 Tryz.underlying24 hi0 hz0 hz1 hz2 rfl (by decide) _ _ _ rfl (hown.alloc _) ⟨w1.heap.size, 0, none⟩ 1 1 [.int .i64 (n : Int)] rfl rfl (cell_one_new _ _ _) (by intro u hu; simp at hu; subst hu; rfl) ?c3 ?c4 ?c5 ?_)
          case c3 => unfold maxLen; omega
          case c4 => omega
          case c5 => simp; omega
          intro v' w3 hown' hgrow _
          have hb3 := below_append hb (Nat.le_refl _) hown hgrow
          have HO2 := hide (unhide HE v' w3 hown')
          clear hown hown' hgrow HE
          go_wp2_with fail
          exact ⟨⟨j + 2, _, by go_num, by omega, by omega, by have := unhide HJ; show _ = _; omega, by simp; omega, unhide HX3, unhide HO2, hb3⟩, by simp [intOf]; omega⟩
      · obtain rfl : j = k.size := by omega
        have hX : X = some L := by rw [unhide HX, Nat.sub_self]; simp [numsF]
        subst hX
        go_wp2
        go_ret2
        exact ⟨⟨_, rfl, unhide HO⟩, hb⟩
theorem pre_is (v : ByteArray) (h : 1 ≤ v.size) : ((v.extract 0 1).toList == [112]) = decide (byteAt v 0 = 112) := by
  have hl : (v.extract 0 1).toList = [v[0]'(by omega)] := by
    rw [ByteArray.toList_eq]
    apply List.ext_getElem
    · simp; omega
    · intro i h1 h2
      have : i = 0 := by simpa using h2
      subst this
      simp
      rfl
  rw [hl, byteAt_eq (show 0 < v.size by omega), Bool.eq_iff_iff]
  simp only [beq_iff_eq, List.cons.injEq, and_true, decide_eq_true_eq]
  constructor
  · intro e; rw [e]; rfl
  · intro e; exact UInt8.toNat.inj e
theorem hasPre0_any (v : ByteArray) (hv : v.size ≤ 1000) (w : World) : Calls Tryz.prog 144 #[.string v, .string ⟨#[112]⟩] w fun e w' => e = .returned (.bool (decide (byteAt v 0 = 112))) ∧ w' = w := by
  by_cases h : 1 ≤ v.size
  · have hp := pre_is v h
    have h1 : (1 : Int) ≤ (v.size : Int) := by omega
    have h2 : (v.size : Int) ≤ 1000 := by omega
    rw [← hp]
    clear hp
    go_enter Tryz.func144, Tryz.ntmps144
    go_wp2
    go_ret
    exact ⟨rfl, rfl⟩
  · have hb : byteAt v 0 = 0 := by unfold byteAt; rw [dif_neg (by omega)]
    rw [hb]
    have h1 : ¬ (1 : Int) ≤ (v.size : Int) := by omega
    go_enter Tryz.func144, Tryz.ntmps144
    go_wp2
    go_ret
    exact ⟨rfl, rfl⟩
theorem hasPre_any (v : ByteArray) (hv : v.size ≤ 1000) (w : World) : Calls Tryz.prog 130 #[.string v, .string ⟨#[112]⟩] w fun e w' => e = .returned (.bool (decide (byteAt v 0 = 112))) ∧ w' = w := by
  have HP := hide (hasPre0_any v hv w)
  go_enter Tryz.func130, Tryz.ntmps130
  go_wp2_with fail
  refine (unhide HP).mono ?_
  rintro e w1 ⟨rfl, rfl⟩
  go_wp2
  go_ret
  exact ⟨rfl, rfl⟩
def Tab (B : Nat) (w : World) : Prop := ∀ w', Below B w w' → Lib.TabIs Tryz.prog w' "internal/strconv.uint64pow10" .u64 Lib.pow10Tab
theorem Tab.below {B : Nat} {w w' : World} (h : Tab B w) (hb : Below B w w') : Tab B w' := fun w2 h2 => h w2 (hb.trans h2)
theorem Tab.mono {B C : Nat} {w : World} (h : Tab B w) (hC : B ≤ C) : Tab C w := fun w2 h2 => h w2 (h2.mono hC)
theorem implRD_any (s : ByteArray) (w : World) (ht : Lib.TabIs Tryz.prog w "internal/strconv.uint64pow10" .u64 Lib.pow10Tab) : Calls Tryz.prog 131 #[.string s] w fun e w' => e = .returned (.tuple #[.int .i64 (oN (rdD s)), .bool (rdD s).isSome]) ∧ Below w.heap.size w w' := by
  unfold rdD
  by_cases h : s.size ≤ 10
  · rw [if_pos h]
    refine (Dc.implRD_yes s h w ht).mono ?_
    rintro e w' ⟨rfl, hb⟩
    refine ⟨?_, hb⟩
    cases hr : Dc.rf10 s s.size 0 0 with
    | none => rfl
    | some n =>
      simp only [Dc.rdOut]
      split <;> rfl
  · rw [if_neg h]
    refine (Dc.implRD_no s (by omega) w).mono ?_
    rintro e w' ⟨rfl, rfl⟩
    exact ⟨rfl, Below.refl _ _⟩
theorem load_member {W : World} {g : Nat} {a b : Value} (h : Blk W g #[a, b] 81) : (loadVar 81 ⟨g, 0, none⟩).run Tryz.prog W = .ok (.agg #[a, b]) W :=
  run_loadVar_row (P := Tryz.prog) W g 81 81 #[a, b] (0, 0) _ h Tryz.underlying81 rfl (by kernel_rfl)
set_option maxRecDepth 100000 in
set_option maxHeartbeats 2000000 in
theorem memberOf_any (v : ByteArray) (hv : v.size ≤ 1000) (w : World) (ht : Lib.TabIs Tryz.prog w "internal/strconv.uint64pow10" .u64 Lib.pow10Tab) :
    Calls Tryz.prog 121 #[.string v] w fun e w' => (∃ s : Nat × Nat, e = .returned (.tuple #[.agg #[.int .i64 (s.1 : Int), .int .i64 (s.2 : Int)], .bool (standV v).isSome]) ∧ ((standV v).isSome = true → standV v = some s)) ∧ Below w.heap.size w w' := by
  have HT := hide ht
  have hS : standV v = if (v.toList == [97]) = true then some (1, 0) else if (v.toList == [108]) = true then some (2, 0) else if byteAt v 0 = 112 then (rdD (v.extract 1 v.size)).map (fun r => (3, r)) else none := rfl
  generalize standV v = X at hS
  clear ht
  cases h97 : (v.toList == [97]) with
  | true =>
    rw [h97, if_pos rfl] at hS
    subst hS
    go_enter Tryz.func121, Tryz.ntmps121
    go_wp2
    exact bodyPost_ret (v := .tuple #[.agg #[.int .i64 1, .int .i64 0], .bool true]) ((Gr.results_rd2 (fn := Tryz.f121) (p := 2) (u := 3) rfl _ _ _ _ _ rfl (load_member Gr.Blk.new0)).trans rfl) rfl ⟨⟨(1, 0), rfl, fun _ => rfl⟩, Gr.below_new _ _⟩
  | false =>
    rw [h97, if_neg (by simp)] at hS
    cases h108 : (v.toList == [108]) with
    | true =>
      rw [h108, if_pos rfl] at hS
      subst hS
      go_enter Tryz.func121, Tryz.ntmps121
      go_wp2
      exact bodyPost_ret (v := .tuple #[.agg #[.int .i64 2, .int .i64 0], .bool true]) ((Gr.results_rd2 (fn := Tryz.f121) (p := 2) (u := 3) rfl _ _ _ _ _ rfl (load_member Gr.Blk.new0)).trans rfl) rfl ⟨⟨(2, 0), rfl, fun _ => rfl⟩, Gr.below_new _ _⟩
    | false =>
      rw [h108, if_neg (by simp)] at hS
      have HP := hide (fun w1 => hasPre_any v hv w1)
      by_cases h112 : byteAt v 0 = 112
      · rw [if_pos h112] at hS
        rw [decide_eq_true h112] at HP
        have hv1 : (1 : Int) ≤ (v.size : Int) := by
          rcases Nat.eq_zero_or_pos v.size with h0 | h0
          · unfold byteAt at h112; rw [dif_neg (by omega)] at h112; cases h112
          · omega
        have hv2 : (v.size : Int) ≤ 1000 := by omega
        have RD := hide (fun w1 h => implRD_any (v.extract 1 v.size) w1 h)
        obtain ⟨V, hV⟩ : ∃ W, W = w.alloc (Obj.cells #[.int .i64 0, .int .i64 0] 81) := ⟨_, rfl⟩
        have bV : Below w.heap.size w V := by rw [hV]; exact Gr.below_new _ _
        have MV : Hid (Blk V w.heap.size #[.int .i64 0, .int .i64 0] 81) := by show Blk _ _ _ _; rw [hV]; exact Gr.Blk.new0
        have TV : Hid (Lib.TabIs Tryz.prog V "internal/strconv.uint64pow10" .u64 Lib.pow10Tab) := Lib.tabBelow_of_tabIs (unhide HT) V bV
        generalize rdD (v.extract 1 v.size) = o at hS RD
        have hoN : ∃ n : Nat, oN o = (n : Int) ∧ (o.isSome = true → o = some n) := by
          cases o with
          | none => exact ⟨0, rfl, fun h => by cases h⟩
          | some n => exact ⟨n, rfl, fun _ => rfl⟩
        obtain ⟨n, hn1, hn2⟩ := hoN
        rw [hn1] at RD
        have HS : Hid (X.isSome = o.isSome ∧ (X.isSome = true → X = some (3, n))) := by
          show _ ∧ _
          rw [hS]
          refine ⟨by cases o <;> rfl, fun h => ?_⟩
          have := hn2 (by cases o with | none => cases h | some m => rfl)
          rw [this]
          rfl
        clear hS hn1 hn2 h112
        generalize o.isSome = ob at RD HS
        clear HT
        go_enter Tryz.func121, Tryz.ntmps121
        go_wp2_with fail
        rw [← hV]
        clear hV
        refine (unhide HP V).mono ?_
        rintro e w1 ⟨rfl, rfl⟩
        go_wp2_with fail
        refine (unhide RD w1 (unhide TV)).mono ?_
        rintro e w2 ⟨rfl, hb2⟩
        have m2 := (unhide MV).below hb2
        have r0 : w2.cell? ⟨w.heap.size, 0, none⟩ = some (.int .i64 0) := m2.cell 0 _ rfl
        have r1 : w2.cell? ⟨w.heap.size, 1, none⟩ = some (.int .i64 0) := m2.cell 1 _ rfl
        have f0 := m2.froz 0
        have f1 := m2.froz 1
        have b2 := bV.trans (hb2.mono bV.size)
        have HM3 : Hid (Blk ((w2.setCell ⟨w.heap.size, 0, none⟩ (.int .i64 3)).setCell ⟨w.heap.size, 1, none⟩ (.int .i64 (n : Int))) w.heap.size #[.int .i64 3, .int .i64 (n : Int)] 81) := (m2.set 0 _).set 1 _
        have HB3 : Hid (Below w.heap.size w ((w2.setCell ⟨w.heap.size, 0, none⟩ (.int .i64 3)).setCell ⟨w.heap.size, 1, none⟩ (.int .i64 (n : Int)))) := (b2.setCell (p := ⟨w.heap.size, 0, none⟩) (Nat.le_refl _) _).setCell (p := ⟨w.heap.size, 1, none⟩) (Nat.le_refl _) _
        clear hb2 m2 b2
        go_wp2
        refine bodyPost_ret (v := .tuple #[.agg #[.int .i64 3, .int .i64 (n : Int)], .bool ob]) ((Gr.results_rd2 (fn := Tryz.f121) (p := 2) (u := 3) rfl _ _ _ _ _ rfl (load_member (unhide HM3))).trans rfl) rfl ⟨⟨(3, n), ?_, (unhide HS).2⟩, unhide HB3⟩
        rw [(unhide HS).1]
        rfl
      · rw [if_neg h112] at hS
        rw [decide_eq_false h112] at HP
        subst hS
        clear h112
        go_enter Tryz.func121, Tryz.ntmps121
        go_wp2_with fail
        refine (unhide HP _).mono ?_
        rintro e w1 ⟨rfl, rfl⟩
        go_wp2
        exact bodyPost_ret (v := .tuple #[.agg #[.int .i64 0, .int .i64 0], .bool false]) ((Gr.results_rd2 (fn := Tryz.f121) (p := 2) (u := 3) rfl _ _ _ _ _ rfl (load_member Gr.Blk.new0)).trans rfl) rfl ⟨⟨(0, 0), rfl, fun h => by cases h⟩, Gr.below_new _ _⟩
theorem RegAt.alien {w : World} {B g : Nat} {R : Rgs} (h : RegAt w B g R) : Gr.Alien w g 143 ∧ Gr.Alien w g 3 ∧ Gr.Alien w g 9 := by
  obtain ⟨_, v, vs, h1, _⟩ := h
  obtain ⟨t1, t2, t3, _⟩ := reg_types
  exact ⟨h1.alien t1, h1.alien t2, h1.alien t3⟩
theorem RegAt.setMem {w : World} {B g : Nat} {R : Rgs} (h : RegAt w B g R) (a : Nat) (ha : a < 12) (s : Nat × Nat) : RegAt ((w.setCell ⟨g, a * 2, none⟩ (.int .i64 (s.1 : Int))).setCell ⟨g, a * 2 + 1, none⟩ (.int .i64 (s.2 : Int))) B g { R with mem := fun i => if i = a then s else R.mem i } := by
  have hal := h.alien
  obtain ⟨h0, v, vs, h1, h2⟩ := h
  have hk : Kept (fun i => i = g) w ((w.setCell ⟨g, a * 2, none⟩ (.int .i64 (s.1 : Int))).setCell ⟨g, a * 2 + 1, none⟩ (.int .i64 (s.2 : Int))) := Gr.Kept.trans (S := fun i => i = g) (Gr.Kept.set _ _ _ _ rfl) (Gr.Kept.set _ _ _ _ rfl)
  refine ⟨h0, v, vs, ?_, h2.kept hk (fun k hk => by subst hk; exact hal)⟩
  rw [← set_mem R v a ha s]
  exact (h1.set _ _).set _ _
theorem RegAt.setLink {w : World} {B g : Nat} {R : Rgs} (h : RegAt w B g R) (a b : Nat) (ha : a < 12) (hb : b < 12) (x y z : Nat) : RegAt ((((w.setCell ⟨g, 24 + a * 48 + b * 4, none⟩ (.bool true)).setCell ⟨g, 24 + a * 48 + b * 4 + 1, none⟩ (.int .i64 (x : Int))).setCell ⟨g, 24 + a * 48 + b * 4 + 2, none⟩ (.int .i64 (y : Int))).setCell ⟨g, 24 + a * 48 + b * 4 + 3, none⟩ (.int .i64 (z : Int))) B g { R with lnk := fun i j => if i = a ∧ j = b then some (x, y, z) else R.lnk i j } := by
  have hal := h.alien
  obtain ⟨h0, v, vs, h1, h2⟩ := h
  have hk : Kept (fun i => i = g) w ((((w.setCell ⟨g, 24 + a * 48 + b * 4, none⟩ (.bool true)).setCell ⟨g, 24 + a * 48 + b * 4 + 1, none⟩ (.int .i64 (x : Int))).setCell ⟨g, 24 + a * 48 + b * 4 + 2, none⟩ (.int .i64 (y : Int))).setCell ⟨g, 24 + a * 48 + b * 4 + 3, none⟩ (.int .i64 (z : Int))) := Gr.Kept.trans (S := fun i => i = g) (Gr.Kept.trans (S := fun i => i = g) (Gr.Kept.trans (S := fun i => i = g) (Gr.Kept.set _ _ _ _ rfl) (Gr.Kept.set _ _ _ _ rfl)) (Gr.Kept.set _ _ _ _ rfl)) (Gr.Kept.set _ _ _ _ rfl)
  refine ⟨h0, v, vs, ?_, h2.kept hk (fun k hk => by subst hk; exact hal)⟩
  rw [← set_link R v a b ha hb x y z]
  exact (((h1.set _ _).set _ _).set _ _).set _ _
theorem RegAt.drew {w : World} {B g : Nat} {R : Rgs} (h : RegAt w B g R) : RegAt w.drew B g R := h.below ((Below.refl _ _).drew)
theorem RegAt.froz {w : World} {B g : Nat} {R : Rgs} (h : RegAt w B g R) (k : Nat) : w.frozen? ⟨g, k, none⟩ = false := by
  obtain ⟨_, v, vs, h1, _⟩ := h
  exact h1.froz k
set_option maxRecDepth 100000 in
set_option maxHeartbeats 2000000 in
theorem takeM_any (B g a : Nat) (v : ByteArray) (R : Rgs) (hv : v.size ≤ 1000) (ha9 : a ≤ 1000) (w : World) (hB : B ≤ w.heap.size) (ht : Lib.TabIs Tryz.prog w "internal/strconv.uint64pow10" .u64 Lib.pow10Tab) (hR : RegAt w B g R) :
    Calls Tryz.prog 105 #[.pointer (some ⟨g, 0, none⟩), .int .i64 (a : Int), .string v] w fun e w' => e = .returned (.bool (takeV R a v).isSome) ∧ RegAt w' B g ((takeV R a v).getD R) ∧ Below B w w' := by
  have MO := hide (memberOf_any v hv w ht)
  have hX : takeV R a v = if a < 12 then (match standV v with | none => none | some s => some { R with mem := fun i => if i = a then s else R.mem i }) else none := rfl
  generalize takeV R a v = X at hX ⊢
  generalize standV v = o at hX MO
  have HR := hide hR
  have hg := hR.lt
  have IP := hide (fun w1 => Gr.isPlace_is (a : Int) 12 w1)
  rw [decide_eq_true (show (0 : Int) ≤ (a : Int) by omega), Bool.true_and] at IP
  clear hR ht
  go_enter Tryz.func105, Tryz.ntmps105
  go_wp2_with fail
  refine (unhide MO).mono ?_
  rintro e w1 ⟨⟨⟨s1, s2⟩, rfl, hs⟩, hb1⟩
  have hR1 := (unhide HR).below hb1
  have hz1 := hb1.size
  have HS := hide hs
  clear hs
  cases hob : o.isSome with
  | false =>
    have hX2 : X = none := by
      cases o with
      | none => rw [hX]; split <;> rfl
      | some s => cases hob
    subst hX2
    go_wp2
    go_ret
    exact ⟨rfl, hR1.below (Gr.below_new _ _), (hb1.mono hB).alloc (by omega) _⟩
  | true =>
    have hos := unhide HS hob
    subst hos
    by_cases h12 : a < 12
    · rw [decide_eq_true (show (a : Int) < 12 by omega)] at IP
      rw [if_pos h12] at hX
      subst hX
      have h12i : (a : Int) < 12 := by omega
      go_wp2_with fail
      obtain ⟨V, hV⟩ : ∃ W, W = w1.alloc (Obj.cells #[.int .i64 (s1 : Int), .int .i64 (s2 : Int)] 81) := ⟨_, rfl⟩
      rw [← hV]
      have bV : Below w1.heap.size w1 V := by rw [hV]; exact Gr.below_new _ _
      have mV : Blk V w1.heap.size #[.int .i64 (s1 : Int), .int .i64 (s2 : Int)] 81 := by rw [hV]; exact Gr.Blk.new0
      have hRV := hR1.below bV
      have HW : Hid (Below B w V) := (hb1.mono hB).trans (bV.mono (by omega))
      have d0 : V.cell? ⟨w1.heap.size, 0, none⟩ = some (.int .i64 (s1 : Int)) := mV.cell 0 _ rfl
      have d1 : V.cell? ⟨w1.heap.size, 1, none⟩ = some (.int .i64 (s2 : Int)) := mV.cell 1 _ rfl
      obtain ⟨c0, c1⟩ := hRV.mem a h12
      have f0 := hRV.froz (a * 2)
      have f1 := hRV.froz (a * 2 + 1)
      have HRV := hide hRV
      clear hV mV hRV hR1 hb1 bV
      refine (unhide IP V).mono ?_
      rintro e w2 ⟨rfl, rfl⟩
      go_wp2_with fail
      go_region
      go_wp2
      go_ret
      exact ⟨rfl, ((unhide HRV).setMem a h12 (s1, s2)).drew, (((unhide HW).setCell (p := ⟨g, a * 2, none⟩) hg.1 _).setCell (p := ⟨g, a * 2 + 1, none⟩) hg.1 _).drew⟩
    · rw [decide_eq_false (show ¬ (a : Int) < 12 by omega)] at IP
      rw [if_neg h12] at hX
      subst hX
      have HV := hide (fun o => hR1.below (Gr.below_new w1 o))
      have HW := hide (fun o => (hb1.mono hB).alloc (show B ≤ w1.heap.size by omega) o)
      clear hR1 hb1
      go_wp2_with fail
      refine (unhide IP _).mono ?_
      rintro e w2 ⟨rfl, rfl⟩
      go_wp2
      go_ret
      exact ⟨rfl, unhide HV _, unhide HW _⟩
def part3 (v : ByteArray) (j : Nat) : Array Value := #[.int .i64 ((if 0 < j then byteAt v 0 else 0 : Nat) : Int), .int .i64 ((if 1 < j then byteAt v 1 else 0 : Nat) : Int), .int .i64 ((if 2 < j then byteAt v 2 else 0 : Nat) : Int)]
set_option maxRecDepth 100000 in
set_option maxHeartbeats 2000000 in
theorem takeL_any (B g a b : Nat) (v : ByteArray) (R : Rgs) (hv : v.size ≤ 1000) (ha9 : a ≤ 1000) (hb9 : b ≤ 1000) (w : World) (hB : B ≤ w.heap.size) (hR : RegAt w B g R) :
    Calls Tryz.prog 102 #[.pointer (some ⟨g, 0, none⟩), .int .i64 (a : Int), .int .i64 (b : Int), .string v] w fun e w' => e = .returned (.bool (takeE R a b v).isSome) ∧ RegAt w' B g ((takeE R a b v).getD R) ∧ Below B w w' := by
  have hX : takeE R a b v = if b < 12 ∧ a < b ∧ v.size = 3 then some { R with lnk := fun i j => if i = a ∧ j = b then some (bytes3 v) else R.lnk i j } else none := rfl
  generalize takeE R a b v = X at hX ⊢
  have HR := hide hR
  have hg := hR.lt
  have I1 := hide (fun w1 => Gr.isPlace_is (b : Int) 12 w1)
  rw [decide_eq_true (show (0 : Int) ≤ (b : Int) by omega), Bool.true_and] at I1
  have I2 := hide (fun w1 => Gr.isPlace_is (a : Int) (b : Int) w1)
  rw [decide_eq_true (show (0 : Int) ≤ (a : Int) by omega), Bool.true_and] at I2
  clear hR
  by_cases h12 : b < 12
  · rw [decide_eq_true (show (b : Int) < 12 by omega)] at I1
    by_cases hab : a < b
    · rw [decide_eq_true (show (a : Int) < (b : Int) by omega)] at I2
      by_cases h3 : v.size = 3
      · rw [if_pos ⟨h12, hab, h3⟩] at hX
        subst hX
        have hne : ((v.size : Int) != 3) = false := by rw [h3]; rfl
        have hbi : (b : Int) < 12 := by omega
        have hai : (a : Int) < 12 := by omega
        have HV3 := hide h3
        have hv3 : (3 : Int) ≤ (v.size : Int) := by omega
        have hvz : (v.size : Int) ≤ 1000 := by omega
        clear h3
        go_enter Tryz.func102, Tryz.ntmps102
        go_wp2_with fail
        refine (unhide I1 _).mono ?_
        rintro e w1 ⟨rfl, rfl⟩
        go_wp2_with fail
        refine (unhide I2 _).mono ?_
        rintro e w1 ⟨rfl, rfl⟩
        go_wp2_with fail
        go_loopw [25] (fun i wr => ∃ j : Nat, i = .int .i64 (j : Int) ∧ j ≤ 3 ∧ Hid (Blk wr w1.heap.size (part3 v j) 84) ∧ Below w1.heap.size w1 wr) (fun i _ => 3 - (intOf i).toNat)
        case atStart => exact ⟨0, rfl, by omega, Gr.Blk.new0, Gr.below_new _ _⟩
        case round =>
          obtain ⟨j, rfl, hj, HK, hbw⟩ := hrel
          by_cases hlt : j < 3
          · rcases (show j = 0 ∨ j = 1 ∨ j = 2 by omega) with rfl | rfl | rfl
            · have hB0 : ((v[0]'(by have := unhide HV3; omega)).toNat : Int) ≤ 255 := by have := UInt8.toNat_lt (v[0]'(by have := unhide HV3; omega)); omega
              have HE := hide (byteAt_eq (s := v) (i := 0) (by have := unhide HV3; omega))
              have c0 : wr.cell? ⟨w1.heap.size, 0, none⟩ = some (.int .i64 0) := (unhide HK).cell 0 _ rfl
              have f0 := (unhide HK).froz 0
              have HK2 : Hid (Blk (wr.setCell ⟨w1.heap.size, 0, none⟩ (.int .i64 ((byteAt v 0 : Nat) : Int))) w1.heap.size (part3 v 1) 84) := (unhide HK).set 0 _
              rw [unhide HE] at HK2
              have hb2 := hbw.setCell (p := ⟨w1.heap.size, 0, none⟩) (Nat.le_refl _) (.int .i64 (((v[0]'(by have := unhide HV3; omega)).toNat : Nat) : Int))
              go_wp2_with fail
              exact ⟨⟨1, by go_num, by omega, unhide HK2, hb2⟩, by simp [intOf]⟩
            · have hB1 : ((v[1]'(by have := unhide HV3; omega)).toNat : Int) ≤ 255 := by have := UInt8.toNat_lt (v[1]'(by have := unhide HV3; omega)); omega
              have HE := hide (byteAt_eq (s := v) (i := 1) (by have := unhide HV3; omega))
              have c0 : wr.cell? ⟨w1.heap.size, 1, none⟩ = some (.int .i64 0) := (unhide HK).cell 1 _ rfl
              have f0 := (unhide HK).froz 1
              have HK2 : Hid (Blk (wr.setCell ⟨w1.heap.size, 1, none⟩ (.int .i64 ((byteAt v 1 : Nat) : Int))) w1.heap.size (part3 v 2) 84) := (unhide HK).set 1 _
              rw [unhide HE] at HK2
              have hb2 := hbw.setCell (p := ⟨w1.heap.size, 1, none⟩) (Nat.le_refl _) (.int .i64 (((v[1]'(by have := unhide HV3; omega)).toNat : Nat) : Int))
              go_wp2_with fail
              exact ⟨⟨2, by go_num, by omega, unhide HK2, hb2⟩, by simp [intOf]⟩
            · have hB2 : ((v[2]'(by have := unhide HV3; omega)).toNat : Int) ≤ 255 := by have := UInt8.toNat_lt (v[2]'(by have := unhide HV3; omega)); omega
              have HE := hide (byteAt_eq (s := v) (i := 2) (by have := unhide HV3; omega))
              have c0 : wr.cell? ⟨w1.heap.size, 2, none⟩ = some (.int .i64 0) := (unhide HK).cell 2 _ rfl
              have f0 := (unhide HK).froz 2
              have HK2 : Hid (Blk (wr.setCell ⟨w1.heap.size, 2, none⟩ (.int .i64 ((byteAt v 2 : Nat) : Int))) w1.heap.size (part3 v 3) 84) := (unhide HK).set 2 _
              rw [unhide HE] at HK2
              have hb2 := hbw.setCell (p := ⟨w1.heap.size, 2, none⟩) (Nat.le_refl _) (.int .i64 (((v[2]'(by have := unhide HV3; omega)).toNat : Nat) : Int))
              go_wp2_with fail
              exact ⟨⟨3, by go_num, by omega, unhide HK2, hb2⟩, by simp [intOf]⟩
          · obtain rfl : j = 3 := by omega
            have hRw := (unhide HR).below hbw
            have d0 : wr.cell? ⟨w1.heap.size, 0, none⟩ = some (.int .i64 ((byteAt v 0 : Nat) : Int)) := (unhide HK).cell 0 _ rfl
            have d1 : wr.cell? ⟨w1.heap.size, 1, none⟩ = some (.int .i64 ((byteAt v 1 : Nat) : Int)) := (unhide HK).cell 1 _ rfl
            have d2 : wr.cell? ⟨w1.heap.size, 2, none⟩ = some (.int .i64 ((byteAt v 2 : Nat) : Int)) := (unhide HK).cell 2 _ rfl
            have c0 := hRw.link a b (by omega) h12 0 (by omega)
            have c1 := hRw.link a b (by omega) h12 1 (by omega)
            have c2 := hRw.link a b (by omega) h12 2 (by omega)
            have c3 := hRw.link a b (by omega) h12 3 (by omega)
            rw [Nat.add_zero] at c0
            have f0 := hRw.froz (24 + a * 48 + b * 4)
            have f1 := hRw.froz (24 + a * 48 + b * 4 + 1)
            have f2 := hRw.froz (24 + a * 48 + b * 4 + 2)
            have f3 := hRw.froz (24 + a * 48 + b * 4 + 3)
            generalize linkCell (R.lnk a b) 0 = l0 at c0
            generalize linkCell (R.lnk a b) 1 = l1 at c1
            generalize linkCell (R.lnk a b) 2 = l2 at c2
            generalize linkCell (R.lnk a b) 3 = l3 at c3
            have HRW := hide hRw
            have HBW : Hid (Below B w1 wr) := hbw.mono hB
            clear hRw hbw HK
            go_wp2_with fail
            go_region
            go_wp2
            go_ret
            exact ⟨rfl, ((unhide HRW).setLink a b (by omega) h12 (byteAt v 0) (byteAt v 1) (byteAt v 2)).drew, (((((unhide HBW).setCell (p := ⟨g, 24 + a * 48 + b * 4, none⟩) hg.1 _).setCell (p := ⟨g, 24 + a * 48 + b * 4 + 1, none⟩) hg.1 _).setCell (p := ⟨g, 24 + a * 48 + b * 4 + 2, none⟩) hg.1 _).setCell (p := ⟨g, 24 + a * 48 + b * 4 + 3, none⟩) hg.1 _).drew⟩
      · rw [if_neg (by omega)] at hX
        subst hX
        have hne : ((v.size : Int) != 3) = true := by rw [bne_iff_ne]; omega
        go_enter Tryz.func102, Tryz.ntmps102
        go_wp2_with fail
        refine (unhide I1 _).mono ?_
        rintro e w1 ⟨rfl, rfl⟩
        go_wp2_with fail
        refine (unhide I2 _).mono ?_
        rintro e w1 ⟨rfl, rfl⟩
        go_wp2
        go_ret
        exact ⟨rfl, unhide HR, Below.refl _ _⟩
    · rw [decide_eq_false (show ¬ (a : Int) < (b : Int) by omega)] at I2
      rw [if_neg (by omega)] at hX
      subst hX
      go_enter Tryz.func102, Tryz.ntmps102
      go_wp2_with fail
      refine (unhide I1 _).mono ?_
      rintro e w1 ⟨rfl, rfl⟩
      go_wp2_with fail
      refine (unhide I2 _).mono ?_
      rintro e w1 ⟨rfl, rfl⟩
      go_wp2
      go_ret
      exact ⟨rfl, unhide HR, Below.refl _ _⟩
  · rw [decide_eq_false (show ¬ (b : Int) < 12 by omega)] at I1
    rw [if_neg (by omega)] at hX
    subst hX
    go_enter Tryz.func102, Tryz.ntmps102
    go_wp2_with fail
    refine (unhide I1 _).mono ?_
    rintro e w1 ⟨rfl, rfl⟩
    go_wp2
    go_ret
    exact ⟨rfl, unhide HR, Below.refl _ _⟩
theorem infoRd : (Tryz.prog.info? 143).map (fun i => (i.zero, i.size, i.bytes)) = some (some (.agg #[.slice none 0 0, .slice none 0 0]), 2, 48) := by kernel_rfl
theorem row_shape {w : World} {B e z n : Nat} {v : Value} {xs : List Value} (h : w.ownsRow B e z v n xs) : ∃ A c, v = .slice A n c := by
  rcases h.2 with ⟨rfl, h0⟩ | ⟨g, cap, cur, rfl, _⟩
  · exact ⟨none, 0, by rw [h0]⟩
  · exact ⟨_, _, rfl⟩
theorem RdsAt.snoc {w w' : World} {B : Nat} {v v' u : Value} {vs : List (Value × Value)} {L : List (List Int × List ByteArray)} {K : List Int} (h : RdsAt w B v vs L) (hu : w.ownsRow B 3 1 u K.length (Gr.intsV K))
    (hown : w'.ownsRow B 143 2 v' (L.length + 1) (flat vs ++ [u, .slice none 0 0])) (hk : Kept (fun g => v.ownBlock = some g) w w') : RdsAt w' B v' (vs ++ [(u, .slice none 0 0)]) (L ++ [(K, [])]) := by
  obtain ⟨_, _, _, t4, t5, _⟩ := reg_types
  have hl := h.len
  have a1 : ∀ k, v.ownBlock = some k → Gr.Alien w k 3 := Gr.own_alien h.own t4
  have a2 : ∀ k, v.ownBlock = some k → Gr.Alien w k 9 := Gr.own_alien h.own t5
  refine ⟨by simp [hl], ?_, fun j h1 h2 => ?_, fun j h1 h2 => ?_, fun i j hi hj g hgi hgj => ?_⟩
  · rw [flat_snoc]
    simpa using hown
  · by_cases hj : j < vs.length
    · have hj2 : j < L.length := by omega
      rw [List.getElem_append_left hj, List.getElem_append_left hj2]
      exact Gr.Kept.own_alien hk (h.pool j hj hj2) a1
    · have hj3 : j = vs.length := by simp at h1; omega
      subst hj3
      have e1 : (vs ++ [(u, Value.slice none 0 0)])[vs.length] = (u, .slice none 0 0) := by simp
      have e2 : (L ++ [(K, ([] : List ByteArray))])[vs.length] = (K, []) := by rw [List.getElem_append_right (by omega)]; simp [hl]
      rw [e1, e2]
      exact Gr.Kept.own_alien hk hu a1
  · by_cases hj : j < vs.length
    · have hj2 : j < L.length := by omega
      rw [List.getElem_append_left hj, List.getElem_append_left hj2]
      exact Gr.Kept.own_alien hk (h.part j hj hj2) a2
    · have hj3 : j = vs.length := by simp at h1; omega
      subst hj3
      have e1 : (vs ++ [(u, Value.slice none 0 0)])[vs.length] = (u, .slice none 0 0) := by simp
      have e2 : (L ++ [(K, ([] : List ByteArray))])[vs.length] = (K, []) := by rw [List.getElem_append_right (by omega)]; simp [hl]
      rw [e1, e2]
      exact ⟨rfl, .inl ⟨rfl, rfl⟩⟩
  · have hx : ∀ i (hi : i < (vs ++ [(u, Value.slice none 0 0)]).length), (vs ++ [(u, Value.slice none 0 0)])[i].2.ownBlock = some g → ∃ h' : i < vs.length, vs[i].2.ownBlock = some g := fun i hi hg => by
      by_cases h' : i < vs.length
      · rw [List.getElem_append_left h'] at hg; exact ⟨h', hg⟩
      · exfalso
        have : i = vs.length := by simp at hi; omega
        subst this
        have e1 : (vs ++ [(u, Value.slice none 0 0)])[vs.length] = (u, .slice none 0 0) := by simp
        rw [e1] at hg
        cases hg
    obtain ⟨hi', hgi'⟩ := hx i hi hgi
    obtain ⟨hj', hgj'⟩ := hx j hj hgj
    exact h.dist i j hi' hj' g hgi' hgj'
theorem _root_.Go.Proofs.YtihnaddfpmjpaaaGreatDoor.Gr.Blk.setRds {w : World} {B g : Nat} {R : Rgs} {v v' : Value} {vs : List (Value × Value)} {L : List (List Int × List ByteArray)} (h : Blk w g (regC R v) 91) (hg : B ≤ g) (hr : RdsAt w B v' vs L) : RegAt (w.setCell ⟨g, 600, none⟩ v') B g { R with rds := L } := by
  obtain ⟨t1, t2, t3, _⟩ := reg_types
  refine ⟨hg, v', vs, ?_, hr.kept (Gr.Kept.set (S := fun i => i = g) _ _ _ _ rfl) (fun k hk => by subst hk; exact ⟨h.alien t1, h.alien t2, h.alien t3⟩)⟩
  rw [← set_rds R v v' L]
  exact h.set _ _
theorem news_rd (W : World) (x y : Value) (t : TypeId) : ∀ j u, [x, y][j]? = some u → (W.alloc (Obj.cells #[x, y] t)).cell? ((⟨W.heap.size, 0, none⟩ : Addr).add j) = some u :=
  World.news_of_block (heap_alloc_new W (Obj.cells #[x, y] t))
theorem rd_one (a : Option Addr) (n c : Nat) (b : Option Addr) : ∀ v ∈ [Value.slice a n c, Value.slice b 0 0], v.oneCell' = true := by
  intro v hv
  simp at hv
  rcases hv with rfl | rfl <;> rfl
theorem bytesI_length (v : ByteArray) : (bytesI v).length = v.size := by unfold bytesI; rw [List.length_map, ByteArray.toList_eq]; simp
set_option maxRecDepth 100000 in
set_option maxHeartbeats 2000000 in
theorem takeQ_any (B g a : Nat) (v : ByteArray) (R : Rgs) (hv : v.size ≤ 1000) (_ha9 : a ≤ 1000) (hrl : R.rds.length ≤ 1000) (w : World) (hB : B ≤ w.heap.size) (hR : RegAt w B g R) :
    Calls Tryz.prog 103 #[.pointer (some ⟨g, 0, none⟩), .int .i64 (a : Int), .string v] w fun e w' => e = .returned (.bool (takeQ R a v).isSome) ∧ RegAt w' B g ((takeQ R a v).getD R) ∧ Below B w w' := by
  obtain ⟨i0, hi0, hz0, hz1, hz2⟩ := info_parts Gr.info3
  obtain ⟨ir, hir, rz0, rz1, rz2⟩ := info_parts infoRd
  have hX : takeQ R a v = if a = R.rds.length then some { R with rds := R.rds ++ [(bytesI v, [])] } else none := rfl
  generalize takeQ R a v = X at hX ⊢
  have hal := hR.alien
  have HR := hide hR
  have hg := hR.lt
  obtain ⟨_, rv, vs, hk0, hrd0⟩ := hR
  obtain ⟨ra, rc, hrv⟩ := row_shape hrd0.own
  have c600 : w.cell? ⟨g, 600, none⟩ = some rv := hk0.cell 600 _ (by rw [regC_at _ _ _ (by omega), cell_rds])
  subst hrv
  by_cases heq : a = R.rds.length
  · rw [if_pos heq] at hX
    subst hX
    have hne : (((a : Nat) : Int) != ((R.rds.length : Nat) : Int)) = false := by rw [heq]; simp
    have HK0 := hide hk0
    have HRD := hide hrd0
    have HAL := hide hal
    have hPl := bytesI_length v
    obtain ⟨P, hP⟩ : ∃ P, P = bytesI v := ⟨_, rfl⟩
    rw [← hP]
    have HP0 : Hid (P = [] ++ (v.toList.drop 0).map fun b => (b.toNat : Int)) := hP
    have hVl : v.toList.length = v.size := by rw [ByteArray.toList_eq]; simp
    have HVL := hide hVl
    clear hVl hP heq hk0 hrd0 hal
    go_enter Tryz.func103, Tryz.ntmps103
    go_wp2_with fail
    go_loopw [7, 18] (fun u i wr => ∃ (j : Nat) (L : List Int), i = .int .i64 (j : Int) ∧ j ≤ v.size ∧ Hid (L.length = j) ∧ Hid (P = L ++ (v.toList.drop j).map fun b => (b.toNat : Int)) ∧ Hid (wr.ownsRow w.heap.size 3 1 u L.length (Gr.intsV L)) ∧ Below w.heap.size w wr) (fun _ i _ => v.size - (intOf i).toNat)
    case atStart => exact ⟨0, [], rfl, Nat.zero_le _, rfl, unhide HP0, ⟨rfl, .inl ⟨rfl, rfl⟩⟩, Below.refl _ _⟩
    case round =>
      obtain ⟨j, L, rfl, hj, HLJ, HY, HO, hb⟩ := hrel
      have hown := unhide HO
      have hbs2 := hb.size
      by_cases hlt : j < v.size
      · have hB : ((v[j]'hlt).toNat : Int) ≤ 255 := by have := UInt8.toNat_lt (v[j]'hlt); omega
        have hLL : L.length ≤ 1048576 := by have := unhide HLJ; omega
        have HY2 : Hid (P = (L ++ [((v[j]'hlt).toNat : Int)]) ++ (v.toList.drop (j + 1)).map fun b => (b.toNat : Int)) := by
          show _ = _
          rw [unhide HY, List.drop_eq_getElem_cons (by rw [unhide HVL]; exact hlt), List.map_cons, List.append_assoc]
          have : (v.toList[j]'(by rw [unhide HVL]; exact hlt)) = v[j]'hlt := by simp [ByteArray.toList_eq]; rfl
          rw [this]
          rfl
        go_wp2_with (at_builtin; refine wpList_append_own _ rfl _ _ 24 rfl w.heap.size 3 i0 (.int .i64 0) 1 8 Tryz.underlying24 hi0 hz0 hz1 hz2 rfl (by decide) _ _ _ rfl (hown.alloc _) ⟨wr.heap.size, 0, none⟩ 1 1 [.int .i64 ((v[j]'hlt).toNat : Int)] rfl rfl (cell_one_new _ _ _) (by intro u hu; simp at hu; subst hu; rfl) ?c3 ?c4 ?c5 ?_)
        case c3 => unfold maxLen; omega
        case c4 => omega
        case c5 => simp; omega
        intro v' w3 hown' hgrow _
        have hb3 := below_append hb (Nat.le_refl _) hown hgrow
        have HO2 := hide (own_int hown')
        clear hown hown' hgrow
        go_wp2_with fail
        exact ⟨⟨j + 1, _, by go_num, by omega, by show _ = _; rw [List.length_append, unhide HLJ]; rfl, unhide HY2, unhide HO2, hb3⟩, by simp [intOf]; omega⟩
      · have hPe : P = L := by rw [unhide HY, List.drop_eq_nil_of_le (by rw [unhide HVL]; omega)]; simp
        have HRW := hide ((unhide HR).below hb)
        have hrdw := (unhide HRD).below hb
        have hrown := hrdw.own
        have hkw := (unhide HK0).below hb
        have c6 : wr.cell? ⟨g, 600, none⟩ = some (.slice ra R.rds.length rc) := hkw.cell 600 _ (by rw [regC_at _ _ _ (by omega), cell_rds])
        have f6 := hkw.froz 600
        obtain ⟨pa, pc, hpa⟩ := row_shape hown
        have HRDW := hide hrdw
        have HKW := hide hkw
        have HOW := hide (Gr.own_lower hB hown)
        have HBW : Hid (Below B w wr) := hb.mono hB
        have hRl : R.rds.length ≤ 1000 := hrl
        subst hpa
        subst hPe
        clear hrdw hkw hown HO HY
        go_wp2_with (at_builtin; refine wpList_append_own _ rfl _ _ 89 rfl B 143 ir (.agg #[.slice none 0 0, .slice none 0 0]) 2 48 Tryz.underlying89 hir rz0 rz1 rz2 rfl (by decide) _ _ _ rfl (hrown.alloc _) ⟨wr.heap.size, 0, none⟩ 1 1 [.slice pa P.length pc, .slice none 0 0] rfl rfl (news_rd _ _ _ _) (rd_one _ _ _ _) ?c3 ?c4 ?c5 ?_)
        case c3 => unfold maxLen; omega
        case c4 => omega
        case c5 => simp; omega
        intro v' w3 hown' hgrow _
        have b0 := Gr.below_new wr (Obj.cells #[.slice pa P.length pc, .slice none 0 0] 143)
        have hk3 := Gr.Kept.of_grown hgrow
        have hrd3 := ((unhide HRDW).below b0).snoc (Gr.own_below (unhide HOW) b0) hown' hk3
        have hkb : Blk w3 g (regC R (.slice ra R.rds.length rc)) 91 := ((unhide HKW).below b0).kept hk3 (fun e => ((unhide HKW).apart hrown reg_types.1) e.symm)
        have k6 : w3.cell? ⟨g, 600, none⟩ = some (.slice ra R.rds.length rc) := hkb.cell 600 _ (by rw [regC_at _ _ _ (by omega), cell_rds])
        have k6f := hkb.froz 600
        have HF := hide (hkb.setRds hg.1 hrd3)
        have HB3 : Hid (Below B w (w3.setCell ⟨g, 600, none⟩ v')) := (((unhide HBW).trans (b0.mono (by omega))).trans (hk3.below (by have := b0.size; omega) (fun i hi => (hrown.lt i hi).1))).setCell (p := ⟨g, 600, none⟩) hg.1 _
        obtain ⟨va, vc, hva⟩ := row_shape hown'
        subst hva
        clear hown' hgrow hk3 hrd3 hkb hrown
        go_wp2
        go_ret
        exact ⟨rfl, unhide HF, unhide HB3⟩
  · rw [if_neg heq] at hX
    subst hX
    have hne : (((a : Nat) : Int) != ((R.rds.length : Nat) : Int)) = true := by rw [bne_iff_ne]; omega
    go_enter Tryz.func103, Tryz.ntmps103
    go_wp2
    go_ret
    exact ⟨rfl, unhide HR, Below.refl _ _⟩
theorem RdsAt.part' {w w' : World} {B a gv cap : Nat} {u u' : Value} {vs : List (Value × Value)} {L : List (List Int × List ByteArray)} {x : ByteArray} (h : RdsAt w B (.slice (some ⟨gv, 0, none⟩) L.length cap) vs L) (h1 : a < vs.length) (h2 : a < L.length) (hu : vs[a].2 = u)
    (hown : w'.ownsRow B 9 1 u' (L[a].2.length + 1) (Gr.textsV L[a].2 ++ [.string x])) (hk : Kept (fun g => u.ownBlock = some g) w w') (hnew : ∀ g, u'.ownBlock = some g → u.ownBlock = some g ∨ w.heap.size ≤ g) :
    RdsAt (w'.setCell ⟨gv, a * 2 + 1, none⟩ u') B (.slice (some ⟨gv, 0, none⟩) L.length cap) (vs.set a (vs[a].1, u')) (L.set a (L[a].1, L[a].2 ++ [x])) := by
  obtain ⟨_, _, _, t4, t5, t6⟩ := reg_types
  have hl := h.len
  have hua := h.part a h1 h2
  rw [hu] at hua
  have a1 : ∀ k, u.ownBlock = some k → Gr.Alien w k 143 := Gr.own_alien hua (Ne.symm t5)
  have a2 : ∀ k, u.ownBlock = some k → Gr.Alien w k 3 := Gr.own_alien hua t6
  have o1 := Gr.Kept.own_alien hk h.own a1
  have o2 := (World.ownsRow.stored o1 (a * 2 + 1) u').1
  have b1 : ∀ k, k = gv → Gr.Alien w' k 3 := fun k e => Gr.own_alien o1 t4 k (by rw [e]; rfl)
  have b2 : ∀ k, k = gv → Gr.Alien w' k 9 := fun k e => Gr.own_alien o1 t5 k (by rw [e]; rfl)
  have ks : Kept (fun i => i = gv) w' (w'.setCell ⟨gv, a * 2 + 1, none⟩ u') := Gr.Kept.set _ _ _ _ rfl
  refine ⟨by simp [hl], ?_, fun j hj1 hj2 => ?_, fun j hj1 hj2 => ?_, fun i j hi hj g hgi hgj => ?_⟩
  · rw [← flat_set vs a h1 u']
    simpa using o2
  · have hj1' : j < vs.length := by simpa using hj1
    have hj2' : j < L.length := by simpa using hj2
    have hp := Gr.Kept.own_alien ks (Gr.Kept.own_alien hk (h.pool j hj1' hj2') a2) b1
    by_cases hja : j = a
    · subst hja; simpa using hp
    · rw [List.getElem_set_ne (Ne.symm hja), List.getElem_set_ne (Ne.symm hja)]
      exact hp
  · have hj1' : j < vs.length := by simpa using hj1
    have hj2' : j < L.length := by simpa using hj2
    by_cases hja : j = a
    · subst hja
      have := Gr.Kept.own_alien ks hown b2
      simpa [Gr.textsV] using this
    · rw [List.getElem_set_ne (Ne.symm hja), List.getElem_set_ne (Ne.symm hja)]
      refine Gr.Kept.own_alien ks (hk.own (h.part j hj1' hj2') (fun g hg hs => ?_)) b2
      rw [← hu] at hs
      exact hja (h.dist j a hj1' h1 g hg hs)
  · have hi' : i < vs.length := by simpa using hi
    have hj' : j < vs.length := by simpa using hj
    by_cases hia : i = a
    · subst hia
      by_cases hja : j = i
      · exact hja.symm
      · rw [List.getElem_set_ne (Ne.symm hja)] at hgj
        simp only [List.getElem_set_self] at hgi
        exfalso
        rcases hnew g hgi with h3 | h3
        · rw [← hu] at h3
          exact hja (h.dist j i hj' hi' g hgj h3)
        · have := ((h.part j hj' (by omega)).lt g hgj).2
          omega
    · rw [List.getElem_set_ne (Ne.symm hia)] at hgi
      by_cases hja : j = a
      · subst hja
        simp only [List.getElem_set_self] at hgj
        exfalso
        rcases hnew g hgj with h3 | h3
        · rw [← hu] at h3
          exact hia (h.dist i j hi' hj' g hgi h3)
        · have := ((h.part i hi' (by omega)).lt g hgi).2
          omega
      · rw [List.getElem_set_ne (Ne.symm hja)] at hgj
        exact h.dist i j hi' hj' g hgi hgj
theorem infoStr : (Tryz.prog.info? 9).map (fun i => (i.zero, i.size, i.bytes)) = some (some (.string ⟨#[]⟩), 1, 16) := by kernel_rfl
set_option maxRecDepth 100000 in
set_option maxHeartbeats 4000000 in
theorem takeR_any (B g a b : Nat) (x : ByteArray) (R : Rgs) (hpl : ∀ y ∈ R.rds, y.2.length ≤ 1000) (w : World) (hB : B ≤ w.heap.size) (hR : RegAt w B g R) :
    Calls Tryz.prog 104 #[.pointer (some ⟨g, 0, none⟩), .int .i64 (a : Int), .int .i64 (b : Int), .string x] w fun e w' => e = .returned (.bool (takeR R a b x).isSome) ∧ RegAt w' B g ((takeR R a b x).getD R) ∧ Below B w w' := by
  obtain ⟨i0, hi0, hz0, hz1, hz2⟩ := info_parts infoStr
  have hX : takeR R a b x = match R.rds[a]? with | none => none | some y => if b = y.2.length then some { R with rds := R.rds.set a (y.1, y.2 ++ [x]) } else none := rfl
  generalize takeR R a b x = X at hX ⊢
  have HR := hide hR
  have hg := hR.lt
  obtain ⟨_, rv, vs, hk0, hrd0⟩ := hR
  obtain ⟨ra, rc, hrv⟩ := row_shape hrd0.own
  have c600 : w.cell? ⟨g, 600, none⟩ = some rv := hk0.cell 600 _ (by rw [regC_at _ _ _ (by omega), cell_rds])
  subst hrv
  have IP := hide (fun w1 => Gr.isPlace_is (a : Int) (R.rds.length : Int) w1)
  rw [decide_eq_true (show (0 : Int) ≤ (a : Int) by omega), Bool.true_and] at IP
  by_cases hal : a < R.rds.length
  · rw [decide_eq_true (show (a : Int) < (R.rds.length : Int) by omega)] at IP
    rw [List.getElem?_eq_getElem hal] at hX
    simp only at hX
    have hav : a < vs.length := by rw [hrd0.len]; exact hal
    have hpart := hrd0.part a hav hal
    obtain ⟨pa, pc, hpv⟩ := row_shape hpart
    obtain ⟨gv, hgv⟩ : ∃ gv, ra = some ⟨gv, 0, none⟩ := by
      rcases hrd0.own.2 with ⟨h1, h2⟩ | ⟨gv, cap, cur, h1, _⟩
      · omega
      · simp at h1; exact ⟨gv, h1.1⟩
    subst hgv
    have hci : w.cell? ⟨gv, a * 2 + 1, none⟩ = some (.slice pa R.rds[a].2.length pc) := by
      rw [hrd0.own.cellAt (a * 2 + 1) (by omega), ← hpv]
      exact (flat_at vs a hav).2
    have hai : (a : Int) < (R.rds.length : Int) := by omega
    have hL := hpl _ (List.getElem_mem hal)
    have hgvl := (hrd0.own.lt gv rfl).2
    by_cases hbl : b = R.rds[a].2.length
    · rw [if_pos hbl] at hX
      subst hX
      have hne : (((b : Nat) : Int) != ((R.rds[a].2.length : Nat) : Int)) = false := by rw [hbl]; simp
      have HK0 := hide hk0
      have HRD := hide hrd0
      have HFIN : Hid (∀ (w1 w3 : World) (u' : Value), Below w.heap.size w w1 → w3.ownsRow B 9 1 u' (R.rds[a].2.length + 1) (Gr.textsV R.rds[a].2 ++ [.string x]) → w1.grownBy w3 (Value.slice pa R.rds[a].2.length pc).ownBlock → (∀ g', u'.ownBlock = some g' → (Value.slice pa R.rds[a].2.length pc).ownBlock = some g' ∨ w1.heap.size ≤ g') → RegAt (w3.setCell ⟨gv, a * 2 + 1, none⟩ u') B g { R with rds := R.rds.set a (R.rds[a].1, R.rds[a].2 ++ [x]) } ∧ Below B w (w3.setCell ⟨gv, a * 2 + 1, none⟩ u') ∧ w3.cell? ⟨g, 600, none⟩ = some (.slice (some ⟨gv, 0, none⟩) R.rds.length rc) ∧ w3.cell? ⟨gv, a * 2 + 1, none⟩ = some (.slice pa R.rds[a].2.length pc) ∧ w3.frozen? ⟨gv, a * 2 + 1, none⟩ = false) := fun w1 w3 u' hb1 hown hgr hnew => by
        have hk3 := Gr.Kept.of_grown hgr
        have hrd1 := hrd0.below hb1
        have hk1 := hk0.below hb1
        obtain ⟨t1, t2, t3, t4, t5, t6⟩ := reg_types
        have hpu := hpart
        rw [hpv] at hpu
        have al := Gr.own_alien (Gr.own_below hpu hb1) (Ne.symm t3)
        have ah := Gr.own_alien (Gr.own_below hpu hb1) (Ne.symm t5)
        have hk2 := hk1.kept_alien hk3 al
        have hro := Gr.Kept.own_alien hk3 hrd1.own ah
        have hfin := hrd1.part' hav hal hpv hown hk3 hnew
        have hgg : g ≠ gv := fun e => (hk0.apart hrd0.own t1) (by rw [e]; rfl)
        have hz1 := hb1.size
        refine ⟨⟨hg.1, _, _, ?_, hfin⟩, ?_, ?_, ?_, ?_⟩
        · rw [rds_any]
          exact hk2.set_other hgg _ _
        · exact (((hb1.mono hB).trans (hk3.below (by omega) (fun i hi => ((Gr.own_below hpu hb1).lt i hi).1)))).setCell (p := ⟨gv, a * 2 + 1, none⟩) (hrd0.own.lt gv rfl).1 _
        · exact hk2.cell 600 _ (by rw [regC_at _ _ _ (by omega), cell_rds])
        · rw [hro.cellAt (a * 2 + 1) (by omega), ← hpv]
          exact (flat_at vs a hav).2
        · exact hro.frozenAt (a * 2 + 1)
      have hpu := hpart
      rw [hpv] at hpu
      have HOD : w.drew.ownsRow B 9 1 (.slice pa R.rds[a].2.length pc) R.rds[a].2.length (Gr.textsV R.rds[a].2) := World.ownsRow.drew hpu
      have hBw : B ≤ w.heap.size := hB
      have c600a := ((Gr.below_new w.drew (Obj.cells #[.string x] 9)).cell (p := ⟨g, 600, none⟩) hg.2).trans c600
      have c600b := ((Gr.below_new w (Obj.cells #[.string x] 9)).cell (p := ⟨g, 600, none⟩) hg.2).trans c600
      have hcia := ((Gr.below_new w.drew (Obj.cells #[.string x] 9)).cell (p := ⟨gv, a * 2 + 1, none⟩) hgvl).trans hci
      have hcib := ((Gr.below_new w (Obj.cells #[.string x] 9)).cell (p := ⟨gv, a * 2 + 1, none⟩) hgvl).trans hci
      clear hk0 hrd0 hpart hpv hpu hbl HK0 HRD
      generalize hlp : R.rds[a].2.length = lp at *
      clear hlp
      generalize Gr.textsV R.rds[a].2 = tx at *
      go_enter Tryz.func104, Tryz.ntmps104
      go_wp2_with fail
      refine (unhide IP _).mono ?_
      rintro e w1 ⟨rfl, rfl⟩
      go_wp2_with fail
      go_region_law
        (first
          | (refine step_append_lies _ (by rfl) _ _ _ (by rfl) B 9 i0 _ 1 16 Tryz.underlying97 hi0 hz0 hz1 hz2 rfl (by omega) (.slice pa lp pc) lp tx (by show _ = _; kernel_rfl) (by first | exact HOD.alloc _ | exact (HOD.alloc _).drew) ⟨w1.heap.size, 0, none⟩ 1 1 [.string x] (by show _ = _; kernel_rfl) (by rfl) (World.news_of_block (heap_alloc_new w1.drew _)) (by intro u hu; simp at hu; subst hu; rfl) (by omega) (by unfold maxLen; omega) (by omega) (by simp; omega) (w1.heap.size + 1) (by simp) ?_; intro g14 cap14 w14 hown14 hgrow14 hat14 hlt14; obtain ⟨z1, z2, z3, z4, z5⟩ := unhide HFIN _ w14 (.slice (some ⟨g14, 0, none⟩) (lp + 1) cap14) ((Below.refl w1.heap.size w1).drew.alloc (Nat.le_refl _) _) hown14 hgrow14 (fun g' hg' => by have e : g14 = g' := by { simpa [Value.ownBlock] using hg' }; subst e; rcases hat14 with h | h; { exact .inl h }; { exact .inr (by simp; omega) })))
      all_goals
        clear HFIN HOD c600a c600b hcia hcib z3 z4 z5 hown14 hgrow14
        go_wp2
        go_ret
        first | exact ⟨rfl, z1, z2⟩ | exact ⟨rfl, z1.drew, z2.drew⟩
    · rw [if_neg hbl] at hX
      subst hX
      have hne : (((b : Nat) : Int) != ((R.rds[a].2.length : Nat) : Int)) = true := by rw [bne_iff_ne]; omega
      clear hk0 hrd0 hpart hpv
      go_enter Tryz.func104, Tryz.ntmps104
      go_wp2_with fail
      refine (unhide IP _).mono ?_
      rintro e w1 ⟨rfl, rfl⟩
      go_wp2
      go_ret
      exact ⟨rfl, unhide HR, Below.refl _ _⟩
  · rw [decide_eq_false (show ¬ (a : Int) < (R.rds.length : Int) by omega)] at IP
    rw [List.getElem?_eq_none (by omega)] at hX
    subst hX
    clear hk0 hrd0
    go_enter Tryz.func104, Tryz.ntmps104
    go_wp2_with fail
    refine (unhide IP _).mono ?_
    rintro e w1 ⟨rfl, rfl⟩
    go_wp2
    go_ret
    exact ⟨rfl, unhide HR, Below.refl _ _⟩
end Rg
end Go.Proofs.YtihnaddfpmjpaaaGreatDoor
namespace Go.Proofs.YtihnaddfpmjpaaaGreatDoor
namespace Rg
open Go.RowKit
open Gr (Blk Kept wp_region_pre Grown)
theorem pre_of (c : UInt8) (v : ByteArray) (h : 1 ≤ v.size) : ((v.extract 0 1).toList == [c]) = decide (byteAt v 0 = c.toNat) := by
  have hl : (v.extract 0 1).toList = [v[0]'(by omega)] := by
    rw [ByteArray.toList_eq]
    apply List.ext_getElem
    · simp; omega
    · intro i h1 h2
      have : i = 0 := by simpa using h2
      subst this
      simp
      rfl
  rw [hl, byteAt_eq (show 0 < v.size by omega), Bool.eq_iff_iff]
  simp only [beq_iff_eq, List.cons.injEq, and_true, decide_eq_true_eq]
  constructor
  · intro e; rw [e]
  · intro e; exact UInt8.toNat.inj e
theorem nums_bound (k : ByteArray) : ∀ (f i : Nat) (ns : List Nat), numsF k f i = some ns → ∀ n ∈ ns, n ≤ 99
  | 0, _, ns, h, n, hn => by simp [numsF] at h; subst h; simp at hn
  | f + 1, i, ns, h, n, hn => by
    rw [numsF] at h
    split at h
    · cases h
    · rename_i m hm
      cases hr : numsF k f (i + 2) with
      | none => rw [hr] at h; cases h
      | some l =>
        rw [hr] at h
        simp at h
        subst h
        rcases List.mem_cons.1 hn with rfl | hn
        · exact numP_le hm
        · exact nums_bound k f (i + 2) l hr n hn
theorem numsK_bound {k : ByteArray} {ns : List Nat} (h : numsK k = some ns) : ∀ n ∈ ns, n ≤ 99 := by
  unfold numsK at h
  split at h
  · cases h
  · exact nums_bound k _ _ _ h
set_option maxRecDepth 100000 in
set_option maxHeartbeats 2000000 in
theorem take_none (B g : Nat) (k v : ByteArray) (R : Rgs)
    (hk1 : (1 : Int) ≤ (k.size : Int)) (_hk8 : (k.size : Int) ≤ 1000) (w : World) (hB : B ≤ w.heap.size) (hR : RegAt w B g R)
    (KN : Hid (∀ w1, Calls Tryz.prog 101 #[.string k] w1 fun e w' => (∃ d, e = .returned (.tuple #[d, .bool false]) ∧ Gr.InOwn w' w1.heap.size d []) ∧ Below w1.heap.size w1 w'))
    (X : Option Rgs) (hX : X = none) :
    Calls Tryz.prog 74 #[.pointer (some ⟨g, 0, none⟩), .agg #[.string k, .string v]] w fun e w' => e = .returned (.bool X.isSome) ∧ RegAt w' B g (X.getD R) ∧ Below B w w' := by
  subst hX
  obtain ⟨V, hV⟩ : ∃ W, W = w.alloc (Obj.cells #[.string k, .string v] 55) := ⟨_, rfl⟩
  have bV : Below w.heap.size w V := by rw [hV]; exact Gr.below_new _ _
  have MV : Hid (Blk V w.heap.size #[.string k, .string v] 55) := by show Blk _ _ _ _; rw [hV]; exact Gr.Blk.new0
  have HR := hide hR
  have hg := hR.lt
  clear hR
  go_enter Tryz.func74, Tryz.ntmps74
  go_wp2_with fail
  rw [← hV]
  clear hV
  refine (unhide KN V).mono ?_
  rintro e w1 ⟨⟨d, rfl, hd⟩, hb1⟩
  have m1 := (unhide MV).below hb1
  have p0 : w1.cell? ⟨w.heap.size, 0, none⟩ = some (.string k) := m1.cell 0 _ rfl
  have p1 : w1.cell? ⟨w.heap.size, 1, none⟩ = some (.string v) := m1.cell 1 _ rfl
  have b1 := bV.trans (hb1.mono bV.size)
  have HR1 := hide ((unhide HR).below b1)
  obtain ⟨da, dc, rfl, hI⟩ := hd.at
  have HI := hide hI
  have hml := m1.lt
  have HB1 : Hid (Below B w w1) := b1.mono hB
  have hz1 := b1.size
  clear hd hI m1 hb1 bV b1
  go_wp2
  go_ret
  exact ⟨rfl, unhide HR1, unhide HB1⟩
set_option maxRecDepth 100000 in
set_option maxHeartbeats 2000000 in
theorem take_many (B g : Nat) (k v : ByteArray) (R : Rgs) (K : List Int) (h1 : K.length ≠ 1) (h2 : K.length ≠ 2)
    (hk1 : (1 : Int) ≤ (k.size : Int)) (_hk8 : (k.size : Int) ≤ 1000) (w : World) (hB : B ≤ w.heap.size) (hR : RegAt w B g R)
    (KN : Hid (∀ w1, Calls Tryz.prog 101 #[.string k] w1 fun e w' => (∃ d, e = .returned (.tuple #[d, .bool true]) ∧ Gr.InOwn w' w1.heap.size d K) ∧ Below w1.heap.size w1 w'))
    (X : Option Rgs) (hX : X = none) :
    Calls Tryz.prog 74 #[.pointer (some ⟨g, 0, none⟩), .agg #[.string k, .string v]] w fun e w' => e = .returned (.bool X.isSome) ∧ RegAt w' B g (X.getD R) ∧ Below B w w' := by
  subst hX
  have q1 : (((K.length : Nat) : Int) == 1) = false := by rw [beq_eq_false_iff_ne]; omega
  have q2 : (((K.length : Nat) : Int) == 2) = false := by rw [beq_eq_false_iff_ne]; omega
  obtain ⟨V, hV⟩ : ∃ W, W = w.alloc (Obj.cells #[.string k, .string v] 55) := ⟨_, rfl⟩
  have bV : Below w.heap.size w V := by rw [hV]; exact Gr.below_new _ _
  have MV : Hid (Blk V w.heap.size #[.string k, .string v] 55) := by show Blk _ _ _ _; rw [hV]; exact Gr.Blk.new0
  have HR := hide hR
  have hg := hR.lt
  clear hR
  go_enter Tryz.func74, Tryz.ntmps74
  go_wp2_with fail
  rw [← hV]
  clear hV
  refine (unhide KN V).mono ?_
  rintro e w1 ⟨⟨d, rfl, hd⟩, hb1⟩
  have m1 := (unhide MV).below hb1
  have p0 : w1.cell? ⟨w.heap.size, 0, none⟩ = some (.string k) := m1.cell 0 _ rfl
  have p1 : w1.cell? ⟨w.heap.size, 1, none⟩ = some (.string v) := m1.cell 1 _ rfl
  have b1 := bV.trans (hb1.mono bV.size)
  have HR1 := hide ((unhide HR).below b1)
  obtain ⟨da, dc, rfl, hI⟩ := hd.at
  have HI := hide hI
  have hml := m1.lt
  have HB1 : Hid (Below B w w1) := b1.mono hB
  have hz1 := b1.size
  clear hd hI m1 hb1 bV b1
  go_wp2
  all_goals
    go_ret
    exact ⟨rfl, unhide HR1, unhide HB1⟩
set_option maxRecDepth 100000 in
set_option maxHeartbeats 2000000 in
theorem take_113 (B g : Nat) (k v : ByteArray) (R : Rgs) (a : Nat) (hc : byteAt k 0 = 113)
    (hk1 : (1 : Int) ≤ (k.size : Int)) (_hk8 : (k.size : Int) ≤ 1000) (w : World) (hB : B ≤ w.heap.size) (hR : RegAt w B g R)
    (KN : Hid (∀ w1, Calls Tryz.prog 101 #[.string k] w1 fun e w' => (∃ d, e = .returned (.tuple #[d, .bool true]) ∧ Gr.InOwn w' w1.heap.size d [(a : Int)]) ∧ Below w1.heap.size w1 w'))
    (X : Option Rgs) (CL : Hid (∀ w1, B ≤ w1.heap.size → Below B w w1 → RegAt w1 B g R → Calls Tryz.prog 103 #[.pointer (some ⟨g, 0, none⟩), .int .i64 (a : Int), .string v] w1 fun e w' => e = .returned (.bool X.isSome) ∧ RegAt w' B g (X.getD R) ∧ Below B w1 w')) :
    Calls Tryz.prog 74 #[.pointer (some ⟨g, 0, none⟩), .agg #[.string k, .string v]] w fun e w' => e = .returned (.bool X.isSome) ∧ RegAt w' B g (X.getD R) ∧ Below B w w' := by
  have hl101 : ((k.extract 0 1).toList == [101]) = false := by rw [pre_of 101 k (by omega), hc]; rfl
  have hl113 : ((k.extract 0 1).toList == [113]) = true := by rw [pre_of 113 k (by omega), hc]; rfl
  have hl114 : ((k.extract 0 1).toList == [114]) = false := by rw [pre_of 114 k (by omega), hc]; rfl
  have hl118 : ((k.extract 0 1).toList == [118]) = false := by rw [pre_of 118 k (by omega), hc]; rfl
  clear hc
  obtain ⟨V, hV⟩ : ∃ W, W = w.alloc (Obj.cells #[.string k, .string v] 55) := ⟨_, rfl⟩
  have bV : Below w.heap.size w V := by rw [hV]; exact Gr.below_new _ _
  have MV : Hid (Blk V w.heap.size #[.string k, .string v] 55) := by show Blk _ _ _ _; rw [hV]; exact Gr.Blk.new0
  have HR := hide hR
  have hg := hR.lt
  clear hR
  go_enter Tryz.func74, Tryz.ntmps74
  go_wp2_with fail
  rw [← hV]
  clear hV
  refine (unhide KN V).mono ?_
  rintro e w1 ⟨⟨d, rfl, hd⟩, hb1⟩
  have m1 := (unhide MV).below hb1
  have p0 : w1.cell? ⟨w.heap.size, 0, none⟩ = some (.string k) := m1.cell 0 _ rfl
  have p1 : w1.cell? ⟨w.heap.size, 1, none⟩ = some (.string v) := m1.cell 1 _ rfl
  have b1 := bV.trans (hb1.mono bV.size)
  have HR1 := hide ((unhide HR).below b1)
  obtain ⟨da, dc, rfl, hI⟩ := hd.at
  have HI := hide hI
  have hml := m1.lt
  have HB1 : Hid (Below B w w1) := b1.mono hB
  have hz1 := b1.size
  clear hd hI m1 hb1 bV b1
  obtain ⟨bi, oi, ei, hbi, ci⟩ := (unhide HI).2 0 (by simp)
  subst ei
  rw [Nat.add_zero] at ci
  simp only [List.getElem_cons_zero] at ci
  go_wp2_with fail
  have A0 : ∀ d : Grown w1.heap.size w1, d.w.cell? ⟨bi, oi, none⟩ = some (.int .i64 (a : Int)) := fun d => d.cell hbi ci
  have A1 : ∀ d : Grown w1.heap.size w1, d.w.cell? ⟨w.heap.size, 1, none⟩ = some (.string v) := fun d => d.cell (by omega) p1
  clear ci p0 p1
  refine wp_region_pre w1.heap.size 6 2 #[true, true, true, true, true, true, false, false] (by kernel_rfl) (by kernel_rfl) (by kernel_rfl) (by kernel_rfl) (by kernel_rfl) (by kernel_rfl) ?_
  (try simp only [List.take_succ_cons, List.take_zero])
  repeat (go_big_quiet_step (fail))
  refine wpQuiet_nil ?_
  rintro w5 ⟨d5, rfl⟩
  obtain ⟨W5, hb5⟩ := d5
  dsimp only
  clear A0 A1
  refine wpAny_ready (rs := [6]) (fuel := 1) (by kernel_rfl) (by simp) ?_
  refine AllReady.cons (i := 6) rfl (fun K hK => ?_) AllReady.nil
  go_simp
  refine (unhide CL W5 (by have := hb5.size; omega) ((unhide HB1).trans (hb5.mono (by omega))) ((unhide HR1).below hb5)).mono ?_
  rintro e w6 ⟨rfl, h6, b6⟩
  refine hK _ _ ?_
  clear hK K
  (try simp only [List.setIfInBounds_toArray])
  refine wpAny_ready (rs := [7]) (fuel := 0) (by kernel_rfl) (by simp) ?_
  refine AllReady.cons (i := 7) rfl (fun K hK => ?_) AllReady.nil
  go_simp
  refine hK _ _ ?_
  clear hK K
  refine ⟨by kernel_rfl, ?_⟩
  have HF := hide h6
  have HB6 := hide (((unhide HB1).trans (hb5.mono (show B ≤ w1.heap.size by omega))).trans b6)
  clear h6 b6 hb5
  go_wp2
  go_ret
  exact ⟨rfl, unhide HF, unhide HB6⟩
set_option maxRecDepth 100000 in
set_option maxHeartbeats 2000000 in
theorem take_118 (B g : Nat) (k v : ByteArray) (R : Rgs) (a : Nat) (hc : byteAt k 0 = 118)
    (hk1 : (1 : Int) ≤ (k.size : Int)) (_hk8 : (k.size : Int) ≤ 1000) (w : World) (hB : B ≤ w.heap.size) (hR : RegAt w B g R)
    (KN : Hid (∀ w1, Calls Tryz.prog 101 #[.string k] w1 fun e w' => (∃ d, e = .returned (.tuple #[d, .bool true]) ∧ Gr.InOwn w' w1.heap.size d [(a : Int)]) ∧ Below w1.heap.size w1 w'))
    (X : Option Rgs) (CL : Hid (∀ w1, B ≤ w1.heap.size → Below B w w1 → RegAt w1 B g R → Calls Tryz.prog 105 #[.pointer (some ⟨g, 0, none⟩), .int .i64 (a : Int), .string v] w1 fun e w' => e = .returned (.bool X.isSome) ∧ RegAt w' B g (X.getD R) ∧ Below B w1 w')) :
    Calls Tryz.prog 74 #[.pointer (some ⟨g, 0, none⟩), .agg #[.string k, .string v]] w fun e w' => e = .returned (.bool X.isSome) ∧ RegAt w' B g (X.getD R) ∧ Below B w w' := by
  have hl101 : ((k.extract 0 1).toList == [101]) = false := by rw [pre_of 101 k (by omega), hc]; rfl
  have hl113 : ((k.extract 0 1).toList == [113]) = false := by rw [pre_of 113 k (by omega), hc]; rfl
  have hl114 : ((k.extract 0 1).toList == [114]) = false := by rw [pre_of 114 k (by omega), hc]; rfl
  have hl118 : ((k.extract 0 1).toList == [118]) = true := by rw [pre_of 118 k (by omega), hc]; rfl
  clear hc
  obtain ⟨V, hV⟩ : ∃ W, W = w.alloc (Obj.cells #[.string k, .string v] 55) := ⟨_, rfl⟩
  have bV : Below w.heap.size w V := by rw [hV]; exact Gr.below_new _ _
  have MV : Hid (Blk V w.heap.size #[.string k, .string v] 55) := by show Blk _ _ _ _; rw [hV]; exact Gr.Blk.new0
  have HR := hide hR
  have hg := hR.lt
  clear hR
  go_enter Tryz.func74, Tryz.ntmps74
  go_wp2_with fail
  rw [← hV]
  clear hV
  refine (unhide KN V).mono ?_
  rintro e w1 ⟨⟨d, rfl, hd⟩, hb1⟩
  have m1 := (unhide MV).below hb1
  have p0 : w1.cell? ⟨w.heap.size, 0, none⟩ = some (.string k) := m1.cell 0 _ rfl
  have p1 : w1.cell? ⟨w.heap.size, 1, none⟩ = some (.string v) := m1.cell 1 _ rfl
  have b1 := bV.trans (hb1.mono bV.size)
  have HR1 := hide ((unhide HR).below b1)
  obtain ⟨da, dc, rfl, hI⟩ := hd.at
  have HI := hide hI
  have hml := m1.lt
  have HB1 : Hid (Below B w w1) := b1.mono hB
  have hz1 := b1.size
  clear hd hI m1 hb1 bV b1
  obtain ⟨bi, oi, ei, hbi, ci⟩ := (unhide HI).2 0 (by simp)
  subst ei
  rw [Nat.add_zero] at ci
  simp only [List.getElem_cons_zero] at ci
  go_wp2_with fail
  have A0 : ∀ d : Grown w1.heap.size w1, d.w.cell? ⟨bi, oi, none⟩ = some (.int .i64 (a : Int)) := fun d => d.cell hbi ci
  have A1 : ∀ d : Grown w1.heap.size w1, d.w.cell? ⟨w.heap.size, 1, none⟩ = some (.string v) := fun d => d.cell (by omega) p1
  clear ci p0 p1
  refine wp_region_pre w1.heap.size 6 2 #[true, true, true, true, true, true, false, false] (by kernel_rfl) (by kernel_rfl) (by kernel_rfl) (by kernel_rfl) (by kernel_rfl) (by kernel_rfl) ?_
  (try simp only [List.take_succ_cons, List.take_zero])
  repeat (go_big_quiet_step (fail))
  refine wpQuiet_nil ?_
  rintro w5 ⟨d5, rfl⟩
  obtain ⟨W5, hb5⟩ := d5
  dsimp only
  clear A0 A1
  refine wpAny_ready (rs := [6]) (fuel := 1) (by kernel_rfl) (by simp) ?_
  refine AllReady.cons (i := 6) rfl (fun K hK => ?_) AllReady.nil
  go_simp
  refine (unhide CL W5 (by have := hb5.size; omega) ((unhide HB1).trans (hb5.mono (by omega))) ((unhide HR1).below hb5)).mono ?_
  rintro e w6 ⟨rfl, h6, b6⟩
  refine hK _ _ ?_
  clear hK K
  (try simp only [List.setIfInBounds_toArray])
  refine wpAny_ready (rs := [7]) (fuel := 0) (by kernel_rfl) (by simp) ?_
  refine AllReady.cons (i := 7) rfl (fun K hK => ?_) AllReady.nil
  go_simp
  refine hK _ _ ?_
  clear hK K
  refine ⟨by kernel_rfl, ?_⟩
  have HF := hide h6
  have HB6 := hide (((unhide HB1).trans (hb5.mono (show B ≤ w1.heap.size by omega))).trans b6)
  clear h6 b6 hb5
  go_wp2
  go_ret
  exact ⟨rfl, unhide HF, unhide HB6⟩
set_option maxRecDepth 100000 in
set_option maxHeartbeats 2000000 in
theorem take_101 (B g : Nat) (k v : ByteArray) (R : Rgs) (a b : Nat) (hc : byteAt k 0 = 101)
    (hk1 : (1 : Int) ≤ (k.size : Int)) (_hk8 : (k.size : Int) ≤ 1000) (w : World) (hB : B ≤ w.heap.size) (hR : RegAt w B g R)
    (KN : Hid (∀ w1, Calls Tryz.prog 101 #[.string k] w1 fun e w' => (∃ d, e = .returned (.tuple #[d, .bool true]) ∧ Gr.InOwn w' w1.heap.size d [(a : Int), (b : Int)]) ∧ Below w1.heap.size w1 w'))
    (X : Option Rgs) (CL : Hid (∀ w1, B ≤ w1.heap.size → Below B w w1 → RegAt w1 B g R → Calls Tryz.prog 102 #[.pointer (some ⟨g, 0, none⟩), .int .i64 (a : Int), .int .i64 (b : Int), .string v] w1 fun e w' => e = .returned (.bool X.isSome) ∧ RegAt w' B g (X.getD R) ∧ Below B w1 w')) :
    Calls Tryz.prog 74 #[.pointer (some ⟨g, 0, none⟩), .agg #[.string k, .string v]] w fun e w' => e = .returned (.bool X.isSome) ∧ RegAt w' B g (X.getD R) ∧ Below B w w' := by
  have hl101 : ((k.extract 0 1).toList == [101]) = true := by rw [pre_of 101 k (by omega), hc]; rfl
  have hl113 : ((k.extract 0 1).toList == [113]) = false := by rw [pre_of 113 k (by omega), hc]; rfl
  have hl114 : ((k.extract 0 1).toList == [114]) = false := by rw [pre_of 114 k (by omega), hc]; rfl
  have hl118 : ((k.extract 0 1).toList == [118]) = false := by rw [pre_of 118 k (by omega), hc]; rfl
  clear hc
  obtain ⟨V, hV⟩ : ∃ W, W = w.alloc (Obj.cells #[.string k, .string v] 55) := ⟨_, rfl⟩
  have bV : Below w.heap.size w V := by rw [hV]; exact Gr.below_new _ _
  have MV : Hid (Blk V w.heap.size #[.string k, .string v] 55) := by show Blk _ _ _ _; rw [hV]; exact Gr.Blk.new0
  have HR := hide hR
  have hg := hR.lt
  clear hR
  go_enter Tryz.func74, Tryz.ntmps74
  go_wp2_with fail
  rw [← hV]
  clear hV
  refine (unhide KN V).mono ?_
  rintro e w1 ⟨⟨d, rfl, hd⟩, hb1⟩
  have m1 := (unhide MV).below hb1
  have p0 : w1.cell? ⟨w.heap.size, 0, none⟩ = some (.string k) := m1.cell 0 _ rfl
  have p1 : w1.cell? ⟨w.heap.size, 1, none⟩ = some (.string v) := m1.cell 1 _ rfl
  have b1 := bV.trans (hb1.mono bV.size)
  have HR1 := hide ((unhide HR).below b1)
  obtain ⟨da, dc, rfl, hI⟩ := hd.at
  have HI := hide hI
  have hml := m1.lt
  have HB1 : Hid (Below B w w1) := b1.mono hB
  have hz1 := b1.size
  clear hd hI m1 hb1 bV b1
  obtain ⟨bi, oi, ei, hbi, ci⟩ := (unhide HI).2 0 (by simp)
  obtain ⟨bi2, oi2, ei2, hbi2, ci2⟩ := (unhide HI).2 1 (by simp)
  subst ei
  simp only [Option.some.injEq, Addr.mk.injEq, and_true] at ei2
  obtain ⟨rfl, rfl⟩ := ei2
  rw [Nat.add_zero] at ci
  simp only [List.getElem_cons_zero, List.getElem_cons_succ] at ci ci2
  go_wp2_with fail
  have A0 : ∀ d : Grown w1.heap.size w1, d.w.cell? ⟨bi, oi, none⟩ = some (.int .i64 (a : Int)) := fun d => d.cell hbi ci
  have A2 : ∀ d : Grown w1.heap.size w1, d.w.cell? ⟨bi, oi + 1, none⟩ = some (.int .i64 (b : Int)) := fun d => d.cell hbi ci2
  have A1 : ∀ d : Grown w1.heap.size w1, d.w.cell? ⟨w.heap.size, 1, none⟩ = some (.string v) := fun d => d.cell (by omega) p1
  clear ci ci2 p0 p1
  refine wp_region_pre w1.heap.size 9 2 #[true, true, true, true, true, true, true, true, true, false, false] (by kernel_rfl) (by kernel_rfl) (by kernel_rfl) (by kernel_rfl) (by kernel_rfl) (by kernel_rfl) ?_
  (try simp only [List.take_succ_cons, List.take_zero])
  repeat (go_big_quiet_step (fail))
  refine wpQuiet_nil ?_
  rintro w5 ⟨d5, rfl⟩
  obtain ⟨W5, hb5⟩ := d5
  dsimp only
  clear A0 A1 A2
  refine wpAny_ready (rs := [9]) (fuel := 1) (by kernel_rfl) (by simp) ?_
  refine AllReady.cons (i := 9) rfl (fun K hK => ?_) AllReady.nil
  go_simp
  refine (unhide CL W5 (by have := hb5.size; omega) ((unhide HB1).trans (hb5.mono (by omega))) ((unhide HR1).below hb5)).mono ?_
  rintro e w6 ⟨rfl, h6, b6⟩
  refine hK _ _ ?_
  clear hK K
  (try simp only [List.setIfInBounds_toArray])
  refine wpAny_ready (rs := [10]) (fuel := 0) (by kernel_rfl) (by simp) ?_
  refine AllReady.cons (i := 10) rfl (fun K hK => ?_) AllReady.nil
  go_simp
  refine hK _ _ ?_
  clear hK K
  refine ⟨by kernel_rfl, ?_⟩
  have HF := hide h6
  have HB6 := hide (((unhide HB1).trans (hb5.mono (show B ≤ w1.heap.size by omega))).trans b6)
  clear h6 b6 hb5
  go_wp2
  go_ret
  exact ⟨rfl, unhide HF, unhide HB6⟩
set_option maxRecDepth 100000 in
set_option maxHeartbeats 2000000 in
theorem take_114 (B g : Nat) (k v : ByteArray) (R : Rgs) (a b : Nat) (hc : byteAt k 0 = 114)
    (hk1 : (1 : Int) ≤ (k.size : Int)) (_hk8 : (k.size : Int) ≤ 1000) (w : World) (hB : B ≤ w.heap.size) (hR : RegAt w B g R)
    (KN : Hid (∀ w1, Calls Tryz.prog 101 #[.string k] w1 fun e w' => (∃ d, e = .returned (.tuple #[d, .bool true]) ∧ Gr.InOwn w' w1.heap.size d [(a : Int), (b : Int)]) ∧ Below w1.heap.size w1 w'))
    (X : Option Rgs) (CL : Hid (∀ w1, B ≤ w1.heap.size → Below B w w1 → RegAt w1 B g R → Calls Tryz.prog 104 #[.pointer (some ⟨g, 0, none⟩), .int .i64 (a : Int), .int .i64 (b : Int), .string v] w1 fun e w' => e = .returned (.bool X.isSome) ∧ RegAt w' B g (X.getD R) ∧ Below B w1 w')) :
    Calls Tryz.prog 74 #[.pointer (some ⟨g, 0, none⟩), .agg #[.string k, .string v]] w fun e w' => e = .returned (.bool X.isSome) ∧ RegAt w' B g (X.getD R) ∧ Below B w w' := by
  have hl101 : ((k.extract 0 1).toList == [101]) = false := by rw [pre_of 101 k (by omega), hc]; rfl
  have hl113 : ((k.extract 0 1).toList == [113]) = false := by rw [pre_of 113 k (by omega), hc]; rfl
  have hl114 : ((k.extract 0 1).toList == [114]) = true := by rw [pre_of 114 k (by omega), hc]; rfl
  have hl118 : ((k.extract 0 1).toList == [118]) = false := by rw [pre_of 118 k (by omega), hc]; rfl
  clear hc
  obtain ⟨V, hV⟩ : ∃ W, W = w.alloc (Obj.cells #[.string k, .string v] 55) := ⟨_, rfl⟩
  have bV : Below w.heap.size w V := by rw [hV]; exact Gr.below_new _ _
  have MV : Hid (Blk V w.heap.size #[.string k, .string v] 55) := by show Blk _ _ _ _; rw [hV]; exact Gr.Blk.new0
  have HR := hide hR
  have hg := hR.lt
  clear hR
  go_enter Tryz.func74, Tryz.ntmps74
  go_wp2_with fail
  rw [← hV]
  clear hV
  refine (unhide KN V).mono ?_
  rintro e w1 ⟨⟨d, rfl, hd⟩, hb1⟩
  have m1 := (unhide MV).below hb1
  have p0 : w1.cell? ⟨w.heap.size, 0, none⟩ = some (.string k) := m1.cell 0 _ rfl
  have p1 : w1.cell? ⟨w.heap.size, 1, none⟩ = some (.string v) := m1.cell 1 _ rfl
  have b1 := bV.trans (hb1.mono bV.size)
  have HR1 := hide ((unhide HR).below b1)
  obtain ⟨da, dc, rfl, hI⟩ := hd.at
  have HI := hide hI
  have hml := m1.lt
  have HB1 : Hid (Below B w w1) := b1.mono hB
  have hz1 := b1.size
  clear hd hI m1 hb1 bV b1
  obtain ⟨bi, oi, ei, hbi, ci⟩ := (unhide HI).2 0 (by simp)
  obtain ⟨bi2, oi2, ei2, hbi2, ci2⟩ := (unhide HI).2 1 (by simp)
  subst ei
  simp only [Option.some.injEq, Addr.mk.injEq, and_true] at ei2
  obtain ⟨rfl, rfl⟩ := ei2
  rw [Nat.add_zero] at ci
  simp only [List.getElem_cons_zero, List.getElem_cons_succ] at ci ci2
  go_wp2_with fail
  have A0 : ∀ d : Grown w1.heap.size w1, d.w.cell? ⟨bi, oi, none⟩ = some (.int .i64 (a : Int)) := fun d => d.cell hbi ci
  have A2 : ∀ d : Grown w1.heap.size w1, d.w.cell? ⟨bi, oi + 1, none⟩ = some (.int .i64 (b : Int)) := fun d => d.cell hbi ci2
  have A1 : ∀ d : Grown w1.heap.size w1, d.w.cell? ⟨w.heap.size, 1, none⟩ = some (.string v) := fun d => d.cell (by omega) p1
  clear ci ci2 p0 p1
  refine wp_region_pre w1.heap.size 9 2 #[true, true, true, true, true, true, true, true, true, false, false] (by kernel_rfl) (by kernel_rfl) (by kernel_rfl) (by kernel_rfl) (by kernel_rfl) (by kernel_rfl) ?_
  (try simp only [List.take_succ_cons, List.take_zero])
  repeat (go_big_quiet_step (fail))
  refine wpQuiet_nil ?_
  rintro w5 ⟨d5, rfl⟩
  obtain ⟨W5, hb5⟩ := d5
  dsimp only
  clear A0 A1 A2
  refine wpAny_ready (rs := [9]) (fuel := 1) (by kernel_rfl) (by simp) ?_
  refine AllReady.cons (i := 9) rfl (fun K hK => ?_) AllReady.nil
  go_simp
  refine (unhide CL W5 (by have := hb5.size; omega) ((unhide HB1).trans (hb5.mono (by omega))) ((unhide HR1).below hb5)).mono ?_
  rintro e w6 ⟨rfl, h6, b6⟩
  refine hK _ _ ?_
  clear hK K
  (try simp only [List.setIfInBounds_toArray])
  refine wpAny_ready (rs := [10]) (fuel := 0) (by kernel_rfl) (by simp) ?_
  refine AllReady.cons (i := 10) rfl (fun K hK => ?_) AllReady.nil
  go_simp
  refine hK _ _ ?_
  clear hK K
  refine ⟨by kernel_rfl, ?_⟩
  have HF := hide h6
  have HB6 := hide (((unhide HB1).trans (hb5.mono (show B ≤ w1.heap.size by omega))).trans b6)
  clear h6 b6 hb5
  go_wp2
  go_ret
  exact ⟨rfl, unhide HF, unhide HB6⟩
set_option maxRecDepth 100000 in
set_option maxHeartbeats 2000000 in
theorem take_other1 (B g : Nat) (k v : ByteArray) (R : Rgs) (a : Nat) (hc113 : byteAt k 0 ≠ 113) (hc118 : byteAt k 0 ≠ 118)
    (hk1 : (1 : Int) ≤ (k.size : Int)) (_hk8 : (k.size : Int) ≤ 1000) (w : World) (hB : B ≤ w.heap.size) (hR : RegAt w B g R)
    (KN : Hid (∀ w1, Calls Tryz.prog 101 #[.string k] w1 fun e w' => (∃ d, e = .returned (.tuple #[d, .bool true]) ∧ Gr.InOwn w' w1.heap.size d [(a : Int)]) ∧ Below w1.heap.size w1 w'))
    (X : Option Rgs) (hX : X = none) :
    Calls Tryz.prog 74 #[.pointer (some ⟨g, 0, none⟩), .agg #[.string k, .string v]] w fun e w' => e = .returned (.bool X.isSome) ∧ RegAt w' B g (X.getD R) ∧ Below B w w' := by
  subst hX
  have hl113 : ((k.extract 0 1).toList == [113]) = false := by rw [pre_of 113 k (by omega)]; exact decide_eq_false hc113
  have hl118 : ((k.extract 0 1).toList == [118]) = false := by rw [pre_of 118 k (by omega)]; exact decide_eq_false hc118
  clear hc113 hc118
  obtain ⟨V, hV⟩ : ∃ W, W = w.alloc (Obj.cells #[.string k, .string v] 55) := ⟨_, rfl⟩
  have bV : Below w.heap.size w V := by rw [hV]; exact Gr.below_new _ _
  have MV : Hid (Blk V w.heap.size #[.string k, .string v] 55) := by show Blk _ _ _ _; rw [hV]; exact Gr.Blk.new0
  have HR := hide hR
  have hg := hR.lt
  clear hR
  go_enter Tryz.func74, Tryz.ntmps74
  go_wp2_with fail
  rw [← hV]
  clear hV
  refine (unhide KN V).mono ?_
  rintro e w1 ⟨⟨d, rfl, hd⟩, hb1⟩
  have m1 := (unhide MV).below hb1
  have p0 : w1.cell? ⟨w.heap.size, 0, none⟩ = some (.string k) := m1.cell 0 _ rfl
  have p1 : w1.cell? ⟨w.heap.size, 1, none⟩ = some (.string v) := m1.cell 1 _ rfl
  have b1 := bV.trans (hb1.mono bV.size)
  have HR1 := hide ((unhide HR).below b1)
  obtain ⟨da, dc, rfl, hI⟩ := hd.at
  have HI := hide hI
  have hml := m1.lt
  have HB1 : Hid (Below B w w1) := b1.mono hB
  have hz1 := b1.size
  clear hd hI m1 hb1 bV b1
  go_wp2
  all_goals
    go_ret
    exact ⟨rfl, unhide HR1, unhide HB1⟩
set_option maxRecDepth 100000 in
set_option maxHeartbeats 2000000 in
theorem take_other2 (B g : Nat) (k v : ByteArray) (R : Rgs) (a b : Nat) (hc101 : byteAt k 0 ≠ 101) (hc114 : byteAt k 0 ≠ 114)
    (hk1 : (1 : Int) ≤ (k.size : Int)) (_hk8 : (k.size : Int) ≤ 1000) (w : World) (hB : B ≤ w.heap.size) (hR : RegAt w B g R)
    (KN : Hid (∀ w1, Calls Tryz.prog 101 #[.string k] w1 fun e w' => (∃ d, e = .returned (.tuple #[d, .bool true]) ∧ Gr.InOwn w' w1.heap.size d [(a : Int), (b : Int)]) ∧ Below w1.heap.size w1 w'))
    (X : Option Rgs) (hX : X = none) :
    Calls Tryz.prog 74 #[.pointer (some ⟨g, 0, none⟩), .agg #[.string k, .string v]] w fun e w' => e = .returned (.bool X.isSome) ∧ RegAt w' B g (X.getD R) ∧ Below B w w' := by
  subst hX
  have hl101 : ((k.extract 0 1).toList == [101]) = false := by rw [pre_of 101 k (by omega)]; exact decide_eq_false hc101
  have hl114 : ((k.extract 0 1).toList == [114]) = false := by rw [pre_of 114 k (by omega)]; exact decide_eq_false hc114
  clear hc101 hc114
  obtain ⟨V, hV⟩ : ∃ W, W = w.alloc (Obj.cells #[.string k, .string v] 55) := ⟨_, rfl⟩
  have bV : Below w.heap.size w V := by rw [hV]; exact Gr.below_new _ _
  have MV : Hid (Blk V w.heap.size #[.string k, .string v] 55) := by show Blk _ _ _ _; rw [hV]; exact Gr.Blk.new0
  have HR := hide hR
  have hg := hR.lt
  clear hR
  go_enter Tryz.func74, Tryz.ntmps74
  go_wp2_with fail
  rw [← hV]
  clear hV
  refine (unhide KN V).mono ?_
  rintro e w1 ⟨⟨d, rfl, hd⟩, hb1⟩
  have m1 := (unhide MV).below hb1
  have p0 : w1.cell? ⟨w.heap.size, 0, none⟩ = some (.string k) := m1.cell 0 _ rfl
  have p1 : w1.cell? ⟨w.heap.size, 1, none⟩ = some (.string v) := m1.cell 1 _ rfl
  have b1 := bV.trans (hb1.mono bV.size)
  have HR1 := hide ((unhide HR).below b1)
  obtain ⟨da, dc, rfl, hI⟩ := hd.at
  have HI := hide hI
  have hml := m1.lt
  have HB1 : Hid (Below B w w1) := b1.mono hB
  have hz1 := b1.size
  clear hd hI m1 hb1 bV b1
  go_wp2
  all_goals
    go_ret
    exact ⟨rfl, unhide HR1, unhide HB1⟩
theorem take_any (B g : Nat) (k v : ByteArray) (R : Rgs) (hk1 : 1 ≤ k.size) (hk8 : k.size ≤ 1000) (hv : v.size ≤ 1000) (hrl : R.rds.length ≤ 1000) (hpl : ∀ y ∈ R.rds, y.2.length ≤ 1000) (w : World) (hB : B ≤ w.heap.size) (ht : Tab B w) (hR : RegAt w B g R) :
    Calls Tryz.prog 74 #[.pointer (some ⟨g, 0, none⟩), .agg #[.string k, .string v]] w fun e w' => e = .returned (.bool (takeP R k v).isSome) ∧ RegAt w' B g ((takeP R k v).getD R) ∧ Below B w w' := by
  have KN : ∀ w1, Calls Tryz.prog 101 #[.string k] w1 fun e w' => (∃ d, e = .returned (.tuple #[d, .bool (numsK k).isSome]) ∧ Gr.InOwn w' w1.heap.size d (numsI ((numsK k).getD []))) ∧ Below w1.heap.size w1 w' := fun w1 => keyNums_any k hk8 w1
  have hb := fun ns h => numsK_bound (k := k) (ns := ns) h
  unfold takeP
  cases hn : numsK k with
  | none => rw [hn] at KN; exact take_none B g k v R (by omega) (by omega) w hB hR KN none rfl
  | some ns =>
    rw [hn] at KN
    have hb := hb ns hn
    match ns, KN, hb with
    | [], KN, _ => exact take_many B g k v R [] (by simp) (by simp) (by omega) (by omega) w hB hR KN none rfl
    | [a], KN, hb =>
      have ha := hb a (by simp)
      show Calls _ _ _ _ (fun e w' => e = .returned (.bool (take1 R (byteAt k 0) a v).isSome) ∧ RegAt w' B g ((take1 R (byteAt k 0) a v).getD R) ∧ Below B w w')
      unfold take1
      by_cases h1 : byteAt k 0 = 113
      · rw [if_pos h1]
        exact take_113 B g k v R a h1 (by omega) (by omega) w hB hR KN _ (fun w1 hB1 _ hR1 => takeQ_any B g a v R hv (by omega) hrl w1 hB1 hR1)
      · rw [if_neg h1]
        by_cases h2 : byteAt k 0 = 118
        · rw [if_pos h2]
          exact take_118 B g k v R a h2 (by omega) (by omega) w hB hR KN _ (fun w1 hB1 hb1 hR1 => takeM_any B g a v R hv (by omega) w1 hB1 (ht w1 hb1) hR1)
        · rw [if_neg h2]
          exact take_other1 B g k v R a h1 h2 (by omega) (by omega) w hB hR KN none rfl
    | [a, b], KN, hb =>
      have ha := hb a (by simp)
      have hb' := hb b (by simp)
      show Calls _ _ _ _ (fun e w' => e = .returned (.bool (take2 R (byteAt k 0) a b v).isSome) ∧ RegAt w' B g ((take2 R (byteAt k 0) a b v).getD R) ∧ Below B w w')
      unfold take2
      by_cases h1 : byteAt k 0 = 101
      · rw [if_pos h1]
        exact take_101 B g k v R a b h1 (by omega) (by omega) w hB hR KN _ (fun w1 hB1 _ hR1 => takeL_any B g a b v R hv (by omega) (by omega) w1 hB1 hR1)
      · rw [if_neg h1]
        by_cases h2 : byteAt k 0 = 114
        · rw [if_pos h2]
          exact take_114 B g k v R a b h2 (by omega) (by omega) w hB hR KN _ (fun w1 hB1 _ hR1 => takeR_any B g a b v R hpl w1 hB1 hR1)
        · rw [if_neg h2]
          exact take_other2 B g k v R a b h1 h2 (by omega) (by omega) w hB hR KN none rfl
    | a :: b :: c :: l, KN, _ => exact take_many B g k v R (numsI (a :: b :: c :: l)) (by simp [numsI]) (by simp [numsI]) (by omega) (by omega) w hB hR KN none rfl
end Rg
end Go.Proofs.YtihnaddfpmjpaaaGreatDoor
