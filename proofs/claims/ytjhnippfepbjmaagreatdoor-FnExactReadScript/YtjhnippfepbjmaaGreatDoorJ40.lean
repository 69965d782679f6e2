/-
  Texts of this claim, one behind the other: Si1, Si2.
-/
import Derived.Test.YtjhnippfepbjmaaGreatDoorJ15
import Derived.Test.YtjhnippfepbjmaaGreatDoorJ39
import Derived.Lib.OthersKept
import Derived.WalkSmall
import Derived.Test.YtjhnippfepbjmaaGreatDoorJ13

/-
  The program's readers of lines, of numbers and of raw bytes: impl.linesOf, readNumbers, rawText, beginsWithFigure.
-/
namespace Go.Proofs.YtjhnippfepbjmaaGreatDoor
namespace Sc
open Go.RowKit
open Gr (own_below own_lower InOwn InAt)

set_option maxRecDepth 100000 in
set_option maxHeartbeats 2000000 in
theorem implLines (t : ByteArray) (hs : t.size ≤ 1000000) (w : World) :
    Calls Tryz.prog 14 #[.string t] w fun e w' => TxPost w w' e (lines t) ∧ Below w.heap.size w w' := by
  obtain ⟨i0, hi0, hz0, hz1, hz2⟩ := info_parts info9
  obtain ⟨R, hR⟩ : ∃ R, R = lines t := ⟨_, rfl⟩
  rw [← hR]
  have HR0 := hide hR
  clear hR
  go_enter Tryz.func14, Tryz.ntmps14
  go_wp2_with fail
  go_loopw [3, 4] (fun out af wr => ∃ (pos bg f : Nat) (done : List ByteArray), af = .int .i64 bg ∧ Hid (pos + f = t.size) ∧ pos ≤ t.size ∧ bg ≤ pos ∧ done.length ≤ bg ∧ Hid (done ++ linesF t f bg pos = R) ∧ wr.heap[w.heap.size]? = some (.stringIter t pos) ∧ wr.ownsRow (w.heap.size + 1) 9 1 out done.length (tx done) ∧ Below w.heap.size w wr)
    (fun _ _ wr => t.size - wr.iterPos w.heap.size)
  case atStart =>
    exact ⟨0, 0, t.size, [], rfl, by show _ = _; omega, by omega, by omega, by simp, by show _ = _; rw [unhide HR0]; rfl, heap_alloc_new w _, World.ownsRow_nil _ _ 9 1, Gr.below_new w _⟩
  case round =>
    obtain ⟨pos, bg, f, done, rfl, HF, hps, hbg, hdl, HR, hit, hown, hb⟩ := hrel
    have hbs := hb.size
    have hsz : w.heap.size < wr.heap.size := (Array.getElem?_eq_some_iff.1 hit).1
    have hip := iterPos_of hit
    by_cases hlt : pos < t.size
    · obtain ⟨q1, q2, q3, q4, q5, q6⟩ := rune_at t pos hlt
      have hnx : ∀ ty, (Instr.next (.pointer (some ⟨w.heap.size, 0, none⟩)) true ty).run Tryz.prog wr = _ := fun ty => Lib.run_next_any_at wr w.heap.size t pos ty hit hlt
      generalize Utf8.decode t pos = ru at q1 q2 q3 q4 q5 q6 hnx
      obtain ⟨rn, wd⟩ := ru
      simp only at q1 q2 q3 q4 q5 q6 hnx
      have hit2 := Lib.iterAt_heap wr w.heap.size t pos (pos + wd) hit
      have hown2 := ownsRow_iterAt hown (Nat.lt_succ_self w.heap.size) t (pos + wd)
      have hb2 := Lib.below_iterAt hb (Nat.le_refl _) t (pos + wd)
      have hs2 : (wr.iterAt w.heap.size t (pos + wd)).heap.size = wr.heap.size := Lib.iterAt_size _ _ _ _
      obtain ⟨W2, hW2⟩ : ∃ W, W = wr.iterAt w.heap.size t (pos + wd) := ⟨_, rfl⟩
      rw [← hW2] at hit2 hown2 hb2 hs2 hnx
      have HS2 := hide hs2
      have hs3 : w.heap.size < W2.heap.size := by omega
      have HIP := hide hip
      clear hW2 hown hb hs2 hip
      by_cases h1 : rn = 10
      · obtain rfl := q5 h1
        subst h1
        have HE := hide (q4.1 rfl)
        obtain ⟨f, rfl⟩ : ∃ f', f = f' + 1 := ⟨f - 1, by have := unhide HF; omega⟩
        have hsl : ∀ u, (Instr.slice 9 (.string t) (some (.int .i64 (bg : Int))) (some (.int .i64 (pos : Int))) none).run Tryz.prog u = .ok (.string (t.extract bg pos)) u := fun u => by
          have h := run_slice_string (P := Tryz.prog) u 9 t .i64 .i64 (bg : Int) (pos : Int) Tryz.underlying9 (by omega) (by omega) (by omega)
          simpa using h
        clear q1 q2 q3 q4 q5 q6
        go_wp2_with (at_builtin; refine wpList_append_own _ rfl _ _ 28 rfl (w.heap.size + 1) 9 i0 (.string ⟨#[]⟩) 1 16 Tryz.underlying28 hi0 hz0 hz1 hz2 rfl (by decide) _ _ _ rfl (hown2.alloc _) ⟨W2.heap.size, 0, none⟩ 1 1 [.string (t.extract bg pos)] rfl rfl (cell_one_new _ _ _) (one_text _) ?_ ?_ ?_ ?_)
        · unfold maxLen; omega
        · omega
        · first | omega | (simp; omega)
        intro v' w1 hown' hgrow _
        have hit3 : w1.heap[w.heap.size]? = some (.stringIter t (pos + 1)) := by
          rw [hgrow.block w.heap.size (by rw [World.size_alloc]; omega) (fun e => by have := hown2.lt w.heap.size e.symm; omega)]
          exact ((Gr.below_new W2 _).block w.heap.size (by omega)).trans hit2
        have hb3 : Below w.heap.size w w1 := (hb2.alloc (by omega) _).grown hgrow (by simp; omega) (fun k hk => by have := (hown2.lt k hk).1; omega)
        have HO1 := hide (tx_snoc hown')
        have HI3 := hide (iterPos_of hit3)
        clear hown' hgrow hown2 hb2
        go_wp2
        go_roundw
        case rel =>
          refine ⟨pos + 1, pos + 1, f, done ++ [t.extract bg pos], by go_num, by show _ = _; have := unhide HF; omega, by omega, Nat.le_refl _, by simp; omega, ?_, hit3, unhide HO1, hb3⟩
          show _ = _
          rw [← unhide HR, linesF_hit (unhide HE)]
          simp
        case measure => rw [unhide HI3, unhide HIP]; omega
      · have h1b : ((rn : Int) == 10) = false := by rw [beq_eq_false_iff_ne]; omega
        have HE : Hid (linesF t f bg pos = linesF t (f - wd) bg (pos + wd)) := by
          show _ = _
          have hf := unhide HF
          conv => lhs; rw [show f = (f - wd) + wd by omega]
          refine linesF_skip t bg wd (f - wd) pos (fun j hj => ?_)
          rcases Nat.eq_zero_or_pos j with rfl | hj0
          · exact fun e => h1 (q4.2 (by simpa using e))
          · exact q3 j hj0 hj
        have HI3 := hide (iterPos_of hit2)
        have HO := hide hown2
        clear hown2 q3 q4 q5 q6
        go_wp2
        go_roundw
        case rel =>
          refine ⟨pos + wd, bg, f - wd, done, rfl, by show _ = _; have := unhide HF; omega, q1, by omega, hdl, ?_, hit2, unhide HO, hb2⟩
          show _ = _
          rw [← unhide HR, unhide HE]
        case measure => rw [unhide HI3, unhide HIP]; omega
    · obtain rfl : pos = t.size := by omega
      obtain rfl : f = 0 := by have := unhide HF; omega
      have hnx : ∀ ty, (Instr.next (.pointer (some ⟨w.heap.size, 0, none⟩)) true ty).run Tryz.prog wr = _ := fun ty => Lib.run_next_end_at wr w.heap.size t t.size ty hit hlt
      by_cases hb2 : bg < t.size
      · have hbI : (bg : Int) < (t.size : Int) := by omega
        have HRR : Hid (R = done ++ [t.extract bg t.size]) := by show _ = _; rw [← unhide HR]; simp only [linesF]; rw [if_pos hb2]
        go_wp2_with (at_builtin; refine wpList_append_own _ rfl _ _ 28 rfl (w.heap.size + 1) 9 i0 (.string ⟨#[]⟩) 1 16 Tryz.underlying28 hi0 hz0 hz1 hz2 rfl (by decide) _ _ _ rfl (hown.alloc _) ⟨wr.heap.size, 0, none⟩ 1 1 [.string (t.extract bg t.size)] rfl rfl (cell_one_new _ _ _) (one_text _) ?_ ?_ ?_ ?_)
        · unfold maxLen; omega
        · omega
        · first | omega | (simp; omega)
        intro v' w1 hown' hgrow _
        have hb3 : Below w.heap.size w w1 := (hb.alloc (by omega) _).grown hgrow (by simp; omega) (fun k hk => by have := (hown.lt k hk).1; omega)
        have HO1 := hide (tx_snoc hown')
        clear hown' hgrow hown hb
        go_wp2
        go_ret
        refine ⟨⟨_, rfl, ?_⟩, hb3⟩
        rw [unhide HRR]
        exact own_lower (by omega) (unhide HO1)
      · have HRR : Hid (R = done) := by show _ = _; rw [← unhide HR]; simp only [linesF]; rw [if_neg hb2]; simp
        have HO := hide hown
        clear hown
        go_wp2
        go_ret
        refine ⟨⟨_, rfl, ?_⟩, hb⟩
        rw [unhide HRR]
        exact own_lower (by omega) (unhide HO)

end Sc
end Go.Proofs.YtjhnippfepbjmaaGreatDoor

/-
  The program's readers of numbers and of raw bytes: impl.readNumbers, rawText, beginsWithFigure.
-/
namespace Go.Proofs.YtjhnippfepbjmaaGreatDoor
namespace Sc
open Go.RowKit
open Gr (own_below own_lower InOwn InAt)

/-- The tables that the library reads, whatever is made. -/
def Tb (B : Nat) (w : World) : Prop := ∀ w', Below B w w' → Lib.TabIs Tryz.prog w' "internal/strconv.uint64pow10" .u64 Lib.pow10Tab ∧ Lib.TabIs Tryz.prog w' "strings.asciiSpace" .u8 Lib.asciiSpaceTab ∧ ∃ m, w'.cell? ⟨3, 0, none⟩ = some (.int .i64 m)

theorem Tb.here {B : Nat} {w : World} (h : Tb B w) : Lib.TabIs Tryz.prog w "internal/strconv.uint64pow10" .u64 Lib.pow10Tab ∧ Lib.TabIs Tryz.prog w "strings.asciiSpace" .u8 Lib.asciiSpaceTab ∧ ∃ m, w.cell? ⟨3, 0, none⟩ = some (.int .i64 m) := h w (Below.refl _ _)
theorem Tb.below {B C : Nat} {w w' : World} (h : Tb B w) (hb : Below C w w') (hC : B ≤ C) : Tb B w' := fun w2 h2 => h w2 ((hb.mono hC).trans h2)
theorem Tb.mono {B C : Nat} {w : World} (h : Tb B w) (hC : B ≤ C) : Tb C w := fun w2 h2 => h w2 (h2.mono hC)

theorem implRD (s : ByteArray) (B : Nat) (w : World) (ht : Tb B w) : Calls Tryz.prog 59 #[.string s] w fun e w' => e = .returned (.tuple #[.int .i64 (oN (rdD s)), .bool (rdD s).isSome]) ∧ Below w.heap.size w w' := by
  unfold rdD
  by_cases h : s.size ≤ 10
  · rw [if_pos h]
    refine (Dc.implRD_yes s h w ht.here.1).mono ?_
    rintro e w' ⟨rfl, hb⟩
    refine ⟨?_, hb⟩
    cases hr : Dc.rf10 s s.size 0 0 with
    | none => rfl
    | some n =>
      simp only [Dc.rdOut]
      split <;> rfl
  · rw [if_neg h]
    refine (Dc.implRD_no s (by omega) w).mono ?_
    rintro e w' ⟨rfl, rfl⟩
    exact ⟨rfl, Below.refl _ _⟩

set_option maxRecDepth 100000 in
set_option maxHeartbeats 2000000 in
theorem implNumbers (a : Option Addr) (c B T : Nat) (L : List ByteArray) (hL : L.length ≤ 100000) (w : World) (hB : B ≤ w.heap.size) (h : txAt w a B L) (hT : T ≤ w.heap.size) (ht : Tb T w) :
    Calls Tryz.prog 52 #[.slice a L.length c] w fun e w' => InPost w w' e (numsM L) ∧ Below w.heap.size w w' := by
  obtain ⟨i0, hi0, hz0, hz1, hz2⟩ := info_parts info3
  have HT := hide h
  have HTB := hide ht
  obtain ⟨n, hn⟩ : ∃ n, n = L.length := ⟨_, rfl⟩
  have HN := hide hn
  rw [← hn] at hL ⊢
  clear h hn ht
  go_enter Tryz.func52, Tryz.ntmps52
  go_wp2_with fail
  go_loopw [4, 11] (fun out ai wr => ∃ (i : Nat) (done : List Int), ai = .int .i64 i ∧ i ≤ n ∧ Hid (done.length = i) ∧ Hid ((numsM (L.drop i)).map (done ++ ·) = numsM L) ∧ wr.ownsRow w.heap.size 3 1 out i (Gr.intsV done) ∧ Below w.heap.size w wr) (fun _ ai _ => n - (intOf ai).toNat)
  case atStart => exact ⟨0, [], rfl, Nat.zero_le _, rfl, by show _ = _; simp, World.ownsRow_nil w _ 3 1, Below.refl _ _⟩
  case round =>
    obtain ⟨i, done, rfl, hi, HDL, HNM, hown, hb⟩ := hrel
    have hbs := hb.size
    by_cases hlt : i < n
    · have hil : i < L.length := by rw [← unhide HN]; exact hlt
      obtain ⟨b, off, rfl, hbB, hce⟩ := ((unhide HT).below hb hB) i hil
      have RX := hide (implRD L[i] T wr ((unhide HTB).below hb hT))
      have hbd := oN_bd L[i]
      have HS := hide (numsM_drop hil)
      generalize L[i] = y at hce RX hbd HS
      have hx0 : (0 : Int) ≤ (i : Int) := by omega
      have hx1 : (i : Int) < (n : Int) := by omega
      have hbw : b < wr.heap.size := by omega
      cases hy : rdD y with
      | none =>
        rw [hy] at RX HS
        change Hid (Calls _ _ _ wr fun e w' => e = .returned (.tuple #[.int .i64 0, .bool false]) ∧ _) at RX
        have HD : Hid (numsM L = none) := by show _ = _; rw [← unhide HNM, unhide HS]; rfl
        clear hown hbd HS HNM hy
        go_wp2_with fail
        refine (unhide RX).mono ?_
        rintro e w2 ⟨rfl, hb2⟩
        have hb3 := hb.trans (hb2.mono hbs)
        clear hb2
        go_wp2
        go_ret2
        refine ⟨?_, hb3⟩
        rw [unhide HD]
        exact ⟨_, rfl, World.ownsRow_nil _ _ 3 1⟩
      | some v =>
        rw [hy] at RX HS hbd
        change Hid (Calls _ _ _ wr fun e w' => e = .returned (.tuple #[.int .i64 (v : Int), .bool true]) ∧ _) at RX
        have HO := hide (fun (w2 : World) (h2 : Below wr.heap.size wr w2) => own_below hown h2)
        have hdl := unhide HDL
        clear hown hy hbd
        go_wp2_with fail
        refine (unhide RX).mono ?_
        rintro e w1 ⟨rfl, hb1⟩
        have hb2 := hb.trans (hb1.mono hbs)
        have hbs2 := hb2.size
        have hown := unhide HO w1 hb1
        clear HO hb1 hb
        go_wp2_with (at_builtin; refine wpList_append_own _ rfl _ _ 44 rfl w.heap.size 3 i0 (.int .i64 0) 1 8 Tryz.underlying44 hi0 hz0 hz1 hz2 rfl (by decide) _ _ _ rfl (hown.alloc _) ⟨w1.heap.size, 0, none⟩ 1 1 [.int .i64 (v : Int)] rfl rfl (cell_one_new _ _ _) (one_int _) ?_ ?_ ?_ ?_)
        · unfold maxLen; omega
        · omega
        · first | omega | (simp; omega)
        intro v' w3 hown' hgrow _
        have hb3 := below_append hb2 (Nat.le_refl _) hown hgrow
        have HO1 : Hid (w3.ownsRow w.heap.size 3 1 v' (i + 1) (Gr.intsV (done ++ [(v : Int)]))) := by
          show World.ownsRow _ _ _ _ _ _ _
          have := hown'
          simpa [Gr.intsV] using this
        clear hown' hgrow hown hb2
        go_wp2
        go_roundw
        case rel =>
          refine ⟨i + 1, done ++ [(v : Int)], by go_num, by omega, by show _ = _; simp; exact hdl, ?_, unhide HO1, hb3⟩
          show _ = _
          rw [← unhide HNM, unhide HS]
          simp only [Option.map_map]
          congr 1
          funext l
          simp
        case measure => simp [intOf]; omega
    · obtain rfl : i = n := by omega
      have hnm : numsM L = some done := by
        have h1 := unhide HNM
        rw [List.drop_of_length_le (by rw [← unhide HN]; exact Nat.le_refl _)] at h1
        rw [← h1]
        simp [numsM]
      have HO := hide hown
      clear hown
      go_wp2
      go_ret2
      refine ⟨?_, hb⟩
      rw [hnm]
      refine ⟨_, rfl, ?_⟩
      show World.ownsRow _ _ _ _ _ done.length _
      rw [unhide HDL]
      exact unhide HO

theorem implUx (s : ByteArray) (hm : s.size ≤ 100000) (w : World) : Calls Tryz.prog 103 #[.string s] w fun e w' => e = .returned (.tuple #[.string ((unhexO s).getD ⟨#[]⟩), .bool (unhexO s).isSome]) ∧ Below w.heap.size w w' := by
  unfold unhexO
  by_cases h : s.size ≤ 16000 ∧ s.size % 2 = 0
  · rw [if_pos h]
    refine (Ux.implUnhex_yes s h.1 h.2 w).mono ?_
    rintro e w' ⟨rfl, hb⟩
    refine ⟨?_, hb⟩
    cases Ux.unhexF s (s.size / 2) 0 [] with
    | none => rfl
    | some l => rfl
  · rw [if_neg h]
    refine (Ux.implUnhex_no s (by omega) (by omega) w).mono ?_
    rintro e w' ⟨rfl, rfl⟩
    exact ⟨rfl, Below.refl _ _⟩

/-- The text of raw bytes. -/
def rawM : List ByteArray → Option ByteArray
  | [h] => unhexO h
  | _ => none

set_option maxRecDepth 100000 in
theorem implRaw (a : Option Addr) (c B : Nat) (L : List ByteArray) (hL : L.length ≤ 100) (hsz : ∀ x ∈ L, x.size ≤ 400) (w : World) (h : txAt w a B L) :
    Calls Tryz.prog 87 #[.slice a L.length c] w fun e w' => TextPost e (rawM L) ∧ Below w.heap.size w w' := by
  by_cases h1 : L.length = 1
  · obtain ⟨y, rfl⟩ := List.length_eq_one_iff.1 h1
    obtain ⟨b, off, rfl, _, hc⟩ := h 0 (by simp)
    simp only [List.getElem_cons_zero, Nat.add_zero] at hc
    have UX := hide (implUx y (by have := hsz y (by simp); omega) w)
    show Calls _ _ _ _ fun e w' => TextPost e (unhexO y) ∧ _
    generalize unhexO y = o at UX
    simp only [List.length_cons, List.length_nil, Nat.zero_add]
    clear h h1
    go_enter Tryz.func87, Tryz.ntmps87
    go_wp2_with fail
    refine (unhide UX).mono ?_
    rintro e w1 ⟨rfl, hb1⟩
    go_wp2
    go_ret2
    exact ⟨rfl, hb1⟩
  · have hr : rawM L = none := by
      match L, h1 with
      | [], _ => rfl
      | [y], h1 => simp at h1
      | _ :: _ :: _, _ => rfl
    rw [hr]
    have h1i : ((L.length : Int) != 1) = true := by rw [bne_iff_ne]; omega
    generalize L.length = n at h1i hL
    go_enter Tryz.func87, Tryz.ntmps87
    go_wp2
    go_ret2
    exact ⟨rfl, Below.refl _ _⟩

theorem implFig (x : ByteArray) (hx : 0 < x.size) (hm : x.size ≤ 400) (w : World) : Calls Tryz.prog 65 #[.string x] w fun e w' => e = .returned (.bool (isFig x)) ∧ w' = w := by
  have hBy : ((x[0]'hx).toNat : Int) ≤ 255 := by have := UInt8.toNat_lt (x[0]'hx); omega
  have hB : (byteAt x 0 : Int) = ((x[0]'hx).toNat : Int) := by rw [byteAt_eq hx]
  have hF : isFig x = (decide ((48 : Int) ≤ ((x[0]'hx).toNat : Int)) && decide (((x[0]'hx).toNat : Int) ≤ 57)) := by
    unfold isFig
    rw [Bool.eq_iff_iff]
    simp
    omega
  rw [hF]
  have hne : (x.toList == []) = false := by
    rw [Bool.eq_false_iff]
    intro e
    have e2 : x.toList = [] := by simpa using e
    have h3 : x.toList.length = x.size := by rw [ByteArray.toList_eq]; simp
    rw [e2] at h3
    simp at h3
    omega
  have hxi : (0 : Int) < (x.size : Int) := by omega
  clear hF hB
  go_enter Tryz.func65, Tryz.ntmps65
  go_wp2
  all_goals (go_ret; exact ⟨by simp_all <;> omega, rfl⟩)

end Sc
end Go.Proofs.YtjhnippfepbjmaaGreatDoor
