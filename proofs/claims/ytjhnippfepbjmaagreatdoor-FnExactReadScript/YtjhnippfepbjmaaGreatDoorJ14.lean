/-
  Texts of this claim, one behind the other: Sc2.
-/
import Derived.Test.YtjhnippfepbjmaaGreatDoorJ12
import Derived.Test.YtjhnippfepbjmaaGreatDoorJ13

/-
  The specification's numbers with commas, and the text of an ask.
-/
namespace Go.Proofs.YtjhnippfepbjmaaGreatDoor
namespace Sc
open Go.RowKit
open Gr (DeedI deedOk askN askR askOf own_below Grown wp_region_grown)

/-! ### spec.l16Commas -/

/-- The numbers from place i on, the last piece having begun at b. -/
def restN (t : ByteArray) (b i : Nat) : Option (List Int) := if i ≤ t.size then numsM (piecesF t (t.size - i) b i) else some []

theorem restN_start (t : ByteArray) : restN t 0 0 = keepM t := by rw [restN, if_pos (Nat.zero_le _)]; rfl

theorem restN_past (t : ByteArray) (b i : Nat) (h : t.size < i) : restN t b i = some [] := if_neg (by omega)

theorem restN_miss {t : ByteArray} {b i : Nat} (h : i < t.size) (hb : byteAt t i ≠ 44) : restN t b i = restN t b (i + 1) := by
  rw [restN, restN, if_pos (by omega), if_pos (by omega), show t.size - i = (t.size - (i + 1)) + 1 by omega]
  simp only [piecesF]
  rw [if_neg hb]

theorem restN_hit {t : ByteArray} {b i : Nat} (h : i ≤ t.size) (hb : i < t.size → byteAt t i = 44) : restN t b i = (match rdD (t.extract b i) with | none => none | some n => (restN t (i + 1) (i + 1)).map (fun l => (n : Int) :: l)) := by
  by_cases hl : i < t.size
  · rw [restN, if_pos h, show t.size - i = (t.size - (i + 1)) + 1 by omega]
    simp only [piecesF]
    rw [if_pos (hb hl)]
    simp only [numsM]
    rw [restN, if_pos (by omega)]
    cases rdD (t.extract b i) <;> rfl
  · obtain rfl : i = t.size := by omega
    rw [restN, if_pos h, Nat.sub_self]
    simp only [piecesF, numsM]
    rw [restN_past t _ _ (by omega)]
    rfl

set_option maxRecDepth 100000 in
set_option maxHeartbeats 2000000 in
theorem commas_any (t : ByteArray) (hs : t.size ≤ 100000) (w : World) :
    Calls Tryz.prog 23 #[.string t] w fun e w' => InPost w w' e (keepM t) ∧ Below w.heap.size w w' := by
  obtain ⟨i0, hi0, hz0, hz1, hz2⟩ := info_parts info3
  obtain ⟨R, hR⟩ : ∃ R, R = keepM t := ⟨_, rfl⟩
  rw [← hR]
  have HR0 := hide hR
  have RD := hide (fun x w => specRD x w)
  clear hR
  go_enter Tryz.func23, Tryz.ntmps23
  go_wp2_with fail
  go_loopw [4, 5, 6] (fun out a5 a6 wr => ∃ (i bg : Nat) (done : List Int), a6 = .int .i64 i ∧ a5 = .int .i64 bg ∧ i ≤ t.size + 1 ∧ bg ≤ i ∧ done.length ≤ bg ∧ Hid ((restN t bg i).map (done ++ ·) = R) ∧ wr.ownsRow w.heap.size 3 1 out done.length (Gr.intsV done) ∧ Below w.heap.size w wr)
    (fun _ _ a6 _ => t.size + 1 - (intOf a6).toNat)
  case atStart =>
    exact ⟨0, 0, [], rfl, rfl, by omega, by omega, by simp, by show _ = _; rw [unhide HR0, restN_start]; simp, made_in w _ (Nat.le_refl _), (Below.refl _ _).alloc (Nat.le_refl _) _⟩
  case round =>
    obtain ⟨i, bg, done, rfl, rfl, hi, hbg, hdl, HR, hown, hb⟩ := hrel
    have hbs := hb.size
    by_cases hle : i ≤ t.size
    · have hsl : ∀ u, (Instr.slice 9 (.string t) (some (.int .i64 (bg : Int))) (some (.int .i64 (i : Int))) none).run Tryz.prog u = .ok (.string (t.extract bg i)) u := fun u => by
        have h := run_slice_string (P := Tryz.prog) u 9 t .i64 .i64 (bg : Int) (i : Int) Tryz.underlying9 (by omega) (by omega) (by omega)
        simpa using h
      have RX := hide (unhide RD (t.extract bg i))
      have HX : Hid (∀ h : (i < t.size → byteAt t i = 44), (match rdD (t.extract bg i) with | none => none | some n => (restN t (i + 1) (i + 1)).map (fun l => done ++ (n : Int) :: l)) = R) := fun h => by
        rw [← unhide HR, restN_hit hle h]
        cases rdD (t.extract bg i) with
        | none => rfl
        | some n => simp only [Option.map_map]; rfl
      have hbd := oN_bd (t.extract bg i)
      generalize t.extract bg i = x at hsl RX HX hbd
      by_cases hlt : i < t.size
      · have hB : ((t[i]'hlt).toNat : Int) ≤ 255 := by have := UInt8.toNat_lt (t[i]'hlt); omega
        have HB := hide (show (byteAt t i : Int) = ((t[i]'hlt).toNat : Int) by rw [byteAt_eq hlt])
        by_cases h1 : ((t[i]'hlt).toNat : Int) = 44
        · have h1b : (((t[i]'hlt).toNat : Int) != 44) = false := by rw [bne_eq_false_iff_eq]; exact h1
          have HE := hide (unhide HX (fun _ => by have := unhide HB; omega))
          clear h1 HX
          cases hx : rdD x with
          | none =>
            rw [hx] at RX HE
            have HO := hide hown
            clear hown hx hbd
            change Hid (none = R) at HE
            go_wp2_with fail
            refine (unhide RX _).mono ?_
            rintro e w1 ⟨rfl, hb1⟩
            have hb2 := hb.trans (hb1.mono hbs)
            have hbs2 := hb2.size
            go_wp2
            go_ret2
            refine ⟨?_, hb2.alloc hbs2 _⟩
            rw [← unhide HE]
            exact ⟨_, rfl, made_in w1 _ hbs2⟩
          | some n =>
            rw [hx] at RX HE hbd
            have HO := hide (fun (w2 : World) (h2 : Below wr.heap.size wr w2) => own_below hown h2)
            change Hid ((restN t (i + 1) (i + 1)).map (fun l => done ++ (n : Int) :: l) = R) at HE
            change Hid (∀ w, Calls _ _ _ w fun e w' => e = .returned (.tuple #[.int .i64 (n : Int), .bool true]) ∧ _) at RX
            clear hown hx hbd
            go_wp2_with fail
            refine (unhide RX _).mono ?_
            rintro e w1 ⟨rfl, hb1⟩
            have hb2 := hb.trans (hb1.mono hbs)
            have hbs2 := hb2.size
            have hown := unhide HO w1 hb1
            clear HO hb1 hb
            go_wp2_with (at_builtin; refine wpList_append_own _ rfl _ _ 44 rfl w.heap.size 3 i0 (.int .i64 0) 1 8 Tryz.underlying44 hi0 hz0 hz1 hz2 rfl (by decide) _ _ _ rfl (hown.alloc _) ⟨w1.heap.size, 0, none⟩ 1 1 [.int .i64 (n : Int)] rfl rfl (cell_one_new _ _ _) (one_int _) ?_ ?_ ?_ ?_)
            · unfold maxLen; omega
            · omega
            · first | omega | (simp; omega)
            intro v' w3 hown' hgrow _
            have hb3 := below_append hb2 (Nat.le_refl _) hown hgrow
            have HO1 := hide (in_snoc hown')
            clear hown' hgrow hown hb2
            go_wp2
            go_roundw
            case rel =>
              refine ⟨i + 1, i + 1, done ++ [(n : Int)], by go_num, by go_num, by omega, Nat.le_refl _, by simp; omega, ?_, unhide HO1, hb3⟩
              show _ = _
              rw [← unhide HE]
              simp
            case measure => simp [intOf]; omega
        · have h1b : (((t[i]'hlt).toNat : Int) != 44) = true := by rw [bne_iff_ne]; exact h1
          have HE := hide (show byteAt t i ≠ 44 by have := unhide HB; omega)
          have HO := hide hown
          clear h1 hown HX hsl hbd
          go_wp2
          go_roundw
          case rel =>
            refine ⟨i + 1, bg, done, by go_num, rfl, by omega, by omega, hdl, ?_, unhide HO, hb⟩
            show _ = _
            rw [← unhide HR, restN_miss hlt (unhide HE)]
          case measure => simp [intOf]; omega
      · obtain rfl : i = t.size := by omega
        have HE := hide (unhide HX (fun h => absurd h hlt))
        clear HX
        cases hx : rdD x with
        | none =>
          rw [hx] at RX HE
          have HO := hide hown
          clear hown hx hbd
          change Hid (none = R) at HE
          go_wp2_with fail
          refine (unhide RX _).mono ?_
          rintro e w1 ⟨rfl, hb1⟩
          have hb2 := hb.trans (hb1.mono hbs)
          have hbs2 := hb2.size
          go_wp2
          go_ret2
          refine ⟨?_, hb2.alloc hbs2 _⟩
          rw [← unhide HE]
          exact ⟨_, rfl, made_in w1 _ hbs2⟩
        | some n =>
          rw [hx] at RX HE hbd
          have HO := hide (fun (w2 : World) (h2 : Below wr.heap.size wr w2) => own_below hown h2)
          change Hid ((restN t (t.size + 1) (t.size + 1)).map (fun l => done ++ (n : Int) :: l) = R) at HE
          change Hid (∀ w, Calls _ _ _ w fun e w' => e = .returned (.tuple #[.int .i64 (n : Int), .bool true]) ∧ _) at RX
          clear hown hx hbd
          go_wp2_with fail
          refine (unhide RX _).mono ?_
          rintro e w1 ⟨rfl, hb1⟩
          have hb2 := hb.trans (hb1.mono hbs)
          have hbs2 := hb2.size
          have hown := unhide HO w1 hb1
          clear HO hb1 hb
          go_wp2_with (at_builtin; refine wpList_append_own _ rfl _ _ 44 rfl w.heap.size 3 i0 (.int .i64 0) 1 8 Tryz.underlying44 hi0 hz0 hz1 hz2 rfl (by decide) _ _ _ rfl (hown.alloc _) ⟨w1.heap.size, 0, none⟩ 1 1 [.int .i64 (n : Int)] rfl rfl (cell_one_new _ _ _) (one_int _) ?_ ?_ ?_ ?_)
          · unfold maxLen; omega
          · omega
          · first | omega | (simp; omega)
          intro v' w3 hown' hgrow _
          have hb3 := below_append hb2 (Nat.le_refl _) hown hgrow
          have HO1 := hide (in_snoc hown')
          clear hown' hgrow hown hb2
          go_wp2
          go_roundw
          case rel =>
            refine ⟨t.size + 1, t.size + 1, done ++ [(n : Int)], by go_num, by go_num, by omega, Nat.le_refl _, by simp; omega, ?_, unhide HO1, hb3⟩
            show _ = _
            rw [← unhide HE]
            simp
          case measure => simp [intOf]
    · have HE : Hid (R = some done) := by show _ = _; rw [← unhide HR, restN_past t bg i (by omega)]; simp
      have HO := hide hown
      clear hown
      go_wp2
      go_ret2
      refine ⟨?_, hb⟩
      rw [unhide HE]
      exact ⟨_, rfl, unhide HO⟩

/-! ### spec.Unhex -/

theorem specUx (s : ByteArray) (w : World) : Calls Tryz.prog 34 #[.string s] w fun e w' => e = .returned (.tuple #[.string ((unhexO s).getD ⟨#[]⟩), .bool (unhexO s).isSome]) ∧ Below w.heap.size w w' := by
  unfold unhexO
  by_cases h : s.size ≤ 16000 ∧ s.size % 2 = 0
  · rw [if_pos h]
    refine (Ux.specUnhex_yes s h.1 h.2 w).mono ?_
    rintro e w' ⟨rfl, hb⟩
    refine ⟨?_, hb⟩
    cases Ux.unhexF s (s.size / 2) 0 [] with
    | none => rfl
    | some l => rfl
  · rw [if_neg h]
    refine (Ux.specUnhex_no s (by omega) w).mono ?_
    rintro e w' ⟨rfl, rfl⟩
    exact ⟨rfl, Below.refl _ _⟩

end Sc
end Go.Proofs.YtjhnippfepbjmaaGreatDoor
