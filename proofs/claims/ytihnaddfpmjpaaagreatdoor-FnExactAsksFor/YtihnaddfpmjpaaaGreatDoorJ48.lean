/-
 Rg10, LgW.
-/
import Derived.Test.YtihnaddfpmjpaaaGreatDoorJ44
import Derived.Test.YtihnaddfpmjpaaaGreatDoorJ47
namespace Go.Proofs.YtihnaddfpmjpaaaGreatDoor
namespace Rg
open Go.RowKit
open Gr (Blk below_new)
set_option maxRecDepth 100000 in
set_option maxHeartbeats 4000000 in
theorem ids_word (a : Option Addr) (len cap B : Nat) (Q : PL) (wd : ByteArray) (hwd : wd.toList ≠ []) (hlen : len ≤ 1048576) (hk : ∀ q ∈ Q, 1 ≤ q.1.size ∧ q.1.size ≤ 8) (w : World) (hB : B ≤ w.heap.size) (hs : Tr.PairsAt w a len B Q) :
    Calls Tryz.prog 37 #[.slice a len cap, .string wd] w fun e w' => (∃ d, e = .returned d ∧ w'.ownsRow w.heap.size 3 1 d (idsP wd.toList Q).length (Gr.intsV (idsP wd.toList Q))) ∧ Below w.heap.size w w' := by
  obtain ⟨i0, hi0, hz0, hz1, hz2⟩ := info_parts Gr.info3
  have HO0 : Hid ((w.alloc (.cells #[] 3)).ownsRow w.heap.size 3 1 (.slice (some ⟨w.heap.size, 0, none⟩) 0 0) 0 (Gr.intsV [])) := World.ownsRow_made w #[] 0 (by omega) (Nat.zero_le _) rfl
  have HC := hide hs.2
  have HPR := hide hk
  have HST := hide (fun j h => ids_step wd.toList Q j h)
  have NU := hide (fun t w1 => num_any t w1)
  have HWD := hide hwd
  have hw0 : (wd.toList == []) = false := by cases h : wd.toList with | nil => exact absurd h hwd | cons x y => rfl
  clear hwd
  obtain ⟨P, hP⟩ : ∃ x, x = idsP wd.toList Q := ⟨_, rfl⟩
  rw [← hP]
  have HP0 : Hid (P = [] ++ idsP wd.toList (Q.drop 0)) := hP
  have hL := hs.1
  clear hP hs hk
  subst hL
  go_enter Tryz.func37, Tryz.ntmps37
  go_wp2_with fail
  go_loopw [5, 6] (fun v i wr => ∃ (j : Nat) (L : List Int), i = .int .i64 (j : Int) ∧ j ≤ Q.length ∧ L.length ≤ j ∧ Hid (P = L ++ idsP wd.toList (Q.drop j)) ∧ Hid (wr.ownsRow w.heap.size 3 1 v L.length (Gr.intsV L)) ∧ Below w.heap.size w wr) (fun _ i _ => Q.length - (intOf i).toNat)
  case atStart => exact ⟨0, [], rfl, Nat.zero_le _, Nat.zero_le _, unhide HP0, unhide HO0, Gr.below_new _ _⟩
  case round =>
    obtain ⟨j, L, rfl, hj, hLj, HY, HO, hb⟩ := hrel
    have hown := unhide HO
    have hbs := hb.size
    by_cases hlt : j < Q.length
    · obtain ⟨b, off, rfl, hbB, d0, d1⟩ := unhide HC j hlt
      have HQ := hide ((unhide HY).trans (by rw [unhide HST j hlt]))
      have hp := unhide HPR Q[j] (List.getElem_mem hlt)
      generalize Q[j] = q at d0 d1 HQ hp
      obtain ⟨x, y⟩ := q
      simp only at d0 d1 HQ hp
      have d2 := (hb.cell (p := ⟨b, off + j * 2, none⟩) (by simp; omega)).trans d0
      have d3 := (hb.cell (p := ⟨b, off + j * 2 + 1, none⟩) (by simp; omega)).trans d1
      have l0 : 0 < x.size := by omega
      have e0 := byteAt_eq l0
      have hxi : (0 : Int) < (x.size : Int) := by omega
      have hx1 : (1 : Int) ≤ (x.size : Int) := by omega
      have hxz : (x.size : Int) ≤ 8 := by omega
      have hjn : (j : Int) < ((Q.length : Nat) : Int) := by omega
      have HNU := hide (fun w1 => unhide NU (x.extract 1 x.size) w1)
      rw [e0] at HQ
      generalize numP (x.extract 1 x.size) = o at HNU HQ
      clear d0 d1 e0 hp
      by_cases h118 : (x[0]'l0).toNat = 118
      · have hbq : (((x[0]'l0).toNat : Int) == 118) = true := by rw [h118]; rfl
        cases hw : (y.toList == wd.toList)
        · have HQ2 := hide (unhide HQ)
          rw [if_neg (by rw [hw]; simp [unhide HWD])] at HQ2
          clear h118 HQ hown
          go_wp2_with fail
          exact ⟨⟨j + 1, L, by go_num, by omega, by omega, unhide HQ2, unhide HO, hb⟩, by simp [intOf]; omega⟩
        · have HQ2 := hide (unhide HQ)
          rw [if_pos ⟨h118, Or.inr hw⟩] at HQ2
          clear h118 HQ
          have HY2 : Hid (P = (L ++ [oN o]) ++ idsP wd.toList (Q.drop (j + 1))) := by show _ = _; rw [unhide HQ2, List.append_assoc]; rfl
          go_wp2_with fail
          refine (unhide HNU _).mono ?_
          rintro e w3 ⟨rfl, hb3⟩
          have hown3 := Gr.own_below hown hb3
          have b3 := hb.trans (hb3.mono hb.size)
          have hbs3 := b3.size
          clear hown d2 d3
          go_wp2_with (at_builtin; refine wpList_append_own _ rfl _ _ 24 rfl w.heap.size 3 i0 (.int .i64 0) 1 8 Tryz.underlying24 hi0 hz0 hz1 hz2 rfl (by decide) _ _ _ rfl (hown3.alloc _) ⟨w3.heap.size, 0, none⟩ 1 1 [.int .i64 (oN o)] rfl rfl (cell_one_new _ _ _) (by intro u hu; simp at hu; subst hu; rfl) ?c3 ?c4 ?c5 ?_)
          case c3 => unfold maxLen; omega
          case c4 => omega
          case c5 => simp; omega
          intro v' w4 hown' hgrow _
          have hb4 := below_append b3 (Nat.le_refl _) hown3 hgrow
          have HO2 := hide (own_intI hown')
          clear hown3 hown' hgrow
          go_wp2_with fail
          exact ⟨⟨j + 1, _, by go_num, by omega, by rw [List.length_append]; simp; omega, unhide HY2, unhide HO2, hb4⟩, by simp [intOf]; omega⟩
      · have hbq : (((x[0]'l0).toNat : Int) == 118) = false := by rw [beq_eq_false_iff_ne]; omega
        have HQ2 := hide (unhide HQ)
        rw [if_neg (fun h => h118 h.1)] at HQ2
        clear h118 HQ hown
        go_wp2_with fail
        exact ⟨⟨j + 1, L, by go_num, by omega, by omega, unhide HQ2, unhide HO, hb⟩, by simp [intOf]; omega⟩
    · have hPe : P = L := by rw [unhide HY, List.drop_eq_nil_of_le (by omega)]; simp [idsP]
      have HO2 : Hid (wr.ownsRow w.heap.size 3 1 u5 P.length (Gr.intsV P)) := by rw [hPe]; exact hown
      clear hown hPe
      go_wp2
      go_ret
      exact ⟨⟨_, rfl, unhide HO2⟩, hb⟩
end Rg
end Go.Proofs.YtihnaddfpmjpaaaGreatDoor
