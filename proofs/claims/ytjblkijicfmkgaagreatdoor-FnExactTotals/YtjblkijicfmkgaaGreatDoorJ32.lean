/-
 RgI.
-/
import Derived.Test.YtjblkijicfmkgaaGreatDoorJ7
import Derived.Test.YtjblkijicfmkgaaGreatDoorJ11
namespace Go.Proofs.YtjblkijicfmkgaaGreatDoor
namespace Rg
open Go.RowKit
theorem own_intI {w1 : World} {B e : Nat} {v' : Value} {L : List Int} {x : Int} (h : w1.ownsRow B e 1 v' (L.length + 1) (Gr.intsV L ++ [.int .i64 x])) : w1.ownsRow B e 1 v' (L ++ [x]).length (Gr.intsV (L ++ [x])) := by
  simpa [Gr.intsV] using h
def idsP (word : List UInt8) : PL → List Int
  | [] => []
  | q :: L => if byteAt q.1 0 = 118 ∧ (word = [] ∨ (q.2.toList == word) = true) then oN (numP (q.1.extract 1 q.1.size)) :: idsP word L else idsP word L
theorem ids_step (word : List UInt8) (Q : PL) (j : Nat) (h : j < Q.length) : idsP word (Q.drop j) = if byteAt Q[j].1 0 = 118 ∧ (word = [] ∨ (Q[j].2.toList == word) = true) then oN (numP (Q[j].1.extract 1 Q[j].1.size)) :: idsP word (Q.drop (j + 1)) else idsP word (Q.drop (j + 1)) := by
  rw [List.drop_eq_getElem_cons h, idsP]
theorem ids_short (word : List UInt8) : ∀ (Q : PL), (idsP word Q).length ≤ Q.length
  | [] => by simp [idsP]
  | q :: L => by
    have := ids_short word L
    rw [idsP]
    split
    · simp; omega
    · simp; omega
set_option maxRecDepth 100000 in
set_option maxHeartbeats 4000000 in
theorem ids_all (a : Option Addr) (len cap B : Nat) (Q : PL) (hlen : len ≤ 1048576) (hk : ∀ q ∈ Q, 1 ≤ q.1.size ∧ q.1.size ≤ 8) (w : World) (hB : B ≤ w.heap.size) (hs : Tr.PairsAt w a len B Q) :
    Calls Tryz.prog 29 #[.slice a len cap, .string ⟨#[]⟩] w fun e w' => (∃ d, e = .returned d ∧ w'.ownsRow w.heap.size 3 1 d (idsP [] Q).length (Gr.intsV (idsP [] Q))) ∧ Below w.heap.size w w' := by
  obtain ⟨i0, hi0, hz0, hz1, hz2⟩ := info_parts Gr.info3
  have HO0 : Hid ((w.alloc (.cells #[] 3)).ownsRow w.heap.size 3 1 (.slice (some ⟨w.heap.size, 0, none⟩) 0 0) 0 (Gr.intsV [])) := World.ownsRow_made w #[] 0 (by omega) (Nat.zero_le _) rfl
  have HC := hide hs.2
  have HPR := hide hk
  have HST := hide (fun j h => ids_step [] Q j h)
  have NU := hide (fun t w1 => num_any t w1)
  obtain ⟨P, hP⟩ : ∃ x, x = idsP [] Q := ⟨_, rfl⟩
  rw [← hP]
  have HP0 : Hid (P = [] ++ idsP [] (Q.drop 0)) := hP
  have hL := hs.1
  clear hP hs hk
  subst hL
  go_enter Tryz.func29, Tryz.ntmps29
  go_wp2_with fail
  go_loopw [5, 6] (fun v i wr => ∃ (j : Nat) (L : List Int), i = .int .i64 (j : Int) ∧ j ≤ Q.length ∧ L.length ≤ j ∧ Hid (P = L ++ idsP [] (Q.drop j)) ∧ Hid (wr.ownsRow w.heap.size 3 1 v L.length (Gr.intsV L)) ∧ Below w.heap.size w wr) (fun _ i _ => Q.length - (intOf i).toNat)
  case atStart => exact ⟨0, [], rfl, Nat.zero_le _, Nat.zero_le _, unhide HP0, unhide HO0, Gr.below_new _ _⟩
  case round =>
    obtain ⟨j, L, rfl, hj, hLj, HY, HO, hb⟩ := hrel
    have hown := unhide HO
    have hbs := hb.size
    by_cases hlt : j < Q.length
    · obtain ⟨b, off, rfl, hbB, d0, d1⟩ := unhide HC j hlt
      have HQ := hide ((unhide HY).trans (by rw [unhide HST j hlt]))
      have hp := unhide HPR Q[j] (List.getElem_mem hlt)
      generalize Q[j] = q at d0 d1 HQ hp
      obtain ⟨x, y⟩ := q
      simp only at d0 d1 HQ hp
      have d2 := (hb.cell (p := ⟨b, off + j * 2, none⟩) (by simp; omega)).trans d0
      have d3 := (hb.cell (p := ⟨b, off + j * 2 + 1, none⟩) (by simp; omega)).trans d1
      have l0 : 0 < x.size := by omega
      have e0 := byteAt_eq l0
      have hxi : (0 : Int) < (x.size : Int) := by omega
      have hx1 : (1 : Int) ≤ (x.size : Int) := by omega
      have hxz : (x.size : Int) ≤ 8 := by omega
      have hjn : (j : Int) < ((Q.length : Nat) : Int) := by omega
      have HNU := hide (fun w1 => unhide NU (x.extract 1 x.size) w1)
      rw [e0] at HQ
      generalize numP (x.extract 1 x.size) = o at HNU HQ
      clear d0 d1 e0 hp
      by_cases h118 : (x[0]'l0).toNat = 118
      · have hbq : (((x[0]'l0).toNat : Int) == 118) = true := by rw [h118]; rfl
        have HQ2 := hide (unhide HQ)
        rw [if_pos ⟨h118, Or.inl (by trivial)⟩] at HQ2
        clear h118 HQ
        have HY2 : Hid (P = (L ++ [oN o]) ++ idsP [] (Q.drop (j + 1))) := by show _ = _; rw [unhide HQ2, List.append_assoc]; rfl
        go_wp2_with fail
        refine (unhide HNU _).mono ?_
        rintro e w3 ⟨rfl, hb3⟩
        have hown3 := Gr.own_below hown hb3
        have b3 := hb.trans (hb3.mono hb.size)
        have hbs3 := b3.size
        clear hown d2 d3
        go_wp2_with (at_builtin; refine wpList_append_own _ rfl _ _ 50 rfl w.heap.size 3 i0 (.int .i64 0) 1 8 Tryz.underlying50 hi0 hz0 hz1 hz2 rfl (by decide) _ _ _ rfl (hown3.alloc _) ⟨w3.heap.size, 0, none⟩ 1 1 [.int .i64 (oN o)] rfl rfl (cell_one_new _ _ _) (by intro u hu; simp at hu; subst hu; rfl) ?c3 ?c4 ?c5 ?_)
        case c3 => unfold maxLen; omega
        case c4 => omega
        case c5 => simp; omega
        intro v' w4 hown' hgrow _
        have hb4 := below_append b3 (Nat.le_refl _) hown3 hgrow
        have HO2 := hide (own_intI hown')
        clear hown3 hown' hgrow
        go_wp2_with fail
        exact ⟨⟨j + 1, _, by go_num, by omega, by rw [List.length_append]; simp; omega, unhide HY2, unhide HO2, hb4⟩, by simp [intOf]; omega⟩
      · have hbq : (((x[0]'l0).toNat : Int) == 118) = false := by rw [beq_eq_false_iff_ne]; omega
        have HQ2 := hide (unhide HQ)
        rw [if_neg (fun h => h118 h.1)] at HQ2
        clear h118 HQ hown
        go_wp2_with fail
        exact ⟨⟨j + 1, L, by go_num, by omega, by omega, unhide HQ2, unhide HO, hb⟩, by simp [intOf]; omega⟩
    · have hPe : P = L := by rw [unhide HY, List.drop_eq_nil_of_le (by omega)]; simp [idsP]
      have HO2 : Hid (wr.ownsRow w.heap.size 3 1 u5 P.length (Gr.intsV P)) := by rw [hPe]; exact hown
      clear hown hPe
      go_wp2
      go_ret
      exact ⟨⟨_, rfl, unhide HO2⟩, hb⟩
end Rg
end Go.Proofs.YtjblkijicfmkgaaGreatDoor
