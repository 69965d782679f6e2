/-
 Ri8, Ri9.
-/
import Derived.Test.YtihnaddfpmjpaaaGreatDoorJ28
import Derived.Test.YtihnaddfpmjpaaaGreatDoorShelf
import Derived.Test.YtihnaddfpmjpaaaGreatDoorJ29
import Derived.Test.YtihnaddfpmjpaaaGreatDoorJ34
import Derived.BigQuiet
namespace Go.Proofs.YtihnaddfpmjpaaaGreatDoor
namespace Rg
open Go.RowKit
open Gr (Blk Kept)
theorem row_shape0 {w : World} {B e z n : Nat} {v : Value} {xs : List Value} (h : w.ownsRow B e z v n xs) : ∃ A c, v = .slice A n c := by
  rcases h.2 with ⟨rfl, h0⟩ | ⟨g, cap, cur, rfl, _⟩
  · exact ⟨none, 0, by rw [h0]⟩
  · exact ⟨_, _, rfl⟩
theorem foldl_list : ∀ (L : List ByteArray) (s : ByteArray), (L.foldl (· ++ ·) s).data.toList = s.data.toList ++ (L.map (·.data.toList)).flatten
  | [], s => by simp
  | x :: L, s => by
    rw [List.foldl_cons, foldl_list L]
    simp
theorem joinB_list (L : List ByteArray) : (joinB L).data.toList = (L.map (·.data.toList)).flatten := by
  unfold joinB
  rw [foldl_list]
  simp
theorem join_flat : ∀ (L : List (List UInt8)), Lib.join L [] = L.flatten
  | [] => rfl
  | x :: L => by
    rw [Lib.join_cons]
    unfold Lib.joinTail
    simp
theorem join_is (L : List ByteArray) : (⟨(Lib.join (L.map (·.data.toList)) (ByteArray.mk #[]).data.toList).toArray⟩ : ByteArray) = joinB L := by
  apply ByteArray.ext
  rw [show (ByteArray.mk #[]).data.toList = [] from rfl, join_flat]
  rw [← joinB_list]
theorem joinB_size (L : List ByteArray) : (Lib.join (L.map (·.data.toList)) (ByteArray.mk #[]).data.toList).length = (joinB L).size := by
  rw [show (ByteArray.mk #[]).data.toList = [] from rfl, join_flat, ← joinB_list]
  rfl
theorem join_own (B : Nat) (v : Value) (L : List ByteArray) (hs : (joinB L).size ≤ 1048576) (hL : L.length ≤ 1048576) (w : World) (h : w.ownsRow B 9 1 v L.length (Gr.textsV L)) :
    Calls Tryz.prog 122 #[v, .string ⟨#[]⟩] w fun e w' => e = .returned (.string (joinB L)) ∧ Below w.heap.size w w' := by
  rcases h.2 with ⟨rfl, h0⟩ | ⟨g, cap, cur, rfl, hb, hg, hcap, _, _, htake⟩
  · have hn : L = [] := List.length_eq_zero_iff.1 h0
    subst hn
    refine (Tryz.strings_Join_none none 0 ⟨#[]⟩ w).mono ?_
    rintro e w' ⟨rfl, rfl⟩
    exact ⟨rfl, Below.refl _ _⟩
  · refine (Tryz.strings_Join g 0 cap L ⟨#[]⟩ w (fun j x hx => ?_) (h.lt g rfl).2 (by omega) hcap (by rw [joinB_size]; omega)).mono ?_
    · have hj : j < L.length := (List.getElem?_eq_some_iff.1 hx).1
      rw [Nat.zero_add, h.cellAt j (by omega)]
      simp [Gr.textsV, hx]
    · rintro e w' ⟨rfl, hbw⟩
      exact ⟨by rw [join_is], hbw⟩
set_option maxRecDepth 100000 in
set_option maxHeartbeats 2000000 in
theorem equalS_any (a1 : Option Addr) (c1 : Nat) (L1 : List ByteArray) (a2 : Option Addr) (c2 : Nat) (L2 : List ByteArray) (h1 : L1.length ≤ 1048576) (h2 : L2.length ≤ 1048576) (w : World) (hs1 : Gr.textsAt w a1 L1.length w.heap.size L1) (hs2 : Gr.textsAt w a2 L2.length w.heap.size L2) :
    Calls Tryz.prog 123 #[.slice a1 L1.length c1, .slice a2 L2.length c2] w fun e w' => e = .returned (.bool (decide (L1 = L2))) ∧ Below w.heap.size w w' := by
  by_cases hlen : L1.length = L2.length
  · have hne : (((L1.length : Nat) : Int) != ((L2.length : Nat) : Int)) = false := by rw [hlen]; simp
    have HLN := hide hlen
    have HC1 := hide hs1.2
    have HC2 := hide hs2.2
    have HY : Hid ((∀ i (h1 : i < L1.length) (h2 : i < L2.length), L1[i] = L2[i]) → decide (L1 = L2) = true) := fun h => decide_eq_true (List.ext_getElem hlen h)
    have HN : Hid (∀ i (h1 : i < L1.length) (h2 : i < L2.length), (L1[i].toList == L2[i].toList) = false → decide (L1 = L2) = false) := fun i h1 h2 h => decide_eq_false (fun e => by subst e; simp at h)
    generalize decide (L1 = L2) = X at HY HN
    clear hs1 hs2 hlen
    go_enter Tryz.func123, Tryz.ntmps123
    go_wp2_with fail
    go_loopw [13] (fun i wr => ∃ j : Nat, i = .int .i64 (j : Int) ∧ j ≤ L1.length ∧ Hid (∀ i (h1 : i < L1.length) (h2 : i < L2.length), i < j → L1[i] = L2[i]) ∧ Below w.heap.size w wr) (fun i _ => L1.length - (intOf i).toNat)
    case atStart => exact ⟨0, rfl, Nat.zero_le _, fun i _ _ h => absurd h (Nat.not_lt_zero _), Below.refl _ _⟩
    case round =>
      obtain ⟨j, rfl, hj, HJ, hb⟩ := hrel
      by_cases hlt : j < L1.length
      · have hlt2 : j < L2.length := by have := unhide HLN; omega
        have hj1 : (j : Int) < ((L1.length : Nat) : Int) := by omega
        have hj2 : (j : Int) < ((L2.length : Nat) : Int) := by omega
        obtain ⟨b1, o1, rfl, hb1, d1⟩ := unhide HC1 j hlt
        obtain ⟨b2, o2, rfl, hb2, d2⟩ := unhide HC2 j hlt2
        rw [← hb.cell (p := ⟨b1, o1 + j, none⟩) hb1] at d1
        rw [← hb.cell (p := ⟨b2, o2 + j, none⟩) hb2] at d2
        have HNO := hide (unhide HN j hlt hlt2)
        have HJ2 : Hid ((L1[j].toList == L2[j].toList) = true → ∀ i (h1 : i < L1.length) (h2 : i < L2.length), i < j + 1 → L1[i] = L2[i]) := fun h i hi1 hi2 hij => by
          rcases Nat.lt_succ_iff_lt_or_eq.1 hij with h3 | rfl
          · exact unhide HJ i hi1 hi2 h3
          · have := eq_of_beq h
            rw [ByteArray.toList_eq, ByteArray.toList_eq] at this
            exact ByteArray.ext (Array.toList_inj.1 this)
        generalize L1[j] = x at d1 HNO HJ2
        generalize L2[j] = y at d2 HNO HJ2
        cases hxy : (x.toList == y.toList) with
        | false =>
          obtain rfl : X = false := unhide HNO hxy
          go_wp2_with fail
          go_quiet (fail)
          go_wp2
          go_ret
          exact ⟨rfl, below_drewN hb _⟩
        | true =>
          have HJ3 := hide (unhide HJ2 hxy)
          clear HJ2 HNO
          go_wp2_with fail
          go_quiet (fail)
          go_wp2_with fail
          exact ⟨⟨j + 1, by go_num, by omega, unhide HJ3, below_drewN hb _⟩, by simp [intOf]; omega⟩
      · obtain rfl : X = true := unhide HY (fun i h1 h2 => unhide HJ i h1 h2 (by omega))
        have hj1 : ¬ (j : Int) < ((L1.length : Nat) : Int) := by omega
        go_wp2
        go_ret
        exact ⟨rfl, hb⟩
  · have hne : (((L1.length : Nat) : Int) != ((L2.length : Nat) : Int)) = true := by rw [bne_iff_ne]; omega
    have hX : decide (L1 = L2) = false := decide_eq_false (fun e => hlen (by rw [e]))
    rw [hX]
    go_enter Tryz.func123, Tryz.ntmps123
    go_wp2
    go_ret
    exact ⟨rfl, Below.refl _ _⟩
theorem crown_lower {w : World} {B C : Nat} {v : Value} {s : Int} {Q : List Gr.EdgeI} {M : List Gr.CoupleI} {Y : List Int} {G : List Gr.GrpI} (hC : C ≤ B) (h : Gr.CROwn w B v s Q M Y G) : Gr.CROwn w C v s Q M Y G := by
  obtain ⟨v1, v2, v3, v4, rfl, h1, h2, u1, u2, ms, hu, h3, h4, h5⟩ := h
  exact ⟨v1, v2, v3, v4, rfl, Gr.own_lower hC h1, Gr.own_lower hC h2, u1, u2, ms, hu, Gr.own_lower hC h3, ⟨h4.1, Gr.own_lower hC h4.2.1, fun j a b => Gr.own_lower hC (h4.2.2 j a b)⟩, h5⟩
theorem crown_shape {w : World} {B : Nat} {v : Value} {s : Int} {Q : List Gr.EdgeI} {M : List Gr.CoupleI} {Y : List Int} {G : List Gr.GrpI} (h : Gr.CROwn w B v s Q M Y G) : ∃ a1 c1 a2 c2 a3 c3 a4 c4, v = .agg #[.int .i64 s, .slice a1 Q.length c1, .slice a2 M.length c2, .slice a3 Y.length c3, .slice a4 G.length c4] := by
  obtain ⟨v1, v2, v3, v4, rfl, h1, h2, h3⟩ := h
  obtain ⟨a1, c1, rfl⟩ := row_shape0 h1
  obtain ⟨a2, c2, rfl⟩ := row_shape0 h2
  obtain ⟨a3, c3, a4, c4, e⟩ := h3.shape
  simp only [Value.agg.injEq, Array.mk.injEq, List.cons.injEq, and_true] at e
  obtain ⟨rfl, rfl⟩ := e
  exact ⟨_, _, _, _, _, _, _, _, rfl⟩
def cOk (L : List ByteArray) : Bool := decide (Gr.partsT (joinB L) = L) && Gr.rcOk (joinB L)
def cV (L : List ByteArray) : Gr.RC := if Gr.partsT (joinB L) = L then Gr.rcV (joinB L) else ⟨0, [], [], [], [], ⟨0, false⟩⟩
theorem set5 {w : World} {g : Nat} {x0 x1 x2 x3 x4 y0 y1 y2 y3 y4 : Value} {t : TypeId} (h : Blk w g #[x0, x1, x2, x3, x4] t) : Blk (((((w.setCell ⟨g, 0, none⟩ y0).setCell ⟨g, 1, none⟩ y1).setCell ⟨g, 2, none⟩ y2).setCell ⟨g, 3, none⟩ y3).setCell ⟨g, 4, none⟩ y4) g #[y0, y1, y2, y3, y4] t :=
  ((((h.set 0 _).set 1 _).set 2 _).set 3 _).set 4 _
theorem kept5 (w : World) (g : Nat) (y0 y1 y2 y3 y4 : Value) : Kept (fun i => i = g) w (((((w.setCell ⟨g, 0, none⟩ y0).setCell ⟨g, 1, none⟩ y1).setCell ⟨g, 2, none⟩ y2).setCell ⟨g, 3, none⟩ y3).setCell ⟨g, 4, none⟩ y4) :=
  Gr.Kept.trans (S := fun i => i = g) (Gr.Kept.trans (S := fun i => i = g) (Gr.Kept.trans (S := fun i => i = g) (Gr.Kept.trans (S := fun i => i = g) (Gr.Kept.set _ _ _ _ rfl) (Gr.Kept.set _ _ _ _ rfl)) (Gr.Kept.set _ _ _ _ rfl)) (Gr.Kept.set _ _ _ _ rfl)) (Gr.Kept.set _ _ _ _ rfl)
set_option maxRecDepth 100000 in
set_option maxHeartbeats 4000000 in
theorem cert_any (B : Nat) (pv tv : Value) (L : List ByteArray) (hs : (joinB L).size ≤ 1048576) (hL : L.length ≤ 1048576) (w : World) (hp : ∃ a n c, pv = .slice a n c) (h : w.ownsRow B 9 1 tv L.length (Gr.textsV L)) :
    Calls Tryz.prog 107 #[.agg #[pv, tv]] w fun e w' => (∃ d, e = .returned (.tuple #[d, .bool (cOk L)]) ∧ Gr.CROwn w' w.heap.size d (cV L).s (cV L).Q (cV L).M (cV L).Y (cV L).G) ∧ Below w.heap.size w w' := by
  obtain ⟨pa, pn, pc, rfl⟩ := hp
  obtain ⟨ta, tc, rfl⟩ := row_shape0 h
  obtain ⟨c1, c2, c3, c4, c5⟩ := Gr.cert_types
  have HO := hide h
  have JO := hide (fun w1 (hb : Below w.heap.size w w1) => join_own B _ L hs hL w1 (Gr.own_below h hb))
  have CP := hide (fun w1 => Gr.implParts_gen w1.heap.size (joinB L) hs w1 (Nat.le_refl _))
  have RC := hide (fun w1 => Gr.implReadCert_gen w1.heap.size (joinB L) hs w1 (Nat.le_refl _))
  have hPL : (Gr.partsT (joinB L)).length ≤ 1048576 := Nat.le_trans (Gr.parts_length _) hs
  have EQ := hide (fun a1 c1 w1 (hs1 : Gr.textsAt w1 a1 (Gr.partsT (joinB L)).length w1.heap.size (Gr.partsT (joinB L))) (hs2 : Gr.textsAt w1 ta L.length w1.heap.size L) => equalS_any a1 c1 (Gr.partsT (joinB L)) ta tc L hPL hL w1 hs1 hs2)
  have hOk : cOk L = (decide (Gr.partsT (joinB L) = L) && Gr.rcOk (joinB L)) := rfl
  have hV : cV L = if Gr.partsT (joinB L) = L then Gr.rcV (joinB L) else ⟨0, [], [], [], [], ⟨0, false⟩⟩ := rfl
  generalize cOk L = ok at hOk
  generalize cV L = cv at hV
  generalize Gr.rcOk (joinB L) = rok at hOk RC
  generalize Gr.rcV (joinB L) = rcv at hV RC
  generalize Gr.partsT (joinB L) = P at CP EQ hOk hV hPL
  generalize joinB L = T at JO CP RC
  obtain ⟨V, hV2⟩ : ∃ W, W = (w.alloc (Obj.cells #[.slice pa pn pc, .slice ta L.length tc] 143)).alloc (Obj.cells #[.int .i64 0, .slice none 0 0, .slice none 0 0, .slice none 0 0, .slice none 0 0] 134) := ⟨_, rfl⟩
  have bV : Below w.heap.size w V := by rw [hV2]; exact (Gr.below_new _ _).alloc (by simp) _
  have MH : Hid (Blk V w.heap.size #[.slice pa pn pc, .slice ta L.length tc] 143) := by show Blk _ _ _ _; rw [hV2]; exact Gr.Blk.new0.alloc
  have MC : Hid (Blk V (w.heap.size + 1) #[.int .i64 0, .slice none 0 0, .slice none 0 0, .slice none 0 0, .slice none 0 0] 134) := by show Blk _ _ _ _; rw [hV2]; exact Gr.Blk.new1
  have d1 : V.cell? ⟨w.heap.size, 1, none⟩ = some (.slice ta L.length tc) := (unhide MH).cell 1 _ rfl
  clear h
  go_enter Tryz.func107, Tryz.ntmps107
  go_wp2_with fail
  rw [← hV2]
  clear hV2
  refine (unhide JO V bV).mono ?_
  rintro e w1 ⟨rfl, hb1⟩
  have b1 := bV.trans (hb1.mono bV.size)
  have m1 := (unhide MH).below hb1
  have hm1 := m1.lt
  have d11 : w1.cell? ⟨w.heap.size, 1, none⟩ = some (.slice ta L.length tc) := m1.cell 1 _ rfl
  have M1 := hide m1
  have MC1 := hide ((unhide MC).below hb1)
  have HO1 := hide (Gr.own_below (unhide HO) b1)
  have HB1 := hide b1
  have hz1 := b1.size
  clear d1 m1 b1 hb1 bV JO
  go_wp2_with fail
  go_region_with
    (first
      | (go_at_call 124; refine (unhide CP w1.drew).mono ?_; rintro e w3 ⟨⟨dv, rfl, hO3⟩, hb3⟩; obtain ⟨qa, qc, rfl, hq3⟩ := Gr.StOwn.at hO3; have d3 : w3.cell? ⟨w.heap.size, 1, none⟩ = some (.slice ta L.length tc) := ((unhide M1).below ((Below.refl _ _).drew.trans hb3)).cell 1 _ rfl; have HB3 := hide (show Below w1.heap.size w1 w3 from (Below.refl _ _).drew.trans hb3))
      | (go_at_call 123; refine (unhide EQ qa qc w3 hq3 (by obtain ⟨a', c', e', h'⟩ := Gr.StOwn.at (show Gr.StOwn w3 B _ L from Gr.own_below (unhide HO1) (unhide HB3)); simp only [Value.slice.injEq, true_and] at e'; obtain ⟨rfl, rfl⟩ := e'; exact h')).mono ?_; rintro e w4 ⟨rfl, hb4⟩; have HB4 := hide (show Below w1.heap.size w1 w4 from (unhide HB3).trans (hb4.mono (unhide HB3).size))))
  all_goals
    have m4 := (unhide MC1).below (unhide HB4)
    have b4 := (unhide HB1).trans ((unhide HB4).mono hz1)
    clear HB3 hq3 d3 hO3 hb3 d11
    cases hpe : decide (P = L) with
    | false =>
      have hne : ¬ P = L := of_decide_eq_false hpe
      rw [hpe, Bool.false_and] at hOk
      rw [if_neg hne] at hV
      subst hOk hV
      have r0 : w4.cell? ⟨w.heap.size + 1, 0, none⟩ = some (.int .i64 0) := m4.cell 0 _ rfl
      have f0 := m4.froz 0
      have r1 : w4.cell? ⟨w.heap.size + 1, 1, none⟩ = some (.slice none 0 0) := m4.cell 1 _ rfl
      have f1 := m4.froz 1
      have r2 : w4.cell? ⟨w.heap.size + 1, 2, none⟩ = some (.slice none 0 0) := m4.cell 2 _ rfl
      have f2 := m4.froz 2
      have r3 : w4.cell? ⟨w.heap.size + 1, 3, none⟩ = some (.slice none 0 0) := m4.cell 3 _ rfl
      have f3 := m4.froz 3
      have r4 : w4.cell? ⟨w.heap.size + 1, 4, none⟩ = some (.slice none 0 0) := m4.cell 4 _ rfl
      have f4 := m4.froz 4
      have HF : Hid (Blk (((((w4.setCell ⟨w.heap.size + 1, 0, none⟩ (.int .i64 0)).setCell ⟨w.heap.size + 1, 1, none⟩ (.slice none 0 0)).setCell ⟨w.heap.size + 1, 2, none⟩ (.slice none 0 0)).setCell ⟨w.heap.size + 1, 3, none⟩ (.slice none 0 0)).setCell ⟨w.heap.size + 1, 4, none⟩ (.slice none 0 0)) (w.heap.size + 1) #[.int .i64 0, .slice none 0 0, .slice none 0 0, .slice none 0 0, .slice none 0 0] 134 ∧ Below w.heap.size w (((((w4.setCell ⟨w.heap.size + 1, 0, none⟩ (.int .i64 0)).setCell ⟨w.heap.size + 1, 1, none⟩ (.slice none 0 0)).setCell ⟨w.heap.size + 1, 2, none⟩ (.slice none 0 0)).setCell ⟨w.heap.size + 1, 3, none⟩ (.slice none 0 0)).setCell ⟨w.heap.size + 1, 4, none⟩ (.slice none 0 0))) := ⟨set5 m4, b4.trans ((kept5 w4 (w.heap.size + 1) _ _ _ _ _).below b4.size (fun i hi => by omega))⟩
      clear m4 b4 hpe hne
      go_wp2
      refine bodyPost_ret (v := .tuple #[.agg #[.int .i64 0, .slice none 0 0, .slice none 0 0, .slice none 0 0, .slice none 0 0], .bool false]) ((Gr.results_rd2 (fn := Tryz.f107) (p := 2) (u := 3) rfl _ _ _ _ _ rfl (Gr.load_cert (unhide HF).1)).trans rfl) rfl ⟨⟨_, rfl, Gr.CROwn.zero _ _⟩, (unhide HF).2⟩
    | true =>
      have heq : P = L := of_decide_eq_true hpe
      rw [hpe, Bool.true_and] at hOk
      rw [if_pos heq] at hV
      subst hOk hV
      have RC4 := hide (unhide RC w4)
      clear RC heq hpe
      go_wp2_with fail
      refine (unhide RC4).mono ?_
      rintro e w5 ⟨⟨dv5, rfl, h5⟩, hb5⟩
      have m5 := m4.below hb5
      have b5 := b4.trans (hb5.mono b4.size)
      have h5' := crown_lower b4.size h5
      obtain ⟨e1, k1, e2, k2, e3, k3, e4, k4, rfl⟩ := crown_shape h5
      have r0 : w5.cell? ⟨w.heap.size + 1, 0, none⟩ = some (.int .i64 0) := m5.cell 0 _ rfl
      have f0 := m5.froz 0
      have r1 : w5.cell? ⟨w.heap.size + 1, 1, none⟩ = some (.slice none 0 0) := m5.cell 1 _ rfl
      have f1 := m5.froz 1
      have r2 : w5.cell? ⟨w.heap.size + 1, 2, none⟩ = some (.slice none 0 0) := m5.cell 2 _ rfl
      have f2 := m5.froz 2
      have r3 : w5.cell? ⟨w.heap.size + 1, 3, none⟩ = some (.slice none 0 0) := m5.cell 3 _ rfl
      have f3 := m5.froz 3
      have r4 : w5.cell? ⟨w.heap.size + 1, 4, none⟩ = some (.slice none 0 0) := m5.cell 4 _ rfl
      have f4 := m5.froz 4
      have hk5 := kept5 w5 (w.heap.size + 1) (.int .i64 cv.s) (.slice e1 cv.Q.length k1) (.slice e2 cv.M.length k2) (.slice e3 cv.Y.length k3) (.slice e4 cv.G.length k4)
      have HF : Hid (Blk (((((w5.setCell ⟨w.heap.size + 1, 0, none⟩ (.int .i64 cv.s)).setCell ⟨w.heap.size + 1, 1, none⟩ (.slice e1 cv.Q.length k1)).setCell ⟨w.heap.size + 1, 2, none⟩ (.slice e2 cv.M.length k2)).setCell ⟨w.heap.size + 1, 3, none⟩ (.slice e3 cv.Y.length k3)).setCell ⟨w.heap.size + 1, 4, none⟩ (.slice e4 cv.G.length k4)) (w.heap.size + 1) #[.int .i64 cv.s, .slice e1 cv.Q.length k1, .slice e2 cv.M.length k2, .slice e3 cv.Y.length k3, .slice e4 cv.G.length k4] 134 ∧ Below w.heap.size w (((((w5.setCell ⟨w.heap.size + 1, 0, none⟩ (.int .i64 cv.s)).setCell ⟨w.heap.size + 1, 1, none⟩ (.slice e1 cv.Q.length k1)).setCell ⟨w.heap.size + 1, 2, none⟩ (.slice e2 cv.M.length k2)).setCell ⟨w.heap.size + 1, 3, none⟩ (.slice e3 cv.Y.length k3)).setCell ⟨w.heap.size + 1, 4, none⟩ (.slice e4 cv.G.length k4)) ∧ Gr.CROwn (((((w5.setCell ⟨w.heap.size + 1, 0, none⟩ (.int .i64 cv.s)).setCell ⟨w.heap.size + 1, 1, none⟩ (.slice e1 cv.Q.length k1)).setCell ⟨w.heap.size + 1, 2, none⟩ (.slice e2 cv.M.length k2)).setCell ⟨w.heap.size + 1, 3, none⟩ (.slice e3 cv.Y.length k3)).setCell ⟨w.heap.size + 1, 4, none⟩ (.slice e4 cv.G.length k4)) w.heap.size (.agg #[.int .i64 cv.s, .slice e1 cv.Q.length k1, .slice e2 cv.M.length k2, .slice e3 cv.Y.length k3, .slice e4 cv.G.length k4]) cv.s cv.Q cv.M cv.Y cv.G) := ⟨set5 m5, b5.trans (hk5.below b5.size (fun i hi => by omega)), h5'.kept hk5 (fun i hi => by subst hi; exact ⟨m5.alien c1, m5.alien c2, m5.alien c3, m5.alien c4⟩)⟩
      clear m4 m5 b4 b5 h5 h5' hk5 hb5 RC4
      go_wp2
      refine bodyPost_ret (v := .tuple #[.agg #[.int .i64 cv.s, .slice e1 cv.Q.length k1, .slice e2 cv.M.length k2, .slice e3 cv.Y.length k3, .slice e4 cv.G.length k4], .bool ok]) ((Gr.results_rd2 (fn := Tryz.f107) (p := 2) (u := 3) rfl _ _ _ _ _ rfl (Gr.load_cert (unhide HF).1)).trans rfl) rfl ⟨⟨_, rfl, (unhide HF).2.2⟩, (unhide HF).2.1⟩
set_option maxRecDepth 100000 in
set_option maxHeartbeats 2000000 in
theorem isPool_any (B g : Nat) (R : Rgs) (a : Option Addr) (c : Nat) (K : List Int) (hK : K.length ≤ 1048576) (w : World) (hR : RegAt w B g R) (hI : IntsAt w a K.length w.heap.size K) :
    Calls Tryz.prog 108 #[.pointer (some ⟨g, 0, none⟩), .slice a K.length c] w fun e w' => e = .returned (.bool (poolR R K)) ∧ Below w.heap.size w w' := by
  have hX : poolR R K = (decide (∀ i ∈ K, joined R i = true) && (decide (K.length ≤ 9) && Gr.chainFrom none K)) := rfl
  have JO := hide (fun (i : Int) w1 (hb : Below w.heap.size w w1) => joined_any i B g R w1 (hR.below hb))
  have AS := hide (fun w1 (hb : Below w.heap.size w w1) => Gr.isAsc_any a K.length c w.heap.size K hK w1 hb.size (hI.below hb (Nat.le_refl _)))
  have HC := hide hI.2
  have HY : Hid ((∀ j (h : j < K.length), joined R K[j] = true) → decide (∀ i ∈ K, joined R i = true) = true) := fun h => decide_eq_true (fun i hi => by obtain ⟨j, hj, rfl⟩ := List.mem_iff_getElem.1 hi; exact h j hj)
  have HN : Hid (∀ j (h : j < K.length), joined R K[j] = false → decide (∀ i ∈ K, joined R i = true) = false) := fun j h hf => decide_eq_false (fun hall => by have := hall _ (List.getElem_mem h); rw [hf] at this; cases this)
  generalize poolR R K = X at hX
  generalize decide (∀ i ∈ K, joined R i = true) = al at hX HY HN
  have HX := hide hX
  clear hR hI hX
  go_enter Tryz.func108, Tryz.ntmps108
  go_wp2_with fail
  go_loopw [9] (fun i wr => ∃ j : Nat, i = .int .i64 (j : Int) ∧ j ≤ K.length ∧ Hid (∀ m (h : m < K.length), m < j → joined R K[m] = true) ∧ Below w.heap.size w wr) (fun i _ => K.length - (intOf i).toNat)
  case atStart => exact ⟨0, rfl, Nat.zero_le _, fun m _ h => absurd h (Nat.not_lt_zero _), Below.refl _ _⟩
  case round =>
    obtain ⟨j, rfl, hj, HJ, hb⟩ := hrel
    by_cases hlt : j < K.length
    · obtain ⟨b, off, rfl, hbB, d0⟩ := unhide HC j hlt
      rw [← hb.cell (p := ⟨b, off + j, none⟩) hbB] at d0
      have J1 := hide (unhide JO K[j] wr hb)
      have HNO := hide (unhide HN j hlt)
      have HJ2 : Hid (joined R K[j] = true → ∀ m (h : m < K.length), m < j + 1 → joined R K[m] = true) := fun h m hm hmj => by
        rcases Nat.lt_succ_iff_lt_or_eq.1 hmj with h3 | rfl
        · exact unhide HJ m hm h3
        · exact h
      have hj1 : (j : Int) < ((K.length : Nat) : Int) := by omega
      generalize joined R K[j] = jb at J1 HNO HJ2
      generalize K[j] = x at d0 J1
      go_wp2_with fail
      refine (unhide J1).mono ?_
      rintro e w1 ⟨rfl, rfl⟩
      cases jb with
      | false =>
        have hal := unhide HNO rfl
        have hXf : X = false := by rw [unhide HX, hal, Bool.false_and]
        subst hXf
        go_wp2
        go_ret
        exact ⟨rfl, hb⟩
      | true =>
        have HJ3 := hide (unhide HJ2 rfl)
        clear HJ2 HNO
        go_wp2_with fail
        exact ⟨⟨j + 1, by go_num, by omega, unhide HJ3, hb⟩, by simp [intOf]; omega⟩
    · have hal := unhide HY (fun m h => unhide HJ m h (by omega))
      rw [hal, Bool.true_and] at HX
      have hj1 : ¬ (j : Int) < ((K.length : Nat) : Int) := by omega
      have A1 := hide (unhide AS wr hb)
      clear HY HN hal
      by_cases h9 : K.length ≤ 9
      · rw [decide_eq_true h9, Bool.true_and] at HX
        have h9i : ((K.length : Nat) : Int) ≤ 9 := by omega
        have hXe := unhide HX
        rw [← hXe] at A1
        clear hXe
        go_wp2_with fail
        refine (unhide A1).mono ?_
        rintro e w1 ⟨rfl, hb1⟩
        go_wp2
        go_ret
        exact ⟨rfl, hb.trans (hb1.mono hb.size)⟩
      · rw [decide_eq_false h9, Bool.false_and] at HX
        have hXe := unhide HX
        subst hXe
        have h9i : ¬ ((K.length : Nat) : Int) ≤ 9 := by omega
        go_wp2
        go_ret
        exact ⟨rfl, hb⟩
theorem rdOk_is (R : Rgs) (x : List Int × List ByteArray) : rdOk R x = (cOk x.2 && (decide ((cV x.2).s = (x.1.length : Int)) && poolR R x.1)) := by
  unfold rdOk cOk cV
  by_cases h : Gr.partsT (joinB x.2) = x.2
  · rw [if_pos h]
  · rw [decide_eq_false h, Bool.false_and, Bool.false_and, Bool.false_and]
set_option maxRecDepth 100000 in
set_option maxHeartbeats 4000000 in
theorem rounds'_any (B g : Nat) (R : Rgs) (hrl : R.rds.length ≤ 1000) (hpl : ∀ y ∈ R.rds, y.2.length ≤ 1000 ∧ (joinB y.2).size ≤ 1048576 ∧ y.1.length ≤ 1000) (w : World) (hR : RegAt w B g R) :
    Calls Tryz.prog 76 #[.pointer (some ⟨g, 0, none⟩)] w fun e w' => e = .returned (.bool (roundsR R)) ∧ Below w.heap.size w w' := by
  have hX : roundsR R = (decide (∀ x ∈ R.rds, rdOk R x = true) && decide (R.rds.length ≤ 6)) := rfl
  have HR := hide hR
  have hg := hR.lt
  have HY : Hid ((∀ j (h : j < R.rds.length), rdOk R R.rds[j] = true) → decide (∀ x ∈ R.rds, rdOk R x = true) = true) := fun h => decide_eq_true (fun i hi => by obtain ⟨j, hj, rfl⟩ := List.mem_iff_getElem.1 hi; exact h j hj)
  have HN : Hid (∀ j (h : j < R.rds.length), rdOk R R.rds[j] = false → decide (∀ x ∈ R.rds, rdOk R x = true) = false) := fun j h hf => decide_eq_false (fun hall => by have := hall _ (List.getElem_mem h); rw [hf] at this; cases this)
  have IPO := hide (fun a c (K : List Int) (hK : K.length ≤ 1048576) w1 (hb : Below w.heap.size w w1) (hI : IntsAt w1 a K.length w1.heap.size K) => isPool_any B g R a c K hK w1 (hR.below hb) hI)
  have HPL := hide hpl
  obtain ⟨_, rv, vs, hk0, hrd0⟩ := hR
  obtain ⟨ra, rc, hrv⟩ := row_shape0 hrd0.own
  subst hrv
  have c600 : w.cell? ⟨g, 600, none⟩ = some (.slice ra R.rds.length rc) := hk0.cell 600 _ (by rw [regC_at _ _ _ (by omega), cell_rds])
  have HRD := hide hrd0
  have HK0 := hide hk0
  generalize roundsR R = X at hX
  generalize decide (∀ x ∈ R.rds, rdOk R x = true) = al at hX HY HN
  have HX := hide hX
  clear hpl hX hrd0 hk0
  go_enter Tryz.func76, Tryz.ntmps76
  go_wp2_with fail
  go_loopw [12] (fun i wr => ∃ j : Nat, i = .int .i64 (j : Int) ∧ j ≤ R.rds.length ∧ Hid (∀ m (h : m < R.rds.length), m < j → rdOk R R.rds[m] = true) ∧ Below w.heap.size w wr) (fun i _ => R.rds.length - (intOf i).toNat)
  case atStart => exact ⟨0, rfl, Nat.zero_le _, fun m _ h => absurd h (Nat.not_lt_zero _), Below.refl _ _⟩
  case round =>
    obtain ⟨j, rfl, hj, HJ, hb⟩ := hrel
    by_cases hlt : j < R.rds.length
    · have hrdw := (unhide HRD).below hb
      have hjv : j < vs.length := by rw [hrdw.len]; exact hlt
      have hpool := hrdw.pool j hjv hlt
      have hpart := hrdw.part j hjv hlt
      obtain ⟨pa, pc, hpv⟩ := row_shape0 hpool
      obtain ⟨ta, tc, htv⟩ := row_shape0 hpart
      obtain ⟨gv, hgv⟩ : ∃ gv, ra = some ⟨gv, 0, none⟩ := by
        rcases hrdw.own.2 with ⟨h1, h2⟩ | ⟨gv, cap, cur, h1, _⟩
        · omega
        · simp at h1; exact ⟨gv, h1.1⟩
      subst hgv
      have q0 : wr.cell? ⟨gv, j * 2, none⟩ = some (.slice pa R.rds[j].1.length pc) := by rw [hrdw.own.cellAt (j * 2) (by omega), ← hpv]; exact (flat_at vs j hjv).1
      have q1 : wr.cell? ⟨gv, j * 2 + 1, none⟩ = some (.slice ta R.rds[j].2.length tc) := by rw [hrdw.own.cellAt (j * 2 + 1) (by omega), ← htv]; exact (flat_at vs j hjv).2
      rw [hpv] at hpool
      rw [htv] at hpart
      obtain ⟨hp1, hp2, hp3⟩ := unhide HPL _ (List.getElem_mem hlt)
      have hj1 : (j : Int) < ((R.rds.length : Nat) : Int) := by omega
      have CE := hide (fun w1 (hb1 : Below wr.heap.size wr w1) => cert_any B (.slice pa R.rds[j].1.length pc) (.slice ta R.rds[j].2.length tc) R.rds[j].2 hp2 (by omega) w1 ⟨_, _, _, rfl⟩ (Gr.own_below hpart hb1))
      have IPJ := hide (fun w1 (hb1 : Below wr.heap.size wr w1) => unhide IPO pa pc R.rds[j].1 (by omega) w1 (hb.trans (hb1.mono hb.size)) (by obtain ⟨a', c', e', h'⟩ := Gr.InOwn.at (Gr.own_below hpool hb1); simp only [Value.slice.injEq, true_and] at e'; obtain ⟨rfl, rfl⟩ := e'; exact h'))
      have HNO := hide (unhide HN j hlt)
      have HJ2 : Hid (rdOk R R.rds[j] = true → ∀ m (h : m < R.rds.length), m < j + 1 → rdOk R R.rds[m] = true) := fun h m hm hmj => by
        rcases Nat.lt_succ_iff_lt_or_eq.1 hmj with h3 | rfl
        · exact unhide HJ m hm h3
        · exact h
      rw [rdOk_is] at HNO
      rw [rdOk_is R R.rds[j]] at HJ2
      generalize poolR R R.rds[j].1 = pr at IPJ HNO HJ2
      generalize cOk R.rds[j].2 = co at CE HNO HJ2
      generalize cV R.rds[j].2 = cv at CE HNO HJ2
      clear hrdw hpool hpart hpv htv hp2
      generalize R.rds[j].1.length = pn at q0 CE IPJ HNO HJ2 hp3
      generalize R.rds[j].2.length = tn at q1 CE hp1
      go_wp2_with fail
      obtain ⟨V, hV⟩ : ∃ W, W = wr.alloc (Obj.cells #[.slice pa pn pc, .slice ta tn tc] 143) := ⟨_, rfl⟩
      rw [← hV]
      have bV : Below wr.heap.size wr V := by rw [hV]; exact Gr.below_new _ _
      have mV : Blk V wr.heap.size #[.slice pa pn pc, .slice ta tn tc] 143 := by rw [hV]; exact Gr.Blk.new0
      clear hV q0 q1
      refine (unhide CE V bV).mono ?_
      rintro e w1 ⟨⟨dv, rfl, h1⟩, hb1⟩
      obtain ⟨e1, k1, e2, k2, e3, k3, e4, k4, rfl⟩ := crown_shape h1
      have m1 := mV.below hb1
      have b1 := bV.trans (hb1.mono bV.size)
      clear h1 hb1 mV bV CE
      obtain ⟨W, hW⟩ : ∃ W, W = w1.alloc (Obj.cells #[.int .i64 cv.s, .slice e1 cv.Q.length k1, .slice e2 cv.M.length k2, .slice e3 cv.Y.length k3, .slice e4 cv.G.length k4] 134) := ⟨_, rfl⟩
      have bW : Below w1.heap.size w1 W := by rw [hW]; exact Gr.below_new _ _
      have mW : Blk W w1.heap.size #[.int .i64 cv.s, .slice e1 cv.Q.length k1, .slice e2 cv.M.length k2, .slice e3 cv.Y.length k3, .slice e4 cv.G.length k4] 134 := by rw [hW]; exact Gr.Blk.new0
      have g0 : W.cell? ⟨w1.heap.size, 0, none⟩ = some (.int .i64 cv.s) := mW.cell 0 _ rfl
      have mh := m1.below bW
      have q0 : W.cell? ⟨wr.heap.size, 0, none⟩ = some (.slice pa pn pc) := mh.cell 0 _ rfl
      have b2 := b1.trans (bW.mono b1.size)
      have b3 := hb.trans (b2.mono hb.size)
      have I2 := hide (unhide IPJ W b2)
      clear m1 mh mW bW b1 b2 IPJ
      cases co with
      | false =>
        have hal := unhide HNO (by rw [Bool.false_and])
        have hXf : X = false := by rw [unhide HX, hal, Bool.false_and]
        subst hXf
        rw [hW] at b3
        go_wp2
        go_ret
        exact ⟨rfl, b3⟩
      | true =>
        rw [Bool.true_and] at HNO HJ2
        cases hsz : (cv.s != ((pn : Nat) : Int)) with
        | true =>
          have hd : decide (cv.s = ((pn : Nat) : Int)) = false := decide_eq_false (by rw [bne_iff_ne] at hsz; exact hsz)
          have hal := unhide HNO (by rw [hd, Bool.false_and])
          have hXf : X = false := by rw [unhide HX, hal, Bool.false_and]
          subst hXf
          clear hd
          rw [hW] at b3 q0
          go_wp2
          go_ret
          exact ⟨rfl, b3⟩
        | false =>
          have hd : decide (cv.s = ((pn : Nat) : Int)) = true := decide_eq_true (by simpa using hsz)
          rw [hd, Bool.true_and] at HNO HJ2
          clear hd
          rw [hW] at q0 I2 b3
          go_wp2_with fail
          refine (unhide I2).mono ?_
          rintro e w5 ⟨rfl, hb5⟩
          have b5 := b3.trans (hb5.mono b3.size)
          cases pr with
          | false =>
            have hal := unhide HNO rfl
            have hXf : X = false := by rw [unhide HX, hal, Bool.false_and]
            subst hXf
            go_wp2
            go_ret
            exact ⟨rfl, b5⟩
          | true =>
            have HJ3 := hide (unhide HJ2 rfl)
            clear HJ2 HNO
            go_wp2_with fail
            exact ⟨⟨j + 1, by go_num, by omega, unhide HJ3, b5⟩, by simp [intOf]; omega⟩
    · have hal := unhide HY (fun m h => unhide HJ m h (by omega))
      rw [hal, Bool.true_and] at HX
      have hj1 : ¬ (j : Int) < ((R.rds.length : Nat) : Int) := by omega
      have c6 : wr.cell? ⟨g, 600, none⟩ = some (.slice ra R.rds.length rc) := ((unhide HK0).below hb).cell 600 _ (by rw [regC_at _ _ _ (by omega), cell_rds])
      have hXe : X = decide (((R.rds.length : Nat) : Int) ≤ 6) := by rw [unhide HX, decide_eq_decide]; omega
      subst hXe
      clear HY HN hal HX
      go_wp2
      go_ret
      exact ⟨rfl, hb⟩
end Rg
end Go.Proofs.YtihnaddfpmjpaaaGreatDoor
