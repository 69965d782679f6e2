/-
 CyT.
-/
import Derived.Test.YtihnaddfpmjpaaaGreatDoorJ47
import Derived.Test.YtihnaddfpmjpaaaGreatDoorJ44
import Derived.Test.YtihnaddfpmjpaaaGreatDoorJ1
import Derived.Test.YtihnaddfpmjpaaaGreatDoorJ48
import Derived.Test.YtihnaddfpmjpaaaGreatDoorJ46
import Derived.BigQuiet
import Derived.Deep.RegionHeld3
namespace Go.Proofs.YtihnaddfpmjpaaaGreatDoor
namespace Cy
open Go.RowKit
open Gr (Grown wp_region_grown PaAt PaOwn pasize pasize_le)
theorem varForm_any (x : Int) (h0 : 0 ≤ x) (h1 : x ≤ 1000000000) (w : World) :
    Calls Tryz.prog 54 #[.int .i64 x] w fun e w' => e = .returned (.string (Gr.vB x)) ∧ Below w.heap.size w w' := by
  obtain ⟨n, rfl⟩ := Int.eq_ofNat_of_zero_le h0
  have IV := hide (implVar_yes n (by omega) w)
  have e : Gr.vB (n : Int) = ⟨(varB 4 n).toArray⟩ := rfl
  rw [e]
  generalize (varB 4 n).toArray = t at IV
  clear e
  go_enter Tryz.func54, Tryz.ntmps54
  go_wp2_with fail
  refine (unhide IV).mono ?_
  rintro e w1 ⟨rfl, hb1⟩
  go_wp2
  go_ret
  exact ⟨rfl, hb1⟩
theorem l04Short_any (s : ByteArray) (hs : s.size ≤ 1000000000) (w : World) :
    Calls Tryz.prog 51 #[.string s] w fun e w' => e = .returned (.string (shB s)) ∧ Below w.heap.size w w' := by
  have hl := varB_length 4 s.size
  have IV := hide (l01Var_any s.size (by omega) w)
  have e : shB s = ⟨(varB 4 s.size).toArray⟩ ++ s := rfl
  rw [e]
  go_enter Tryz.func51, Tryz.ntmps51
  go_wp2_with fail
  refine (unhide IV).mono ?_
  rintro e w1 ⟨rfl, hb1⟩
  go_wp2
  go_ret
  exact ⟨rfl, hb1⟩
theorem shortForm_any (s : ByteArray) (hs : s.size ≤ 8000) (w : World) :
    Calls Tryz.prog 55 #[.string s] w fun e w' => e = .returned (.string (shB s)) ∧ Below w.heap.size w w' := by
  have H := hide (fun w => implShort_yes s hs w)
  have e : shB s = ⟨(varB 4 s.size).toArray⟩ ++ s := rfl
  rw [← e] at H
  generalize shB s = t at H
  go_enter Tryz.func55, Tryz.ntmps55
  go_wp2_with fail
  refine (unhide H _).mono ?_
  rintro e w1 ⟨rfl, hb1⟩
  go_wp2
  go_ret
  exact ⟨rfl, hb1⟩
set_option maxRecDepth 100000 in
set_option maxHeartbeats 4000000 in
theorem specText_gen (B : Nat) (v : Value) (Q : List (ByteArray × ByteArray)) (h1 : pasize Q ≤ 1048576) (w : World) (hB : B ≤ w.heap.size) (hv : PaAt w v B Q) :
    Calls Tryz.prog 25 #[v] w fun e w' => e = .returned (.tuple #[.string (textR Q), .bool (Rg.stateOk Q)]) ∧ Below w.heap.size w w' := by
  have SO := hide (Gr.specStateOk_gen B v Q h1 w hB hv)
  have hV : textR Q = if Rg.stateOk Q = true then sealB (stT Q) else ⟨#[]⟩ := rfl
  have HSZ := hide (fun (h : Rg.stateOk Q = true) => stT_size h)
  have HMP := hide (fun (h : Rg.stateOk Q = true) => state_map h)
  have HTK := hide (fun j h => stA_take (Gr.vB (Q.length : Int)) Q j h)
  have HT0 : Hid (stA (Gr.vB (Q.length : Int)) (Q.take 0) = Gr.vB (Q.length : Int)) := rfl
  have HTE : Hid (stA (Gr.vB (Q.length : Int)) (Q.take Q.length) = stT Q) := by show _ = _; rw [List.take_length]; rfl
  have hQl := (pasize_le h1).1
  have LV := hide (fun w => l01Var_any Q.length (by omega) w)
  have eV : (⟨(varB 4 Q.length).toArray⟩ : ByteArray) = Gr.vB (Q.length : Int) := rfl
  rw [eV] at LV
  generalize Gr.vB (Q.length : Int) = t0 at HSZ HTK HT0 HTE LV
  obtain ⟨a, c, rfl, hQ, _⟩ := hv
  have HC := hide hQ.2
  have SE := hide (fun (hz : (stT Q).size ≤ 8000) w => specSealed_yes (stT Q) hz w)
  generalize Rg.stateOk Q = st at SO hV HSZ HMP ⊢
  generalize textR Q = V at hV ⊢
  generalize stT Q = tE at hV HTE SE
  clear h1 hQ eV
  cases st with
  | false =>
    rw [if_neg (by simp)] at hV
    subst hV
    go_enter Tryz.func25, Tryz.ntmps25
    go_wp2_with fail
    refine (unhide SO).mono ?_
    rintro e w1 ⟨rfl, b1⟩
    go_wp2
    go_ret2
    exact ⟨rfl, b1⟩
  | true =>
    rw [if_pos rfl] at hV
    subst hV
    obtain ⟨hn, _⟩ := unhide HMP rfl
    have hn' : Q.length ≤ 120 := hn
    go_enter Tryz.func25, Tryz.ntmps25
    go_wp2_with fail
    refine (unhide SO).mono ?_
    rintro e w1 ⟨rfl, b1⟩
    go_wp2_with fail
    refine (unhide LV w1).mono ?_
    rintro e w2 ⟨rfl, hb2⟩
    have b2 := b1.trans (hb2.mono b1.size)
    clear hb2 SO LV b1 hn
    go_wp2_with fail
    go_loopw [4, 5] (fun x i wr => ∃ (j : Nat) (t : ByteArray), i = .int .i64 (j : Int) ∧ x = .string t ∧ j ≤ Q.length ∧ Hid (t = stA t0 (Q.take j)) ∧ Below w.heap.size w wr) (fun _ i _ => Q.length - (intOf i).toNat)
    case atStart => exact ⟨0, t0, rfl, rfl, Nat.zero_le _, (unhide HT0).symm, b2⟩
    case round =>
      obtain ⟨j, t, rfl, rfl, hj, HT, hb⟩ := hrel
      have hts : t.size ≤ 7000 := by rw [unhide HT]; exact unhide HSZ (by first | rfl | trivial) j hj
      by_cases hlt : j < Q.length
      · obtain ⟨b, off, rfl, hbB, d0, d1⟩ := unhide HC j hlt
        have hsz := (unhide HMP (by first | rfl | trivial)).2 Q[j] (List.getElem_mem hlt)
        have hTk := unhide HTK j hlt
        rw [← unhide HT] at hTk
        generalize Q[j] = q at d0 d1 hsz hTk
        obtain ⟨x, y⟩ := q
        simp only at d0 d1 hsz hTk
        rw [← hb.cell (p := ⟨b, off + j * 2, none⟩) (by simp; omega)] at d0
        rw [← hb.cell (p := ⟨b, off + j * 2 + 1, none⟩) (by simp; omega)] at d1
        have hx9 := shB_size x
        have hy9 := shB_size y
        have SX := hide (fun w => l04Short_any x (by omega) w)
        have SY := hide (fun w => l04Short_any y (by omega) w)
        have hjn : (j : Int) < ((Q.length : Nat) : Int) := by omega
        have hj0 : (0 : Int) ≤ (j : Int) := by omega
        have hbl : b < wr.heap.size := by have := hb.size; omega
        have k0 : ∀ d : Grown wr.heap.size wr, d.w.cell? ⟨b, off + j * 2, none⟩ = some (.string x) := fun d => (d.below.cell (p := ⟨b, off + j * 2, none⟩) hbl).trans d0
        have k1 : ∀ d : Grown wr.heap.size wr, d.w.cell? ⟨b, off + j * 2 + 1, none⟩ = some (.string y) := fun d => (d.below.cell (p := ⟨b, off + j * 2 + 1, none⟩) hbl).trans d1
        have HB5 := hide (fun W5 (h5 : Below wr.heap.size wr W5) => hb.trans (h5.mono hb.size))
        generalize hkx : shB x = kx at SX hTk hx9
        generalize hky : shB y = ky at SY hTk hy9
        have e1 : (t ++ kx).size = t.size + kx.size := ByteArray.size_append
        have hc1 : ¬ 9223372036854775807 < t.size + kx.size := by omega
        have hc2 : ¬ 9223372036854775807 < (t ++ kx).size + ky.size := by omega
        have HN : Hid ((t ++ kx) ++ ky = stA t0 (Q.take (j + 1))) := hTk.symm
        have hwq : wrap64 (j : Int) = (j : Int) := by unfold wrap64; omega
        clear d0 d1 hsz hTk hb HT hkx hky e1 hwq
        go_wp2_with fail
        refine wp_region_grown wr.heap.size (by kernel_rfl) (by kernel_rfl) ?_
        repeat (go_big_quiet_step (first
          | (go_at_call_of 51 (Value.string x); exact Gr.Calls.grown (Nat.le_refl _) (unhide SX _))
          | (go_at_call_of 51 (Value.string y); exact Gr.Calls.grown (Nat.le_refl _) (unhide SY _))))
        refine wpQuiet_nil ?_
        rintro w5 ⟨d5, rfl⟩
        obtain ⟨W5, hb5⟩ := d5
        dsimp only
        have hbW := unhide HB5 W5 hb5
        clear k0 k1 SX SY HB5 hb5
        go_wp2_with fail
        exact ⟨⟨j + 1, _, by go_num, rfl, by omega, unhide HN, hbW⟩, by simp [intOf]; omega⟩
      · obtain rfl : j = Q.length := by omega
        have hTE := unhide HT
        rw [unhide HTE] at hTE
        subst hTE
        have SE1 := hide (unhide SE (by omega) wr)
        go_wp2_with fail
        refine (unhide SE1).mono ?_
        rintro e w8 ⟨rfl, hb8⟩
        have hbe := hb.trans (hb8.mono hb.size)
        clear hb hb8
        go_wp2
        go_ret2
        exact ⟨rfl, hbe⟩
set_option maxRecDepth 100000 in
set_option maxHeartbeats 4000000 in
theorem implText_gen (B : Nat) (v : Value) (Q : List (ByteArray × ByteArray)) (h1 : pasize Q ≤ 1048576) (w : World) (hB : B ≤ w.heap.size) (ht : Rg.Tab w.heap.size w) (hv : PaAt w v B Q) :
    Calls Tryz.prog 26 #[v] w fun e w' => e = .returned (.tuple #[.string (textR Q), .bool (Rg.stateOk Q)]) ∧ Below w.heap.size w w' := by
  have SO := hide (Gr.implStateOk_gen B v Q h1 w hB ht hv)
  have hV : textR Q = if Rg.stateOk Q = true then sealB (stT Q) else ⟨#[]⟩ := rfl
  have HSZ := hide (fun (h : Rg.stateOk Q = true) => stT_size h)
  have HMP := hide (fun (h : Rg.stateOk Q = true) => state_map h)
  have HTK := hide (fun j h => stA_take (Gr.vB (Q.length : Int)) Q j h)
  have HT0 : Hid (stA (Gr.vB (Q.length : Int)) (Q.take 0) = Gr.vB (Q.length : Int)) := rfl
  have HTE : Hid (stA (Gr.vB (Q.length : Int)) (Q.take Q.length) = stT Q) := by show _ = _; rw [List.take_length]; rfl
  have hQl := (pasize_le h1).1
  have LV := hide (fun w => varForm_any (Q.length : Int) (by omega) (by omega) w)
  generalize Gr.vB (Q.length : Int) = t0 at HSZ HTK HT0 HTE LV
  obtain ⟨a, c, rfl, hQ, _⟩ := hv
  have HC := hide hQ.2
  have SE := hide (fun (hz : (stT Q).size ≤ 8000) w => implSealed_any (stT Q) w)
  have SE2 : Hid ((stT Q).size ≤ 8000 → sealA (stT Q) = .tuple #[.string (sealB (stT Q)), .bool true]) := fun hz => if_pos hz
  generalize Rg.stateOk Q = st at SO hV HSZ HMP ⊢
  generalize textR Q = V at hV ⊢
  generalize stT Q = tE at hV HTE SE SE2
  clear h1 hQ ht
  cases st with
  | false =>
    rw [if_neg (by simp)] at hV
    subst hV
    go_enter Tryz.func26, Tryz.ntmps26
    go_wp2_with fail
    refine (unhide SO).mono ?_
    rintro e w1 ⟨rfl, b1⟩
    go_wp2
    go_ret2
    exact ⟨rfl, b1⟩
  | true =>
    rw [if_pos rfl] at hV
    subst hV
    obtain ⟨hn, _⟩ := unhide HMP rfl
    have hn' : Q.length ≤ 120 := hn
    go_enter Tryz.func26, Tryz.ntmps26
    go_wp2_with fail
    refine (unhide SO).mono ?_
    rintro e w1 ⟨rfl, b1⟩
    go_wp2_with fail
    refine (unhide LV w1).mono ?_
    rintro e w2 ⟨rfl, hb2⟩
    have b2 := b1.trans (hb2.mono b1.size)
    clear hb2 SO LV b1 hn
    go_wp2_with fail
    go_loopw [4, 15] (fun x i wr => ∃ (j : Nat) (t : ByteArray), i = .int .i64 (j : Int) ∧ x = .string t ∧ j ≤ Q.length ∧ Hid (t = stA t0 (Q.take j)) ∧ Below w.heap.size w wr) (fun _ i _ => Q.length - (intOf i).toNat)
    case atStart => exact ⟨0, t0, rfl, rfl, Nat.zero_le _, (unhide HT0).symm, b2⟩
    case round =>
      obtain ⟨j, t, rfl, rfl, hj, HT, hb⟩ := hrel
      have hts : t.size ≤ 7000 := by rw [unhide HT]; exact unhide HSZ (by first | rfl | trivial) j hj
      by_cases hlt : j < Q.length
      · obtain ⟨b, off, rfl, hbB, d0, d1⟩ := unhide HC j hlt
        have hsz := (unhide HMP (by first | rfl | trivial)).2 Q[j] (List.getElem_mem hlt)
        have hTk := unhide HTK j hlt
        rw [← unhide HT] at hTk
        generalize Q[j] = q at d0 d1 hsz hTk
        obtain ⟨x, y⟩ := q
        simp only at d0 d1 hsz hTk
        rw [← hb.cell (p := ⟨b, off + j * 2, none⟩) (by simp; omega)] at d0
        rw [← hb.cell (p := ⟨b, off + j * 2 + 1, none⟩) (by simp; omega)] at d1
        have hx9 := shB_size x
        have hy9 := shB_size y
        have HKF := hide (fun w => shortForm_any x (by omega) w)
        have HTF := hide (fun w => shortForm_any y (by omega) w)
        have hjn : (j : Int) < ((Q.length : Nat) : Int) := by omega
        have hj0 : (0 : Int) ≤ (j : Int) := by omega
        generalize hkx : shB x = kx at HKF hTk hx9
        generalize hky : shB y = ky at HTF hTk hy9
        have hcat1 : ¬ 9223372036854775807 < kx.size + ky.size := by omega
        have e1 : (kx ++ ky).size = kx.size + ky.size := ByteArray.size_append
        have hcat2 : ¬ 9223372036854775807 < t.size + (kx.size + ky.size) := by omega
        have HN : Hid (t ++ (kx ++ ky) = stA t0 (Q.take (j + 1))) := by show _ = _; rw [hTk, ByteArray.append_assoc]
        clear hTk HT hkx hky e1
        go_wp2_with fail
        obtain ⟨W5, hW5⟩ : ∃ W, W = wr.alloc (Obj.cells #[Value.string x, Value.string y] 55) := ⟨_, rfl⟩
        rw [← hW5]
        have hb5 : Below w.heap.size w W5 := by rw [hW5]; exact hb.alloc hb.size _
        have hl5 : wr.heap.size < W5.heap.size := by rw [hW5]; simp
        have e0 : W5.cell? ⟨wr.heap.size, 0, none⟩ = some (.string x) := by rw [hW5]; simp [go_sem]
        have e1 : W5.cell? ⟨wr.heap.size, 1, none⟩ = some (.string y) := by rw [hW5]; simp [go_sem]
        clear hW5 hb d0 d1
        go_region_held3 (fun u => u.cell? ⟨wr.heap.size, 0, none⟩ = some (.string x) ∧ u.cell? ⟨wr.heap.size, 1, none⟩ = some (.string y))
          (first | go_keep | exact ⟨k0, k1⟩ | exact ⟨l0, l1⟩)
          (first
            | (go_at_call_of 55 (Value.string x); refine (unhide HKF _).mono ?_; rintro e w6 ⟨rfl, hb6⟩; have k0 := (hb6.cell (p := ⟨wr.heap.size, 0, none⟩) hl5).trans e0; have k1 := (hb6.cell (p := ⟨wr.heap.size, 1, none⟩) hl5).trans e1)
            | (go_at_call_of 55 (Value.string y); refine (unhide HTF _).mono ?_; rintro e w7 ⟨rfl, hb7⟩; have l0 := (hb7.cell (p := ⟨wr.heap.size, 0, none⟩) (Nat.lt_of_lt_of_le hl5 hb6.size)).trans k0; have l1 := (hb7.cell (p := ⟨wr.heap.size, 1, none⟩) (Nat.lt_of_lt_of_le hl5 hb6.size)).trans k1))
        have hbe : Below w.heap.size w w7 := hb5.drew.trans ((hb6.trans (hb7.mono hb6.size)).mono hb5.size)
        clear hb5 hb6 hb7 e0 e1 k0 k1 l0 l1
        go_wp2_with fail
        exact ⟨⟨j + 1, _, by go_num, rfl, by omega, unhide HN, hbe⟩, by simp [intOf]; omega⟩
      · obtain rfl : j = Q.length := by omega
        have hTE := unhide HT
        rw [unhide HTE] at hTE
        subst hTE
        have SE1 := hide (unhide SE (by omega) wr)
        rw [unhide SE2 (by omega)] at SE1
        go_wp2_with fail
        refine (unhide SE1).mono ?_
        rintro e w8 ⟨rfl, hb8⟩
        have hbe := hb.trans (hb8.mono hb.size)
        clear hb hb8
        go_wp2
        go_ret2
        exact ⟨rfl, hbe⟩
end Cy
end Go.Proofs.YtihnaddfpmjpaaaGreatDoor
