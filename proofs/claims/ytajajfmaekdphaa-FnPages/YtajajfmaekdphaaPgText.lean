/-
  The contract of impl.PageText.
-/
import Derived.Test.YtajajfmaekdphaaPgAre
import Derived.Test.YtajajfmaekdphaaWShort
import Derived.Test.YtajajfmaekdphaaPgByte
import Derived.Deep.DeepCutAuto
namespace Go.Proofs.Ytajajfmaekdphaa
open Go.RowKit

theorem shortForm_any (s : ByteArray) (hs : s.size ≤ 8000) (w : World) :
    Calls Try.prog 31 #[.string s] w fun e w' => e = .returned (.string (shortB s)) ∧ Below w.heap.size w w' := by
  have H := hide (fun w => implShort_yes s hs w)
  have e : shortB s = ⟨(varB 4 s.size).toArray⟩ ++ s := rfl
  rw [← e] at H
  generalize shortB s = t at H
  go_enter Try.func31, Try.ntmps31
  go_wp2_with fail
  refine (unhide H _).mono ?_
  rintro e w1 ⟨rfl, hb1⟩
  go_wp2
  go_ret
  exact ⟨rfl, hb1⟩

theorem leafText_any (x : It) (hb : x.val.size ≤ 8000) (w : World) :
    Calls Try.prog 100 #[.agg #[], itV x] w fun e w' => e = .returned (.string (restT 1 x)) ∧ Below w.heap.size w w' := by
  have HB := hide (fun w => shortForm_any x.val hb w)
  obtain ⟨a, b, p⟩ := x
  rw [show restT 1 ⟨a, b, p⟩ = shortB b from if_pos rfl]
  simp only [itV] at *
  generalize shortB b = sb at HB
  go_enter Try.func100, Try.ntmps100
  go_wp2_with fail
  refine (unhide HB _).mono ?_
  rintro e w2 ⟨rfl, hb2⟩
  go_wp2
  go_ret
  exact ⟨rfl, (((Below.refl _ _).alloc (Nat.le_refl _) _).alloc (by simp) _).trans (hb2.mono (by simp; omega))⟩

theorem innerText_any (x : It) (w : World) :
    Calls Try.prog 103 #[.agg #[], itV x] w fun e w' => e = .returned (.string (restT 2 x)) ∧ Below w.heap.size w w' := by
  have HB := hide (fun w => varForm_any x.pg w)
  obtain ⟨a, b, p⟩ := x
  rw [show restT 2 ⟨a, b, p⟩ = varT p from (if_neg (by omega)).trans (if_pos rfl)]
  simp only [itV] at *
  generalize varT p = sb at HB
  go_enter Try.func103, Try.ntmps103
  go_wp2_with fail
  refine (unhide HB _).mono ?_
  rintro e w2 ⟨rfl, hb2⟩
  go_wp2
  go_ret
  exact ⟨rfl, (((Below.refl _ _).alloc (Nat.le_refl _) _).alloc (by simp) _).trans (hb2.mono (by simp; omega))⟩

theorem meth_leafText (w : World) : (method 226 87 (.agg #[]) "loop.example/g00105/impl.restText").run Try.prog w = .ok (100, .agg #[]) w := by kernel_rfl
theorem meth_innerText (w : World) : (method 226 88 (.agg #[]) "loop.example/g00105/impl.restText").run Try.prog w = .ok (103, .agg #[]) w := by kernel_rfl







theorem item_small {k : Int} {Q : List It} (hk : k = 1 ∨ k = 2) (hp : PageOk k Q) {j : Nat} (h : j < Q.length) : (shortB Q[j].key).size ≤ 54 ∧ (restT k Q[j]).size ≤ 54 := by
  have h1 := sizeTo_succ k Q j h
  have h2 := sizeTo_mono k Q (m := j + 1) (n := Q.length) (by omega)
  have h3 := hp.2.2.2
  unfold itSize at h1
  rw [if_pos hk] at h1
  omega

theorem page_count {k : Int} {Q : List It} (hp : PageOk k Q) : Q.length ≤ 54 := by
  have h1 := sizeTo_ge hp.1 Q Q.length (Nat.le_refl _)
  have h2 := hp.2.2.2
  omega

set_option maxRecDepth 100000 in
set_option maxHeartbeats 2000000 in
theorem implPage_one (v : Value) (B : Nat) (Q : List It) (hp : PageOk 1 Q) (h2 : Q.length ≤ 1048576) (hsm : ∀ x ∈ Q, x.key.size ≤ 1048576 ∧ x.val.size ≤ 1048576) (w : World) (hB : B ≤ w.heap.size) (hv : PageAt w v B 1 Q) :
    Calls Try.prog 10 #[v] w fun e w' => e = .returned (.tuple #[.string (sealB (pageTo 1 Q Q.length)), .bool true]) ∧ Below w.heap.size w w' := by
  obtain ⟨a, n, c, rfl, hQ⟩ := hv
  have HA := hide (fun w1 (hb : Below w.heap.size w w1) => areItems_one a n c B Q (by have := hQ.1; omega) hsm w1 (by have := hb.size; omega) (hQ.below hb hB))
  rw [decide_eq_true hp] at HA
  have hcnt := page_count hp
  have HS := hide (fun w => implSealed_any (pageTo 1 Q Q.length) w)
  have hps := pageTo_small (k := 1) (.inl rfl) Q Q.length (Nat.le_refl _) hp.2.2.2
  have e0 : sealA (pageTo 1 Q Q.length) = .tuple #[.string (sealB (pageTo 1 Q Q.length)), .bool true] := if_pos (by omega)
  rw [e0] at HS
  generalize sealB (pageTo 1 Q Q.length) = out at HS
  have HT0 := hide (pageTo_zero 1 Q)
  have HV := hide (fun w => varForm_any (Q.length : Int) w)
  have hvs := varT_size (Q.length : Int)
  have HSM := hide hsm
  have HP := hide hp
  have HC := hide hQ.2
  obtain rfl : n = Q.length := hQ.1.symm
  have hm := meth_leafText
  have hcv := byte_row_drew 1 1 (by rfl)
  have hsz : ∀ j, j ≤ Q.length → (pageTo 1 Q j).size ≤ 60 := fun j hj => pageTo_small (k := 1) (.inl rfl) Q j hj hp.2.2.2
  have HSZ := hide hsz
  have HSU := hide (fun j (h : j < Q.length) => pageTo_succ 1 Q j h)
  obtain ⟨n, hn⟩ : ∃ n, n = Q.length := ⟨_, rfl⟩
  have HN := hide hn
  rw [← hn] at HA HS HV HT0 HSZ hcnt hvs ⊢
  clear hn hQ hsm hp e0 hps h2 hsz
  generalize varT (n : Int) = vt at HV HT0 hvs
  have hcat0 : ¬ 9223372036854775807 < 1 + vt.size := by omega
  go_enter Try.func10, Try.ntmps10
  go_wp2_with fail
  refine (kindOf_one _).mono ?_
  rintro e w0 ⟨rfl, rfl⟩
  go_wp2_with fail
  obtain ⟨W1, hW1⟩ : ∃ W, W = w.alloc (Obj.cells #[Value.int .i64 1, Value.slice a n c] 26) := ⟨_, rfl⟩
  rw [← hW1]
  have hb1 : Below w.heap.size w W1 := by rw [hW1]; exact below_new _ _
  have hl1 : w.heap.size < W1.heap.size := by rw [hW1]; simp
  have c0 : W1.cell? ⟨w.heap.size, 0, none⟩ = some (.int .i64 1) := by rw [hW1]; simp [go_sem]
  have c1 : W1.cell? ⟨w.heap.size, 1, none⟩ = some (.slice a n c) := by rw [hW1]; simp [go_sem]
  clear hW1
  refine (unhide HA _ hb1).mono ?_
  rintro e w2 ⟨rfl, hb2⟩
  have d0 := (hb2.cell (p := ⟨w.heap.size, 0, none⟩) hl1).trans c0
  have d1 := (hb2.cell (p := ⟨w.heap.size, 1, none⟩) hl1).trans c1
  have hl2 : w.heap.size < w2.heap.size := Nat.lt_of_lt_of_le hl1 hb2.size
  have hc2 : Below w.heap.size w w2 := hb1.trans (hb2.mono hb1.size)
  clear hb1 hb2 c0 c1 hl1
  go_upto_region 4 with fail
  go_cut [6] (fun t wx => t = .string (⟨#[1]⟩ ++ vt) ∧ Below w.heap.size w wx ∧ w.heap.size < wx.heap.size ∧ wx.cell? ⟨w.heap.size, 0, none⟩ = some (.int .i64 1) ∧ wx.cell? ⟨w.heap.size, 1, none⟩ = some (.slice a n c))
  case first =>
    go_region_with
      (first
        | (go_at_call 30; refine (unhide HV (w2.alloc _).drew).mono ?_; rintro e w3 ⟨rfl, hb3⟩; have f0 := (hb3.cell (p := ⟨w.heap.size, 0, none⟩) (lt_alloc hl2 _)).trans (((below_new w2 _).drew.cell (p := ⟨w.heap.size, 0, none⟩) hl2).trans d0); have f1 := (hb3.cell (p := ⟨w.heap.size, 1, none⟩) (lt_alloc hl2 _)).trans (((below_new w2 _).drew.cell (p := ⟨w.heap.size, 1, none⟩) hl2).trans d1); have hcw := byte_at 1 w2.heap.size w3 ((hb3.cell (p := ⟨w2.heap.size, 0, none⟩) (lt_new w2 _)).trans (byte_cell 1 1 (by rfl) w2)); have hb4 : Below w.heap.size w w3 := (hc2.alloc hc2.size _).drew.trans (hb3.mono (by have := hc2.size; simp; omega)); have hl3 : w.heap.size < w3.heap.size := Nat.lt_of_lt_of_le (lt_alloc hl2 _) hb3.size)
        | (go_at_call 30; refine (unhide HV w2.drew).mono ?_; rintro e w3 ⟨rfl, hb3⟩; have f0 := (hb3.cell (p := ⟨w.heap.size, 0, none⟩) hl2).trans d0; have f1 := (hb3.cell (p := ⟨w.heap.size, 1, none⟩) hl2).trans d1; have hcw := byte_row_wrap 1 1 (by rfl) w3; have hb4 : Below w.heap.size w w3 := hc2.drew.trans (hb3.mono hc2.size); have hl3 : w.heap.size < w3.heap.size := Nat.lt_of_lt_of_le hl2 hb3.size))
    all_goals
      go_wp2_with fail
      go_meet
      case rel =>
        first
          | exact ⟨rfl, hb4, hl3, f0, f1⟩
          | exact ⟨rfl, hb4.alloc hb4.size _, lt_alloc' hl3 _, ((below_new w3 _).cell (p := ⟨w.heap.size, 0, none⟩) hl3).trans f0, ((below_new w3 _).cell (p := ⟨w.heap.size, 1, none⟩) hl3).trans f1⟩
  case rest =>
    obtain ⟨rfl, hb3, hl3, f0, f1⟩ := hcut
    clear d0 d1 hc2 hl2 hcv HV
    go_wp2_with fail
    go_loopw [6, 37] (fun t i wr => ∃ j : Nat, i = .int .i64 j ∧ j ≤ n ∧ t = .string (pageTo 1 Q j) ∧ Below w.heap.size w wr) (fun _ i _ => n - (intOf i).toNat)
    case atStart => exact ⟨0, rfl, Nat.zero_le _, by rw [unhide HT0]; rfl, hb3⟩
    case round =>
      obtain ⟨j, rfl, hj, rfl, hb⟩ := hrel
      by_cases hlt : j < n
      · have hjL : j < Q.length := by have := unhide HN; omega
        obtain ⟨b, off, rfl, hbB, g0, g1, g2⟩ := unhide HC j hjL
        rw [← hb.cell (p := ⟨b, off + j * 3, none⟩) (by simp; omega)] at g0
        rw [← hb.cell (p := ⟨b, off + j * 3 + 1, none⟩) (by simp; omega)] at g1
        rw [← hb.cell (p := ⟨b, off + j * 3 + 2, none⟩) (by simp; omega)] at g2
        have hx0 : (0 : Int) ≤ (j : Int) := by omega
        have hx1 : (j : Int) < (n : Int) := by omega
        have hsm := item_small (.inl rfl) (unhide HP) hjL
        have HKF := hide (fun w => shortForm_any Q[j].key (by have := hsm.1; have h9 := shortB_bd Q[j].key; omega) w)
        have HTF := hide (fun w => leafText_any Q[j] (by have := hsm.2; have h9 := shortB_bd Q[j].val; rw [show restT 1 Q[j] = shortB Q[j].val from if_pos rfl] at this; omega) w)
        have hpz := unhide HSZ j (by omega)
        have HSJ := hide (unhide HSU j hjL)
        have hite : itT 1 Q[j] = shortB Q[j].key ++ restT 1 Q[j] := rfl
        rw [hite] at HSJ
        generalize Q[j] = q at g0 g1 g2 hsm HKF HTF HSJ
        obtain ⟨kb, hkb⟩ : ∃ x, x = shortB q.key := ⟨_, rfl⟩
        obtain ⟨rb, hrb⟩ : ∃ x, x = restT 1 q := ⟨_, rfl⟩
        rw [← hkb] at hsm HKF HSJ
        rw [← hrb] at hsm HTF HSJ
        obtain ⟨h1, h2⟩ := hsm
        clear hkb hrb hite
        obtain ⟨s, t, p⟩ := q
        simp only [itV] at g0 g1 g2 HKF HTF
        generalize pageTo 1 Q j = pt at HSJ hpz ⊢
        have hcat1 : ¬ 9223372036854775807 < kb.size + rb.size := by omega
        have hcat2 : ¬ 9223372036854775807 < pt.size + (kb.size + rb.size) := by omega
        go_wp2_with fail
        obtain ⟨W5, hW5⟩ : ∃ W, W = wr.alloc (Obj.cells #[Value.string s, Value.string t, Value.int .i64 p] 33) := ⟨_, rfl⟩
        rw [← hW5]
        have hb5 : Below w.heap.size w W5 := by rw [hW5]; exact hb.alloc hb.size _
        have hl5 : wr.heap.size < W5.heap.size := by rw [hW5]; simp
        have e0 : W5.cell? ⟨wr.heap.size, 0, none⟩ = some (.string s) := by rw [hW5]; simp [go_sem]
        have e1 : W5.cell? ⟨wr.heap.size, 1, none⟩ = some (.string t) := by rw [hW5]; simp [go_sem]
        have e2 : W5.cell? ⟨wr.heap.size, 2, none⟩ = some (.int .i64 p) := by rw [hW5]; simp [go_sem]
        clear hW5 hb g0 g1 g2
        go_region_held3 (fun u => u.cell? ⟨wr.heap.size, 0, none⟩ = some (.string s) ∧ u.cell? ⟨wr.heap.size, 1, none⟩ = some (.string t) ∧ u.cell? ⟨wr.heap.size, 2, none⟩ = some (.int .i64 p))
          (first | go_keep | exact ⟨k0, k1, k2⟩ | exact ⟨l0, l1, l2⟩)
          (first
            | (go_at_call 31; refine (unhide HKF _).mono ?_; rintro e w6 ⟨rfl, hb6⟩; have k0 := (hb6.cell (p := ⟨wr.heap.size, 0, none⟩) hl5).trans e0; have k1 := (hb6.cell (p := ⟨wr.heap.size, 1, none⟩) hl5).trans e1; have k2 := (hb6.cell (p := ⟨wr.heap.size, 2, none⟩) hl5).trans e2)
            | (go_at_call 100; refine (unhide HTF _).mono ?_; rintro e w7 ⟨rfl, hb7⟩; have l0 := (hb7.cell (p := ⟨wr.heap.size, 0, none⟩) (Nat.lt_of_lt_of_le hl5 hb6.size)).trans k0; have l1 := (hb7.cell (p := ⟨wr.heap.size, 1, none⟩) (Nat.lt_of_lt_of_le hl5 hb6.size)).trans k1; have l2 := (hb7.cell (p := ⟨wr.heap.size, 2, none⟩) (Nat.lt_of_lt_of_le hl5 hb6.size)).trans k2))
        have hbe : Below w.heap.size w w7 := hb5.drew.trans ((hb6.trans (hb7.mono hb6.size)).mono hb5.size)
        clear hb5 hb6 hb7 e0 e1 e2 k0 k1 k2 l0 l1 l2
        go_wp2
        go_roundw
        case rel => exact ⟨j + 1, by go_num, by omega, by rw [unhide HSJ], hbe⟩
        case measure => simp [intOf]; omega
      · obtain rfl : j = n := by omega
        go_wp2_with fail
        refine (unhide HS _).mono ?_
        rintro e w8 ⟨rfl, hb8⟩
        have hbe := hb.trans (hb8.mono hb.size)
        clear hb hb8
        go_wp2
        go_ret2
        exact ⟨rfl, hbe⟩

set_option maxRecDepth 100000 in
set_option maxHeartbeats 2000000 in
theorem implPage_two (v : Value) (B : Nat) (Q : List It) (hp : PageOk 2 Q) (h2 : Q.length ≤ 1048576) (hsm : ∀ x ∈ Q, x.key.size ≤ 1048576 ∧ x.val.size ≤ 1048576) (w : World) (hB : B ≤ w.heap.size) (hv : PageAt w v B 2 Q) :
    Calls Try.prog 10 #[v] w fun e w' => e = .returned (.tuple #[.string (sealB (pageTo 2 Q Q.length)), .bool true]) ∧ Below w.heap.size w w' := by
  obtain ⟨a, n, c, rfl, hQ⟩ := hv
  have HA := hide (fun w1 (hb : Below w.heap.size w w1) => areItems_two a n c B Q (by have := hQ.1; omega) hsm w1 (by have := hb.size; omega) (hQ.below hb hB))
  rw [decide_eq_true hp] at HA
  have hcnt := page_count hp
  have HS := hide (fun w => implSealed_any (pageTo 2 Q Q.length) w)
  have hps := pageTo_small (k := 2) (.inr rfl) Q Q.length (Nat.le_refl _) hp.2.2.2
  have e0 : sealA (pageTo 2 Q Q.length) = .tuple #[.string (sealB (pageTo 2 Q Q.length)), .bool true] := if_pos (by omega)
  rw [e0] at HS
  generalize sealB (pageTo 2 Q Q.length) = out at HS
  have HT0 := hide (pageTo_zero 2 Q)
  have HV := hide (fun w => varForm_any (Q.length : Int) w)
  have hvs := varT_size (Q.length : Int)
  have HSM := hide hsm
  have HP := hide hp
  have HC := hide hQ.2
  obtain rfl : n = Q.length := hQ.1.symm
  have hm := meth_innerText
  have hcv := byte_row_drew 2 2 (by rfl)
  have hsz : ∀ j, j ≤ Q.length → (pageTo 2 Q j).size ≤ 60 := fun j hj => pageTo_small (k := 2) (.inr rfl) Q j hj hp.2.2.2
  have HSZ := hide hsz
  have HSU := hide (fun j (h : j < Q.length) => pageTo_succ 2 Q j h)
  obtain ⟨n, hn⟩ : ∃ n, n = Q.length := ⟨_, rfl⟩
  have HN := hide hn
  rw [← hn] at HA HS HV HT0 HSZ hcnt hvs ⊢
  clear hn hQ hsm hp e0 hps h2 hsz
  generalize varT (n : Int) = vt at HV HT0 hvs
  have hcat0 : ¬ 9223372036854775807 < 1 + vt.size := by omega
  go_enter Try.func10, Try.ntmps10
  go_wp2_with fail
  refine (kindOf_two _).mono ?_
  rintro e w0 ⟨rfl, rfl⟩
  go_wp2_with fail
  obtain ⟨W1, hW1⟩ : ∃ W, W = w.alloc (Obj.cells #[Value.int .i64 2, Value.slice a n c] 26) := ⟨_, rfl⟩
  rw [← hW1]
  have hb1 : Below w.heap.size w W1 := by rw [hW1]; exact below_new _ _
  have hl1 : w.heap.size < W1.heap.size := by rw [hW1]; simp
  have c0 : W1.cell? ⟨w.heap.size, 0, none⟩ = some (.int .i64 2) := by rw [hW1]; simp [go_sem]
  have c1 : W1.cell? ⟨w.heap.size, 1, none⟩ = some (.slice a n c) := by rw [hW1]; simp [go_sem]
  clear hW1
  refine (unhide HA _ hb1).mono ?_
  rintro e w2 ⟨rfl, hb2⟩
  have d0 := (hb2.cell (p := ⟨w.heap.size, 0, none⟩) hl1).trans c0
  have d1 := (hb2.cell (p := ⟨w.heap.size, 1, none⟩) hl1).trans c1
  have hl2 : w.heap.size < w2.heap.size := Nat.lt_of_lt_of_le hl1 hb2.size
  have hc2 : Below w.heap.size w w2 := hb1.trans (hb2.mono hb1.size)
  clear hb1 hb2 c0 c1 hl1
  go_upto_region 4 with fail
  go_cut [6] (fun t wx => t = .string (⟨#[2]⟩ ++ vt) ∧ Below w.heap.size w wx ∧ w.heap.size < wx.heap.size ∧ wx.cell? ⟨w.heap.size, 0, none⟩ = some (.int .i64 2) ∧ wx.cell? ⟨w.heap.size, 1, none⟩ = some (.slice a n c))
  case first =>
    go_region_with
      (first
        | (go_at_call 30; refine (unhide HV (w2.alloc _).drew).mono ?_; rintro e w3 ⟨rfl, hb3⟩; have f0 := (hb3.cell (p := ⟨w.heap.size, 0, none⟩) (lt_alloc hl2 _)).trans (((below_new w2 _).drew.cell (p := ⟨w.heap.size, 0, none⟩) hl2).trans d0); have f1 := (hb3.cell (p := ⟨w.heap.size, 1, none⟩) (lt_alloc hl2 _)).trans (((below_new w2 _).drew.cell (p := ⟨w.heap.size, 1, none⟩) hl2).trans d1); have hcw := byte_at 2 w2.heap.size w3 ((hb3.cell (p := ⟨w2.heap.size, 0, none⟩) (lt_new w2 _)).trans (byte_cell 2 2 (by rfl) w2)); have hb4 : Below w.heap.size w w3 := (hc2.alloc hc2.size _).drew.trans (hb3.mono (by have := hc2.size; simp; omega)); have hl3 : w.heap.size < w3.heap.size := Nat.lt_of_lt_of_le (lt_alloc hl2 _) hb3.size)
        | (go_at_call 30; refine (unhide HV w2.drew).mono ?_; rintro e w3 ⟨rfl, hb3⟩; have f0 := (hb3.cell (p := ⟨w.heap.size, 0, none⟩) hl2).trans d0; have f1 := (hb3.cell (p := ⟨w.heap.size, 1, none⟩) hl2).trans d1; have hcw := byte_row_wrap 2 2 (by rfl) w3; have hb4 : Below w.heap.size w w3 := hc2.drew.trans (hb3.mono hc2.size); have hl3 : w.heap.size < w3.heap.size := Nat.lt_of_lt_of_le hl2 hb3.size))
    all_goals
      go_wp2_with fail
      go_meet
      case rel =>
        first
          | exact ⟨rfl, hb4, hl3, f0, f1⟩
          | exact ⟨rfl, hb4.alloc hb4.size _, lt_alloc' hl3 _, ((below_new w3 _).cell (p := ⟨w.heap.size, 0, none⟩) hl3).trans f0, ((below_new w3 _).cell (p := ⟨w.heap.size, 1, none⟩) hl3).trans f1⟩
  case rest =>
    obtain ⟨rfl, hb3, hl3, f0, f1⟩ := hcut
    clear d0 d1 hc2 hl2 hcv HV
    go_wp2_with fail
    go_loopw [6, 37] (fun t i wr => ∃ j : Nat, i = .int .i64 j ∧ j ≤ n ∧ t = .string (pageTo 2 Q j) ∧ Below w.heap.size w wr) (fun _ i _ => n - (intOf i).toNat)
    case atStart => exact ⟨0, rfl, Nat.zero_le _, by rw [unhide HT0]; rfl, hb3⟩
    case round =>
      obtain ⟨j, rfl, hj, rfl, hb⟩ := hrel
      by_cases hlt : j < n
      · have hjL : j < Q.length := by have := unhide HN; omega
        obtain ⟨b, off, rfl, hbB, g0, g1, g2⟩ := unhide HC j hjL
        rw [← hb.cell (p := ⟨b, off + j * 3, none⟩) (by simp; omega)] at g0
        rw [← hb.cell (p := ⟨b, off + j * 3 + 1, none⟩) (by simp; omega)] at g1
        rw [← hb.cell (p := ⟨b, off + j * 3 + 2, none⟩) (by simp; omega)] at g2
        have hx0 : (0 : Int) ≤ (j : Int) := by omega
        have hx1 : (j : Int) < (n : Int) := by omega
        have hsm := item_small (.inr rfl) (unhide HP) hjL
        have HKF := hide (fun w => shortForm_any Q[j].key (by have := hsm.1; have h9 := shortB_bd Q[j].key; omega) w)
        have HTF := hide (fun w => innerText_any Q[j] w)
        have hpz := unhide HSZ j (by omega)
        have HSJ := hide (unhide HSU j hjL)
        have hite : itT 2 Q[j] = shortB Q[j].key ++ restT 2 Q[j] := rfl
        rw [hite] at HSJ
        generalize Q[j] = q at g0 g1 g2 hsm HKF HTF HSJ
        obtain ⟨kb, hkb⟩ : ∃ x, x = shortB q.key := ⟨_, rfl⟩
        obtain ⟨rb, hrb⟩ : ∃ x, x = restT 2 q := ⟨_, rfl⟩
        rw [← hkb] at hsm HKF HSJ
        rw [← hrb] at hsm HTF HSJ
        obtain ⟨h1, h2⟩ := hsm
        clear hkb hrb hite
        obtain ⟨s, t, p⟩ := q
        simp only [itV] at g0 g1 g2 HKF HTF
        generalize pageTo 2 Q j = pt at HSJ hpz ⊢
        have hcat1 : ¬ 9223372036854775807 < kb.size + rb.size := by omega
        have hcat2 : ¬ 9223372036854775807 < pt.size + (kb.size + rb.size) := by omega
        go_wp2_with fail
        obtain ⟨W5, hW5⟩ : ∃ W, W = wr.alloc (Obj.cells #[Value.string s, Value.string t, Value.int .i64 p] 33) := ⟨_, rfl⟩
        rw [← hW5]
        have hb5 : Below w.heap.size w W5 := by rw [hW5]; exact hb.alloc hb.size _
        have hl5 : wr.heap.size < W5.heap.size := by rw [hW5]; simp
        have e0 : W5.cell? ⟨wr.heap.size, 0, none⟩ = some (.string s) := by rw [hW5]; simp [go_sem]
        have e1 : W5.cell? ⟨wr.heap.size, 1, none⟩ = some (.string t) := by rw [hW5]; simp [go_sem]
        have e2 : W5.cell? ⟨wr.heap.size, 2, none⟩ = some (.int .i64 p) := by rw [hW5]; simp [go_sem]
        clear hW5 hb g0 g1 g2
        go_region_held3 (fun u => u.cell? ⟨wr.heap.size, 0, none⟩ = some (.string s) ∧ u.cell? ⟨wr.heap.size, 1, none⟩ = some (.string t) ∧ u.cell? ⟨wr.heap.size, 2, none⟩ = some (.int .i64 p))
          (first | go_keep | exact ⟨k0, k1, k2⟩ | exact ⟨l0, l1, l2⟩)
          (first
            | (go_at_call 31; refine (unhide HKF _).mono ?_; rintro e w6 ⟨rfl, hb6⟩; have k0 := (hb6.cell (p := ⟨wr.heap.size, 0, none⟩) hl5).trans e0; have k1 := (hb6.cell (p := ⟨wr.heap.size, 1, none⟩) hl5).trans e1; have k2 := (hb6.cell (p := ⟨wr.heap.size, 2, none⟩) hl5).trans e2)
            | (go_at_call 103; refine (unhide HTF _).mono ?_; rintro e w7 ⟨rfl, hb7⟩; have l0 := (hb7.cell (p := ⟨wr.heap.size, 0, none⟩) (Nat.lt_of_lt_of_le hl5 hb6.size)).trans k0; have l1 := (hb7.cell (p := ⟨wr.heap.size, 1, none⟩) (Nat.lt_of_lt_of_le hl5 hb6.size)).trans k1; have l2 := (hb7.cell (p := ⟨wr.heap.size, 2, none⟩) (Nat.lt_of_lt_of_le hl5 hb6.size)).trans k2))
        have hbe : Below w.heap.size w w7 := hb5.drew.trans ((hb6.trans (hb7.mono hb6.size)).mono hb5.size)
        clear hb5 hb6 hb7 e0 e1 e2 k0 k1 k2 l0 l1 l2
        go_wp2
        go_roundw
        case rel => exact ⟨j + 1, by go_num, by omega, by rw [unhide HSJ], hbe⟩
        case measure => simp [intOf]; omega
      · obtain rfl : j = n := by omega
        go_wp2_with fail
        refine (unhide HS _).mono ?_
        rintro e w8 ⟨rfl, hb8⟩
        have hbe := hb.trans (hb8.mono hb.size)
        clear hb hb8
        go_wp2
        go_ret2
        exact ⟨rfl, hbe⟩

end Go.Proofs.Ytajajfmaekdphaa
