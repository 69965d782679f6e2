/-
  The contract of spec.PageText, where nothing is too great.
-/
import Derived.Test.YtajajfmaekdphaaPgSpec
import Derived.Test.YtajajfmaekdphaaPgAre
import Derived.Test.YtajajfmaekdphaaPgByte
namespace Go.Proofs.Ytajajfmaekdphaa
open Go.RowKit

theorem key_ok {k : Int} {Q : List It} {j : Nat} {x : It} (h : okAt k Q j x = true) : x.key.toList.isEmpty = false := by
  unfold okAt at h
  rw [Bool.and_eq_true] at h
  cases he : x.key.toList with
  | nil => rw [he, less_nil] at h; simp at h
  | cons b l => rfl

set_option maxRecDepth 100000 in
set_option maxHeartbeats 4000000 in
theorem specPage_go_one (v : Value) (B : Nat) (Q : List It) (hl : 0 < Q.length ∧ Q.length ≤ 54) (hsm : ∀ x ∈ Q, x.key.size ≤ 1048576 ∧ x.val.size ≤ 1048576) (hz : sizeTo 1 Q Q.length ≤ 54) (w : World) (hB : B ≤ w.heap.size) (hv : PageAt w v B 1 Q) :
    Calls Try.prog 11 #[v] w fun e w' => e = .returned (pageA 1 Q) ∧ Below w.heap.size w w' := by
  obtain ⟨a, n, c, rfl, hQ⟩ := hv
  have HI := hide (l01In_any 1 1 2)
  rw [show (decide ((1 : Int) ≤ 1) && decide ((1 : Int) ≤ 2)) = true from rfl] at HI
  obtain rfl : n = Q.length := hQ.1.symm
  have HS := hide (fun w1 (hb : Below w.heap.size w w1) => specSum4_any 1 a Q.length c B Q (by omega) hsm w1 (by have := hb.size; omega) (hQ.below hb hB))
  have HT0 := hide (pageTo_zero 1 Q)
  have hvl := l01Var_any Q.length (by omega)
  rw [← varT_nat (by omega)] at hvl
  have HV := hide hvl
  have hvs := varT_size (Q.length : Int)
  have HC := hide hQ.2
  have hcv := byte_row_drew 1 1 (by rfl)
  have hsz : ∀ j, j ≤ Q.length → (pageTo 1 Q j).size ≤ 60 := fun j hj => pageTo_small (k := 1) (.inl rfl) Q j hj hz
  have HSZ := hide hsz
  have HSU := hide (fun j (h : j < Q.length) => pageTo_succ 1 Q j h)
  have HSE := hide (fun w => specSealed_any (pageTo 1 Q Q.length) w)
  have e0 : sealA (pageTo 1 Q Q.length) = .tuple #[.string (sealB (pageTo 1 Q Q.length)), .bool true] := if_pos (by have := hsz Q.length (Nat.le_refl _); omega)
  rw [e0] at HSE
  have HYES := hide (fun (h : ∀ m (h : m < Q.length), okAt 1 Q m Q[m] = true) => pageA_yes (k := 1) (Q := Q) ⟨by omega, hl.1, h, hz⟩)
  have HNO := hide (fun j (hj : j < Q.length) (h : okAt 1 Q j Q[j] = false) => pageA_no (k := 1) (not_ok_at hj h))
  have HIS := hide (fun j (hj : j < Q.length) => (show (shortB Q[j].key).size ≤ 54 ∧ (restT 1 Q[j]).size ≤ 54 by
    have h1 := sizeTo_succ 1 Q j hj
    have h2 := sizeTo_mono 1 Q (m := j + 1) (n := Q.length) (by omega)
    unfold itSize at h1
    rw [if_pos (by omega)] at h1
    omega))
  generalize sealB (pageTo 1 Q Q.length) = out at HSE HYES
  generalize sizeTo 1 Q Q.length = z at HS hz
  obtain ⟨n, hn⟩ : ∃ n, n = Q.length := ⟨_, rfl⟩
  have HN := hide hn
  rw [← hn] at HS HV HT0 HSZ hl hvs HSE ⊢
  have h0 : ((n : Int) == 0) = false := by simp; omega
  have h5 : ¬ (54 : Int) < (n : Int) := by omega
  have h6 : ¬ (54 : Int) < (z : Int) := by omega
  have hn54 : n ≤ 54 := hl.2
  clear hn hQ hsm e0 hsz hvl hl hz
  generalize varT (n : Int) = vt at HV HT0 hvs
  have hcat0 : ¬ 9223372036854775807 < 1 + vt.size := by omega
  go_enter Try.func11, Try.ntmps11
  go_wp2_with fail
  refine (unhide HI _).mono ?_
  rintro e w0 ⟨rfl, rfl⟩
  go_wp2_with fail
  obtain ⟨W1, hW1⟩ : ∃ W, W = w.alloc (Obj.cells #[Value.int .i64 1, Value.slice a n c] 26) := ⟨_, rfl⟩
  rw [← hW1]
  have hb1 : Below w.heap.size w W1 := by rw [hW1]; exact below_new _ _
  have hl1 : w.heap.size < W1.heap.size := by rw [hW1]; simp
  have c0 : W1.cell? ⟨w.heap.size, 0, none⟩ = some (.int .i64 1) := by rw [hW1]; simp [go_sem]
  have c1 : W1.cell? ⟨w.heap.size, 1, none⟩ = some (.slice a n c) := by rw [hW1]; simp [go_sem]
  clear hW1
  refine (unhide HS _ hb1).mono ?_
  rintro e w2 ⟨rfl, hb2⟩
  have d0 := (hb2.cell (p := ⟨w.heap.size, 0, none⟩) hl1).trans c0
  have d1 := (hb2.cell (p := ⟨w.heap.size, 1, none⟩) hl1).trans c1
  have hl2 : w.heap.size < w2.heap.size := Nat.lt_of_lt_of_le hl1 hb2.size
  have hc2 : Below w.heap.size w w2 := hb1.trans (hb2.mono hb1.size)
  clear hb1 hb2 c0 c1 hl1
  go_upto_region 3 with fail
  go_cut [4] (fun t wx => t = .string (⟨#[1]⟩ ++ vt) ∧ Below w.heap.size w wx ∧ w.heap.size < wx.heap.size ∧ wx.cell? ⟨w.heap.size, 0, none⟩ = some (.int .i64 1) ∧ wx.cell? ⟨w.heap.size, 1, none⟩ = some (.slice a n c))
  case first =>
    go_region_with
      (first
        | (go_at_call 35; refine (unhide HV (w2.alloc _).drew).mono ?_; rintro e w3 ⟨rfl, hb3⟩; have f0 := (hb3.cell (p := ⟨w.heap.size, 0, none⟩) (lt_alloc hl2 _)).trans (((below_new w2 _).drew.cell (p := ⟨w.heap.size, 0, none⟩) hl2).trans d0); have f1 := (hb3.cell (p := ⟨w.heap.size, 1, none⟩) (lt_alloc hl2 _)).trans (((below_new w2 _).drew.cell (p := ⟨w.heap.size, 1, none⟩) hl2).trans d1); have hcw := byte_at 1 w2.heap.size w3 ((hb3.cell (p := ⟨w2.heap.size, 0, none⟩) (lt_new w2 _)).trans (byte_cell 1 1 (by rfl) w2)); have hb4 : Below w.heap.size w w3 := (hc2.alloc hc2.size _).drew.trans (hb3.mono (by have := hc2.size; simp; omega)); have hl3 : w.heap.size < w3.heap.size := Nat.lt_of_lt_of_le (lt_alloc hl2 _) hb3.size)
        | (go_at_call 35; refine (unhide HV w2.drew).mono ?_; rintro e w3 ⟨rfl, hb3⟩; have f0 := (hb3.cell (p := ⟨w.heap.size, 0, none⟩) hl2).trans d0; have f1 := (hb3.cell (p := ⟨w.heap.size, 1, none⟩) hl2).trans d1; have hcw := byte_row_wrap 1 1 (by rfl) w3; have hb4 : Below w.heap.size w w3 := hc2.drew.trans (hb3.mono hc2.size); have hl3 : w.heap.size < w3.heap.size := Nat.lt_of_lt_of_le hl2 hb3.size))
    all_goals
      go_wp2_with fail
      go_meet
      case rel =>
        first
          | exact ⟨rfl, hb4, hl3, f0, f1⟩
          | exact ⟨rfl, hb4.alloc hb4.size _, lt_alloc' hl3 _, ((below_new w3 _).cell (p := ⟨w.heap.size, 0, none⟩) hl3).trans f0, ((below_new w3 _).cell (p := ⟨w.heap.size, 1, none⟩) hl3).trans f1⟩
  case rest =>
    obtain ⟨rfl, hb3, hl3, f0, f1⟩ := hcut
    clear d0 d1 hc2 hl2 hcv HV h0 h5 h6
    go_wp2_with fail
    go_loopw [4, 5] (fun t i wr => ∃ j : Nat, i = .int .i64 j ∧ j ≤ n ∧ t = .string (pageTo 1 Q j) ∧ Below w.heap.size w wr ∧ w.heap.size < wr.heap.size ∧ wr.cell? ⟨w.heap.size, 0, none⟩ = some (.int .i64 1) ∧ wr.cell? ⟨w.heap.size, 1, none⟩ = some (.slice a n c) ∧ (∀ m (h : m < Q.length), m < j → okAt 1 Q m Q[m] = true)) (fun _ i _ => n - (intOf i).toNat)
    case atStart => exact ⟨0, rfl, Nat.zero_le _, by rw [unhide HT0]; rfl, hb3, hl3, f0, f1, fun m h hm => by omega⟩
    case round =>
      obtain ⟨j, rfl, hj, rfl, hb, hlr, f0, f1, hok⟩ := hrel
      have HOK := hide hok
      clear hok
      by_cases hlt : j < n
      · have hjL : j < Q.length := by have := unhide HN; omega
        obtain ⟨b, off, rfl, hbB, g0, g1, g2⟩ := unhide HC j hjL
        rw [← hb.cell (p := ⟨b, off + j * 3, none⟩) (by simp; omega)] at g0
        rw [← hb.cell (p := ⟨b, off + j * 3 + 1, none⟩) (by simp; omega)] at g1
        rw [← hb.cell (p := ⟨b, off + j * 3 + 2, none⟩) (by simp; omega)] at g2
        have hbl : b < wr.heap.size := by have := hb.size; omega
        have hpr : 0 < j → wr.cell? ⟨b, off + (j - 1) * 3, none⟩ = some (.string (prevK Q j)) := fun h0 => by
          obtain ⟨b', off', e', _, k0, _, _⟩ := unhide HC (j - 1) (by omega)
          simp at e'
          obtain ⟨rfl, rfl⟩ := e'
          rw [← hb.cell (p := ⟨b, off + (j - 1) * 3, none⟩) (by simp; omega)] at k0
          rw [k0]
          have hpk := prevK_succ Q (j - 1) (by omega)
          have e1 : j - 1 + 1 = j := by omega
          rw [e1] at hpk
          rw [hpk]
        have HPR := hide hpr
        have hx0 : (0 : Int) ≤ (j : Int) := by omega
        have hx1 : (j : Int) < (n : Int) := by omega
        have hsm := unhide HIS j hjL
        have HKF := hide (fun w => l04Short_any Q[j].key (by have := hsm.1; have h9 := shortB_bd Q[j].key; omega) w)
        have HRT := hide (show ∀ w, Calls Try.prog 36 #[.string Q[j].val] w (fun e w' => e = .returned (.string (restT 1 Q[j])) ∧ Below w.heap.size w w') by
          have e9 : restT 1 Q[j] = shortB Q[j].val := if_pos rfl
          have h8 := hsm.2
          rw [e9] at h8 ⊢
          exact fun w => l04Short_any Q[j].val (by have h9 := shortB_bd Q[j].val; omega) w)
        have hpz := unhide HSZ j (by omega)
        have HSJ := hide (unhide HSU j hjL)
        have hite : itT 1 Q[j] = shortB Q[j].key ++ restT 1 Q[j] := rfl
        rw [hite, ← ByteArray.append_assoc] at HSJ
        have hoke : okAt 1 Q j Q[j] = (Op.bytesLess (prevK Q j).toList Q[j].key.toList && restOk 1 Q[j]) := rfl
        have HNJ := hide (unhide HNO j hjL)
        have HOKN : Hid (okAt 1 Q j Q[j] = true → ∀ m (h : m < Q.length), m < j + 1 → okAt 1 Q m Q[m] = true) := fun h m hm hmj => by
          by_cases e : m = j
          · subst e; exact h
          · exact unhide HOK m hm (by omega)
        have hpk0 : j = 0 → prevK Q j = ⟨#[]⟩ := fun h => by rw [h]; rfl
        have HP0 := hide hpk0
        generalize okAt 1 Q j Q[j] = ok at hoke HNJ HOKN
        generalize Q[j] = q at g0 g1 g2 hsm HKF HRT HSJ hoke
        have hro := show restOk 1 q = (q.pg == 0) from if_pos rfl
        obtain ⟨kb, hkb⟩ : ∃ x, x = shortB q.key := ⟨_, rfl⟩
        obtain ⟨rb, hrb⟩ : ∃ x, x = restT 1 q := ⟨_, rfl⟩
        rw [← hkb] at hsm HKF HSJ
        rw [← hrb] at hsm HRT HSJ
        obtain ⟨h1, h2⟩ := hsm
        clear hkb hrb hite hpr hpk0
        obtain ⟨s, t, p⟩ := q
        simp only at g0 g1 g2 HKF HRT hoke hro
        generalize pageTo 1 Q j = pt at HSJ hpz ⊢
        generalize prevK Q j = pk at hoke HPR HP0
        have hcat1 : ¬ 9223372036854775807 < pt.size + kb.size := by omega
        have hcat2 : ¬ 9223372036854775807 < (pt ++ kb).size + rb.size := by rw [ByteArray.size_append]; omega
        have hcat3 : ¬ 9223372036854775807 < pt.size + kb.size + rb.size := by omega
        go_upto_region 8 with fail
        obtain ⟨W5, hW5⟩ : ∃ W, W = wr.alloc (Obj.cells #[Value.string s, Value.string t, Value.int .i64 p] 33) := ⟨_, rfl⟩
        rw [← hW5]
        have hb5 : Below wr.heap.size wr W5 := by rw [hW5]; exact below_new _ _
        have hl5 : wr.heap.size < W5.heap.size := by rw [hW5]; simp
        have e0 : W5.cell? ⟨wr.heap.size, 0, none⟩ = some (.string s) := by rw [hW5]; simp [go_sem]
        have e1 : W5.cell? ⟨wr.heap.size, 1, none⟩ = some (.string t) := by rw [hW5]; simp [go_sem]
        have e2 : W5.cell? ⟨wr.heap.size, 2, none⟩ = some (.int .i64 p) := by rw [hW5]; simp [go_sem]
        clear hW5
        have i0 := (hb5.cell (p := ⟨w.heap.size, 0, none⟩) hlr).trans f0
        have i1 := (hb5.cell (p := ⟨w.heap.size, 1, none⟩) hlr).trans f1
        have hcu : Below w.heap.size w W5 := hb.trans (hb5.mono hb.size)
        have hlu : w.heap.size < W5.heap.size := by omega
        have HPU : Hid (0 < j → W5.cell? ⟨b, off + (j - 1) * 3, none⟩ = some (.string pk)) := fun h => (hb5.cell (p := ⟨b, off + (j - 1) * 3, none⟩) hbl).trans (unhide HPR h)
        clear hb5 hb f0 f1 g0 g1 g2 HPR hlr
        go_cut [97] (fun t wx => t = .bool (!ok) ∧ ∃ m, wx = W5.drewN m)
        case first =>
          cases hk : s.toList.isEmpty
          · rcases Nat.eq_zero_or_pos j with hj0 | hj0
            · have hpk := unhide HP0 hj0
              have hls : Op.bytesLess pk.toList s.toList = true := by
                rw [hpk, show (ByteArray.mk #[]).toList = [] by rw [ByteArray.toList_eq], nil_less, hk]; rfl
              rw [hls, Bool.true_and, hro] at hoke
              clear hpk hls hro HPU HP0
              subst hj0
              cases hp : (p == 0)
              · have hp2 : (p != 0) = true := by simp [bne, hp]
                rw [hp] at hoke
                subst hoke
                go_quiet (fail)
                go_wp2_with fail
                go_meet
                case rel => exact ⟨rfl, _, rfl⟩
              · have hp2 : (p != 0) = false := by simp [bne, hp]
                rw [hp] at hoke
                subst hoke
                go_quiet (fail)
                go_wp2_with fail
                go_meet
                case rel => exact ⟨rfl, _, rfl⟩
            · obtain ⟨i, rfl⟩ : ∃ i, j = i + 1 := ⟨j - 1, by omega⟩
              have hpc := unhide HPU (by omega)
              rw [Nat.add_sub_cancel] at hpc
              have hj1 : (0 : Int) < (i : Int) + 1 := by omega
              have hi0 : (0 : Int) ≤ (i : Int) := by omega
              have hi1 : (i : Int) < (n : Int) := by omega
              cases hls : Op.bytesLess pk.toList s.toList
              · rw [hls, Bool.false_and] at hoke
                subst hoke
                clear hro HPU HP0 hj0
                go_quiet (fail)
                go_wp2_with fail
                go_meet
                case rel => exact ⟨rfl, _, rfl⟩
              · rw [hls, Bool.true_and, hro] at hoke
                clear hro HPU HP0 hj0
                cases hp : (p == 0)
                · have hp2 : (p != 0) = true := by simp [bne, hp]
                  rw [hp] at hoke
                  subst hoke
                  go_quiet (fail)
                  go_wp2_with fail
                  go_meet
                  case rel => exact ⟨rfl, _, rfl⟩
                · have hp2 : (p != 0) = false := by simp [bne, hp]
                  rw [hp] at hoke
                  subst hoke
                  go_quiet (fail)
                  go_wp2_with fail
                  go_meet
                  case rel => exact ⟨rfl, _, rfl⟩
          · have hls : Op.bytesLess pk.toList s.toList = false := by
              rw [List.isEmpty_iff.1 hk, less_nil]
            rw [hls, Bool.false_and] at hoke
            subst hoke
            clear hls hro HPU HP0
            go_quiet (fail)
            go_wp2_with fail
            go_meet
            case rel => exact ⟨rfl, _, rfl⟩
        case rest =>
          obtain ⟨rfl, m, hwc⟩ := hcut
          have hbm : Below W5.heap.size W5 wc := by rw [hwc]; exact below_drewN (Below.refl _ _) m
          have hc6 : Below w.heap.size w wc := hcu.trans (hbm.mono hcu.size)
          have a0 := (hbm.cell (p := ⟨wr.heap.size, 0, none⟩) hl5).trans e0
          have a1 := (hbm.cell (p := ⟨wr.heap.size, 1, none⟩) hl5).trans e1
          have a2 := (hbm.cell (p := ⟨wr.heap.size, 2, none⟩) hl5).trans e2
          have b0 := (hbm.cell (p := ⟨w.heap.size, 0, none⟩) hlu).trans i0
          have b1 := (hbm.cell (p := ⟨w.heap.size, 1, none⟩) hlu).trans i1
          have hl6 : wr.heap.size < wc.heap.size := Nat.lt_of_lt_of_le hl5 hbm.size
          have hlv : w.heap.size < wc.heap.size := Nat.lt_of_lt_of_le hlu hbm.size
          clear hwc hbm e0 e1 e2 i0 i1 hcu hlu hl5 HPU HP0
          cases ok
          · clear hoke hro
            go_wp2
            go_ret2
            refine ⟨?_, hc6⟩
            rw [unhide HNJ (by simp)]
            rfl
          · clear hoke hro
            go_wp2_with fail
            refine (unhide HKF _).mono ?_
            rintro e w7 ⟨rfl, hb7⟩
            have a1 := (hb7.cell (p := ⟨wr.heap.size, 1, none⟩) hl6).trans a1
            have a2 := (hb7.cell (p := ⟨wr.heap.size, 2, none⟩) hl6).trans a2
            have b0 := (hb7.cell (p := ⟨w.heap.size, 0, none⟩) hlv).trans b0
            have b1 := (hb7.cell (p := ⟨w.heap.size, 1, none⟩) hlv).trans b1
            have hc7 : Below w.heap.size w w7 := hc6.trans (hb7.mono hc6.size)
            have hlw : w.heap.size < w7.heap.size := Nat.lt_of_lt_of_le hlv hb7.size
            clear hb7 hc6 a0 hl6 hlv
            go_wp2_with fail
            refine (unhide HRT _).mono ?_
            rintro e w8 ⟨rfl, hb8⟩
            have b0 := (hb8.cell (p := ⟨w.heap.size, 0, none⟩) hlw).trans b0
            have b1 := (hb8.cell (p := ⟨w.heap.size, 1, none⟩) hlw).trans b1
            have hc8 : Below w.heap.size w w8 := hc7.trans (hb8.mono hc7.size)
            have hlx : w.heap.size < w8.heap.size := Nat.lt_of_lt_of_le hlw hb8.size
            clear hb8 hc7 a1 a2 hlw
            go_wp2
            go_roundw
            case rel => exact ⟨j + 1, by go_num, by omega, by rw [unhide HSJ], hc8, hlx, b0, b1, unhide HOKN (by simp)⟩
            case measure => simp [intOf]; omega
      · obtain rfl : j = n := by omega
        have hall := unhide HYES (fun m hm => unhide HOK m hm (by have := unhide HN; omega))
        have HALL := hide hall
        clear hall
        go_wp2_with fail
        refine (unhide HSE _).mono ?_
        rintro e w8 ⟨rfl, hb8⟩
        have hbe := hb.trans (hb8.mono hb.size)
        clear hb hb8
        go_wp2
        go_ret2
        refine ⟨?_, hbe⟩
        rw [unhide HALL]
        rfl

set_option maxRecDepth 100000 in
set_option maxHeartbeats 4000000 in
theorem specPage_go_two (v : Value) (B : Nat) (Q : List It) (hl : 0 < Q.length ∧ Q.length ≤ 54) (hsm : ∀ x ∈ Q, x.key.size ≤ 1048576 ∧ x.val.size ≤ 1048576) (hz : sizeTo 2 Q Q.length ≤ 54) (w : World) (hB : B ≤ w.heap.size) (hv : PageAt w v B 2 Q) :
    Calls Try.prog 11 #[v] w fun e w' => e = .returned (pageA 2 Q) ∧ Below w.heap.size w w' := by
  obtain ⟨a, n, c, rfl, hQ⟩ := hv
  have HI := hide (l01In_any 2 1 2)
  rw [show (decide ((1 : Int) ≤ 2) && decide ((2 : Int) ≤ 2)) = true from rfl] at HI
  obtain rfl : n = Q.length := hQ.1.symm
  have HS := hide (fun w1 (hb : Below w.heap.size w w1) => specSum4_any 2 a Q.length c B Q (by omega) hsm w1 (by have := hb.size; omega) (hQ.below hb hB))
  have HT0 := hide (pageTo_zero 2 Q)
  have hvl := l01Var_any Q.length (by omega)
  rw [← varT_nat (by omega)] at hvl
  have HV := hide hvl
  have hvs := varT_size (Q.length : Int)
  have HC := hide hQ.2
  have hcv := byte_row_drew 2 2 (by rfl)
  have hsz : ∀ j, j ≤ Q.length → (pageTo 2 Q j).size ≤ 60 := fun j hj => pageTo_small (k := 2) (.inr rfl) Q j hj hz
  have HSZ := hide hsz
  have HSU := hide (fun j (h : j < Q.length) => pageTo_succ 2 Q j h)
  have HSE := hide (fun w => specSealed_any (pageTo 2 Q Q.length) w)
  have e0 : sealA (pageTo 2 Q Q.length) = .tuple #[.string (sealB (pageTo 2 Q Q.length)), .bool true] := if_pos (by have := hsz Q.length (Nat.le_refl _); omega)
  rw [e0] at HSE
  have HYES := hide (fun (h : ∀ m (h : m < Q.length), okAt 2 Q m Q[m] = true) => pageA_yes (k := 2) (Q := Q) ⟨by omega, hl.1, h, hz⟩)
  have HNO := hide (fun j (hj : j < Q.length) (h : okAt 2 Q j Q[j] = false) => pageA_no (k := 2) (not_ok_at hj h))
  have HIS := hide (fun j (hj : j < Q.length) => (show (shortB Q[j].key).size ≤ 54 ∧ (restT 2 Q[j]).size ≤ 54 by
    have h1 := sizeTo_succ 2 Q j hj
    have h2 := sizeTo_mono 2 Q (m := j + 1) (n := Q.length) (by omega)
    unfold itSize at h1
    rw [if_pos (by omega)] at h1
    omega))
  generalize sealB (pageTo 2 Q Q.length) = out at HSE HYES
  generalize sizeTo 2 Q Q.length = z at HS hz
  obtain ⟨n, hn⟩ : ∃ n, n = Q.length := ⟨_, rfl⟩
  have HN := hide hn
  rw [← hn] at HS HV HT0 HSZ hl hvs HSE ⊢
  have h0 : ((n : Int) == 0) = false := by simp; omega
  have h5 : ¬ (54 : Int) < (n : Int) := by omega
  have h6 : ¬ (54 : Int) < (z : Int) := by omega
  have hn54 : n ≤ 54 := hl.2
  clear hn hQ hsm e0 hsz hvl hl hz
  generalize varT (n : Int) = vt at HV HT0 hvs
  have hcat0 : ¬ 9223372036854775807 < 1 + vt.size := by omega
  go_enter Try.func11, Try.ntmps11
  go_wp2_with fail
  refine (unhide HI _).mono ?_
  rintro e w0 ⟨rfl, rfl⟩
  go_wp2_with fail
  obtain ⟨W1, hW1⟩ : ∃ W, W = w.alloc (Obj.cells #[Value.int .i64 2, Value.slice a n c] 26) := ⟨_, rfl⟩
  rw [← hW1]
  have hb1 : Below w.heap.size w W1 := by rw [hW1]; exact below_new _ _
  have hl1 : w.heap.size < W1.heap.size := by rw [hW1]; simp
  have c0 : W1.cell? ⟨w.heap.size, 0, none⟩ = some (.int .i64 2) := by rw [hW1]; simp [go_sem]
  have c1 : W1.cell? ⟨w.heap.size, 1, none⟩ = some (.slice a n c) := by rw [hW1]; simp [go_sem]
  clear hW1
  refine (unhide HS _ hb1).mono ?_
  rintro e w2 ⟨rfl, hb2⟩
  have d0 := (hb2.cell (p := ⟨w.heap.size, 0, none⟩) hl1).trans c0
  have d1 := (hb2.cell (p := ⟨w.heap.size, 1, none⟩) hl1).trans c1
  have hl2 : w.heap.size < w2.heap.size := Nat.lt_of_lt_of_le hl1 hb2.size
  have hc2 : Below w.heap.size w w2 := hb1.trans (hb2.mono hb1.size)
  clear hb1 hb2 c0 c1 hl1
  go_upto_region 3 with fail
  go_cut [4] (fun t wx => t = .string (⟨#[2]⟩ ++ vt) ∧ Below w.heap.size w wx ∧ w.heap.size < wx.heap.size ∧ wx.cell? ⟨w.heap.size, 0, none⟩ = some (.int .i64 2) ∧ wx.cell? ⟨w.heap.size, 1, none⟩ = some (.slice a n c))
  case first =>
    go_region_with
      (first
        | (go_at_call 35; refine (unhide HV (w2.alloc _).drew).mono ?_; rintro e w3 ⟨rfl, hb3⟩; have f0 := (hb3.cell (p := ⟨w.heap.size, 0, none⟩) (lt_alloc hl2 _)).trans (((below_new w2 _).drew.cell (p := ⟨w.heap.size, 0, none⟩) hl2).trans d0); have f1 := (hb3.cell (p := ⟨w.heap.size, 1, none⟩) (lt_alloc hl2 _)).trans (((below_new w2 _).drew.cell (p := ⟨w.heap.size, 1, none⟩) hl2).trans d1); have hcw := byte_at 2 w2.heap.size w3 ((hb3.cell (p := ⟨w2.heap.size, 0, none⟩) (lt_new w2 _)).trans (byte_cell 2 2 (by rfl) w2)); have hb4 : Below w.heap.size w w3 := (hc2.alloc hc2.size _).drew.trans (hb3.mono (by have := hc2.size; simp; omega)); have hl3 : w.heap.size < w3.heap.size := Nat.lt_of_lt_of_le (lt_alloc hl2 _) hb3.size)
        | (go_at_call 35; refine (unhide HV w2.drew).mono ?_; rintro e w3 ⟨rfl, hb3⟩; have f0 := (hb3.cell (p := ⟨w.heap.size, 0, none⟩) hl2).trans d0; have f1 := (hb3.cell (p := ⟨w.heap.size, 1, none⟩) hl2).trans d1; have hcw := byte_row_wrap 2 2 (by rfl) w3; have hb4 : Below w.heap.size w w3 := hc2.drew.trans (hb3.mono hc2.size); have hl3 : w.heap.size < w3.heap.size := Nat.lt_of_lt_of_le hl2 hb3.size))
    all_goals
      go_wp2_with fail
      go_meet
      case rel =>
        first
          | exact ⟨rfl, hb4, hl3, f0, f1⟩
          | exact ⟨rfl, hb4.alloc hb4.size _, lt_alloc' hl3 _, ((below_new w3 _).cell (p := ⟨w.heap.size, 0, none⟩) hl3).trans f0, ((below_new w3 _).cell (p := ⟨w.heap.size, 1, none⟩) hl3).trans f1⟩
  case rest =>
    obtain ⟨rfl, hb3, hl3, f0, f1⟩ := hcut
    clear d0 d1 hc2 hl2 hcv HV h0 h5 h6
    go_wp2_with fail
    go_loopw [4, 5] (fun t i wr => ∃ j : Nat, i = .int .i64 j ∧ j ≤ n ∧ t = .string (pageTo 2 Q j) ∧ Below w.heap.size w wr ∧ w.heap.size < wr.heap.size ∧ wr.cell? ⟨w.heap.size, 0, none⟩ = some (.int .i64 2) ∧ wr.cell? ⟨w.heap.size, 1, none⟩ = some (.slice a n c) ∧ (∀ m (h : m < Q.length), m < j → okAt 2 Q m Q[m] = true)) (fun _ i _ => n - (intOf i).toNat)
    case atStart => exact ⟨0, rfl, Nat.zero_le _, by rw [unhide HT0]; rfl, hb3, hl3, f0, f1, fun m h hm => by omega⟩
    case round =>
      obtain ⟨j, rfl, hj, rfl, hb, hlr, f0, f1, hok⟩ := hrel
      have HOK := hide hok
      clear hok
      by_cases hlt : j < n
      · have hjL : j < Q.length := by have := unhide HN; omega
        obtain ⟨b, off, rfl, hbB, g0, g1, g2⟩ := unhide HC j hjL
        rw [← hb.cell (p := ⟨b, off + j * 3, none⟩) (by simp; omega)] at g0
        rw [← hb.cell (p := ⟨b, off + j * 3 + 1, none⟩) (by simp; omega)] at g1
        rw [← hb.cell (p := ⟨b, off + j * 3 + 2, none⟩) (by simp; omega)] at g2
        have hbl : b < wr.heap.size := by have := hb.size; omega
        have hpr : 0 < j → wr.cell? ⟨b, off + (j - 1) * 3, none⟩ = some (.string (prevK Q j)) := fun h0 => by
          obtain ⟨b', off', e', _, k0, _, _⟩ := unhide HC (j - 1) (by omega)
          simp at e'
          obtain ⟨rfl, rfl⟩ := e'
          rw [← hb.cell (p := ⟨b, off + (j - 1) * 3, none⟩) (by simp; omega)] at k0
          rw [k0]
          have hpk := prevK_succ Q (j - 1) (by omega)
          have e1 : j - 1 + 1 = j := by omega
          rw [e1] at hpk
          rw [hpk]
        have HPR := hide hpr
        have hx0 : (0 : Int) ≤ (j : Int) := by omega
        have hx1 : (j : Int) < (n : Int) := by omega
        have hsm := unhide HIS j hjL
        have HKF := hide (fun w => l04Short_any Q[j].key (by have := hsm.1; have h9 := shortB_bd Q[j].key; omega) w)
        have HRT := hide (show 0 ≤ Q[j].pg → Q[j].pg ≤ 1000000000 → ∀ w, Calls Try.prog 35 #[.int .i64 Q[j].pg] w (fun e w' => e = .returned (.string (restT 2 Q[j])) ∧ Below w.heap.size w w') by
          intro h0 h1 w
          have e9 : restT 2 Q[j] = varT Q[j].pg := (if_neg (by omega)).trans (if_pos rfl)
          rw [e9, varT_yes ⟨h0, h1⟩]
          exact l01Var_int _ h0 h1 w)
        have hpz := unhide HSZ j (by omega)
        have HSJ := hide (unhide HSU j hjL)
        have hite : itT 2 Q[j] = shortB Q[j].key ++ restT 2 Q[j] := rfl
        rw [hite, ← ByteArray.append_assoc] at HSJ
        have hoke : okAt 2 Q j Q[j] = (Op.bytesLess (prevK Q j).toList Q[j].key.toList && restOk 2 Q[j]) := rfl
        have HNJ := hide (unhide HNO j hjL)
        have HOKN : Hid (okAt 2 Q j Q[j] = true → ∀ m (h : m < Q.length), m < j + 1 → okAt 2 Q m Q[m] = true) := fun h m hm hmj => by
          by_cases e : m = j
          · subst e; exact h
          · exact unhide HOK m hm (by omega)
        have hpk0 : j = 0 → prevK Q j = ⟨#[]⟩ := fun h => by rw [h]; rfl
        have HP0 := hide hpk0
        generalize okAt 2 Q j Q[j] = ok at hoke HNJ HOKN
        generalize Q[j] = q at g0 g1 g2 hsm HKF HRT HSJ hoke
        have hro := show restOk 2 q = (q.val.toList.isEmpty && (decide (0 ≤ q.pg) && decide (q.pg < 400))) from by unfold restOk; rw [if_neg (by omega), empty_iff]
        obtain ⟨kb, hkb⟩ : ∃ x, x = shortB q.key := ⟨_, rfl⟩
        obtain ⟨rb, hrb⟩ : ∃ x, x = restT 2 q := ⟨_, rfl⟩
        rw [← hkb] at hsm HKF HSJ
        rw [← hrb] at hsm HRT HSJ
        obtain ⟨h1, h2⟩ := hsm
        clear hkb hrb hite hpr hpk0
        obtain ⟨s, t, p⟩ := q
        simp only at g0 g1 g2 HKF HRT hoke hro
        generalize pageTo 2 Q j = pt at HSJ hpz ⊢
        generalize prevK Q j = pk at hoke HPR HP0
        have hcat1 : ¬ 9223372036854775807 < pt.size + kb.size := by omega
        have hcat2 : ¬ 9223372036854775807 < (pt ++ kb).size + rb.size := by rw [ByteArray.size_append]; omega
        have hcat3 : ¬ 9223372036854775807 < pt.size + kb.size + rb.size := by omega
        go_upto_region 8 with fail
        obtain ⟨W5, hW5⟩ : ∃ W, W = wr.alloc (Obj.cells #[Value.string s, Value.string t, Value.int .i64 p] 33) := ⟨_, rfl⟩
        rw [← hW5]
        have hb5 : Below wr.heap.size wr W5 := by rw [hW5]; exact below_new _ _
        have hl5 : wr.heap.size < W5.heap.size := by rw [hW5]; simp
        have e0 : W5.cell? ⟨wr.heap.size, 0, none⟩ = some (.string s) := by rw [hW5]; simp [go_sem]
        have e1 : W5.cell? ⟨wr.heap.size, 1, none⟩ = some (.string t) := by rw [hW5]; simp [go_sem]
        have e2 : W5.cell? ⟨wr.heap.size, 2, none⟩ = some (.int .i64 p) := by rw [hW5]; simp [go_sem]
        clear hW5
        have i0 := (hb5.cell (p := ⟨w.heap.size, 0, none⟩) hlr).trans f0
        have i1 := (hb5.cell (p := ⟨w.heap.size, 1, none⟩) hlr).trans f1
        have hcu : Below w.heap.size w W5 := hb.trans (hb5.mono hb.size)
        have hlu : w.heap.size < W5.heap.size := by omega
        have HPU : Hid (0 < j → W5.cell? ⟨b, off + (j - 1) * 3, none⟩ = some (.string pk)) := fun h => (hb5.cell (p := ⟨b, off + (j - 1) * 3, none⟩) hbl).trans (unhide HPR h)
        clear hb5 hb f0 f1 g0 g1 g2 HPR hlr
        go_cut [97] (fun t wx => t = .bool (!ok) ∧ ∃ m, wx = W5.drewN m)
        case first =>
          cases hk : s.toList.isEmpty
          · rcases Nat.eq_zero_or_pos j with hj0 | hj0
            · have hpk := unhide HP0 hj0
              have hls : Op.bytesLess pk.toList s.toList = true := by
                rw [hpk, show (ByteArray.mk #[]).toList = [] by rw [ByteArray.toList_eq], nil_less, hk]; rfl
              rw [hls, Bool.true_and, hro] at hoke
              clear hpk hls hro HPU HP0
              subst hj0
              cases hv : t.toList.isEmpty
              · rw [hv, Bool.false_and] at hoke
                subst hoke
                go_quiet (fail)
                go_wp2_with fail
                go_meet
                case rel => exact ⟨rfl, _, rfl⟩
              · rw [hv, Bool.true_and] at hoke
                have hin : (decide ((0 : Int) ≤ p) && decide (p ≤ 399)) = ok := by rw [hoke]; congr 1; rw [decide_eq_decide]; omega
                have HIN := hide (l01In_any p 0 399)
                rw [hin] at HIN
                clear hin hoke
                go_quiet ((go_at_call 33; exact Calls.quiet_of_same (unhide HIN _)))
                go_wp2_with fail
                go_meet
                case rel => exact ⟨rfl, _, rfl⟩
            · obtain ⟨i, rfl⟩ : ∃ i, j = i + 1 := ⟨j - 1, by omega⟩
              have hpc := unhide HPU (by omega)
              rw [Nat.add_sub_cancel] at hpc
              have hj1 : (0 : Int) < (i : Int) + 1 := by omega
              have hi0 : (0 : Int) ≤ (i : Int) := by omega
              have hi1 : (i : Int) < (n : Int) := by omega
              cases hls : Op.bytesLess pk.toList s.toList
              · rw [hls, Bool.false_and] at hoke
                subst hoke
                clear hro HPU HP0 hj0
                go_quiet (fail)
                go_wp2_with fail
                go_meet
                case rel => exact ⟨rfl, _, rfl⟩
              · rw [hls, Bool.true_and, hro] at hoke
                clear hro HPU HP0 hj0
                cases hv : t.toList.isEmpty
                · rw [hv, Bool.false_and] at hoke
                  subst hoke
                  go_quiet (fail)
                  go_wp2_with fail
                  go_meet
                  case rel => exact ⟨rfl, _, rfl⟩
                · rw [hv, Bool.true_and] at hoke
                  have hin : (decide ((0 : Int) ≤ p) && decide (p ≤ 399)) = ok := by rw [hoke]; congr 1; rw [decide_eq_decide]; omega
                  have HIN := hide (l01In_any p 0 399)
                  rw [hin] at HIN
                  clear hin hoke
                  go_quiet ((go_at_call 33; exact Calls.quiet_of_same (unhide HIN _)))
                  go_wp2_with fail
                  go_meet
                  case rel => exact ⟨rfl, _, rfl⟩
          · have hls : Op.bytesLess pk.toList s.toList = false := by
              rw [List.isEmpty_iff.1 hk, less_nil]
            rw [hls, Bool.false_and] at hoke
            subst hoke
            clear hls hro HPU HP0
            go_quiet (fail)
            go_wp2_with fail
            go_meet
            case rel => exact ⟨rfl, _, rfl⟩
        case rest =>
          obtain ⟨rfl, m, hwc⟩ := hcut
          have hbm : Below W5.heap.size W5 wc := by rw [hwc]; exact below_drewN (Below.refl _ _) m
          have hc6 : Below w.heap.size w wc := hcu.trans (hbm.mono hcu.size)
          have a0 := (hbm.cell (p := ⟨wr.heap.size, 0, none⟩) hl5).trans e0
          have a1 := (hbm.cell (p := ⟨wr.heap.size, 1, none⟩) hl5).trans e1
          have a2 := (hbm.cell (p := ⟨wr.heap.size, 2, none⟩) hl5).trans e2
          have b0 := (hbm.cell (p := ⟨w.heap.size, 0, none⟩) hlu).trans i0
          have b1 := (hbm.cell (p := ⟨w.heap.size, 1, none⟩) hlu).trans i1
          have hl6 : wr.heap.size < wc.heap.size := Nat.lt_of_lt_of_le hl5 hbm.size
          have hlv : w.heap.size < wc.heap.size := Nat.lt_of_lt_of_le hlu hbm.size
          clear hwc hbm e0 e1 e2 i0 i1 hcu hlu hl5 HPU HP0
          cases ok
          · clear hoke hro
            go_wp2
            go_ret2
            refine ⟨?_, hc6⟩
            rw [unhide HNJ (by simp)]
            rfl
          · have hpb : 0 ≤ p ∧ p ≤ 1000000000 := by
              rw [hro] at hoke
              have h9 := hoke.symm
              simp at h9
              omega
            have HRT := hide (unhide HRT hpb.1 hpb.2)
            clear hoke hro hpb
            go_wp2_with fail
            refine (unhide HKF _).mono ?_
            rintro e w7 ⟨rfl, hb7⟩
            have a1 := (hb7.cell (p := ⟨wr.heap.size, 1, none⟩) hl6).trans a1
            have a2 := (hb7.cell (p := ⟨wr.heap.size, 2, none⟩) hl6).trans a2
            have b0 := (hb7.cell (p := ⟨w.heap.size, 0, none⟩) hlv).trans b0
            have b1 := (hb7.cell (p := ⟨w.heap.size, 1, none⟩) hlv).trans b1
            have hc7 : Below w.heap.size w w7 := hc6.trans (hb7.mono hc6.size)
            have hlw : w.heap.size < w7.heap.size := Nat.lt_of_lt_of_le hlv hb7.size
            clear hb7 hc6 a0 hl6 hlv
            go_wp2_with fail
            refine (unhide HRT _).mono ?_
            rintro e w8 ⟨rfl, hb8⟩
            have b0 := (hb8.cell (p := ⟨w.heap.size, 0, none⟩) hlw).trans b0
            have b1 := (hb8.cell (p := ⟨w.heap.size, 1, none⟩) hlw).trans b1
            have hc8 : Below w.heap.size w w8 := hc7.trans (hb8.mono hc7.size)
            have hlx : w.heap.size < w8.heap.size := Nat.lt_of_lt_of_le hlw hb8.size
            clear hb8 hc7 a1 a2 hlw
            go_wp2
            go_roundw
            case rel => exact ⟨j + 1, by go_num, by omega, by rw [unhide HSJ], hc8, hlx, b0, b1, unhide HOKN (by simp)⟩
            case measure => simp [intOf]; omega
      · obtain rfl : j = n := by omega
        have hall := unhide HYES (fun m hm => unhide HOK m hm (by have := unhide HN; omega))
        have HALL := hide hall
        clear hall
        go_wp2_with fail
        refine (unhide HSE _).mono ?_
        rintro e w8 ⟨rfl, hb8⟩
        have hbe := hb.trans (hb8.mono hb.size)
        clear hb hb8
        go_wp2
        go_ret2
        refine ⟨?_, hbe⟩
        rw [unhide HALL]
        rfl

end Go.Proofs.Ytajajfmaekdphaa
