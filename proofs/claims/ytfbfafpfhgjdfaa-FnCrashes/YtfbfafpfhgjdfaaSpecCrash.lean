/-
  The contract of spec.CrashDevice.
-/
import Derived.Test.YtfbfafpfhgjdfaaDevCrash
namespace Go.Proofs.Ytfbfafpfhgjdfaa
open Go.RowKit

theorem tear_cases (t s : ByteArray) (P : Nat) : (P < s.size → tearT t s P = t.extract 0 (min P t.size) ++ s.extract P s.size) ∧ (s.size ≤ P → tearT t s P = t.extract 0 (min P t.size) ++ ⟨#[]⟩) := by
  unfold tearT
  refine ⟨fun h => by rw [Nat.min_eq_left (Nat.le_of_lt h)], fun h => ?_⟩
  rw [Nat.min_eq_right h]
  congr 1
  apply ByteArray.ext
  simp

set_option maxRecDepth 100000 in
set_option maxHeartbeats 2000000 in
theorem specCrash_yes (v : Value) (B : Nat) (L : List ByteArray) (Q : List (Int × ByteArray)) (ka : Option Addr) (kn kc : Nat) (K : List Int) (torn : Int) (P : Nat) (hok : devOk L Q = true) (hP : P ≤ 64) (hkn : kn ≤ 1048576) (w : World) (hB : B ≤ w.heap.size) (hv : DevAt w v B L Q) (hK : IntsAt w ka kn B K) :
    Calls Try.prog 23 #[v, .slice ka kn kc, .int .i64 torn, .int .i64 (P : Int)] w fun e w' => DevPost w (crashL L Q K torn P) [] true e w' := by
  have hds := devOk_sec hok
  have OK := hide (fun w1 (hb : Below w.heap.size w w1) => specDev_any v B L Q (by omega) (by omega) (fun s hs => by have := hds.2.2.2.1 s hs; omega) w1 (by have := hb.size; omega) (hv.below hb hB))
  rw [hok] at OK
  have KI := hide (fun x w1 (hb : Below w.heap.size w w1) => l03In_any ka kn kc B K x hkn w1 (hK.below hb hB))
  have hin : (decide ((0 : Int) ≤ (P : Int)) && decide ((P : Int) ≤ 64)) = true := by simp; omega
  have IP := hide (fun w => l01In_any (P : Int) 0 64 w)
  rw [hin] at IP
  clear hin hK
  obtain ⟨i0, hi, hz0, hz1, hz2⟩ := info_parts info9
  obtain ⟨a, n, c, a', n', c', rfl, hL, hQ⟩ := hv
  have e1 := hL.1
  obtain ⟨e2, hQc⟩ := hQ
  obtain ⟨b, off, rfl, hbB⟩ := hL.some_of (by omega)
  have hn1 : 1 ≤ n := by omega
  have hn4 : n ≤ 400 := by omega
  have hn4' : n' ≤ 400 := by omega
  have HQ0 := hide hds.2.2.2.2
  have HLS := hide hds.2.2.2.1
  have HQC := hide hQc
  have HL := hide hL
  have HN := hide e1
  have HN' := hide e2
  clear hds hok hQc hL e1 e2
  go_enter Try.func23, Try.ntmps23
  go_wp2_with fail
  obtain ⟨W2, hW2⟩ : ∃ W, W = (w.alloc (Obj.cells #[Value.slice (some ⟨b, off, none⟩) n c, Value.slice a' n' c'] 27)).alloc (Obj.cells #[Value.slice none 0 0, Value.slice none 0 0] 27) := ⟨_, rfl⟩
  rw [← hW2]
  have hb2 : Below w.heap.size w W2 := by rw [hW2]; exact ((Below.refl _ _).alloc (Nat.le_refl _) _).alloc (by simp) _
  have hs2 : W2.heap.size = w.heap.size + 2 := by rw [hW2]; simp
  have hx2 : Box W2 w.heap.size (Value.slice (some ⟨b, off, none⟩) n c) (Value.slice a' n' c') := by rw [hW2]; exact (Box.new _ _ _).below (below_new _ _)
  have hr2 : Box W2 (w.heap.size + 1) (Value.slice none 0 0) (Value.slice none 0 0) := by
    have h := Box.new (w.alloc (Obj.cells #[Value.slice (some ⟨b, off, none⟩) n c, Value.slice a' n' c'] 27)) (Value.slice none 0 0) (Value.slice none 0 0)
    rw [hW2]
    simpa using h
  clear hW2
  refine (unhide OK W2 hb2).mono ?_
  rintro e w2b ⟨rfl, hb3⟩
  go_wp2_with fail
  refine (unhide IP _).mono ?_
  rintro e w3 ⟨rfl, rfl⟩
  have hx3 := hx2.below hb3
  have hr3 := hr2.below hb3
  have hc3 : Below w.heap.size w w3 := hb2.trans (hb3.mono hb2.size)
  have hs3 := hb3.size
  obtain ⟨p0, p1⟩ := (hx3.below (below_new w3 (Obj.cells #[] 9))).cells
  have hnews := strs_news ((unhide HL).below (hc3.alloc hc3.size (Obj.cells #[] 9)) hB)
  have hlen : (strsV L).length = n * 1 := by have := unhide HN; simp [strsV]; omega
  have hown0 : (w3.alloc (.cells #[] 9)).ownsRow w.heap.size 9 1 (.slice (some ⟨w3.heap.size, 0, none⟩) 0 0) 0 [] := World.ownsRow_made w3 #[] 0 (by omega) (Nat.zero_le _) rfl
  have HX3 := hide hx3
  have HR3 := hide hr3
  clear hb3 hx2 hr2 hb2 hx3 hr3
  go_wp2_with (at_builtin; refine wpList_append_lies _ rfl _ _ 24 rfl w.heap.size 9 i0 (.string ⟨#[]⟩) 1 16 Try.underlying24 hi hz0 hz1 hz2 rfl (by decide) _ 0 [] rfl hown0 ⟨b, off, none⟩ n c (strsV L) rfl hlen hnews (strs_one L) hn1 (by unfold maxLen; omega) (by omega) (by simp; omega) (w3.heap.size + 1) (by simp) ?_)
  intro g cap w4 hown4 hgrow4 hat4 hlt4
  have hg : w3.heap.size ≤ g := by
    rcases hat4 with h | h
    · simp [Value.ownBlock] at h; omega
    · omega
  have hc4 : Below w.heap.size w w4 := (hc3.alloc hc3.size _).grown hgrow4 (by simp; omega) (fun k hk => by simp [Value.ownBlock] at hk; omega)
  have HX4 := hide (grown_box ((unhide HX3).below (below_new w3 (Obj.cells #[] 9))) hgrow4 (by simp [Value.ownBlock]; omega))
  have HR4 := hide (grown_box ((unhide HR3).below (below_new w3 (Obj.cells #[] 9))) hgrow4 (by simp [Value.ownBlock]; omega))
  have HO4 := hide hown4
  have hs4 : w3.heap.size ≤ w4.heap.size := by have := hgrow4.size; simp at this; omega
  clear hown4 hgrow4 hat4 hown0 hnews hlen p0 p1 HX3 HR3 hc3
  go_wp2_with fail
  obtain ⟨W5, hW5⟩ : ∃ W, W = w4.alloc (Obj.cells #[Value.slice (some ⟨g, 0, none⟩) n cap, Value.slice none 0 0] 27) := ⟨_, rfl⟩
  rw [← hW5]
  have hb5 : Below w4.heap.size w4 W5 := by rw [hW5]; exact below_new _ _
  have hs5 : W5.heap.size = w4.heap.size + 1 := by rw [hW5]; simp
  have HY5 : Hid (Box W5 w4.heap.size (Value.slice (some ⟨g, 0, none⟩) n cap) (Value.slice none 0 0)) := by show Box _ _ _ _; rw [hW5]; exact Box.new _ _ _
  have HX5 := hide ((unhide HX4).below hb5)
  have HR5 := hide ((unhide HR4).below hb5)
  have HO5 := hide (own_below (unhide HO4) hb5)
  have hc5 : Below w.heap.size w W5 := hc4.trans (hb5.mono hc4.size)
  clear hW5 HX4 HR4 HO4 hb5 hc4
  have HFS := hide (@keepL_size K L Q)
  go_loopw [11] (fun a11 wr => ∃ j : Nat, a11 = .int .i64 j ∧ j ≤ n' ∧ wr.ownsRow w.heap.size 9 1 (.slice (some ⟨g, 0, none⟩) n cap) n (strsV (keepL K L Q j)) ∧ Kept (fun k => k = g) W5 wr) (fun a11 _ => n' - (intOf a11).toNat)
  case atStart => exact ⟨0, rfl, Nat.zero_le _, unhide HO5, Kept.refl _ _⟩
  case round =>
    obtain ⟨j, rfl, hj, hown, hkp⟩ := hrel
    have hx := (unhide HX5).kept hkp (by omega)
    have hy := (unhide HY5).kept hkp (by omega)
    have hr := (unhide HR5).kept hkp (by omega)
    have hcw : Below w.heap.size w wr := hc5.trans (hkp.below hc5.size (fun k hk => by omega))
    obtain ⟨x0, x1⟩ := hx.cells
    obtain ⟨y0, y1⟩ := hy.cells
    by_cases hlt : j < n'
    · have hjQ : j < Q.length := by have := unhide HN'; omega
      obtain ⟨b', off', rfl, hbB', hq0, hq1⟩ := unhide HQC j hjQ
      rw [← hcw.cell (p := ⟨b', off' + j * 2, none⟩) (by simp; omega)] at hq0
      rw [← hcw.cell (p := ⟨b', off' + j * 2 + 1, none⟩) (by simp; omega)] at hq1
      have hqq := unhide HQ0 _ (List.getElem_mem hjQ)
      have HF := hide (keepL_yes K L Q j hjQ)
      have HG := hide (keepL_no K L Q j)
      have KJ := hide (unhide KI (j : Int) wr hcw)
      have hi0 : (0 : Int) ≤ (j : Int) := by omega
      have hi1 : (j : Int) < (n' : Int) := by omega
      generalize Q[j] = q at hq0 hq1 hqq HF
      obtain ⟨x, s⟩ := q
      simp only at hq0 hq1 hqq HF
      obtain ⟨k, rfl⟩ := Int.eq_ofNat_of_zero_le hqq.1
      have hkn' : k < n := by have := unhide HN; omega
      have hk0 : (0 : Int) ≤ (k : Int) := by omega
      have hk1 : (k : Int) < (n : Int) := by omega
      have hle : k < (keepL K L Q j).length := by rw [keepL_length]; have := unhide HN; omega
      have HKP := hide hkp
      cases hin : inK K (j : Int)
      · rw [hin] at KJ
        have HE := hide (unhide HG hin)
        have HO := hide hown
        clear hown hin HF HG hkp hx hy hr hqq x0 y1
        go_wp2_with fail
        refine (unhide KJ).mono ?_
        rintro e w7 ⟨rfl, rfl⟩
        go_wp2
        go_roundw
        case rel => exact ⟨j + 1, by go_num, by omega, by rw [unhide HE]; exact unhide HO, unhide HKP⟩
        case measure => simp [intOf]; omega
      · rw [hin] at KJ
        have hF := unhide HF hin
        rw [Int.toNat_natCast] at hF
        have hce := hown.cellAt k (by omega)
        have hce2 : (strsV (keepL K L Q j))[k]? = some (.string (keepL K L Q j)[k]) := by simp [strsV, hle]
        rw [hce2] at hce
        have hfz := hown.frozenAt k
        have hst := (hown.stored k (.string s)).1
        rw [strsV_set, ← hF] at hst
        have HST := hide hst
        generalize (keepL K L Q j)[k] = z at hce
        clear hst hown hce2 hle HF HG hF hqq hkp hx hy hr y1 x0 hin
        go_wp2_with fail
        refine (unhide KJ).mono ?_
        rintro e w7 ⟨rfl, hw7⟩
        subst hw7
        go_wp2_with fail
        go_big_region
        go_wp2
        go_roundw
        case rel => exact ⟨j + 1, by go_num, by omega, unhide HST, ((unhide HKP).trans (Kept.set _ g k (.string s) rfl)).drew⟩
        case measure => simp [intOf]; omega
    · obtain rfl : j = n' := by omega
      have hsz0 := hown
      have HO := hide hown
      have HR := hide hr
      have HC := hide hcw
      obtain ⟨q0, q1⟩ := hr.cells
      have f0 := hr.froz 0
      have f1 := hr.froz 1
      have IT := hide (fun w => l01In_any torn 0 ((j : Int) - 1) w)
      by_cases ht : 0 ≤ torn ∧ torn < (j : Int)
      · obtain ⟨tn, rfl⟩ := Int.eq_ofNat_of_zero_le ht.1
        have htQ : tn < Q.length := by have := unhide HN'; omega
        have hdec : (decide ((0 : Int) ≤ (tn : Int)) && decide ((tn : Int) ≤ (j : Int) - 1)) = true := by simp; omega
        rw [hdec] at IT
        have KT := hide (unhide KI (tn : Int) wr hcw)
        cases hin : inK K (tn : Int)
        · rw [hin] at KT
          obtain ⟨b', off', rfl, hbB', hq0, hq1⟩ := unhide HQC tn htQ
          rw [← hcw.cell (p := ⟨b', off' + tn * 2, none⟩) (by simp; omega)] at hq0
          rw [← hcw.cell (p := ⟨b', off' + tn * 2 + 1, none⟩) (by simp; omega)] at hq1
          have hqq := unhide HQ0 _ (List.getElem_mem htQ)
          have HCR : Hid (crashL L Q K (tn : Int) P = (keepL K L Q j).set Q[tn].1.toNat (tearT Q[tn].2 ((keepL K L Q j).getD Q[tn].1.toNat ⟨#[]⟩) P)) := by
            show _ = _
            unfold crashL
            have e := unhide HN'
            rw [if_pos ⟨by omega, by omega, hin⟩, e]
            simp [htQ]
          generalize Q[tn] = q at hq0 hq1 hqq HCR
          obtain ⟨x, t⟩ := q
          simp only at hq0 hq1 hqq HCR
          obtain ⟨k, rfl⟩ := Int.eq_ofNat_of_zero_le hqq.1
          have hkn' : k < n := by have := unhide HN; omega
          have hk0 : (0 : Int) ≤ (k : Int) := by omega
          have hk1 : (k : Int) < (n : Int) := by omega
          have ht0 : (0 : Int) ≤ (tn : Int) := by omega
          have ht1 : (tn : Int) < (j : Int) := ht.2
          have hle : k < (keepL K L Q j).length := by rw [keepL_length]; have := unhide HN; omega
          have hce := hown.cellAt k (by omega)
          have hce2 : (strsV (keepL K L Q j))[k]? = some (.string (keepL K L Q j)[k]) := by simp [strsV, hle]
          rw [hce2] at hce
          have hfz := hown.frozenAt k
          have hss : (keepL K L Q j)[k].size ≤ 64 := unhide HFS (unhide HLS) (fun q hq => (unhide HQ0 q hq).2.2) j _ (List.getElem_mem hle)
          have hgd : (keepL K L Q j).getD ((k : Int).toNat) ⟨#[]⟩ = (keepL K L Q j)[k] := by rw [Int.toNat_natCast]; simp [hle]
          rw [hgd, Int.toNat_natCast] at HCR
          generalize (keepL K L Q j)[k] = z at hce hss HCR
          have hts : t.size ≤ 64 := hqq.2.2
          have hlw := hcw.size
          have hlg : g < wr.heap.size := (hown.lt g rfl).2
          have hly := hy.lt
          have hlr := hr.lt
          have hbn := below_new wr (Obj.cells #[Value.int .i64 (k : Int), Value.string t] 66)
          have y0' := (hy.below hbn).cells.1
          have y1' := (hy.below hbn).cells.2
          have q0' := (hr.below hbn).cells.1
          have q1' := (hr.below hbn).cells.2
          have f0' := (hr.below hbn).froz 0
          have f1' := (hr.below hbn).froz 1
          have hce' := (hbn.cell (p := ⟨g, k, none⟩) hlg).trans hce
          have hfz' := (own_below hown hbn).frozenAt k
          have HO6 := hide (fun u => (show World.ownsRow (World.drew ((wr.setCell ⟨g, k, none⟩ (.string u)).alloc (Obj.cells #[Value.int .i64 (k : Int), Value.string t] 66))) w.heap.size 9 1 (.slice (some ⟨g, 0, none⟩) n cap) n _ from ((hown.stored k (.string u)).1.alloc _).drew))
          have HSET := hide (fun u => strsV_set (keepL K L Q j) k u)
          have HR6 := hide (fun u => (show Box (World.drew ((wr.setCell ⟨g, k, none⟩ (.string u)).alloc (Obj.cells #[Value.int .i64 (k : Int), Value.string t] 66))) (w.heap.size + 1) (Value.slice none 0 0) (Value.slice none 0 0) from (hr.kept (S := fun k => k = g) (Kept.set (S := fun k => k = g) _ g k (.string u) rfl) (by omega)).below (below_new _ _).drew))
          have HY6 := hide (fun u => (show Box (World.drew ((wr.setCell ⟨g, k, none⟩ (.string u)).alloc (Obj.cells #[Value.int .i64 (k : Int), Value.string t] 66))) w4.heap.size (Value.slice (some ⟨g, 0, none⟩) n cap) (Value.slice none 0 0) from (hy.kept (S := fun k => k = g) (Kept.set (S := fun k => k = g) _ g k (.string u) rfl) (by omega)).below (below_new _ _).drew))
          have HC6 := hide (fun u => (show Below w.heap.size w (World.drew ((wr.setCell ⟨g, k, none⟩ (.string u)).alloc (Obj.cells #[Value.int .i64 (k : Int), Value.string t] 66))) from ((hcw.setCell (p := ⟨g, k, none⟩) (by show w.heap.size ≤ g; omega) (.string u)).alloc (by simp [World.setCell]; omega) _).drew))
          have hn1 : w4.heap.size ≠ g := by omega
          have hn2 : g ≠ w4.heap.size := by omega
          have hn3 : w.heap.size + 1 ≠ g := by omega
          have hn4 : g ≠ w.heap.size + 1 := by omega
          have hn5 : g ≠ wr.heap.size := by omega
          have hn6 : wr.heap.size ≠ g := by omega
          have hn7 : w4.heap.size ≠ wr.heap.size := by omega
          have hn8 : w.heap.size + 1 ≠ wr.heap.size := by omega
          have hpz : (0 : Int) ≤ (P : Int) := by omega
          have TS := hide (tear_cases t z P)
          clear hown hbn hce hfz hce2 hle hgd HO HR HC hin hqq hx hy hr hkp q0 q1 f0 f1 y0 y1 x0 hsz0 KI ht
          by_cases c1 : (t.size : Int) < (P : Int)
          · by_cases c2 : (P : Int) < (z.size : Int)
            · obtain ⟨a1, h1, hE1⟩ : ∃ a1, a1 = t.extract 0 (min P t.size) ∧ ∀ w, (Instr.slice 9 (.string t) none (some (.int .i64 (t.size : Int))) none).run Try.prog w = .ok (.string a1) w := ⟨_, rfl, fun u => by
                have h := run_slice_string_to_if (P := Try.prog) u 9 t .i64 (t.size : Int) Try.underlying9
                have e : ((t.size : Int)).toNat = min P t.size := by omega
                rw [if_pos ⟨by omega, by omega⟩, e] at h
                exact h⟩
              obtain ⟨a2, h2, hE2⟩ : ∃ a2, a2 = z.extract P z.size ∧ ∀ w, (Instr.slice 9 (.string z) (some (.int .i64 (P : Int))) none none).run Try.prog w = .ok (.string a2) w := ⟨_, rfl, fun u => by
                have h := run_slice_string_from_if (P := Try.prog) u 9 z .i64 (P : Int) Try.underlying9
                rw [if_pos ⟨by omega, by omega⟩, Int.toNat_natCast] at h
                exact h⟩
              have HU : Hid (tearT t z P = a1 ++ a2) := by show _ = _; rw [h1, h2]; exact (unhide TS).1 (by omega)
              have z1 : a1.size ≤ 64 := by rw [h1]; simp; omega
              have z2 : a2.size ≤ 64 := by rw [h2]; first | exact Nat.zero_le _ | (simp; omega)
              clear h1 h2 TS
              go_wp2_with fail
              refine (unhide IT _).mono ?_
              rintro e w7 ⟨rfl, rfl⟩
              go_wp2_with fail
              refine (unhide KT).mono ?_
              rintro e w8 ⟨rfl, rfl⟩
              go_wp2_with fail
              go_big_region
              obtain ⟨W9, hW9⟩ : ∃ W, W = World.drew ((w8.setCell ⟨g, k, none⟩ (.string (a1 ++ a2))).alloc (Obj.cells #[Value.int .i64 (k : Int), Value.string t] 66)) := ⟨_, rfl⟩
              rw [← hW9]
              have HO9 := hide (unhide HO6 (a1 ++ a2))
              have HR9 := hide (unhide HR6 (a1 ++ a2))
              have HY9 := hide (unhide HY6 (a1 ++ a2))
              have HC9 := hide (unhide HC6 (a1 ++ a2))
              rw [← hW9] at HO9 HR9 HY9 HC9
              clear hW9 HO6 HR6 HY6 HC6 y0' y1' q0' q1' f0' f1' hce' hfz'
              obtain ⟨y0, y1⟩ := (unhide HY9).cells
              obtain ⟨q0, q1⟩ := (unhide HR9).cells
              have f0 := (unhide HR9).froz 0
              have f1 := (unhide HR9).froz 1
              go_wp2
              (try simp only [Exit.inBlock, Exit.then])
              refine bodyPost_ret (results_box Try.results23 _ _ (w.heap.size + 1) _ _ rfl ((unhide HR9).two _ _)) rfl ?_
              have hown := unhide HO9
              have hne : (Value.slice (some ⟨g, 0, none⟩) n cap).ownBlock ≠ some (w.heap.size + 1) := by simp [Value.ownBlock]; omega
              refine ⟨⟨_, rfl, _, _, rfl, ?_, ⟨rfl, .inl ⟨rfl, rfl⟩⟩, .inl (by simp [Value.ownBlock])⟩, ((unhide HC9).setCell (p := ⟨w.heap.size + 1, 0, none⟩) (by simp) _).setCell (p := ⟨w.heap.size + 1, 1, none⟩) (by simp) _⟩
              rw [crashL_length, unhide HN, unhide HCR, unhide HU, ← unhide HSET]
              exact ownsRow_setCell_other (a := ⟨w.heap.size + 1, 1, none⟩) (ownsRow_setCell_other (a := ⟨w.heap.size + 1, 0, none⟩) hown hne _) hne _
            · obtain ⟨a1, h1, hE1⟩ : ∃ a1, a1 = t.extract 0 (min P t.size) ∧ ∀ w, (Instr.slice 9 (.string t) none (some (.int .i64 (t.size : Int))) none).run Try.prog w = .ok (.string a1) w := ⟨_, rfl, fun u => by
                have h := run_slice_string_to_if (P := Try.prog) u 9 t .i64 (t.size : Int) Try.underlying9
                have e : ((t.size : Int)).toNat = min P t.size := by omega
                rw [if_pos ⟨by omega, by omega⟩, e] at h
                exact h⟩
              obtain ⟨a2, h2⟩ : ∃ a2 : ByteArray, a2 = ⟨#[]⟩ := ⟨_, rfl⟩
              have HU : Hid (tearT t z P = a1 ++ ⟨#[]⟩) := by show _ = _; rw [h1]; exact (unhide TS).2 (by omega)
              have z1 : a1.size ≤ 64 := by rw [h1]; simp; omega
              have z2 : a2.size ≤ 64 := by rw [h2]; first | exact Nat.zero_le _ | (simp; omega)
              clear h1 h2 TS
              go_wp2_with fail
              refine (unhide IT _).mono ?_
              rintro e w7 ⟨rfl, rfl⟩
              go_wp2_with fail
              refine (unhide KT).mono ?_
              rintro e w8 ⟨rfl, rfl⟩
              go_wp2_with fail
              go_big_region
              obtain ⟨W9, hW9⟩ : ∃ W, W = World.drew ((w8.setCell ⟨g, k, none⟩ (.string (a1 ++ (⟨#[]⟩ : ByteArray)))).alloc (Obj.cells #[Value.int .i64 (k : Int), Value.string t] 66)) := ⟨_, rfl⟩
              rw [← hW9]
              have HO9 := hide (unhide HO6 (a1 ++ (⟨#[]⟩ : ByteArray)))
              have HR9 := hide (unhide HR6 (a1 ++ (⟨#[]⟩ : ByteArray)))
              have HY9 := hide (unhide HY6 (a1 ++ (⟨#[]⟩ : ByteArray)))
              have HC9 := hide (unhide HC6 (a1 ++ (⟨#[]⟩ : ByteArray)))
              rw [← hW9] at HO9 HR9 HY9 HC9
              clear hW9 HO6 HR6 HY6 HC6 y0' y1' q0' q1' f0' f1' hce' hfz'
              obtain ⟨y0, y1⟩ := (unhide HY9).cells
              obtain ⟨q0, q1⟩ := (unhide HR9).cells
              have f0 := (unhide HR9).froz 0
              have f1 := (unhide HR9).froz 1
              go_wp2
              (try simp only [Exit.inBlock, Exit.then])
              refine bodyPost_ret (results_box Try.results23 _ _ (w.heap.size + 1) _ _ rfl ((unhide HR9).two _ _)) rfl ?_
              have hown := unhide HO9
              have hne : (Value.slice (some ⟨g, 0, none⟩) n cap).ownBlock ≠ some (w.heap.size + 1) := by simp [Value.ownBlock]; omega
              refine ⟨⟨_, rfl, _, _, rfl, ?_, ⟨rfl, .inl ⟨rfl, rfl⟩⟩, .inl (by simp [Value.ownBlock])⟩, ((unhide HC9).setCell (p := ⟨w.heap.size + 1, 0, none⟩) (by simp) _).setCell (p := ⟨w.heap.size + 1, 1, none⟩) (by simp) _⟩
              rw [crashL_length, unhide HN, unhide HCR, unhide HU, ← unhide HSET]
              exact ownsRow_setCell_other (a := ⟨w.heap.size + 1, 1, none⟩) (ownsRow_setCell_other (a := ⟨w.heap.size + 1, 0, none⟩) hown hne _) hne _
          · by_cases c2 : (P : Int) < (z.size : Int)
            · obtain ⟨a1, h1, hE1⟩ : ∃ a1, a1 = t.extract 0 (min P t.size) ∧ ∀ w, (Instr.slice 9 (.string t) none (some (.int .i64 (P : Int))) none).run Try.prog w = .ok (.string a1) w := ⟨_, rfl, fun u => by
                have h := run_slice_string_to_if (P := Try.prog) u 9 t .i64 (P : Int) Try.underlying9
                have e : ((P : Int)).toNat = min P t.size := by omega
                rw [if_pos ⟨by omega, by omega⟩, e] at h
                exact h⟩
              obtain ⟨a2, h2, hE2⟩ : ∃ a2, a2 = z.extract P z.size ∧ ∀ w, (Instr.slice 9 (.string z) (some (.int .i64 (P : Int))) none none).run Try.prog w = .ok (.string a2) w := ⟨_, rfl, fun u => by
                have h := run_slice_string_from_if (P := Try.prog) u 9 z .i64 (P : Int) Try.underlying9
                rw [if_pos ⟨by omega, by omega⟩, Int.toNat_natCast] at h
                exact h⟩
              have HU : Hid (tearT t z P = a1 ++ a2) := by show _ = _; rw [h1, h2]; exact (unhide TS).1 (by omega)
              have z1 : a1.size ≤ 64 := by rw [h1]; simp; omega
              have z2 : a2.size ≤ 64 := by rw [h2]; first | exact Nat.zero_le _ | (simp; omega)
              clear h1 h2 TS
              go_wp2_with fail
              refine (unhide IT _).mono ?_
              rintro e w7 ⟨rfl, rfl⟩
              go_wp2_with fail
              refine (unhide KT).mono ?_
              rintro e w8 ⟨rfl, rfl⟩
              go_wp2_with fail
              go_big_region
              obtain ⟨W9, hW9⟩ : ∃ W, W = World.drew ((w8.setCell ⟨g, k, none⟩ (.string (a1 ++ a2))).alloc (Obj.cells #[Value.int .i64 (k : Int), Value.string t] 66)) := ⟨_, rfl⟩
              rw [← hW9]
              have HO9 := hide (unhide HO6 (a1 ++ a2))
              have HR9 := hide (unhide HR6 (a1 ++ a2))
              have HY9 := hide (unhide HY6 (a1 ++ a2))
              have HC9 := hide (unhide HC6 (a1 ++ a2))
              rw [← hW9] at HO9 HR9 HY9 HC9
              clear hW9 HO6 HR6 HY6 HC6 y0' y1' q0' q1' f0' f1' hce' hfz'
              obtain ⟨y0, y1⟩ := (unhide HY9).cells
              obtain ⟨q0, q1⟩ := (unhide HR9).cells
              have f0 := (unhide HR9).froz 0
              have f1 := (unhide HR9).froz 1
              go_wp2
              (try simp only [Exit.inBlock, Exit.then])
              refine bodyPost_ret (results_box Try.results23 _ _ (w.heap.size + 1) _ _ rfl ((unhide HR9).two _ _)) rfl ?_
              have hown := unhide HO9
              have hne : (Value.slice (some ⟨g, 0, none⟩) n cap).ownBlock ≠ some (w.heap.size + 1) := by simp [Value.ownBlock]; omega
              refine ⟨⟨_, rfl, _, _, rfl, ?_, ⟨rfl, .inl ⟨rfl, rfl⟩⟩, .inl (by simp [Value.ownBlock])⟩, ((unhide HC9).setCell (p := ⟨w.heap.size + 1, 0, none⟩) (by simp) _).setCell (p := ⟨w.heap.size + 1, 1, none⟩) (by simp) _⟩
              rw [crashL_length, unhide HN, unhide HCR, unhide HU, ← unhide HSET]
              exact ownsRow_setCell_other (a := ⟨w.heap.size + 1, 1, none⟩) (ownsRow_setCell_other (a := ⟨w.heap.size + 1, 0, none⟩) hown hne _) hne _
            · obtain ⟨a1, h1, hE1⟩ : ∃ a1, a1 = t.extract 0 (min P t.size) ∧ ∀ w, (Instr.slice 9 (.string t) none (some (.int .i64 (P : Int))) none).run Try.prog w = .ok (.string a1) w := ⟨_, rfl, fun u => by
                have h := run_slice_string_to_if (P := Try.prog) u 9 t .i64 (P : Int) Try.underlying9
                have e : ((P : Int)).toNat = min P t.size := by omega
                rw [if_pos ⟨by omega, by omega⟩, e] at h
                exact h⟩
              obtain ⟨a2, h2⟩ : ∃ a2 : ByteArray, a2 = ⟨#[]⟩ := ⟨_, rfl⟩
              have HU : Hid (tearT t z P = a1 ++ ⟨#[]⟩) := by show _ = _; rw [h1]; exact (unhide TS).2 (by omega)
              have z1 : a1.size ≤ 64 := by rw [h1]; simp; omega
              have z2 : a2.size ≤ 64 := by rw [h2]; first | exact Nat.zero_le _ | (simp; omega)
              clear h1 h2 TS
              go_wp2_with fail
              refine (unhide IT _).mono ?_
              rintro e w7 ⟨rfl, rfl⟩
              go_wp2_with fail
              refine (unhide KT).mono ?_
              rintro e w8 ⟨rfl, rfl⟩
              go_wp2_with fail
              go_big_region
              obtain ⟨W9, hW9⟩ : ∃ W, W = World.drew ((w8.setCell ⟨g, k, none⟩ (.string (a1 ++ (⟨#[]⟩ : ByteArray)))).alloc (Obj.cells #[Value.int .i64 (k : Int), Value.string t] 66)) := ⟨_, rfl⟩
              rw [← hW9]
              have HO9 := hide (unhide HO6 (a1 ++ (⟨#[]⟩ : ByteArray)))
              have HR9 := hide (unhide HR6 (a1 ++ (⟨#[]⟩ : ByteArray)))
              have HY9 := hide (unhide HY6 (a1 ++ (⟨#[]⟩ : ByteArray)))
              have HC9 := hide (unhide HC6 (a1 ++ (⟨#[]⟩ : ByteArray)))
              rw [← hW9] at HO9 HR9 HY9 HC9
              clear hW9 HO6 HR6 HY6 HC6 y0' y1' q0' q1' f0' f1' hce' hfz'
              obtain ⟨y0, y1⟩ := (unhide HY9).cells
              obtain ⟨q0, q1⟩ := (unhide HR9).cells
              have f0 := (unhide HR9).froz 0
              have f1 := (unhide HR9).froz 1
              go_wp2
              (try simp only [Exit.inBlock, Exit.then])
              refine bodyPost_ret (results_box Try.results23 _ _ (w.heap.size + 1) _ _ rfl ((unhide HR9).two _ _)) rfl ?_
              have hown := unhide HO9
              have hne : (Value.slice (some ⟨g, 0, none⟩) n cap).ownBlock ≠ some (w.heap.size + 1) := by simp [Value.ownBlock]; omega
              refine ⟨⟨_, rfl, _, _, rfl, ?_, ⟨rfl, .inl ⟨rfl, rfl⟩⟩, .inl (by simp [Value.ownBlock])⟩, ((unhide HC9).setCell (p := ⟨w.heap.size + 1, 0, none⟩) (by simp) _).setCell (p := ⟨w.heap.size + 1, 1, none⟩) (by simp) _⟩
              rw [crashL_length, unhide HN, unhide HCR, unhide HU, ← unhide HSET]
              exact ownsRow_setCell_other (a := ⟨w.heap.size + 1, 1, none⟩) (ownsRow_setCell_other (a := ⟨w.heap.size + 1, 0, none⟩) hown hne _) hne _
        · rw [hin] at KT
          have HCR : Hid (crashL L Q K (tn : Int) P = keepL K L Q j) := by
            show _ = _
            unfold crashL
            have e := unhide HN'
            rw [if_neg (by rintro ⟨_, _, h⟩; rw [hin] at h; cases h), e]
          clear hown hx hy hr hkp x0 hsz0 KI
          go_wp2_with fail
          refine (unhide IT _).mono ?_
          rintro e w7 ⟨rfl, rfl⟩
          go_wp2_with fail
          refine (unhide KT).mono ?_
          rintro e w8 ⟨rfl, rfl⟩
          go_wp2
          (try simp only [Exit.inBlock, Exit.then])
          refine bodyPost_ret (results_box Try.results23 _ _ (w.heap.size + 1) _ _ rfl ((unhide HR).two _ _)) rfl ?_
          have hown := unhide HO
          have hne : (Value.slice (some ⟨g, 0, none⟩) n cap).ownBlock ≠ some (w.heap.size + 1) := by simp [Value.ownBlock]; omega
          refine ⟨⟨_, rfl, _, _, rfl, ?_, ⟨rfl, .inl ⟨rfl, rfl⟩⟩, .inl (by simp [Value.ownBlock])⟩, ((unhide HC).setCell (p := ⟨w.heap.size + 1, 0, none⟩) (by simp) _).setCell (p := ⟨w.heap.size + 1, 1, none⟩) (by simp) _⟩
          rw [crashL_length, unhide HN, unhide HCR]
          exact ownsRow_setCell_other (a := ⟨w.heap.size + 1, 1, none⟩) (ownsRow_setCell_other (a := ⟨w.heap.size + 1, 0, none⟩) hown hne _) hne _
      · have hdec : (decide ((0 : Int) ≤ torn) && decide (torn ≤ (j : Int) - 1)) = false := by simp; omega
        rw [hdec] at IT
        have HCR : Hid (crashL L Q K torn P = keepL K L Q j) := by
          show _ = _
          unfold crashL
          have e := unhide HN'
          rw [if_neg (by rintro ⟨h1, h2, _⟩; omega), e]
        clear hown hx hy hr hkp x0 hsz0 KI
        go_wp2_with fail
        refine (unhide IT _).mono ?_
        rintro e w7 ⟨rfl, rfl⟩
        go_wp2
        (try simp only [Exit.inBlock, Exit.then])
        refine bodyPost_ret (results_box Try.results23 _ _ (w.heap.size + 1) _ _ rfl ((unhide HR).two _ _)) rfl ?_
        have hown := unhide HO
        have hne : (Value.slice (some ⟨g, 0, none⟩) n cap).ownBlock ≠ some (w.heap.size + 1) := by simp [Value.ownBlock]; omega
        refine ⟨⟨_, rfl, _, _, rfl, ?_, ⟨rfl, .inl ⟨rfl, rfl⟩⟩, .inl (by simp [Value.ownBlock])⟩, ((unhide HC).setCell (p := ⟨w.heap.size + 1, 0, none⟩) (by simp) _).setCell (p := ⟨w.heap.size + 1, 1, none⟩) (by simp) _⟩
        rw [crashL_length, unhide HN, unhide HCR]
        exact ownsRow_setCell_other (a := ⟨w.heap.size + 1, 1, none⟩) (ownsRow_setCell_other (a := ⟨w.heap.size + 1, 0, none⟩) hown hne _) hne _

set_option maxRecDepth 100000 in
theorem specCrash_no (v : Value) (B : Nat) (L : List ByteArray) (Q : List (Int × ByteArray)) (ka : Option Addr) (kn kc : Nat) (torn part : Int) (hno : crOk L Q part = false) (h1 : L.length ≤ 1048576) (h2 : Q.length ≤ 1048576) (hm : ∀ s ∈ L, s.size ≤ 9223372036854775807) (w : World) (hB : B ≤ w.heap.size) (hv : DevAt w v B L Q) :
    Calls Try.prog 23 #[v, .slice ka kn kc, .int .i64 torn, .int .i64 part] w fun e w' => DevPost w [] [] false e w' := by
  have OK := hide (fun w1 (hb : Below w.heap.size w w1) => specDev_any v B L Q h1 h2 hm w1 (by have := hb.size; omega) (hv.below hb hB))
  have IP := hide (fun w => l01In_any part 0 64 w)
  obtain ⟨a, n, c, a', n', c', rfl, hL, hQ⟩ := hv
  have hcase : devOk L Q = false ∨ (devOk L Q = true ∧ (decide ((0 : Int) ≤ part) && decide (part ≤ 64)) = false) := by
    unfold crOk at hno
    cases hd : devOk L Q
    · exact .inl rfl
    · rw [hd] at hno
      exact .inr ⟨rfl, by simpa using hno⟩
  clear hL hQ hm h1 h2 hno
  generalize devOk L Q = dk at OK hcase
  generalize (decide ((0 : Int) ≤ part) && decide (part ≤ 64)) = pk at IP hcase
  go_enter Try.func23, Try.ntmps23
  go_wp2_with fail
  obtain ⟨W2, hW2⟩ : ∃ W, W = (w.alloc (Obj.cells #[Value.slice a n c, Value.slice a' n' c'] 27)).alloc (Obj.cells #[Value.slice none 0 0, Value.slice none 0 0] 27) := ⟨_, rfl⟩
  rw [← hW2]
  have hb2 : Below w.heap.size w W2 := by rw [hW2]; exact ((Below.refl _ _).alloc (Nat.le_refl _) _).alloc (by simp) _
  have hr2 : Box W2 (w.heap.size + 1) (Value.slice none 0 0) (Value.slice none 0 0) := by
    have h := Box.new (w.alloc (Obj.cells #[Value.slice a n c, Value.slice a' n' c'] 27)) (Value.slice none 0 0) (Value.slice none 0 0)
    rw [hW2]
    simpa using h
  clear hW2
  refine (unhide OK W2 hb2).mono ?_
  rintro e w3 ⟨rfl, hb3⟩
  have hr := hr2.below hb3
  have HR := hide hr
  have HC := hide (hb2.trans (hb3.mono hb2.size))
  obtain ⟨q0, q1⟩ := hr.cells
  have f0 := hr.froz 0
  have f1 := hr.froz 1
  clear hr hb3 hr2 hb2
  rcases hcase with rfl | ⟨rfl, rfl⟩
  · go_wp2
    (try simp only [Exit.inBlock, Exit.then])
    refine bodyPost_ret (results_box Try.results23 _ _ (w.heap.size + 1) _ _ rfl ((unhide HR).two _ _)) rfl ?_
    exact ⟨⟨_, rfl, devNil _ _⟩, ((unhide HC).setCell (p := ⟨w.heap.size + 1, 0, none⟩) (by simp) _).setCell (p := ⟨w.heap.size + 1, 1, none⟩) (by simp) _⟩
  · go_wp2_with fail
    refine (unhide IP _).mono ?_
    rintro e w4 ⟨rfl, rfl⟩
    go_wp2
    (try simp only [Exit.inBlock, Exit.then])
    refine bodyPost_ret (results_box Try.results23 _ _ (w.heap.size + 1) _ _ rfl ((unhide HR).two _ _)) rfl ?_
    exact ⟨⟨_, rfl, devNil _ _⟩, ((unhide HC).setCell (p := ⟨w.heap.size + 1, 0, none⟩) (by simp) _).setCell (p := ⟨w.heap.size + 1, 1, none⟩) (by simp) _⟩

theorem specCrash_any (v : Value) (B : Nat) (L : List ByteArray) (Q : List (Int × ByteArray)) (ka : Option Addr) (kn kc : Nat) (K : List Int) (torn part : Int) (h1 : L.length ≤ 1048576) (h2 : Q.length ≤ 1048576) (hm : ∀ s ∈ L, s.size ≤ 9223372036854775807) (hkn : kn ≤ 1048576) (w : World) (hB : B ≤ w.heap.size) (hv : DevAt w v B L Q) (hK : IntsAt w ka kn B K) :
    Calls Try.prog 23 #[v, .slice ka kn kc, .int .i64 torn, .int .i64 part] w fun e w' => DevPost w (crA L Q K torn part) [] (crOk L Q part) e w' := by
  unfold crA
  cases h : crOk L Q part
  · exact specCrash_no v B L Q ka kn kc torn part h h1 h2 hm w hB hv
  · have h' := h
    unfold crOk at h'
    simp only [Bool.and_eq_true, decide_eq_true_eq] at h'
    obtain ⟨P, rfl⟩ := Int.eq_ofNat_of_zero_le h'.2.1
    exact specCrash_yes v B L Q ka kn kc K torn P h'.1 (by omega) hkn w hB hv hK
end Go.Proofs.Ytfbfafpfhgjdfaa
