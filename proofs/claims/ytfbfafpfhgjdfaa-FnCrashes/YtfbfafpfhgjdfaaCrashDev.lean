/-
  The contract of impl.CrashDevice.
-/
import Derived.Test.YtfbfafpfhgjdfaaCrashTear
namespace Go.Proofs.Ytfbfafpfhgjdfaa
open Go.RowKit

set_option maxRecDepth 100000 in
theorem implCrash_no (v : Value) (B : Nat) (L : List ByteArray) (Q : List (Int × ByteArray)) (ka : Option Addr) (kn kc : Nat) (torn part : Int) (hno : crOk L Q part = false) (h1 : L.length ≤ 1048576) (h2 : Q.length ≤ 1048576) (hm : ∀ s ∈ L, s.size ≤ 9223372036854775807) (w : World) (hB : B ≤ w.heap.size) (hv : DevAt w v B L Q) :
    Calls Try.prog 22 #[v, .slice ka kn kc, .int .i64 torn, .int .i64 part] w fun e w' => DevPost w [] [] false e w' := by
  have OK := hide (fun w1 (hb : Below w.heap.size w w1) => implDev_any v B L Q h1 h2 hm w1 (by have := hb.size; omega) (hv.below hb hB))
  obtain ⟨a, n, c, a', n', c', rfl, hL, hQ⟩ := hv
  have hcase : devOk L Q = false ∨ (devOk L Q = true ∧ part < 0) ∨ (devOk L Q = true ∧ ¬ part < 0 ∧ 64 < part) := by
    unfold crOk at hno
    cases hd : devOk L Q
    · exact .inl rfl
    · rw [hd] at hno
      by_cases h0 : part < 0
      · exact .inr (.inl ⟨rfl, h0⟩)
      · refine .inr (.inr ⟨rfl, h0, ?_⟩)
        simp at hno
        omega
  clear hL hQ hm h1 h2 hno
  generalize devOk L Q = dk at OK hcase
  go_enter Try.func22, Try.ntmps22
  go_wp2_with fail
  obtain ⟨W2, hW2⟩ : ∃ W, W = (w.alloc (Obj.cells #[Value.slice a n c, Value.slice a' n' c'] 27)).alloc (Obj.cells #[Value.slice none 0 0, Value.slice none 0 0] 27) := ⟨_, rfl⟩
  rw [← hW2]
  have hb2 : Below w.heap.size w W2 := by rw [hW2]; exact ((Below.refl _ _).alloc (Nat.le_refl _) _).alloc (by simp) _
  have hr2 : Box W2 (w.heap.size + 1) (Value.slice none 0 0) (Value.slice none 0 0) := by
    have h := Box.new (w.alloc (Obj.cells #[Value.slice a n c, Value.slice a' n' c'] 27)) (Value.slice none 0 0) (Value.slice none 0 0)
    rw [hW2]
    simpa using h
  clear hW2
  refine (unhide OK W2 hb2).mono ?_
  rintro e w3 ⟨rfl, hb3⟩
  have hr := hr2.below hb3
  have HR := hide hr
  have HC := hide (hb2.trans (hb3.mono hb2.size))
  obtain ⟨q0, q1⟩ := hr.cells
  have f0 := hr.froz 0
  have f1 := hr.froz 1
  clear hr hb3 hr2 hb2
  rcases hcase with rfl | ⟨rfl, h0⟩ | ⟨rfl, h0, h1⟩
  · go_wp2
    (try simp only [Exit.inBlock, Exit.then])
    refine bodyPost_ret (results_box Try.results22 _ _ (w.heap.size + 1) _ _ rfl ((unhide HR).two _ _)) rfl ?_
    exact ⟨⟨_, rfl, devNil _ _⟩, ((unhide HC).setCell (p := ⟨w.heap.size + 1, 0, none⟩) (by simp) _).setCell (p := ⟨w.heap.size + 1, 1, none⟩) (by simp) _⟩
  · go_wp2
    (try simp only [Exit.inBlock, Exit.then])
    refine bodyPost_ret (results_box Try.results22 _ _ (w.heap.size + 1) _ _ rfl ((unhide HR).two _ _)) rfl ?_
    exact ⟨⟨_, rfl, devNil _ _⟩, ((unhide HC).setCell (p := ⟨w.heap.size + 1, 0, none⟩) (by simp) _).setCell (p := ⟨w.heap.size + 1, 1, none⟩) (by simp) _⟩
  · go_wp2
    (try simp only [Exit.inBlock, Exit.then])
    refine bodyPost_ret (results_box Try.results22 _ _ (w.heap.size + 1) _ _ rfl ((unhide HR).two _ _)) rfl ?_
    exact ⟨⟨_, rfl, devNil _ _⟩, ((unhide HC).setCell (p := ⟨w.heap.size + 1, 0, none⟩) (by simp) _).setCell (p := ⟨w.heap.size + 1, 1, none⟩) (by simp) _⟩

set_option maxRecDepth 100000 in
set_option maxHeartbeats 2000000 in
theorem implCrash_yes (v : Value) (B : Nat) (L : List ByteArray) (Q : List (Int × ByteArray)) (ka : Option Addr) (kn kc : Nat) (K : List Int) (torn : Int) (P : Nat) (hok : devOk L Q = true) (hP : P ≤ 64) (hkn : kn ≤ 1048576) (hwf : ∀ x ∈ K, (Lit.int .i64 x).wf = true) (htw : (Lit.int .i64 torn).wf = true) (w : World) (hB : B ≤ w.heap.size) (hv : DevAt w v B L Q) (hK : IntsAt w ka kn B K) :
    Calls Try.prog 22 #[v, .slice ka kn kc, .int .i64 torn, .int .i64 (P : Int)] w fun e w' => DevPost w (crashL L Q K torn P) [] true e w' := by
  have hds := devOk_sec hok
  have OK := hide (fun w1 (hb : Below w.heap.size w w1) => implDev_any v B L Q (by omega) (by omega) (fun s hs => by have := hds.2.2.2.1 s hs; omega) w1 (by have := hb.size; omega) (hv.below hb hB))
  rw [hok] at OK
  obtain ⟨a, n, c, a', n', c', rfl, hL, hQ⟩ := hv
  have e1 := hL.1
  have DO := hide (fun w1 (hb : Below w.heap.size w w1) => diskOf_any a n c B L (by omega) w1 (by have := hb.size; omega) (hL.below hb hB))
  have LO := hide (fun w1 (hb : Below w.heap.size w w1) => lostOf_any a' n' c' B Q ka kn kc K (by have := hQ.1; omega) hkn hwf w1 (by have := hb.size; omega) (hQ.below hb hB) (hK.below hb hB))
  obtain ⟨e2, hQc⟩ := hQ
  have hn4 : n ≤ 400 := by omega
  have hn4' : n' ≤ 400 := by omega
  have HFS := hide (fun j => keepL_size (K := K) (Q := Q) hds.2.2.2.1 (fun q hq => (hds.2.2.2.2 q hq).2.2) j)
  have HTW := hide htw
  have ip0 : ¬ (P : Int) < 0 := by omega
  have ip1 : ¬ (64 : Int) < (P : Int) := by omega
  have HQ0 := hide hds.2.2.2.2
  have HQC := hide hQc
  have HN := hide e1
  have HN' := hide e2
  clear hds hok hQc hL e1 e2 hK hwf htw
  go_enter Try.func22, Try.ntmps22
  go_wp2_with fail
  obtain ⟨W2, hW2⟩ : ∃ W, W = (w.alloc (Obj.cells #[Value.slice a n c, Value.slice a' n' c'] 27)).alloc (Obj.cells #[Value.slice none 0 0, Value.slice none 0 0] 27) := ⟨_, rfl⟩
  rw [← hW2]
  have hb2 : Below w.heap.size w W2 := by rw [hW2]; exact ((Below.refl _ _).alloc (Nat.le_refl _) _).alloc (by simp) _
  have hs2 : W2.heap.size = w.heap.size + 2 := by rw [hW2]; simp
  have hx2 : Box W2 w.heap.size (Value.slice a n c) (Value.slice a' n' c') := by rw [hW2]; exact (Box.new _ _ _).below (below_new _ _)
  have hr2 : Box W2 (w.heap.size + 1) (Value.slice none 0 0) (Value.slice none 0 0) := by
    have h := Box.new (w.alloc (Obj.cells #[Value.slice a n c, Value.slice a' n' c'] 27)) (Value.slice none 0 0) (Value.slice none 0 0)
    rw [hW2]
    simpa using h
  clear hW2
  refine (unhide OK W2 hb2).mono ?_
  rintro e w3 ⟨rfl, hb3⟩
  have hx3 := hx2.below hb3
  have hr3 := hr2.below hb3
  have hc3 : Below w.heap.size w w3 := hb2.trans (hb3.mono hb2.size)
  have hs3 := hb3.size
  obtain ⟨p0, p1⟩ := hx3.cells
  have HX3 := hide hx3
  have HR3 := hide hr3
  clear hb3 hx2 hr2 hb2 hx3 hr3
  go_wp2_with fail
  refine (unhide DO w3 hc3).mono ?_
  rintro e w4 ⟨rfl, hd4, hb4⟩
  have HX4 := hide ((unhide HX3).below hb4)
  have HR4 := hide ((unhide HR3).below hb4)
  have HD4 := hide hd4
  have hdz := hd4.size
  have hc4 : Below w.heap.size w w4 := hc3.trans (hb4.mono hc3.size)
  have hs4 := hb4.size
  obtain ⟨p0, p1⟩ := (unhide HX4).cells
  obtain ⟨m, hm⟩ : ∃ m, m = w3.heap.size := ⟨_, rfl⟩
  rw [← hm] at HD4 hdz hs3 hs4 ⊢
  clear hd4 hb4 HX3 HR3 hm
  go_wp2_with fail
  refine (unhide LO w4 hc4).mono ?_
  rintro e w5 ⟨rfl, hl5, hb5⟩
  have HX5 := hide ((unhide HX4).below hb5)
  have HR5 := hide ((unhide HR4).below hb5)
  have HD5 := hide ((unhide HD4).below hb5)
  have HL5 := hide hl5
  have hlz := hl5.size
  have hc5 : Below w.heap.size w w5 := hc4.trans (hb5.mono hc4.size)
  obtain ⟨p0, p1⟩ := (unhide HX5).cells
  obtain ⟨ml, hml⟩ : ∃ m, m = w4.heap.size := ⟨_, rfl⟩
  have hs5 : m + L.length < ml := by omega
  rw [← hml] at HL5 hlz ⊢
  clear hl5 hb5 HX4 HR4 HD4 hml
  go_wp2_with fail
  go_loopw [37] (fun a37 wr => ∃ j : Nat, a37 = .int .i64 j ∧ j ≤ n' ∧ Disk wr m (keepL K L Q j) ∧ Lost wr ml Q K ∧ Kept (fun g => m ≤ g) w5 wr) (fun a37 _ => n' - (intOf a37).toNat)
  case atStart => exact ⟨0, rfl, Nat.zero_le _, unhide HD5, unhide HL5, Kept.refl _ _⟩
  case round =>
    obtain ⟨j, rfl, hj, hd, hlo, hkp⟩ := hrel
    have hcw : Below w.heap.size w wr := hc5.trans (hkp.below hc5.size (fun k hk => by omega))
    by_cases hlt : j < n'
    · have hjQ : j < Q.length := by have := unhide HN'; omega
      obtain ⟨b', off', rfl, hbB', hq0, hq1⟩ := unhide HQC j hjQ
      rw [← hcw.cell (p := ⟨b', off' + j * 2, none⟩) (by simp; omega)] at hq0
      rw [← hcw.cell (p := ⟨b', off' + j * 2 + 1, none⟩) (by simp; omega)] at hq1
      have hqq := unhide HQ0 _ (List.getElem_mem hjQ)
      have HF := hide (keepL_yes K L Q j hjQ)
      have HG := hide (keepL_no K L Q j)
      have hi0 : (0 : Int) ≤ (j : Int) := by omega
      have hi1 : (j : Int) < (n' : Int) := by omega
      have hsec : secs ml Q.length (j : Int) = some (ml + 1 + j) := secs_at ml Q.length j hjQ
      generalize Q[j] = q at hq0 hq1 hqq HF
      obtain ⟨x, s⟩ := q
      simp only at hq0 hq1 hqq HF
      obtain ⟨k, rfl⟩ := Int.eq_ofNat_of_zero_le hqq.1
      have hkL : k < (keepL K L Q j).length := by rw [keepL_length]; omega
      have hbn := below_new wr (Obj.cells #[Value.int .i64 (k : Int), Value.string s] 66)
      have hd1 := hd.below hbn
      have hlo1 := hlo.below hbn
      have hlk := hlo1.look (j : Int) (wf_small j (by omega))
      have HKP := hide (hkp.trans (Kept.of_below hbn))
      cases hin : inK K (j : Int)
      · have e : lostF ml Q.length K (j : Int) = some (ml + 1 + j) := by unfold lostF; rw [if_neg (by rw [hin]; simp)]; exact hsec
        rw [e] at hlk
        have hlk' : (Instr.lookup 80 (.map (some ml)) (.int .i64 (j : Int)) false).run Try.prog (wr.alloc (Obj.cells #[Value.int .i64 (k : Int), Value.string s] 66)) = .ok (.pointer (some ⟨ml + 1 + j, 0, none⟩)) (wr.alloc (Obj.cells #[Value.int .i64 (k : Int), Value.string s] 66)) := hlk
        have HE := hide (unhide HG hin)
        have HD6 := hide hd1
        have HL6 := hide hlo1
        clear hd hd1 hlo hlo1 HF HG hqq hkp hkL p0 p1 hlk hin hbn e hsec
        go_wp2
        go_roundw
        case rel => exact ⟨j + 1, by go_num, by omega, by rw [unhide HE]; exact unhide HD6, unhide HL6, unhide HKP⟩
        case measure => simp [intOf]; omega
      · have e : lostF ml Q.length K (j : Int) = none := by unfold lostF; rw [if_pos hin]
        rw [e] at hlk
        have hlk' : (Instr.lookup 80 (.map (some ml)) (.int .i64 (j : Int)) false).run Try.prog (wr.alloc (Obj.cells #[Value.int .i64 (k : Int), Value.string s] 66)) = .ok (.pointer none) (wr.alloc (Obj.cells #[Value.int .i64 (k : Int), Value.string s] 66)) := hlk
        have HPT := hide (put_any m k _ s hkL (by rw [keepL_length]; have := unhide HN; omega) _ hd1)
        have hF := unhide HF hin
        rw [Int.toNat_natCast] at hF
        rw [← hF] at HPT
        have HL6 := hide hlo1
        have hkL2 : k < L.length := by rw [keepL_length] at hkL; exact hkL
        clear hd hd1 hlo hlo1 HF HG hF hqq hkp hkL p0 p1 hlk hin hbn e hsec
        go_wp2_with fail
        refine (unhide HPT).mono ?_
        rintro e w6 ⟨rfl, hd6, hk6⟩
        have HD6 := hide hd6
        have HL7 := hide ((unhide HL6).kept hk6 (fun g h1 h2 => by omega))
        have HK6 := hide ((unhide HKP).trans (hk6.weak (fun g hg => by omega)))
        clear hd6 hk6 hlk'
        go_wp2
        go_roundw
        case rel => exact ⟨j + 1, by go_num, by omega, unhide HD6, unhide HL7, unhide HK6⟩
        case measure => simp [intOf]; omega
    · obtain rfl : j = n' := by omega
      have hr := (unhide HR5).kept hkp (by omega)
      have HR := hide hr
      have hlk := hlo.look torn (unhide HTW)
      by_cases ht : 0 ≤ torn ∧ torn < (j : Int) ∧ inK K torn = false
      · obtain ⟨tn, rfl⟩ := Int.eq_ofNat_of_zero_le ht.1
        have htQ : tn < Q.length := by have := unhide HN'; omega
        have e : lostF ml Q.length K (tn : Int) = some (ml + 1 + tn) := by unfold lostF; rw [if_neg (by rw [ht.2.2]; simp)]; exact secs_at ml Q.length tn htQ
        rw [e] at hlk
        have hlk' : (Instr.lookup 80 (.map (some ml)) (.int .i64 (tn : Int)) false).run Try.prog wr = .ok (.pointer (some ⟨ml + 1 + tn, 0, none⟩)) wr := hlk
        obtain ⟨u0, u1, _⟩ := cells_of_two (hlo.2 tn htQ)
        have hqq := unhide HQ0 _ (List.getElem_mem htQ)
        have HCR : Hid (crashL L Q K (tn : Int) P = (keepL K L Q j).set Q[tn].1.toNat (tearT Q[tn].2 ((keepL K L Q j).getD Q[tn].1.toNat ⟨#[]⟩) P)) := by
          show _ = _
          unfold crashL
          have e := unhide HN'
          rw [if_pos ⟨by omega, by omega, ht.2.2⟩, e]
          simp [htQ]
        generalize Q[tn] = q at u0 u1 hqq HCR
        obtain ⟨x, t⟩ := q
        simp only at u0 u1 hqq HCR
        obtain ⟨k, rfl⟩ := Int.eq_ofNat_of_zero_le hqq.1
        have hle : k < (keepL K L Q j).length := by rw [keepL_length]; omega
        have hgd : (keepL K L Q j).getD ((k : Int).toNat) ⟨#[]⟩ = (keepL K L Q j)[k] := by rw [Int.toNat_natCast]; simp [hle]
        rw [hgd, Int.toNat_natCast] at HCR
        have hss := unhide HFS j _ (List.getElem_mem hle)
        have TA := hide (fun w1 (hd : Disk w1 m (keepL K L Q j)) => tear_any m k _ t P hle (by rw [keepL_length]; have := unhide HN; omega) hP hqq.2.2 hss w1 hd)
        rw [← unhide HCR] at TA
        have HDV := hide (fun w1 (hd : Disk w1 m (crashL L Q K (tn : Int) P)) => device_any m _ (by rw [crashL_length]; have := unhide HN; omega) (fun s hs => by
          rw [unhide HCR] at hs
          rcases List.mem_or_eq_of_mem_set hs with h | h
          · have := unhide HFS j s h; omega
          · rw [h]; have := tearT_size t _ P hqq.2.2 hss; omega) w1 hd)
        have HD := hide hd
        have hkL2 : k < L.length := by rw [keepL_length] at hle; exact hle
        clear HCR hr hlo hkp hd p0 p1 hlk e hqq hss hgd hle ht
        go_wp2_with fail
        refine (unhide TA wr (unhide HD)).mono ?_
        rintro e w7 ⟨rfl, hd7, hk7⟩
        have HD7 := hide hd7
        have hr7 := (unhide HR).kept hk7 (by omega)
        have HR7 := hide hr7
        have hc7 : Below w.heap.size w w7 := hcw.trans (hk7.below hcw.size (fun g hg => by omega))
        clear hd7 hk7 hr7 u0 u1 hlk'
        go_wp2_with fail
        refine (unhide HDV w7 (unhide HD7)).mono ?_
        rintro e w6 ⟨⟨d, rfl, ho6⟩, hb6⟩
        have HO6 := hide ho6
        obtain ⟨a6, n6, c6, a7, n7, c7, rfl, _, _⟩ := ho6.at
        have hr := (unhide HR7).below hb6
        have HR6 := hide hr
        obtain ⟨q0, q1⟩ := hr.cells
        have f0 := hr.froz 0
        have f1 := hr.froz 1
        have hle := hc7.size
        have hrl := (unhide HR7).lt
        have hc6 : Below w.heap.size w w6 := hc7.trans (hb6.mono hc7.size)
        clear hr hb6 ho6
        go_wp2
        (try simp only [Exit.inBlock, Exit.then])
        refine bodyPost_ret (results_box Try.results22 _ _ (w.heap.size + 1) _ _ rfl ((unhide HR6).two _ _)) rfl ?_
        refine ⟨⟨_, rfl, ?_⟩, (hc6.setCell (p := ⟨w.heap.size + 1, 0, none⟩) (by simp) _).setCell (p := ⟨w.heap.size + 1, 1, none⟩) (by simp) _⟩
        exact ((unhide HO6).set_far (by omega) 0 _).set_far (by omega) 1 _ |>.lower hle
      · have e : lostF ml Q.length K torn = none := by
          unfold lostF
          by_cases hin : inK K torn = true
          · rw [if_pos hin]
          · rw [if_neg hin]
            unfold secs
            rw [if_neg (fun h => ht ⟨h.1, by have := unhide HN'; omega, by simpa using hin⟩)]
        rw [e] at hlk
        have hlk' : (Instr.lookup 80 (.map (some ml)) (.int .i64 torn) false).run Try.prog wr = .ok (.pointer none) wr := hlk
        have HCR : crashL L Q K torn P = keepL K L Q j := by
          unfold crashL
          have e := unhide HN'
          rw [e, if_neg ht]
        rw [← HCR] at hd
        have HDV := hide (device_any m _ (by rw [crashL_length]; have := unhide HN; omega) (fun s hs => by rw [HCR] at hs; have := unhide HFS j s hs; omega) wr hd)
        clear hr hlo hkp hd p0 p1 hlk e ht HCR
        go_wp2_with fail
        refine (unhide HDV).mono ?_
        rintro e w6 ⟨⟨d, rfl, ho6⟩, hb6⟩
        have HO6 := hide ho6
        obtain ⟨a6, n6, c6, a7, n7, c7, rfl, _, _⟩ := ho6.at
        have hr := (unhide HR).below hb6
        have HR6 := hide hr
        obtain ⟨q0, q1⟩ := hr.cells
        have f0 := hr.froz 0
        have f1 := hr.froz 1
        have hle := hcw.size
        have hrl := (unhide HR).lt
        have hc6 : Below w.heap.size w w6 := hcw.trans (hb6.mono hcw.size)
        clear hr hb6 ho6 hlk'
        go_wp2
        (try simp only [Exit.inBlock, Exit.then])
        refine bodyPost_ret (results_box Try.results22 _ _ (w.heap.size + 1) _ _ rfl ((unhide HR6).two _ _)) rfl ?_
        refine ⟨⟨_, rfl, ?_⟩, (hc6.setCell (p := ⟨w.heap.size + 1, 0, none⟩) (by simp) _).setCell (p := ⟨w.heap.size + 1, 1, none⟩) (by simp) _⟩
        exact ((unhide HO6).set_far (by omega) 0 _).set_far (by omega) 1 _ |>.lower hle

theorem implCrash_any (v : Value) (B : Nat) (L : List ByteArray) (Q : List (Int × ByteArray)) (ka : Option Addr) (kn kc : Nat) (K : List Int) (torn part : Int) (h1 : L.length ≤ 1048576) (h2 : Q.length ≤ 1048576) (hm : ∀ s ∈ L, s.size ≤ 9223372036854775807) (hkn : kn ≤ 1048576) (hwf : ∀ x ∈ K, (Lit.int .i64 x).wf = true) (htw : (Lit.int .i64 torn).wf = true) (w : World) (hB : B ≤ w.heap.size) (hv : DevAt w v B L Q) (hK : IntsAt w ka kn B K) :
    Calls Try.prog 22 #[v, .slice ka kn kc, .int .i64 torn, .int .i64 part] w fun e w' => DevPost w (crA L Q K torn part) [] (crOk L Q part) e w' := by
  unfold crA
  cases h : crOk L Q part
  · exact implCrash_no v B L Q ka kn kc torn part h h1 h2 hm w hB hv
  · have h' := h
    unfold crOk at h'
    simp only [Bool.and_eq_true, decide_eq_true_eq] at h'
    obtain ⟨P, rfl⟩ := Int.eq_ofNat_of_zero_le h'.2.1
    exact implCrash_yes v B L Q ka kn kc K torn P h'.1 (by omega) hkn hwf htw w hB hv hK
end Go.Proofs.Ytfbfafpfhgjdfaa
