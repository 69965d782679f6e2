/-
  spec.FormatStore and impl.FormatStore, where there is a store.
-/
import Derived.Test.YtobdmjoonjblpaaGreatDoorStSpec
namespace Go.Proofs.YtobdmjoonjblpaaGreatDoor
open Go.RowKit Rt

set_option maxRecDepth 100000 in
set_option maxHeartbeats 2000000 in
theorem specFmt_yes (n : Nat) (h4 : 4 ≤ n) (h5 : n ≤ 400) (w : World) :
    Calls Tryz.prog 9 #[.int .i64 (n : Int)] w fun e w' => StPost w (fmtN n) (-1) true e w' := by
  have S1 := hide (fun w => specNew_any (n : Int) w)
  have ho : newOk (n : Int) = true := by unfold newOk; simp only [decide_eq_true_eq]; omega
  have hl : newL (n : Int) = List.replicate n ⟨#[]⟩ := by unfold newL; rw [if_pos (by omega), Int.toNat_natCast]
  rw [ho, hl] at S1
  have RT := hide (fun w => specRoot_any 0 (-1) w)
  rw [rootT_zero] at RT
  have HSET := hide (fmtN_set n (by omega))
  have HLEN := hide (fmtN_length n (by omega))
  generalize root0 = R at RT HSET
  clear ho hl
  have hx : ¬ (n : Int) < 4 := by omega
  go_enter Tryz.func9, Tryz.ntmps9
  go_wp2_with fail
  obtain ⟨V1, hV1⟩ : ∃ W, W = w.alloc (Obj.cells #[Value.slice none 0 0, Value.slice none 0 0, Value.slice none 0 0, Value.int .i64 0, Value.int .i64 0] 30) := ⟨_, rfl⟩
  rw [← hV1]
  have b1 : Below w.heap.size w V1 := by rw [hV1]; exact below_new _ _
  have s1 : SBox V1 w.heap.size (.slice none 0 0) (.slice none 0 0) 0 := by rw [hV1]; exact heap_alloc_new w _
  clear hV1
  refine (unhide S1 V1).mono ?_
  rintro e w2 ⟨⟨d, rfl, hd⟩, hb2⟩
  obtain ⟨v0, v1, rfl, hd0, hd1, hdn⟩ := hd
  obtain ⟨A0, C0, rfl, _⟩ := StrsAt.of_own hd0
  obtain ⟨A1, C1, rfl, _⟩ := PutsAt.of_own hd1
  simp only [List.length_replicate, List.length_nil] at hd0 hd1 hdn
  obtain ⟨V3, hV3⟩ : ∃ W, W = w2.alloc (Obj.cells #[Value.slice A0 n C0, Value.slice A1 0 C1] 25) := ⟨_, rfl⟩
  have s3 : SBox V3 w.heap.size (.slice none 0 0) (.slice none 0 0) 0 := by rw [hV3]; exact (s1.below hb2).below (below_new _ _)
  have x3 : Box V3 w2.heap.size (.slice A0 n C0) (.slice A1 0 C1) := by rw [hV3]; exact Box.new _ _ _
  have b3 : Below w.heap.size w V3 := by rw [hV3]; have := b1.trans (hb2.mono b1.size); exact this.alloc this.size _
  have o30 := own_below hd0 (hb := (by rw [hV3]; exact below_new _ _ : Below w2.heap.size w2 V3))
  have o31 := own_below hd1 (hb := (by rw [hV3]; exact below_new _ _ : Below w2.heap.size w2 V3))
  have hs2 : V1.heap.size ≤ w2.heap.size := hb2.size
  have hs1 : w.heap.size < V1.heap.size := s1.lt
  have hlt0 := hide hd0.lt
  clear hd0 hd1 s1 b1 hb2
  go_wp2_with fail
  rw [← hV3]
  clear hV3
  refine (unhide RT V3).mono ?_
  rintro e w4 ⟨rfl, hb4⟩
  have s4 := s3.below hb4
  have x4 := x3.below hb4
  have o40 := own_below o30 hb4
  have o41 := own_below o31 hb4
  have b4 : Below w.heap.size w w4 := b3.trans (hb4.mono b3.size)
  clear s3 x3 o30 o31 b3 hb4
  obtain ⟨g, cap', hA, hBg, hgl⟩ := o40.form (by omega)
  simp at hA
  obtain ⟨rfl, rfl⟩ := hA
  have hce := o40.cellAt 0 (by omega)
  have hce2 : (strsV (List.replicate n (⟨#[]⟩ : ByteArray)))[0]? = some (.string ⟨#[]⟩) := by
    obtain ⟨m, rfl⟩ : ∃ m, n = m + 1 := ⟨n - 1, by omega⟩
    simp [strsV, List.replicate_succ]
  rw [hce2] at hce
  have hfz := o40.frozenAt 0
  have hst := (o40.stored 0 (.string R)).1
  rw [strsV_set, unhide HSET] at hst
  have hne : (Value.slice (some ⟨g, 0, none⟩) n C0).ownBlock = some g := rfl
  have hst1 : (w4.setCell ⟨g, 0, none⟩ (.string R)).ownsRow V1.heap.size 134 2 (.slice A1 0 C1) 0 (putsV []) := ownsRow_setCell_other (a := ⟨g, 0, none⟩) o41 (fun e => by
    rcases hdn with h | h
    · exact h (by rw [e]; simp [Value.ownBlock])
    · simp [Value.ownBlock] at h) _
  have hkg : Kept (fun k => k = g) w4 (w4.setCell ⟨g, 0, none⟩ (.string R)) := Kept.set (S := fun k => k = g) _ g _ _ rfl
  have hg2 := unhide hlt0 g rfl
  have s5 := s4.kept hkg (by omega)
  have x5 := x4.kept hkg (by omega)
  obtain ⟨p0, p1⟩ := x4.cells
  obtain ⟨q0, q1⟩ := x5.cells
  obtain ⟨t0, t1, t2, t3, t4⟩ := s5.cells
  have tf := s5.froz
  have HS5 := hide s5
  have HST := hide hst
  have HST1 := hide hst1
  have hb5 : Below w.heap.size w (w4.setCell ⟨g, 0, none⟩ (.string R)) := b4.setCell (p := ⟨g, 0, none⟩) (by simp; omega) _
  clear s4 s5 x4 x5 o40 o41 hst hst1 b4 hce2
  go_wp2
  (try simp only [Exit.inBlock, Exit.then])
  refine bodyPost_ret (results_store Tryz.results9 _ _ w.heap.size _ _ _ rfl ((unhide HS5).all (.slice (some ⟨g, 0, none⟩) n C0) (.slice A1 0 C1) (-1))) rfl ?_
  have hkk := set5_kept (w4.setCell ⟨g, 0, none⟩ (.string R)) w.heap.size (.slice (some ⟨g, 0, none⟩) n C0) (.slice A1 0 C1) (-1)
  have hdev : DevOwn (w4.setCell ⟨g, 0, none⟩ (.string R)) w.heap.size (.agg #[.slice (some ⟨g, 0, none⟩) n C0, .slice A1 0 C1]) (fmtN n) [] :=
    ⟨_, _, rfl, by rw [unhide HLEN]; exact own_lower (by omega) (unhide HST), own_lower (by omega) (unhide HST1), hdn⟩
  refine ⟨⟨_, _, rfl, hdev.kept hkk (fun k hk => ?_)⟩, hb5.trans (hkk.below hb5.size (fun i hi => by omega))⟩
  obtain ⟨u0, u1, e, he⟩ := hk
  simp at e
  obtain ⟨rfl, rfl⟩ := e
  rcases he with he | he
  · have := (unhide HST).lt k he
    omega
  · have := (unhide HST1).lt k he
    omega

set_option maxRecDepth 100000 in
set_option maxHeartbeats 2000000 in
theorem implFmt_yes (n : Nat) (h4 : 4 ≤ n) (h5 : n ≤ 400) (w : World) :
    Calls Tryz.prog 10 #[.int .i64 (n : Int)] w fun e w' => StPost w (fmtN n) (-1) true e w' := by
  have S1 := hide (fun w => implNew_any (n : Int) w)
  have ho : newOk (n : Int) = true := by unfold newOk; simp only [decide_eq_true_eq]; omega
  have hl : newL (n : Int) = List.replicate n ⟨#[]⟩ := by unfold newL; rw [if_pos (by omega), Int.toNat_natCast]
  rw [ho, hl] at S1
  have RT := hide (fun w => implRoot_any 0 (-1) w)
  rw [rootT_zero] at RT
  have hwo := wrOk_new n (by omega) h5
  have WR := hide (fun v B w hB (hv : DevAt w v B (List.replicate n ⟨#[]⟩) []) => implWrite_any v B (List.replicate n ⟨#[]⟩) [] 0 root0 (by simp; omega) (by simp) (fun s hs => by rw [List.eq_of_mem_replicate hs]; decide) w hB hv)
  unfold wrL wrQ at WR
  rw [hwo] at WR
  simp only [if_pos, List.nil_append] at WR
  have hdp := devOk_put n (by omega) h5
  have FL := hide (fun v B w hB (hv : DevAt w v B (List.replicate n ⟨#[]⟩) [(0, root0)]) => implFlush_any v B (List.replicate n ⟨#[]⟩) [(0, root0)] (by simp; omega) (by simp) (fun s hs => by rw [List.eq_of_mem_replicate hs]; decide) w hB hv)
  unfold flushA at FL
  rw [hdp] at FL
  simp only [if_pos, flush_put n (show 1 ≤ n by omega)] at FL
  have OP := hide (fun v B w hB (hv : DevAt w v B (fmtN n) []) => openStore_any v B (fmtN n) (devOk_fmt n (by omega) h5) (by rw [fmtN_length n (by omega)]; omega) (fmtN_sec n) (last_fmt n h4 h5) w hB hv)
  generalize fmtN n = LF at OP FL ⊢
  generalize root0 = R at RT WR FL
  clear ho hl hwo hdp
  have hx : ¬ (n : Int) < 4 := by omega
  go_enter Tryz.func10, Tryz.ntmps10
  go_wp2_with fail
  obtain ⟨V1, hV1⟩ : ∃ W, W = w.alloc (Obj.cells #[Value.slice none 0 0, Value.slice none 0 0, Value.slice none 0 0, Value.int .i64 0, Value.int .i64 0] 30) := ⟨_, rfl⟩
  rw [← hV1]
  have b1 : Below w.heap.size w V1 := by rw [hV1]; exact below_new _ _
  have s1 : SBox V1 w.heap.size (.slice none 0 0) (.slice none 0 0) 0 := by rw [hV1]; exact heap_alloc_new w _
  clear hV1
  have hs1 : w.heap.size < V1.heap.size := s1.lt
  refine (unhide S1 V1).mono ?_
  rintro e w2 ⟨⟨d, rfl, hd⟩, hb2⟩
  obtain ⟨A0, n0, C0, A1, n1, C1, rfl, _, _⟩ := hd.at
  obtain ⟨V3, hV3⟩ : ∃ W, W = w2.alloc (Obj.cells #[Value.slice A0 n0 C0, Value.slice A1 n1 C1] 25) := ⟨_, rfl⟩
  have b23 : Below w2.heap.size w2 V3 := by rw [hV3]; exact below_new _ _
  have s3 : SBox V3 w.heap.size (.slice none 0 0) (.slice none 0 0) 0 := (s1.below hb2).below b23
  have x3 : Box V3 w2.heap.size (.slice A0 n0 C0) (.slice A1 n1 C1) := by rw [hV3]; exact Box.new _ _ _
  have b3 : Below w.heap.size w V3 := (b1.trans (hb2.mono b1.size)).trans (b23.mono (Nat.le_trans b1.size hb2.size))
  have d3 := hd.below b23
  have hs2 : V1.heap.size ≤ w2.heap.size := hb2.size
  have hs3 := x3.lt
  clear hd s1 b1 hb2 b23
  go_wp2_with fail
  rw [← hV3]
  clear hV3
  refine (unhide RT V3).mono ?_
  rintro e w4 ⟨rfl, hb4⟩
  have s4 := s3.below hb4
  have x4 := x3.below hb4
  have d4 := d3.below hb4
  have b4 : Below w.heap.size w w4 := b3.trans (hb4.mono b3.size)
  have hs4 := hb4.size
  clear s3 x3 d3 b3 hb4
  obtain ⟨p0, p1⟩ := x4.cells
  go_wp2_with fail
  refine (unhide WR _ _ w4 (Nat.le_refl _) d4.at).mono ?_
  rintro e w5 ⟨⟨d, rfl, hd5⟩, hb5⟩
  obtain ⟨E0, m0, F0, E1, m1, F1, rfl, _, _⟩ := hd5.at
  have s5 := s4.below hb5
  have x5 := x4.below hb5
  have b5 : Below w.heap.size w w5 := b4.trans (hb5.mono b4.size)
  have hs5 := hb5.size
  obtain ⟨y0, y1⟩ := x5.cells
  have yf0 := x5.froz 0
  have yf1 := x5.froz 1
  clear p0 p1 s4 x4 d4 b4 hb5
  have hk6 := (Kept.set (S := fun k => k = w2.heap.size) w5 w2.heap.size 0 (Value.slice E0 m0 F0) rfl).trans (Kept.set (S := fun k => k = w2.heap.size) _ w2.heap.size 1 (Value.slice E1 m1 F1) rfl)
  have x6 := x5.two (Value.slice E0 m0 F0) (Value.slice E1 m1 F1)
  obtain ⟨V6, hV6⟩ : ∃ W, W = (w5.setCell ⟨w2.heap.size, 0, none⟩ (Value.slice E0 m0 F0)).setCell ⟨w2.heap.size, 1, none⟩ (Value.slice E1 m1 F1) := ⟨_, rfl⟩
  rw [← hV6] at hk6 x6
  have s6 := s5.kept hk6 (by omega)
  have d6 := hd5.kept hk6 (fun k hk => by have := (hd5.blk k hk).1; omega)
  have b6 : Below w.heap.size w V6 := b5.trans (hk6.below b5.size (fun i hi => by omega))
  have hs6 := hk6.2.2.2.1
  obtain ⟨p0, p1⟩ := x6.cells
  rw [hV6] at p0 p1
  clear s5 x5 b5 hd5 hk6
  go_wp2_with fail
  rw [← hV6]
  refine (unhide FL _ _ V6 (Nat.le_refl _) d6.at).mono ?_
  rintro e w7 ⟨⟨d, rfl, hd7⟩, hb7⟩
  obtain ⟨G0, i0, H0, G1, i1, H1, rfl, _, _⟩ := hd7.at
  clear p0 p1 y0 y1 yf0 yf1 hV6
  have s7 := s6.below hb7
  have x7 := x6.below hb7
  have b7 : Below w.heap.size w w7 := b6.trans (hb7.mono b6.size)
  have hs7 := hb7.size
  obtain ⟨y0, y1⟩ := x7.cells
  have yf0 := x7.froz 0
  have yf1 := x7.froz 1
  clear s6 x6 d6 b6 hb7
  have hk8 := (Kept.set (S := fun k => k = w2.heap.size) w7 w2.heap.size 0 (Value.slice G0 i0 H0) rfl).trans (Kept.set (S := fun k => k = w2.heap.size) _ w2.heap.size 1 (Value.slice G1 i1 H1) rfl)
  have x8 := x7.two (Value.slice G0 i0 H0) (Value.slice G1 i1 H1)
  obtain ⟨V8, hV8⟩ : ∃ W, W = (w7.setCell ⟨w2.heap.size, 0, none⟩ (Value.slice G0 i0 H0)).setCell ⟨w2.heap.size, 1, none⟩ (Value.slice G1 i1 H1) := ⟨_, rfl⟩
  rw [← hV8] at hk8 x8
  have s8 := s7.kept hk8 (by omega)
  have d8 := hd7.kept hk8 (fun k hk => by have := (hd7.blk k hk).1; omega)
  have b8 : Below w.heap.size w V8 := b7.trans (hk8.below b7.size (fun i hi => by omega))
  obtain ⟨p0, p1⟩ := x8.cells
  rw [hV8] at p0 p1
  clear s7 x7 b7 hd7 hk8 x8
  go_wp2_with fail
  rw [← hV8]
  refine (unhide OP _ _ V8 (Nat.le_refl _) d8.at).mono ?_
  rintro e w9 ⟨⟨v0, v1, rfl, hd9⟩, hb9⟩
  clear p0 p1 y0 y1 yf0 yf1 hV8
  have s9 := s8.below hb9
  have b9 : Below w.heap.size w w9 := b8.trans (hb9.mono b8.size)
  have HS9 := hide s9
  have HD9 := hide hd9
  have hs9 := b8.size
  obtain ⟨J0, j0, K0, J1, j1, K1, e9, _, _⟩ := hd9.at
  simp at e9
  obtain ⟨rfl, rfl⟩ := e9
  obtain ⟨t0, t1, t2, t3, t4⟩ := s9.cells
  have tf := s9.froz
  have hs8 := s8.lt
  clear s8 s9 d8 b8 hd9 hb9
  go_wp2
  (try simp only [Exit.inBlock, Exit.then])
  refine bodyPost_ret (results_store Tryz.results10 _ _ w.heap.size _ _ _ rfl ((unhide HS9).all (.slice J0 j0 K0) (.slice J1 j1 K1) (-1))) rfl ?_
  have hkk := set5_kept w9 w.heap.size (.slice J0 j0 K0) (.slice J1 j1 K1) (-1)
  have d10 := (unhide HD9).kept hkk (fun k hk => by have := ((unhide HD9).blk k hk).1; omega)
  obtain ⟨u0, u1, e, h0, h1', hn⟩ := d10
  exact ⟨⟨_, _, rfl, u0, u1, e, own_lower (by omega) h0, own_lower (by omega) h1', hn⟩, b9.trans (hkk.below b9.size (fun i hi => by omega))⟩

theorem specFmt_any (x : Int) (w : World) : Calls Tryz.prog 9 #[.int .i64 x] w fun e w' => StPost w (fmtL x) (fmtT x) (fmtOk x) e w' := by
  by_cases h : 4 ≤ x ∧ x ≤ 400
  · obtain ⟨n, rfl⟩ := Int.eq_ofNat_of_zero_le (show 0 ≤ x by omega)
    obtain ⟨e1, e2, e3⟩ := fmt_yes (n := n) (by omega) (by omega)
    rw [e1, e2, e3]
    exact specFmt_yes n (by omega) (by omega) w
  · obtain ⟨e1, e2, e3⟩ := fmt_no h
    rw [e1, e2, e3]
    exact specFmt_no x h w

theorem implFmt_any (x : Int) (w : World) : Calls Tryz.prog 10 #[.int .i64 x] w fun e w' => StPost w (fmtL x) (fmtT x) (fmtOk x) e w' := by
  by_cases h : 4 ≤ x ∧ x ≤ 400
  · obtain ⟨n, rfl⟩ := Int.eq_ofNat_of_zero_le (show 0 ≤ x by omega)
    obtain ⟨e1, e2, e3⟩ := fmt_yes (n := n) (by omega) (by omega)
    rw [e1, e2, e3]
    exact implFmt_yes n (by omega) (by omega) w
  · obtain ⟨e1, e2, e3⟩ := fmt_no h
    rw [e1, e2, e3]
    exact implFmt_no x h w
end Go.Proofs.YtobdmjoonjblpaaGreatDoor
