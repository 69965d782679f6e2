/-
  Texts of this claim, one behind the other: DevCopyImpl, DevWriteImpl, DevWriteImpl2.
-/
import Derived.Test.YtjhnippfepbjmaaGreatDoorJ22
import Derived.Test.YtjhnippfepbjmaaGreatDoorJ6
import Derived.Deep.AppendLies
import Derived.Deep.RegionHeld3
import Derived.Test.YtjhnippfepbjmaaGreatDoorJ10

/-
  The contracts of impl.copyOfPut and impl.copyOfDevice: a copy that owns its rows.
-/
namespace Go.Proofs.YtjhnippfepbjmaaGreatDoor
open Go.RowKit

set_option maxRecDepth 100000 in
set_option maxHeartbeats 1000000 in
theorem copyPut_any (x : Int) (s : ByteArray) (hs : s.size ≤ 140737488355328) (w : World) :
    Calls Tryz.prog 79 #[.agg #[.int .i64 x, .string s]] w fun e w' => e = .returned (.agg #[.int .i64 x, .string s]) ∧ Below w.heap.size w w' := by
  have HC := hide (fun w => clone_txt s hs w)
  go_enter Tryz.func79, Tryz.ntmps79
  go_wp2_with fail
  obtain ⟨W2, hW2⟩ : ∃ W, W = (w.alloc (Obj.cells #[Value.int .i64 x, Value.string s] 121)).alloc (Obj.cells #[Value.int .i64 0, Value.string ⟨#[]⟩] 121) := ⟨_, rfl⟩
  rw [← hW2]
  have hb2 : Below w.heap.size w W2 := by rw [hW2]; exact ((Below.refl _ _).alloc (Nat.le_refl _) _).alloc (by simp) _
  have hs2 : W2.heap.size = w.heap.size + 2 := by rw [hW2]; simp
  have b0 : W2.heap[w.heap.size]? = some (.cells #[Value.int .i64 x, Value.string s] 121 (0, 0)) := by
    rw [hW2, (below_new _ _).block _ (by simp)]; exact heap_alloc_new w _
  have b1 : W2.heap[w.heap.size + 1]? = some (.cells #[Value.int .i64 0, Value.string ⟨#[]⟩] 121 (0, 0)) := by
    have h := heap_alloc_new (w.alloc (Obj.cells #[Value.int .i64 x, Value.string s] 121)) (Obj.cells #[Value.int .i64 0, Value.string ⟨#[]⟩] 121)
    rw [hW2]
    simpa using h
  clear hW2
  obtain ⟨p0, p1, _⟩ := cells_of_two b0
  have hk0 : w.heap.size < W2.heap.size := by omega
  have hk1 : w.heap.size + 1 < W2.heap.size := by omega
  go_region_held3 (fun u => u.cell? ⟨w.heap.size, 0, none⟩ = some (.int .i64 x) ∧ u.cell? ⟨w.heap.size, 1, none⟩ = some (.string s))
    (first | go_keep | exact ⟨(hb3.cell (p := ⟨w.heap.size, 0, none⟩) hk0).trans p0, (hb3.cell (p := ⟨w.heap.size, 1, none⟩) hk0).trans p1⟩)
    ((go_at_call 39; refine (unhide HC _).mono ?_; rintro e w3 ⟨rfl, hb3⟩; have B1 := hide ((hb3.block (w.heap.size + 1) hk1).trans b1); obtain ⟨r0, r1, rf⟩ := cells_of_two (unhide B1); have rf0 := rf 0; have rf1 := rf 1; clear rf))
  have hc3 : Below w.heap.size w w3 := hb2.drew.trans (hb3.mono hb2.size)
  clear hb3
  go_wp2
  (try simp only [Exit.inBlock, Exit.then])
  refine bodyPost_ret (results_cell_row Tryz.results79 _ _ (w.heap.size + 1) _ _ _ _ rfl (two_one (two_zero (unhide B1) _) _) Tryz.underlying121 rfl (by kernel_rfl)) rfl ?_
  exact ⟨rfl, (hc3.setCell (p := ⟨w.heap.size + 1, 0, none⟩) (by simp) _).setCell (p := ⟨w.heap.size + 1, 1, none⟩) (by simp) _⟩

theorem Box.zero {w : World} {g : Nat} {a b : Value} (h : Box w g a b) (x : Value) : Box (w.setCell ⟨g, 0, none⟩ x) g x b := two_zero h x
theorem Box.one {w : World} {g : Nat} {a b : Value} (h : Box w g a b) (x : Value) : Box (w.setCell ⟨g, 1, none⟩ x) g a x := two_one h x

theorem Box.below' {w w' : World} {g B : Nat} {a b : Value} (h : Box w g a b) (hb : Below B w w') (hg : g < B) : Box w' g a b := by
  unfold Box; rw [hb.block g hg]; exact h

theorem strsV_take (L : List ByteArray) (j : Nat) (h : j < L.length) : strsV (L.take j) ++ [.string L[j]] = strsV (L.take (j + 1)) := by
  rw [List.take_succ_eq_append_getElem h]; unfold strsV; rw [List.map_append]; rfl

theorem putsV_take (Q : List (Int × ByteArray)) (j : Nat) (h : j < Q.length) : putsV (Q.take j) ++ [.int .i64 Q[j].1, .string Q[j].2] = putsV (Q.take (j + 1)) := by
  rw [List.take_succ_eq_append_getElem h]; unfold putsV; rw [List.flatMap_append]; rfl

set_option maxRecDepth 100000 in
set_option maxHeartbeats 2000000 in
theorem copyDev_any (v : Value) (B : Nat) (L : List ByteArray) (Q : List (Int × ByteArray)) (h1 : L.length ≤ 1048576) (h2 : Q.length ≤ 1048576) (hm : ∀ s ∈ L, s.size ≤ 1048576) (hq : ∀ q ∈ Q, q.2.size ≤ 1048576) (w : World) (hB : B ≤ w.heap.size) (hv : DevAt w v B L Q) :
    Calls Tryz.prog 78 #[v] w fun e w' => (∃ d, e = .returned d ∧ DevOwn w' w.heap.size d L Q) ∧ Below w.heap.size w w' := by
  obtain ⟨i0, hi, hz0, hz1, hz2⟩ := info_parts info9
  obtain ⟨i1, hj1, hy0, hy1, hy2⟩ := info_parts infoPut
  obtain ⟨a, n, c, a', n', c', rfl, hL, hQ⟩ := hv
  obtain ⟨e1, hLc⟩ := hL
  obtain ⟨e2, hQc⟩ := hQ
  have HLC := hide hLc
  have HQC := hide hQc
  have HN := hide e1
  have HN' := hide e2
  have HM := hide hm
  have HQ := hide hq
  have hn : n ≤ 1048576 := by omega
  have hn' : n' ≤ 1048576 := by omega
  clear hLc hQc e1 e2 hm hq h1 h2
  go_enter Tryz.func78, Tryz.ntmps78
  go_wp2_with fail
  obtain ⟨W3, hW3⟩ : ∃ W, W = ((w.alloc (Obj.cells #[Value.slice a n c, Value.slice a' n' c'] 36)).alloc (Obj.cells #[Value.slice none 0 0, Value.slice none 0 0] 36)).alloc (Obj.cells #[Value.slice none 0 0, Value.slice none 0 0] 36) := ⟨_, rfl⟩
  rw [← hW3]
  have hb3 : Below w.heap.size w W3 := by rw [hW3]; exact (((Below.refl _ _).alloc (Nat.le_refl _) _).alloc (by simp) _).alloc (by simp; omega) _
  have hs3 : W3.heap.size = w.heap.size + 3 := by rw [hW3]; simp
  have HX3 : Hid (Box W3 w.heap.size (Value.slice a n c) (Value.slice a' n' c')) := by show Box _ _ _ _; rw [hW3]; exact ((Box.new _ _ _).below (below_new _ _)).below (below_new _ _)
  have HR3 : Hid (Box W3 (w.heap.size + 1) (Value.slice none 0 0) (Value.slice none 0 0)) := by
    show Box _ _ _ _
    have h := (Box.new (w.alloc (Obj.cells #[Value.slice a n c, Value.slice a' n' c'] 36)) (Value.slice none 0 0) (Value.slice none 0 0)).below (below_new _ (Obj.cells #[Value.slice none 0 0, Value.slice none 0 0] 36))
    rw [hW3]
    simpa using h
  have HY3 : Hid (Box W3 (w.heap.size + 1 + 1) (Value.slice none 0 0) (Value.slice none 0 0)) := by
    show Box _ _ _ _
    have h := Box.new ((w.alloc (Obj.cells #[Value.slice a n c, Value.slice a' n' c'] 36)).alloc (Obj.cells #[Value.slice none 0 0, Value.slice none 0 0] 36)) (Value.slice none 0 0) (Value.slice none 0 0)
    rw [hW3]
    simpa using h
  clear hW3
  go_loopw [11] (fun a11 wr => ∃ (j : Nat) (A : Option Addr) (C : Nat), a11 = .int .i64 j ∧ j ≤ n ∧ Box wr (w.heap.size + 1 + 1) (.slice A j C) (Value.slice none 0 0) ∧ wr.ownsRow (w.heap.size + 3) 9 1 (.slice A j C) j (strsV (L.take j)) ∧ Below (w.heap.size + 2) W3 wr ∧ W3.heap.size ≤ wr.heap.size) (fun a11 _ => n - (intOf a11).toNat)
  case atStart => exact ⟨0, none, 0, rfl, Nat.zero_le _, unhide HY3, ⟨rfl, .inl ⟨rfl, rfl⟩⟩, Below.refl _ _, Nat.le_refl _⟩
  case round =>
    obtain ⟨j, A, C, rfl, hj, hy, hown, hbw, hsz⟩ := hrel
    have hcw : Below w.heap.size w wr := hb3.trans (hbw.mono (by omega))
    by_cases hlt : j < n
    · have hjL : j < L.length := by have := unhide HN; omega
      obtain ⟨b, off, rfl, hbB, hcell⟩ := unhide HLC j hjL
      rw [← hcw.cell (p := ⟨b, off + j, none⟩) (by simp; omega)] at hcell
      have hx0 : (0 : Int) ≤ (j : Int) := by omega
      have hx1 : (j : Int) < (n : Int) := by omega
      have HCL := hide (fun w => clone_txt L[j] (by have := unhide HM _ (List.getElem_mem hjL); omega) w)
      have HT := hide (strsV_take L j hjL)
      generalize L[j] = s at hcell HCL HT
      obtain ⟨y0, y1⟩ := hy.cells
      have HY := hide hy
      have HOW := hide hown
      have hyl := hy.lt
      clear hy hown
      go_wp2_with fail
      have HOD := hide ((unhide HOW).drew)
      have hlt1 : w.heap.size + 1 + 1 < wr.heap.size := hyl
      have hne : (Value.slice A j C).ownBlock ≠ some (w.heap.size + 1 + 1) := fun e => by have := (unhide HOW).lt _ e; omega
      have hjm : j + 1 ≤ maxLen := by unfold maxLen; omega
      go_region_law
        (first
          | (refine step_call (by rfl) 39 _ _ (by rfl) #[.string s] (by first | rfl | (simp [Act.eval, Act.put]; done)) enterClone _ (unhide HCL _) ?_; rintro e w1 ⟨rfl, hb1⟩; refine ⟨_, rfl, ?_⟩; have hown1 := own_below (unhide HOD) hb1; have HY1 := hide ((unhide HY).below' (B := wr.heap.size) ((Below.refl _ _).drew.trans hb1) hlt1); have s0 := (unhide HY1).cells.1; have hlt2 := (unhide HY1).lt; have s1 := ((below_new w1 (Obj.cells #[.string s] 9)).cell (p := ⟨w.heap.size + 1 + 1, 0, none⟩) hlt2).trans s0; have hb01 : Below (w.heap.size + 2) W3 w1 := hbw.drew.trans (hb1.mono (by show _ ≤ wr.heap.size; omega)); have hsz1 : wr.heap.size ≤ w1.heap.size := hb1.size)
          | (refine step_append_lies _ (by rfl) _ _ _ (by rfl) (w.heap.size + 3) 9 i0 _ 1 16 Tryz.underlying28 hi hz0 hz1 hz2 rfl (by omega) (.slice A j C) j (strsV (L.take j)) (by rfl) (by first | exact hown1.alloc _ | exact (hown1.alloc _).drew) ⟨w1.heap.size, 0, none⟩ 1 1 [.string s] (by rfl) (by rfl) (World.news_of_block (cs := #[.string s]) (t := 9) (fr := (0, 0)) (heap_alloc_new w1 _)) (by simp [Value.oneCell']) (by omega) hjm (by omega) (by simp; omega) (w1.heap.size + 1) (by simp) ?_; intro g cap w2 hown2 hgrow2 hat2 hlt3; have HY2 := hide (grown_box ((unhide HY1).below (below_new w1 (Obj.cells #[.string s] 9))) hgrow2 hne); have t0 := (unhide HY2).cells.1; have tf := (unhide HY2).froz 0))
      all_goals
        have hg3 := (hown2.lt g rfl).1
        rw [unhide HT] at hown2
        have HO2 := hide (ownsRow_setCell_other hown2 (a := ⟨w.heap.size + 1 + 1, 0, none⟩) (by simp [Value.ownBlock]; omega) (.slice (some ⟨g, 0, none⟩) (j + 1) cap))
        have HB2 : Hid (Below (w.heap.size + 2) W3 (w2.setCell ⟨w.heap.size + 1 + 1, 0, none⟩ (.slice (some ⟨g, 0, none⟩) (j + 1) cap))) := ((hb01.alloc (by omega) _).grown hgrow2 (by simp; omega) (fun k hk => by have := hown1.lt k hk; omega)).setCell (p := ⟨w.heap.size + 1 + 1, 0, none⟩) (by simp) _
        have HS2 : Hid (W3.heap.size ≤ (w2.setCell ⟨w.heap.size + 1 + 1, 0, none⟩ (.slice (some ⟨g, 0, none⟩) (j + 1) cap)).heap.size) := by
          have := hgrow2.size
          show _ ≤ _
          simp [World.setCell] at this ⊢
          omega
        have HY3' := hide ((unhide HY2).zero (.slice (some ⟨g, 0, none⟩) (j + 1) cap))
        clear hown2 hgrow2 hat2 hb01 hown1 s0 s1 t0 tf hlt3 hb1 HY2 HY1 HOD HOW HY y0 y1 hne hjm hbw hcw hcell
        go_wp2
        go_roundw
        case rel => exact ⟨j + 1, some ⟨g, 0, none⟩, cap, by go_num, by omega, unhide HY3', unhide HO2, unhide HB2, unhide HS2⟩
        case measure => simp [intOf]; omega
    · obtain rfl : j = n := by omega
      obtain ⟨w4, rfl⟩ : ∃ x, x = wr := ⟨wr, rfl⟩
      rw [List.take_of_length_le (by have := unhide HN; omega)] at hown
      have HO0 := hide hown
      have hlow : ∀ k, (Value.slice A j C).ownBlock = some k → w.heap.size + 3 ≤ k ∧ k < w4.heap.size := hown.lt
      have HLOW := hide hlow
      obtain ⟨x0, x1⟩ := ((unhide HX3).below' hbw (by omega)).cells
      have HX4 := hide ((unhide HX3).below' hbw (by omega))
      have HR4 := hide ((unhide HR3).below' hbw (by omega))
      have HY4 := hide hy
      have hyl := hy.lt
      obtain ⟨V0, hV0⟩ : ∃ V, V = Value.slice A j C := ⟨_, rfl⟩
      rw [← hV0] at HO0 HLOW HY4
      clear hown hlow hy hV0 HLC HM HX3 HR3 HY3
      go_wp2_with fail
      go_loopw [26] (fun a26 w5 => ∃ (i : Nat) (A1 : Option Addr) (C1 : Nat), a26 = .int .i64 i ∧ i ≤ n' ∧ Box w5 (w.heap.size + 1 + 1) V0 (.slice A1 i C1) ∧ w5.ownsRow w4.heap.size 121 2 (.slice A1 i C1) i (putsV (Q.take i)) ∧ w5.ownsRow (w.heap.size + 3) 9 1 V0 j (strsV L) ∧ Below (w.heap.size + 2) w4 w5 ∧ w4.heap.size ≤ w5.heap.size) (fun a26 _ => n' - (intOf a26).toNat)
      case atStart => exact ⟨0, none, 0, rfl, Nat.zero_le _, unhide HY4, ⟨rfl, .inl ⟨rfl, rfl⟩⟩, unhide HO0, Below.refl _ _, Nat.le_refl _⟩
      case round =>
        obtain ⟨w5, rfl⟩ : ∃ x, x = wr := ⟨wr, rfl⟩
        obtain ⟨i, A1, C1, rfl, hi5, hy, hown, hown0, hb5, hsz5⟩ := hrel
        have hc5 : Below w.heap.size w w5 := hcw.trans (hb5.mono (by omega))
        by_cases hlt5 : i < n'
        · have hiQ : i < Q.length := by have := unhide HN'; omega
          obtain ⟨b, off, rfl, hbB, hc0, hc1⟩ := unhide HQC i hiQ
          rw [← hc5.cell (p := ⟨b, off + i * 2, none⟩) (by simp; omega)] at hc0
          rw [← hc5.cell (p := ⟨b, off + i * 2 + 1, none⟩) (by simp; omega)] at hc1
          have hu0 : (0 : Int) ≤ (i : Int) := by omega
          have hu1 : (i : Int) < (n' : Int) := by omega
          have HCP := hide (fun w => copyPut_any Q[i].1 Q[i].2 (by have := unhide HQ _ (List.getElem_mem hiQ); omega) w)
          have HT := hide (putsV_take Q i hiQ)
          generalize Q[i] = q at hc0 hc1 HCP HT
          obtain ⟨x, s⟩ := q
          simp only at hc0 hc1 HCP HT
          obtain ⟨W6, hW6⟩ : ∃ W, W = w5.alloc (Obj.cells #[Value.int .i64 x, Value.string s] 121) := ⟨_, rfl⟩
          have hb6 : Below w5.heap.size w5 W6 := by rw [hW6]; exact below_new _ _
          have hs6 : W6.heap.size = w5.heap.size + 1 := by rw [hW6]; simp
          have HP6 : Hid (W6.heap[w5.heap.size]? = some (.cells #[Value.int .i64 x, Value.string s] 121 (0, 0))) := by show _ = _; rw [hW6]; exact heap_alloc_new _ _
          have HY6 := hide (hy.below hb6)
          have HO6 := hide (own_below hown hb6)
          have HZ6 := hide (own_below hown0 hb6)
          have hlt1 := (unhide HY6).lt
          have hne : (Value.slice A1 i C1).ownBlock ≠ some (w.heap.size + 1 + 1) := fun e => by have := (unhide HO6).lt _ e; omega
          have hjm : i + 1 ≤ maxLen := by unfold maxLen; omega
          have hb56 : Below (w.heap.size + 2) w4 W6 := hb5.trans (hb6.mono (by omega))
          clear hy hown hown0 hb5 hc5
          go_wp2_with fail
          rw [← hW6]
          clear hW6 hb6
          obtain ⟨y0, y1⟩ := (unhide HY6).cells
          obtain ⟨u0, u1, _⟩ := cells_of_two (unhide HP6)
          have HOD := hide ((unhide HO6).drew)
          have HZD := hide ((unhide HZ6).drew)
          go_region_law
            (first
              | (refine step_call (by rfl) 79 _ _ (by rfl) #[.agg #[.int .i64 x, .string s]] (by first | rfl | (simp [Act.eval]; done)) enterCopyPut _ (unhide HCP _) ?_; rintro e w7 ⟨rfl, hb7⟩; refine ⟨_, rfl, ?_⟩; have hown7 := own_below (unhide HOD) hb7; have HZ7 := hide (own_below (unhide HZD) hb7); have HY7 := hide ((unhide HY6).below' (B := W6.heap.size) ((Below.refl _ _).drew.trans hb7) hlt1); have s0 := (unhide HY7).cells.2; have hlt2 := (unhide HY7).lt; have s1 := ((below_new w7 (Obj.cells #[Value.int .i64 x, Value.string s] 121)).cell (p := ⟨w.heap.size + 1 + 1, 1, none⟩) hlt2).trans s0; have hb01 : Below (w.heap.size + 2) w4 w7 := hb56.drew.trans (hb7.mono (by show _ ≤ W6.heap.size; omega)); have hsz7 : W6.heap.size ≤ w7.heap.size := hb7.size)
              | (refine step_append_lies _ (by rfl) _ _ _ (by rfl) w4.heap.size 121 i1 _ 2 24 Tryz.underlying34 hj1 hy0 hy1 hy2 rfl (by omega) (.slice A1 i C1) i (putsV (Q.take i)) (by rfl) (by first | exact hown7.alloc _ | exact (hown7.alloc _).drew) ⟨w7.heap.size, 0, none⟩ 1 1 [.int .i64 x, .string s] (by rfl) (by rfl) (World.news_of_block (cs := #[.int .i64 x, .string s]) (t := 121) (fr := (0, 0)) (heap_alloc_new w7 _)) (by simp [Value.oneCell']) (by omega) hjm (by omega) (by simp; omega) (w7.heap.size + 1) (by simp) ?_; intro g cap w8 hown8 hgrow8 hat8 hlt8; have HY8 := hide (grown_box ((unhide HY7).below (below_new w7 (Obj.cells #[Value.int .i64 x, Value.string s] 121))) hgrow8 hne); have t0 := (unhide HY8).cells.2; have tf := (unhide HY8).froz 1))
          all_goals
            have hg3 := (hown8.lt g rfl).1
            rw [unhide HT] at hown8
            have HO9 := hide (ownsRow_setCell_other hown8 (a := ⟨w.heap.size + 1 + 1, 1, none⟩) (by simp [Value.ownBlock]; omega) (.slice (some ⟨g, 0, none⟩) (i + 1) cap))
            have hz8 := (Kept.of_grown hgrow8).own (own_below (unhide HZ7) (below_new w7 (Obj.cells #[Value.int .i64 x, Value.string s] 121))) (fun k hk e => by have h1 := unhide HLOW k hk; have h2 := hown7.lt k e; omega)
            have HZ9 := hide (ownsRow_setCell_other hz8 (a := ⟨w.heap.size + 1 + 1, 1, none⟩) (fun e => by have h1 := unhide HLOW _ e; simp at h1; omega) (.slice (some ⟨g, 0, none⟩) (i + 1) cap))
            have HB9 : Hid (Below (w.heap.size + 2) w4 (w8.setCell ⟨w.heap.size + 1 + 1, 1, none⟩ (.slice (some ⟨g, 0, none⟩) (i + 1) cap))) := ((hb01.alloc (by omega) _).grown hgrow8 (by simp; omega) (fun k hk => by have := hown7.lt k hk; omega)).setCell (p := ⟨w.heap.size + 1 + 1, 1, none⟩) (by simp) _
            have HS9 : Hid (w4.heap.size ≤ (w8.setCell ⟨w.heap.size + 1 + 1, 1, none⟩ (.slice (some ⟨g, 0, none⟩) (i + 1) cap)).heap.size) := by
              have := hgrow8.size
              show _ ≤ _
              simp [World.setCell] at this ⊢
              omega
            have HY9 := hide ((unhide HY8).one (.slice (some ⟨g, 0, none⟩) (i + 1) cap))
            clear hown8 hgrow8 hat8 hb01 hown7 s0 s1 t0 tf hlt8 hb7 HY8 HY7 HOD HZD HZ7 hz8 HO6 HZ6 HY6 y0 y1 u0 u1 hne hjm hc0 hc1
            go_wp2
            go_roundw
            case rel => exact ⟨i + 1, some ⟨g, 0, none⟩, cap, by go_num, by omega, unhide HY9, unhide HO9, unhide HZ9, unhide HB9, unhide HS9⟩
            case measure => simp [intOf]; omega
        · obtain rfl : i = n' := by omega
          rw [List.take_of_length_le (by have := unhide HN'; omega)] at hown
          obtain ⟨A0, C0, rfl, _⟩ := StrsAt.of_own hown0
          have HY5 := hide hy
          have HO5 := hide hown
          have HZ5 := hide hown0
          have HR5 := hide ((unhide HR4).below' hb5 (by omega))
          have hlo := hown.lt
          have HLO := hide hlo
          obtain ⟨y0, y1⟩ := hy.cells
          obtain ⟨r0, r1⟩ := (unhide HR5).cells
          have f0 := (unhide HR5).froz 0
          have f1 := (unhide HR5).froz 1
          have HC5 := hide hc5
          clear hy hown hown0 hb5 hlo hc5 hcw hbw
          go_wp2
          (try simp only [Exit.inBlock, Exit.then])
          refine bodyPost_ret (results_cell_row Tryz.results78 _ _ (w.heap.size + 1) _ _ _ _ rfl ((unhide HR5).two _ _) Tryz.underlying36 rfl (by kernel_rfl)) rfl ?_
          have hne0 : (Value.slice A0 j C0).ownBlock ≠ some (w.heap.size + 1) := fun e => by have := unhide HLOW _ e; omega
          have hne1 : (Value.slice A1 i C1).ownBlock ≠ some (w.heap.size + 1) := fun e => by have := unhide HLO _ e; omega
          refine ⟨⟨_, rfl, _, _, rfl, ?_, ?_, ?_⟩, ((unhide HC5).setCell (p := ⟨w.heap.size + 1, 0, none⟩) (by simp) _).setCell (p := ⟨w.heap.size + 1, 1, none⟩) (by simp) _⟩
          · rw [unhide HN]
            exact own_lower (by omega) (ownsRow_setCell_other (a := ⟨w.heap.size + 1, 1, none⟩) (ownsRow_setCell_other (a := ⟨w.heap.size + 1, 0, none⟩) (unhide HZ5) hne0 _) hne0 _)
          · rw [unhide HN']
            exact own_lower (by omega) (ownsRow_setCell_other (a := ⟨w.heap.size + 1, 1, none⟩) (ownsRow_setCell_other (a := ⟨w.heap.size + 1, 0, none⟩) (unhide HO5) hne1 _) hne1 _)
          · by_cases hnn : (Value.slice A0 j C0).ownBlock = none
            · exact .inr hnn
            · refine .inl fun e => ?_
              obtain ⟨k, hk⟩ := Option.ne_none_iff_exists'.1 hnn
              have h0 := unhide HLOW k hk
              have h1 := unhide HLO k (e ▸ hk)
              omega
end Go.Proofs.YtjhnippfepbjmaaGreatDoor

/-
  The contract of impl.WriteSector.
-/
namespace Go.Proofs.YtjhnippfepbjmaaGreatDoor
open Go.RowKit

/-- Whether a write is right. -/
def wrOk (L : List ByteArray) (Q : List (Int × ByteArray)) (x : Int) (t : ByteArray) : Bool := devOk L Q && (putOk L.length x t && !decide (Q.length = 400))
def wrL (L : List ByteArray) (Q : List (Int × ByteArray)) (x : Int) (t : ByteArray) : List ByteArray := if wrOk L Q x t = true then L else []
def wrQ (L : List ByteArray) (Q : List (Int × ByteArray)) (x : Int) (t : ByteArray) : List (Int × ByteArray) := if wrOk L Q x t = true then Q ++ [(x, t)] else []

theorem putsV_snoc (Q : List (Int × ByteArray)) (x : Int) (t : ByteArray) : putsV (Q ++ [(x, t)]) = putsV Q ++ [.int .i64 x, .string t] := by
  unfold putsV; rw [List.flatMap_append]; rfl

theorem wr_lengths (L : List ByteArray) (Q : List (Int × ByteArray)) (x : Int) (t : ByteArray) (h1 : L.length ≤ 1048576) : (wrL L Q x t).length ≤ 1048576 ∧ (wrQ L Q x t).length ≤ 1048576 := by
  unfold wrL wrQ
  split
  · rename_i h
    have hd : devOk L Q = true := by unfold wrOk at h; simp at h; exact h.1
    have := devOk_sec hd
    exact ⟨h1, by simp; omega⟩
  · simp

set_option maxRecDepth 100000 in
set_option maxHeartbeats 2000000 in
theorem implWrite_no (v : Value) (B : Nat) (L : List ByteArray) (Q : List (Int × ByteArray)) (x : Int) (t : ByteArray) (hno : wrOk L Q x t = false) (h1 : L.length ≤ 1048576) (h2 : Q.length ≤ 1048576) (hm : ∀ s ∈ L, s.size ≤ 9223372036854775807) (w : World) (hB : B ≤ w.heap.size) (hv : DevAt w v B L Q) :
    Calls Tryz.prog 62 #[v, .int .i64 x, .string t] w fun e w' => DevPost w [] [] false e w' := by
  have OK := hide (fun w1 (hb : Below w.heap.size w w1) => implDev_any v B L Q h1 h2 hm w1 (by have := hb.size; omega) (hv.below hb hB))
  have PT := hide (fun w => isPutTo_any L.length x t w)
  obtain ⟨a, n, c, a', n', c', rfl, hL, hQ⟩ := hv
  obtain rfl : n = L.length := hL.1.symm
  obtain rfl : n' = Q.length := hQ.1.symm
  clear hL hQ hm
  have hcase : devOk L Q = false ∨ (devOk L Q = true ∧ ((Q.length : Int) == 400) = true) ∨ (devOk L Q = true ∧ ((Q.length : Int) == 400) = false ∧ putOk L.length x t = false) := by
    unfold wrOk at hno
    cases hd : devOk L Q
    · exact .inl rfl
    · rw [hd] at hno
      by_cases h4 : Q.length = 400
      · exact .inr (.inl ⟨rfl, by simp [h4]⟩)
      · refine .inr (.inr ⟨rfl, by simp; omega, ?_⟩)
        simpa [h4] using hno
  clear hno
  generalize devOk L Q = dk at OK hcase
  generalize putOk L.length x t = pk at PT hcase
  generalize L.length = n at OK PT h1
  generalize Q.length = n' at OK h2 hcase
  go_enter Tryz.func62, Tryz.ntmps62
  go_wp2_with fail
  obtain ⟨W3, hW3⟩ : ∃ W, W = ((w.alloc (Obj.cells #[Value.slice a n c, Value.slice a' n' c'] 36)).alloc (Obj.cells #[Value.slice none 0 0, Value.slice none 0 0] 36)).alloc (Obj.cells #[Value.int .i64 x, Value.string t] 121) := ⟨_, rfl⟩
  rw [← hW3]
  have hb3 : Below w.heap.size w W3 := by rw [hW3]; exact (((Below.refl _ _).alloc (Nat.le_refl _) _).alloc (by simp) _).alloc (by simp; omega) _
  have hs3 : W3.heap.size = w.heap.size + 3 := by rw [hW3]; simp
  have HX3 : Hid (Box W3 w.heap.size (Value.slice a n c) (Value.slice a' n' c')) := by show Box _ _ _ _; rw [hW3]; exact ((Box.new _ _ _).below (below_new _ _)).below (below_new _ _)
  have HR3 : Hid (Box W3 (w.heap.size + 1) (Value.slice none 0 0) (Value.slice none 0 0)) := by
    show Box _ _ _ _
    have h := (Box.new (w.alloc (Obj.cells #[Value.slice a n c, Value.slice a' n' c'] 36)) (Value.slice none 0 0) (Value.slice none 0 0)).below (below_new _ (Obj.cells #[Value.int .i64 x, Value.string t] 121))
    rw [hW3]
    simpa using h
  have HP3 : Hid (W3.heap[w.heap.size + 1 + 1]? = some (.cells #[Value.int .i64 x, Value.string t] 121 (0, 0))) := by
    show _ = _
    have h := heap_alloc_new ((w.alloc (Obj.cells #[Value.slice a n c, Value.slice a' n' c'] 36)).alloc (Obj.cells #[Value.slice none 0 0, Value.slice none 0 0] 36)) (Obj.cells #[Value.int .i64 x, Value.string t] 121)
    rw [hW3]
    simpa using h
  clear hW3
  refine (unhide OK W3 hb3).mono ?_
  rintro e w4 ⟨rfl, hb4⟩
  have hx4 := (unhide HX3).below hb4
  have HR4 := hide ((unhide HR3).below hb4)
  have HP4 : Hid (w4.heap[w.heap.size + 1 + 1]? = some (.cells #[Value.int .i64 x, Value.string t] 121 (0, 0))) := by show _ = _; rw [hb4.block _ (by omega)]; exact unhide HP3
  have hc4 : Below w.heap.size w w4 := hb3.trans (hb4.mono hb3.size)
  have hs4 := hb4.size
  obtain ⟨p0, p1⟩ := hx4.cells
  clear hb4 hb3 hx4 HX3 HR3 HP3
  rcases hcase with rfl | ⟨rfl, h4⟩ | ⟨rfl, h4, rfl⟩
  · obtain ⟨q0, q1⟩ := (unhide HR4).cells
    have f0 := (unhide HR4).froz 0
    have f1 := (unhide HR4).froz 1
    go_wp2
    (try simp only [Exit.inBlock, Exit.then])
    refine bodyPost_ret (results_box Tryz.results62 _ _ (w.heap.size + 1) _ _ rfl ((unhide HR4).two _ _)) rfl ?_
    exact ⟨⟨_, rfl, devNil _ _⟩, (hc4.setCell (p := ⟨w.heap.size + 1, 0, none⟩) (by simp) _).setCell (p := ⟨w.heap.size + 1, 1, none⟩) (by simp) _⟩
  · obtain ⟨q0, q1⟩ := (unhide HR4).cells
    have f0 := (unhide HR4).froz 0
    have f1 := (unhide HR4).froz 1
    go_wp2
    (try simp only [Exit.inBlock, Exit.then])
    refine bodyPost_ret (results_box Tryz.results62 _ _ (w.heap.size + 1) _ _ rfl ((unhide HR4).two _ _)) rfl ?_
    exact ⟨⟨_, rfl, devNil _ _⟩, (hc4.setCell (p := ⟨w.heap.size + 1, 0, none⟩) (by simp) _).setCell (p := ⟨w.heap.size + 1, 1, none⟩) (by simp) _⟩
  · obtain ⟨r0, r1, _⟩ := cells_of_two (unhide HP4)
    go_wp2_with fail
    refine (unhide PT _).mono ?_
    rintro e w5 ⟨rfl, hb5⟩
    have HR5 := hide ((unhide HR4).below hb5)
    obtain ⟨q0, q1⟩ := (unhide HR5).cells
    have f0 := (unhide HR5).froz 0
    have f1 := (unhide HR5).froz 1
    have hc5 : Below w.heap.size w w5 := hc4.trans (hb5.mono hc4.size)
    clear hb5 r0 r1 p0 p1
    go_wp2
    (try simp only [Exit.inBlock, Exit.then])
    refine bodyPost_ret (results_box Tryz.results62 _ _ (w.heap.size + 1) _ _ rfl ((unhide HR5).two _ _)) rfl ?_
    exact ⟨⟨_, rfl, devNil _ _⟩, (hc5.setCell (p := ⟨w.heap.size + 1, 0, none⟩) (by simp) _).setCell (p := ⟨w.heap.size + 1, 1, none⟩) (by simp) _⟩
end Go.Proofs.YtjhnippfepbjmaaGreatDoor

/-
  The contract of impl.WriteSector, where the write is right.
-/
namespace Go.Proofs.YtjhnippfepbjmaaGreatDoor
open Go.RowKit

set_option maxRecDepth 100000 in
set_option maxHeartbeats 2000000 in
theorem implWrite_yes (v : Value) (B : Nat) (L : List ByteArray) (Q : List (Int × ByteArray)) (x : Int) (t : ByteArray) (hyes : wrOk L Q x t = true) (w : World) (hB : B ≤ w.heap.size) (hv : DevAt w v B L Q) :
    Calls Tryz.prog 62 #[v, .int .i64 x, .string t] w fun e w' => DevPost w L (Q ++ [(x, t)]) true e w' := by
  unfold wrOk at hyes
  simp only [Bool.and_eq_true, Bool.not_eq_true', decide_eq_false_iff_not] at hyes
  obtain ⟨hok, hput, h400⟩ := hyes
  have hds := devOk_sec hok
  have hts : t.size ≤ 64 := by have h := hput; unfold putOk at h; simp at h; omega
  have OK := hide (fun w1 (hb : Below w.heap.size w w1) => implDev_any v B L Q (by omega) (by omega) (fun s hs => by have := hds.2.2.2.1 s hs; omega) w1 (by have := hb.size; omega) (hv.below hb hB))
  rw [hok] at OK
  have PT := hide (fun w => isPutTo_any L.length x t w)
  rw [hput] at PT
  have CD := hide (fun w1 (hb : Below w.heap.size w w1) => copyDev_any v B L Q (by omega) (by omega) (fun s hs => by have := hds.2.2.2.1 s hs; omega) (fun q hq => by have := (hds.2.2.2.2 q hq).2.2; omega) w1 (by have := hb.size; omega) (hv.below hb hB))
  have HCP := hide (fun w => copyPut_any x t (by omega) w)
  obtain ⟨i1, hj1, hy0, hy1, hy2⟩ := info_parts infoPut
  obtain ⟨a, n, c, a', n', c', rfl, hL, hQ⟩ := hv
  obtain rfl : n = L.length := hL.1.symm
  obtain rfl : n' = Q.length := hQ.1.symm
  have h4 : ((Q.length : Int) == 400) = false := by simp; omega
  have hn4 : L.length ≤ 400 := hds.1
  have hn4' : Q.length ≤ 400 := hds.2.1
  clear hL hQ hds hok hput h400 hts
  obtain ⟨n, hn⟩ : ∃ n, n = L.length := ⟨_, rfl⟩
  obtain ⟨n', hn'⟩ : ∃ n, n = Q.length := ⟨_, rfl⟩
  have HN := hide hn
  have HN' := hide hn'
  rw [← hn] at OK PT CD hn4
  rw [← hn'] at OK CD hn4' h4
  rw [← hn, ← hn']
  clear hn hn'
  go_enter Tryz.func62, Tryz.ntmps62
  go_wp2_with fail
  obtain ⟨W3, hW3⟩ : ∃ W, W = ((w.alloc (Obj.cells #[Value.slice a n c, Value.slice a' n' c'] 36)).alloc (Obj.cells #[Value.slice none 0 0, Value.slice none 0 0] 36)).alloc (Obj.cells #[Value.int .i64 x, Value.string t] 121) := ⟨_, rfl⟩
  rw [← hW3]
  have hb3 : Below w.heap.size w W3 := by rw [hW3]; exact (((Below.refl _ _).alloc (Nat.le_refl _) _).alloc (by simp) _).alloc (by simp; omega) _
  have hs3 : W3.heap.size = w.heap.size + 3 := by rw [hW3]; simp
  have HX3 : Hid (Box W3 w.heap.size (Value.slice a n c) (Value.slice a' n' c')) := by show Box _ _ _ _; rw [hW3]; exact ((Box.new _ _ _).below (below_new _ _)).below (below_new _ _)
  have HR3 : Hid (Box W3 (w.heap.size + 1) (Value.slice none 0 0) (Value.slice none 0 0)) := by
    show Box _ _ _ _
    have h := (Box.new (w.alloc (Obj.cells #[Value.slice a n c, Value.slice a' n' c'] 36)) (Value.slice none 0 0) (Value.slice none 0 0)).below (below_new _ (Obj.cells #[Value.int .i64 x, Value.string t] 121))
    rw [hW3]
    simpa using h
  have HP3 : Hid (W3.heap[w.heap.size + 1 + 1]? = some (.cells #[Value.int .i64 x, Value.string t] 121 (0, 0))) := by
    show _ = _
    have h := heap_alloc_new ((w.alloc (Obj.cells #[Value.slice a n c, Value.slice a' n' c'] 36)).alloc (Obj.cells #[Value.slice none 0 0, Value.slice none 0 0] 36)) (Obj.cells #[Value.int .i64 x, Value.string t] 121)
    rw [hW3]
    simpa using h
  clear hW3
  refine (unhide OK W3 hb3).mono ?_
  rintro e w4 ⟨rfl, hb4⟩
  have HX4 := hide ((unhide HX3).below hb4)
  have HR4 := hide ((unhide HR3).below hb4)
  have HP4 : Hid (w4.heap[w.heap.size + 1 + 1]? = some (.cells #[Value.int .i64 x, Value.string t] 121 (0, 0))) := by show _ = _; rw [hb4.block _ (by omega)]; exact unhide HP3
  have hc4 : Below w.heap.size w w4 := hb3.trans (hb4.mono hb3.size)
  have hs4 := hb4.size
  obtain ⟨p0, p1⟩ := (unhide HX4).cells
  obtain ⟨r0, r1, _⟩ := cells_of_two (unhide HP4)
  clear hb4 hb3 HX3 HR3 HP3
  go_wp2_with fail
  refine (unhide PT _).mono ?_
  rintro e w5 ⟨rfl, hb5⟩
  have HX5 := hide ((unhide HX4).below hb5)
  have HR5 := hide ((unhide HR4).below hb5)
  have HP5 : Hid (w5.heap[w.heap.size + 1 + 1]? = some (.cells #[Value.int .i64 x, Value.string t] 121 (0, 0))) := by show _ = _; rw [hb5.block _ (by omega)]; exact unhide HP4
  have hc5 : Below w.heap.size w w5 := hc4.trans (hb5.mono hc4.size)
  have hs5 := hb5.size
  clear hb5 p0 p1 r0 r1 HX4 HR4 HP4 hc4
  obtain ⟨p0, p1⟩ := (unhide HX5).cells
  go_wp2_with fail
  refine (unhide CD w5 hc5).mono ?_
  rintro e w6 ⟨⟨d, rfl, ho6⟩, hb6⟩
  have HR6 := hide ((unhide HR5).below hb6)
  have HP6 : Hid (w6.heap[w.heap.size + 1 + 1]? = some (.cells #[Value.int .i64 x, Value.string t] 121 (0, 0))) := by show _ = _; rw [hb6.block _ (by omega)]; exact unhide HP5
  have hc6 : Below w.heap.size w w6 := hc5.trans (hb6.mono hc5.size)
  have hs6 := hb6.size
  have hblk := ho6.blk
  obtain ⟨v0, v1, rfl, ho60, ho61, hne01⟩ := ho6
  obtain ⟨A0, C0, rfl, _⟩ := StrsAt.of_own ho60
  obtain ⟨A1, C1, rfl, _⟩ := PutsAt.of_own ho61
  rw [← unhide HN] at ho60 hblk hne01 ⊢
  rw [← unhide HN'] at ho61 hblk hne01 ⊢
  have HNE := hide hne01
  have HBL := hide hblk
  have HO0 := hide ho60
  have HO1 := hide ho61
  clear hb6 ho60 ho61 hne01 hblk HX5 HR5 HP5 p0 p1 hc5
  go_wp2_with fail
  obtain ⟨W7, hW7⟩ : ∃ W, W = w6.alloc (Obj.cells #[Value.slice A0 n C0, Value.slice A1 n' C1] 36) := ⟨_, rfl⟩
  rw [← hW7]
  have hb7 : Below w6.heap.size w6 W7 := by rw [hW7]; exact below_new _ _
  have hs7 : W7.heap.size = w6.heap.size + 1 := by rw [hW7]; simp
  have HY7 : Hid (Box W7 w6.heap.size (Value.slice A0 n C0) (Value.slice A1 n' C1)) := by show Box _ _ _ _; rw [hW7]; exact Box.new _ _ _
  have HR7 := hide ((unhide HR6).below hb7)
  have HP7 : Hid (W7.heap[w.heap.size + 1 + 1]? = some (.cells #[Value.int .i64 x, Value.string t] 121 (0, 0))) := by show _ = _; rw [hb7.block _ (by omega)]; exact unhide HP6
  have HO7 := hide (own_below (unhide HO1) hb7)
  have HZ7 := hide (own_below (unhide HO0) hb7)
  have hc7 : Below w.heap.size w W7 := hc6.trans (hb7.mono hc6.size)
  clear hW7 hb7 HR6 HP6 HO0 HO1 hc6
  obtain ⟨y0, y1⟩ := (unhide HY7).cells
  obtain ⟨u0, u1, _⟩ := cells_of_two (unhide HP7)
  have HOD := hide ((unhide HO7).drew)
  have HZD := hide ((unhide HZ7).drew)
  have hlt1 := (unhide HY7).lt
  have hne : (Value.slice A1 n' C1).ownBlock ≠ some w6.heap.size := fun e => by have := unhide HBL _ ⟨_, _, rfl, .inr e⟩; omega
  have hjm : n' + 1 ≤ maxLen := by unfold maxLen; omega
  go_region_law
    (first
      | (refine step_call (by rfl) 79 _ _ (by rfl) #[.agg #[.int .i64 x, .string t]] (by first | rfl | (simp [Act.eval]; done)) enterCopyPut _ (unhide HCP _) ?_; rintro e w8 ⟨rfl, hb8⟩; refine ⟨_, rfl, ?_⟩; have hown8 := own_below (unhide HOD) hb8; have HZ8 := hide (own_below (unhide HZD) hb8); have HY8 := hide ((unhide HY7).below' (B := W7.heap.size) ((Below.refl _ _).drew.trans hb8) hlt1); have s0 := (unhide HY8).cells.2; have hlt2 := (unhide HY8).lt; have s1 := ((below_new w8 (Obj.cells #[Value.int .i64 x, Value.string t] 121)).cell (p := ⟨w6.heap.size, 1, none⟩) hlt2).trans s0; have hc8 : Below w.heap.size w w8 := hc7.drew.trans (hb8.mono hc7.size); have HR8 := hide ((unhide HR7).below' (B := W7.heap.size) ((Below.refl _ _).drew.trans hb8) (unhide HR7).lt); have hsz8 : W7.heap.size ≤ w8.heap.size := hb8.size)
      | (refine step_append_lies _ (by rfl) _ _ _ (by rfl) w5.heap.size 121 i1 _ 2 24 Tryz.underlying34 hj1 hy0 hy1 hy2 rfl (by omega) (.slice A1 n' C1) n' (putsV Q) (by rfl) (by first | exact hown8.alloc _ | exact (hown8.alloc _).drew) ⟨w8.heap.size, 0, none⟩ 1 1 [.int .i64 x, .string t] (by rfl) (by rfl) (World.news_of_block (cs := #[.int .i64 x, .string t]) (t := 121) (fr := (0, 0)) (heap_alloc_new w8 _)) (by simp [Value.oneCell']) (by omega) hjm (by omega) (by simp; omega) (w8.heap.size + 1) (by simp) ?_; intro g cap w9 hown9 hgrow9 hat9 hlt9; have HY9 := hide (grown_box ((unhide HY8).below (below_new w8 (Obj.cells #[Value.int .i64 x, Value.string t] 121))) hgrow9 hne); have t0 := (unhide HY9).cells.2; have tf := (unhide HY9).froz 1))
  all_goals
    have hgb : g ≠ w6.heap.size := by
      rcases hat9 with h | h
      · exact fun e => hne (by rw [h, e])
      · omega
    have hg3 := (hown9.lt g rfl).1
    have hrow : ∀ k, (Value.slice A1 n' C1).ownBlock = some k → w5.heap.size ≤ k ∧ k < w6.heap.size := fun k hk => unhide HBL k ⟨_, _, rfl, .inr hk⟩
    have hz9 := (Kept.of_grown hgrow9).own (own_below (unhide HZ8) (below_new w8 (Obj.cells #[Value.int .i64 x, Value.string t] 121))) (fun k hk e => by
      rcases unhide HNE with h | h
      · exact h (hk.trans e.symm)
      · rw [h] at hk; cases hk)
    have hr9 := grown_box ((unhide HR8).below (below_new w8 (Obj.cells #[Value.int .i64 x, Value.string t] 121))) hgrow9 (fun e => by have := hrow _ e; omega)
    have HYA := hide ((unhide HY9).one (.slice (some ⟨g, 0, none⟩) (n' + 1) cap))
    have hkA : Kept (fun k => k = w6.heap.size) w9 (w9.setCell ⟨w6.heap.size, 1, none⟩ (.slice (some ⟨g, 0, none⟩) (n' + 1) cap)) := Kept.set _ _ _ _ rfl
    have HRA := hide (hr9.kept hkA (by omega))
    have HOA := hide (hkA.own hown9 (fun k hk e => by simp [Value.ownBlock] at hk; omega))
    have HZA := hide (hkA.own hz9 (fun k hk e => by have := unhide HBL k ⟨_, _, rfl, .inl hk⟩; omega))
    have HCA : Hid (Below w.heap.size w (w9.setCell ⟨w6.heap.size, 1, none⟩ (.slice (some ⟨g, 0, none⟩) (n' + 1) cap))) := ((hc8.alloc hc8.size _).grown hgrow9 (by simp; omega) (fun k hk => by have := hrow k hk; omega)).setCell (p := ⟨w6.heap.size, 1, none⟩) (by simp; omega) _
    have HG9 : Hid ((Value.slice A0 n C0).ownBlock ≠ some g ∨ (Value.slice A0 n C0).ownBlock = none) := by
      show _ ∨ _
      rcases unhide HNE with h | h
      · rcases hat9 with h9 | h9
        · exact .inl (by rw [← h9]; exact h)
        · exact .inl (fun e => by have := unhide HBL _ ⟨_, _, rfl, .inl e⟩; omega)
      · exact .inr h
    obtain ⟨WA, hWA⟩ : ∃ W, W = w9.setCell ⟨w6.heap.size, 1, none⟩ (.slice (some ⟨g, 0, none⟩) (n' + 1) cap) := ⟨_, rfl⟩
    rw [← hWA] at HYA HRA HOA HZA HCA ⊢
    obtain ⟨z0, z1⟩ := (unhide HYA).cells
    obtain ⟨q0, q1⟩ := (unhide HRA).cells
    have f0 := (unhide HRA).froz 0
    have f1 := (unhide HRA).froz 1
    have hlr := (unhide HRA).lt
    clear hWA hkA hown9 hz9 hr9 hgrow9 hat9 hown8 HZ8 HY8 HR8 HY9 s0 s1 t0 tf y0 y1 u0 u1 hb8 hc8 hne hrow HOD HZD HO7 HZ7 HY7 HR7 HP7 hc7
    go_wp2
    (try simp only [Exit.inBlock, Exit.then])
    refine bodyPost_ret (results_box Tryz.results62 _ _ (w.heap.size + 1) _ _ rfl ((unhide HRA).two _ _)) rfl ?_
    have hne0 : (Value.slice A0 n C0).ownBlock ≠ some (w.heap.size + 1) := fun e => by have := unhide HBL _ ⟨_, _, rfl, .inl e⟩; omega
    have hne1 : (Value.slice (some ⟨g, 0, none⟩) (n' + 1) cap).ownBlock ≠ some (w.heap.size + 1) := fun e => by simp [Value.ownBlock] at e; omega
    refine ⟨⟨_, rfl, _, _, rfl, ?_, ?_, ?_⟩, ((unhide HCA).setCell (p := ⟨w.heap.size + 1, 0, none⟩) (by simp) _).setCell (p := ⟨w.heap.size + 1, 1, none⟩) (by simp) _⟩
    · rw [← unhide HN]
      exact own_lower (by omega) (ownsRow_setCell_other (a := ⟨w.heap.size + 1, 1, none⟩) (ownsRow_setCell_other (a := ⟨w.heap.size + 1, 0, none⟩) (unhide HZA) hne0 _) hne0 _)
    · have hl : (Q ++ [(x, t)]).length = n' + 1 := by simp; exact (unhide HN').symm
      rw [hl, putsV_snoc]
      exact own_lower (by omega) (ownsRow_setCell_other (a := ⟨w.heap.size + 1, 1, none⟩) (ownsRow_setCell_other (a := ⟨w.heap.size + 1, 0, none⟩) (unhide HOA) hne1 _) hne1 _)
    · exact unhide HG9

theorem implWrite_any (v : Value) (B : Nat) (L : List ByteArray) (Q : List (Int × ByteArray)) (x : Int) (t : ByteArray) (h1 : L.length ≤ 1048576) (h2 : Q.length ≤ 1048576) (hm : ∀ s ∈ L, s.size ≤ 9223372036854775807) (w : World) (hB : B ≤ w.heap.size) (hv : DevAt w v B L Q) :
    Calls Tryz.prog 62 #[v, .int .i64 x, .string t] w fun e w' => DevPost w (wrL L Q x t) (wrQ L Q x t) (wrOk L Q x t) e w' := by
  unfold wrL wrQ
  cases h : wrOk L Q x t
  · exact implWrite_no v B L Q x t h h1 h2 hm w hB hv
  · exact implWrite_yes v B L Q x t h w hB hv
end Go.Proofs.YtjhnippfepbjmaaGreatDoor
