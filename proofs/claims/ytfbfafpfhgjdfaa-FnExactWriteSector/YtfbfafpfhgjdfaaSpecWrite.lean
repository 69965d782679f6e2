/-
  The contract of spec.WriteSector.
-/
import Derived.Test.YtfbfafpfhgjdfaaSpecCopy
import Derived.Test.YtfbfafpfhgjdfaaDevWriteImpl2
namespace Go.Proofs.Ytfbfafpfhgjdfaa
open Go.RowKit

set_option maxRecDepth 100000 in
set_option maxHeartbeats 2000000 in
theorem specWrite_no (v : Value) (B : Nat) (L : List ByteArray) (Q : List (Int × ByteArray)) (x : Int) (t : ByteArray) (hno : wrOk L Q x t = false) (h1 : L.length ≤ 1048576) (h2 : Q.length ≤ 1048576) (hm : ∀ s ∈ L, s.size ≤ 9223372036854775807) (w : World) (hB : B ≤ w.heap.size) (hv : DevAt w v B L Q) :
    Calls Try.prog 39 #[v, .int .i64 x, .string t] w fun e w' => DevPost w [] [] false e w' := by
  have OK := hide (fun w1 (hb : Below w.heap.size w w1) => specDev_any v B L Q h1 h2 hm w1 (by have := hb.size; omega) (hv.below hb hB))
  obtain ⟨a, n, c, a', n', c', rfl, hL, hQ⟩ := hv
  obtain rfl : n = L.length := hL.1.symm
  obtain rfl : n' = Q.length := hQ.1.symm
  have PT := hide (fun w => specPut_any a a' L.length c Q.length c' x t h1 w)
  clear hL hQ hm
  have hcase : devOk L Q = false ∨ (devOk L Q = true ∧ putOk L.length x t = false) ∨ (devOk L Q = true ∧ putOk L.length x t = true ∧ ((Q.length : Int) == 400) = true) := by
    unfold wrOk at hno
    cases hd : devOk L Q
    · exact .inl rfl
    · rw [hd] at hno
      cases hp : putOk L.length x t
      · exact .inr (.inl ⟨rfl, rfl⟩)
      · refine .inr (.inr ⟨rfl, rfl, ?_⟩)
        rw [hp] at hno
        simp at hno
        simp [hno]
  clear hno
  generalize devOk L Q = dk at OK hcase
  generalize putOk L.length x t = pk at PT hcase
  generalize L.length = n at OK PT h1
  generalize Q.length = n' at OK PT h2 hcase
  go_enter Try.func39, Try.ntmps39
  go_wp2_with fail
  obtain ⟨W3, hW3⟩ : ∃ W, W = ((w.alloc (Obj.cells #[Value.slice a n c, Value.slice a' n' c'] 27)).alloc (Obj.cells #[Value.slice none 0 0, Value.slice none 0 0] 27)).alloc (Obj.cells #[Value.int .i64 x, Value.string t] 66) := ⟨_, rfl⟩
  rw [← hW3]
  have hb3 : Below w.heap.size w W3 := by rw [hW3]; exact (((Below.refl _ _).alloc (Nat.le_refl _) _).alloc (by simp) _).alloc (by simp; omega) _
  have hs3 : W3.heap.size = w.heap.size + 3 := by rw [hW3]; simp
  have HX3 : Hid (Box W3 w.heap.size (Value.slice a n c) (Value.slice a' n' c')) := by show Box _ _ _ _; rw [hW3]; exact ((Box.new _ _ _).below (below_new _ _)).below (below_new _ _)
  have HR3 : Hid (Box W3 (w.heap.size + 1) (Value.slice none 0 0) (Value.slice none 0 0)) := by
    show Box _ _ _ _
    have h := (Box.new (w.alloc (Obj.cells #[Value.slice a n c, Value.slice a' n' c'] 27)) (Value.slice none 0 0) (Value.slice none 0 0)).below (below_new _ (Obj.cells #[Value.int .i64 x, Value.string t] 66))
    rw [hW3]
    simpa using h
  have HP3 : Hid (W3.heap[w.heap.size + 1 + 1]? = some (.cells #[Value.int .i64 x, Value.string t] 66 (0, 0))) := by
    show _ = _
    have h := heap_alloc_new ((w.alloc (Obj.cells #[Value.slice a n c, Value.slice a' n' c'] 27)).alloc (Obj.cells #[Value.slice none 0 0, Value.slice none 0 0] 27)) (Obj.cells #[Value.int .i64 x, Value.string t] 66)
    rw [hW3]
    simpa using h
  clear hW3
  refine (unhide OK W3 hb3).mono ?_
  rintro e w4 ⟨rfl, hb4⟩
  have HX4 := hide ((unhide HX3).below hb4)
  have HR4 := hide ((unhide HR3).below hb4)
  have HP4 : Hid (w4.heap[w.heap.size + 1 + 1]? = some (.cells #[Value.int .i64 x, Value.string t] 66 (0, 0))) := by show _ = _; rw [hb4.block _ (by omega)]; exact unhide HP3
  have hc4 : Below w.heap.size w w4 := hb3.trans (hb4.mono hb3.size)
  have hs4 := hb4.size
  obtain ⟨p0, p1⟩ := (unhide HX4).cells
  clear hb4 hb3 HX3 HR3 HP3
  rcases hcase with rfl | ⟨rfl, rfl⟩ | ⟨rfl, rfl, h4⟩
  · obtain ⟨q0, q1⟩ := (unhide HR4).cells
    have f0 := (unhide HR4).froz 0
    have f1 := (unhide HR4).froz 1
    go_wp2
    (try simp only [Exit.inBlock, Exit.then])
    refine bodyPost_ret (results_box Try.results39 _ _ (w.heap.size + 1) _ _ rfl ((unhide HR4).two _ _)) rfl ?_
    exact ⟨⟨_, rfl, devNil _ _⟩, (hc4.setCell (p := ⟨w.heap.size + 1, 0, none⟩) (by simp) _).setCell (p := ⟨w.heap.size + 1, 1, none⟩) (by simp) _⟩
  · obtain ⟨r0, r1, _⟩ := cells_of_two (unhide HP4)
    go_wp2_with fail
    refine (unhide PT _).mono ?_
    rintro e w5 ⟨rfl, hb5⟩
    have HR5 := hide ((unhide HR4).below hb5)
    have hx5 := (unhide HX4).below hb5
    have hc5 : Below w.heap.size w w5 := hc4.trans (hb5.mono hc4.size)
    clear hb5 r0 r1 p0 p1
    obtain ⟨p0, p1⟩ := hx5.cells
    clear hx5
    obtain ⟨q0, q1⟩ := (unhide HR5).cells
    have f0 := (unhide HR5).froz 0
    have f1 := (unhide HR5).froz 1
    go_wp2
    (try simp only [Exit.inBlock, Exit.then])
    refine bodyPost_ret (results_box Try.results39 _ _ (w.heap.size + 1) _ _ rfl ((unhide HR5).two _ _)) rfl ?_
    exact ⟨⟨_, rfl, devNil _ _⟩, (hc5.setCell (p := ⟨w.heap.size + 1, 0, none⟩) (by simp) _).setCell (p := ⟨w.heap.size + 1, 1, none⟩) (by simp) _⟩
  · obtain ⟨r0, r1, _⟩ := cells_of_two (unhide HP4)
    go_wp2_with fail
    refine (unhide PT _).mono ?_
    rintro e w5 ⟨rfl, hb5⟩
    have HR5 := hide ((unhide HR4).below hb5)
    have hx5 := (unhide HX4).below hb5
    have hc5 : Below w.heap.size w w5 := hc4.trans (hb5.mono hc4.size)
    clear hb5 r0 r1 p0 p1
    obtain ⟨p0, p1⟩ := hx5.cells
    clear hx5
    obtain ⟨q0, q1⟩ := (unhide HR5).cells
    have f0 := (unhide HR5).froz 0
    have f1 := (unhide HR5).froz 1
    go_wp2
    (try simp only [Exit.inBlock, Exit.then])
    refine bodyPost_ret (results_box Try.results39 _ _ (w.heap.size + 1) _ _ rfl ((unhide HR5).two _ _)) rfl ?_
    exact ⟨⟨_, rfl, devNil _ _⟩, (hc5.setCell (p := ⟨w.heap.size + 1, 0, none⟩) (by simp) _).setCell (p := ⟨w.heap.size + 1, 1, none⟩) (by simp) _⟩

set_option maxRecDepth 100000 in
set_option maxHeartbeats 2000000 in
theorem specWrite_yes (v : Value) (B : Nat) (L : List ByteArray) (Q : List (Int × ByteArray)) (x : Int) (t : ByteArray) (hyes : wrOk L Q x t = true) (w : World) (ho : DevOwn w B v L Q) :
    Calls Try.prog 39 #[v, .int .i64 x, .string t] w fun e w' => DevPost w L (Q ++ [(x, t)]) true e w' := by
  unfold wrOk at hyes
  simp only [Bool.and_eq_true, Bool.not_eq_true', decide_eq_false_iff_not] at hyes
  obtain ⟨hok, hput, h400⟩ := hyes
  have hds := devOk_sec hok
  have hv := ho.at
  have hB : w.heap.size ≤ w.heap.size := Nat.le_refl _
  have hts : t.size ≤ 64 := by have h := hput; unfold putOk at h; simp at h; omega
  have OK := hide (fun w1 (hb : Below w.heap.size w w1) => specDev_any v w.heap.size L Q (by omega) (by omega) (fun s hs => by have := hds.2.2.2.1 s hs; omega) w1 (by have := hb.size; omega) (hv.below hb hB))
  rw [hok] at OK
  have CD := hide (fun w1 (hb : Below w.heap.size w w1) => specCopy_any v B L Q (by omega) (by omega) w1 (ho.below hb))
  obtain ⟨i1, hj1, hy0, hy1, hy2⟩ := info_parts infoPut
  obtain ⟨a, n, c, a', n', c', rfl, hL, hQ⟩ := hv
  obtain rfl : n = L.length := hL.1.symm
  obtain rfl : n' = Q.length := hQ.1.symm
  have PT := hide (fun w => specPut_any a a' L.length c Q.length c' x t (by omega) w)
  rw [hput] at PT
  have h4 : ((Q.length : Int) == 400) = false := by simp; omega
  have hn4 : L.length ≤ 400 := hds.1
  have hn4' : Q.length ≤ 400 := hds.2.1
  clear hL hQ hds hok hput h400 hts ho hB
  obtain ⟨n, hn⟩ : ∃ n, n = L.length := ⟨_, rfl⟩
  obtain ⟨n', hn'⟩ : ∃ n, n = Q.length := ⟨_, rfl⟩
  have HN := hide hn
  have HN' := hide hn'
  rw [← hn] at OK PT CD hn4
  rw [← hn'] at OK PT CD hn4' h4
  rw [← hn, ← hn']
  clear hn hn'
  go_enter Try.func39, Try.ntmps39
  go_wp2_with fail
  obtain ⟨W3, hW3⟩ : ∃ W, W = ((w.alloc (Obj.cells #[Value.slice a n c, Value.slice a' n' c'] 27)).alloc (Obj.cells #[Value.slice none 0 0, Value.slice none 0 0] 27)).alloc (Obj.cells #[Value.int .i64 x, Value.string t] 66) := ⟨_, rfl⟩
  rw [← hW3]
  have hb3 : Below w.heap.size w W3 := by rw [hW3]; exact (((Below.refl _ _).alloc (Nat.le_refl _) _).alloc (by simp) _).alloc (by simp; omega) _
  have hs3 : W3.heap.size = w.heap.size + 3 := by rw [hW3]; simp
  have HX3 : Hid (Box W3 w.heap.size (Value.slice a n c) (Value.slice a' n' c')) := by show Box _ _ _ _; rw [hW3]; exact ((Box.new _ _ _).below (below_new _ _)).below (below_new _ _)
  have HR3 : Hid (Box W3 (w.heap.size + 1) (Value.slice none 0 0) (Value.slice none 0 0)) := by
    show Box _ _ _ _
    have h := (Box.new (w.alloc (Obj.cells #[Value.slice a n c, Value.slice a' n' c'] 27)) (Value.slice none 0 0) (Value.slice none 0 0)).below (below_new _ (Obj.cells #[Value.int .i64 x, Value.string t] 66))
    rw [hW3]
    simpa using h
  have HP3 : Hid (W3.heap[w.heap.size + 1 + 1]? = some (.cells #[Value.int .i64 x, Value.string t] 66 (0, 0))) := by
    show _ = _
    have h := heap_alloc_new ((w.alloc (Obj.cells #[Value.slice a n c, Value.slice a' n' c'] 27)).alloc (Obj.cells #[Value.slice none 0 0, Value.slice none 0 0] 27)) (Obj.cells #[Value.int .i64 x, Value.string t] 66)
    rw [hW3]
    simpa using h
  clear hW3
  refine (unhide OK W3 hb3).mono ?_
  rintro e w4 ⟨rfl, hb4⟩
  have HX4 := hide ((unhide HX3).below hb4)
  have HR4 := hide ((unhide HR3).below hb4)
  have HP4 : Hid (w4.heap[w.heap.size + 1 + 1]? = some (.cells #[Value.int .i64 x, Value.string t] 66 (0, 0))) := by show _ = _; rw [hb4.block _ (by omega)]; exact unhide HP3
  have hc4 : Below w.heap.size w w4 := hb3.trans (hb4.mono hb3.size)
  have hs4 := hb4.size
  obtain ⟨p0, p1⟩ := (unhide HX4).cells
  obtain ⟨r0, r1, _⟩ := cells_of_two (unhide HP4)
  clear hb4 hb3 HX3 HR3 HP3
  go_wp2_with fail
  refine (unhide PT _).mono ?_
  rintro e w5 ⟨rfl, hb5⟩
  have HX5 := hide ((unhide HX4).below hb5)
  have HR5 := hide ((unhide HR4).below hb5)
  have HP5 : Hid (w5.heap[w.heap.size + 1 + 1]? = some (.cells #[Value.int .i64 x, Value.string t] 66 (0, 0))) := by show _ = _; rw [hb5.block _ (by omega)]; exact unhide HP4
  have hc5 : Below w.heap.size w w5 := hc4.trans (hb5.mono hc4.size)
  have hs5 := hb5.size
  clear hb5 p0 p1 r0 r1 HX4 HR4 HP4 hc4
  obtain ⟨p0, p1⟩ := (unhide HX5).cells
  go_wp2_with fail
  refine (unhide CD w5 hc5).mono ?_
  rintro e w6 ⟨⟨d, rfl, ho6⟩, hb6⟩
  have HR6 := hide ((unhide HR5).below hb6)
  have HP6 : Hid (w6.heap[w.heap.size + 1 + 1]? = some (.cells #[Value.int .i64 x, Value.string t] 66 (0, 0))) := by show _ = _; rw [hb6.block _ (by omega)]; exact unhide HP5
  have hc6 : Below w.heap.size w w6 := hc5.trans (hb6.mono hc5.size)
  have hs6 := hb6.size
  have hblk := ho6.blk
  obtain ⟨v0, v1, rfl, ho60, ho61, hne01⟩ := ho6
  obtain ⟨A0, C0, rfl, _⟩ := StrsAt.of_own ho60
  obtain ⟨A1, C1, rfl, _⟩ := PutsAt.of_own ho61
  rw [← unhide HN] at ho60 hblk hne01 ⊢
  rw [← unhide HN'] at ho61 hblk hne01 ⊢
  have HNE := hide hne01
  have HBL := hide hblk
  have HO0 := hide ho60
  have HO1 := hide ho61
  clear hb6 ho60 ho61 hne01 hblk HX5 HR5 HP5 p0 p1 hc5
  obtain ⟨W7, hW7⟩ : ∃ W, W = w6.alloc (Obj.cells #[Value.slice A0 n C0, Value.slice A1 n' C1] 27) := ⟨_, rfl⟩
  have hb7 : Below w6.heap.size w6 W7 := by rw [hW7]; exact below_new _ _
  have hs7 : W7.heap.size = w6.heap.size + 1 := by rw [hW7]; simp
  have HY7 : Hid (Box W7 w6.heap.size (Value.slice A0 n C0) (Value.slice A1 n' C1)) := by show Box _ _ _ _; rw [hW7]; exact Box.new _ _ _
  have HR7 := hide ((unhide HR6).below hb7)
  have HP7 : Hid (W7.heap[w.heap.size + 1 + 1]? = some (.cells #[Value.int .i64 x, Value.string t] 66 (0, 0))) := by show _ = _; rw [hb7.block _ (by omega)]; exact unhide HP6
  have HO7 := hide (own_below (unhide HO1) hb7)
  have HZ7 := hide (own_below (unhide HO0) hb7)
  have hc7 : Below w.heap.size w W7 := hc6.trans (hb7.mono hc6.size)
  clear hb7 HR6 HP6 HO0 HO1 hc6
  obtain ⟨y0, y1⟩ := (unhide HY7).cells
  obtain ⟨u0, u1, _⟩ := cells_of_two (unhide HP7)
  have hne : (Value.slice A1 n' C1).ownBlock ≠ some w6.heap.size := fun e => by have := unhide HBL _ ⟨_, _, rfl, .inr e⟩; omega
  have hjm : n' + 1 ≤ maxLen := by unfold maxLen; omega
  have hown8 := unhide HO7
  have hnews : ∀ j u, [Value.int .i64 x, .string t][j]? = some u → ((w6.alloc (Obj.cells #[Value.slice A0 n C0, Value.slice A1 n' C1] 27)).alloc (Obj.cells #[Value.int .i64 x, Value.string t] 66)).cell? ((⟨w6.heap.size + 1, 0, none⟩ : Addr).add j) = some u := by
    have h := World.news_of_block (cs := #[Value.int .i64 x, Value.string t]) (t := 66) (fr := (0, 0)) (heap_alloc_new (w6.alloc (Obj.cells #[Value.slice A0 n C0, Value.slice A1 n' C1] 27)) (Obj.cells #[Value.int .i64 x, Value.string t] 66))
    simp only [World.size_alloc] at h
    exact h
  have HNW := hide hnews
  have HW7 := hide hW7
  rw [hW7] at u0 u1 hown8
  have HO8 := hide hown8
  clear hnews hW7 y0 y1 hown8
  go_wp2_with (at_builtin; refine wpList_append_lies _ rfl _ _ 25 rfl w5.heap.size 66 i1 (.agg #[.int .i64 0, .string ⟨#[]⟩]) 2 24 Try.underlying25 hj1 hy0 hy1 hy2 rfl (by decide) _ n' (putsV Q) rfl ((unhide HO8).alloc _) ⟨w6.heap.size + 1, 0, none⟩ 1 1 [.int .i64 x, .string t] rfl rfl (unhide HNW) (by simp [Value.oneCell']) (by omega) hjm (by omega) (by simp; omega) (w6.heap.size + 1 + 1) (by simp) ?_)
  intro g cap w9 hown9 hgrow9 hat9 hlt9
  rw [← unhide HW7] at hgrow9
  have HY9 := hide (grown_box ((unhide HY7).below (below_new W7 (Obj.cells #[Value.int .i64 x, Value.string t] 66))) hgrow9 hne)
  have t0 := (unhide HY9).cells.2
  have tf := (unhide HY9).froz 1
  have hgb : g ≠ w6.heap.size := by
    rcases hat9 with h | h
    · exact fun e => hne (by rw [h, e])
    · omega
  have hg3 := (hown9.lt g rfl).1
  have hrow : ∀ k, (Value.slice A1 n' C1).ownBlock = some k → w5.heap.size ≤ k ∧ k < w6.heap.size := fun k hk => unhide HBL k ⟨_, _, rfl, .inr hk⟩
  have hz9 := (Kept.of_grown hgrow9).own (own_below (unhide HZ7) (below_new W7 (Obj.cells #[Value.int .i64 x, Value.string t] 66))) (fun k hk e => by
    rcases unhide HNE with h | h
    · exact h (hk.trans e.symm)
    · rw [h] at hk; cases hk)
  have hr9 := grown_box ((unhide HR7).below (below_new W7 (Obj.cells #[Value.int .i64 x, Value.string t] 66))) hgrow9 (fun e => by have := hrow _ e; omega)
  have HYA := hide ((unhide HY9).one (.slice (some ⟨g, 0, none⟩) (n' + 1) cap))
  have hkA : Kept (fun k => k = w6.heap.size) w9 (w9.setCell ⟨w6.heap.size, 1, none⟩ (.slice (some ⟨g, 0, none⟩) (n' + 1) cap)) := Kept.set _ _ _ _ rfl
  have HRA := hide (hr9.kept hkA (by omega))
  have HOA := hide (hkA.own hown9 (fun k hk e => by simp [Value.ownBlock] at hk; omega))
  have HZA := hide (hkA.own hz9 (fun k hk e => by have := unhide HBL k ⟨_, _, rfl, .inl hk⟩; omega))
  have HCA : Hid (Below w.heap.size w (w9.setCell ⟨w6.heap.size, 1, none⟩ (.slice (some ⟨g, 0, none⟩) (n' + 1) cap))) := ((hc7.alloc hc7.size _).grown hgrow9 (by simp; omega) (fun k hk => by have := hrow k hk; omega)).setCell (p := ⟨w6.heap.size, 1, none⟩) (by simp; omega) _
  have HG9 : Hid ((Value.slice A0 n C0).ownBlock ≠ some g ∨ (Value.slice A0 n C0).ownBlock = none) := by
    show _ ∨ _
    rcases unhide HNE with h | h
    · rcases hat9 with h9 | h9
      · exact .inl (by rw [← h9]; exact h)
      · exact .inl (fun e => by have := unhide HBL _ ⟨_, _, rfl, .inl e⟩; omega)
    · exact .inr h
  have t00 := (unhide HY9).cells.1
  obtain ⟨q0, q1⟩ := hr9.cells
  have f0 := hr9.froz 0
  have f1 := hr9.froz 1
  have hd1 : w.heap.size + 1 ≠ w6.heap.size := by omega
  have hd2 : w6.heap.size ≠ w.heap.size + 1 := by omega
  clear hkA hown9 hz9 hr9 hgrow9 hat9 HY9 u0 u1 hne hrow HO7 HZ7 HY7 HR7 HP7 hc7 HO8 HNW HW7
  go_wp2
  (try simp only [Exit.inBlock, Exit.then])
  refine bodyPost_ret (results_box Try.results39 _ _ (w.heap.size + 1) _ _ rfl ((unhide HRA).two _ _)) rfl ?_
  have hne0 : (Value.slice A0 n C0).ownBlock ≠ some (w.heap.size + 1) := fun e => by have := unhide HBL _ ⟨_, _, rfl, .inl e⟩; omega
  have hne1 : (Value.slice (some ⟨g, 0, none⟩) (n' + 1) cap).ownBlock ≠ some (w.heap.size + 1) := fun e => by simp [Value.ownBlock] at e; omega
  refine ⟨⟨_, rfl, _, _, rfl, ?_, ?_, ?_⟩, ((unhide HCA).setCell (p := ⟨w.heap.size + 1, 0, none⟩) (by simp) _).setCell (p := ⟨w.heap.size + 1, 1, none⟩) (by simp) _⟩
  · rw [← unhide HN]
    exact own_lower (by omega) (ownsRow_setCell_other (a := ⟨w.heap.size + 1, 1, none⟩) (ownsRow_setCell_other (a := ⟨w.heap.size + 1, 0, none⟩) (unhide HZA) hne0 _) hne0 _)
  · have hl : (Q ++ [(x, t)]).length = n' + 1 := by simp; exact (unhide HN').symm
    rw [hl, putsV_snoc]
    exact own_lower (by omega) (ownsRow_setCell_other (a := ⟨w.heap.size + 1, 1, none⟩) (ownsRow_setCell_other (a := ⟨w.heap.size + 1, 0, none⟩) (unhide HOA) hne1 _) hne1 _)
  · exact unhide HG9

theorem specWrite_any (v : Value) (B : Nat) (L : List ByteArray) (Q : List (Int × ByteArray)) (x : Int) (t : ByteArray) (h1 : L.length ≤ 1048576) (h2 : Q.length ≤ 1048576) (hm : ∀ s ∈ L, s.size ≤ 9223372036854775807) (w : World) (ho : DevOwn w B v L Q) :
    Calls Try.prog 39 #[v, .int .i64 x, .string t] w fun e w' => DevPost w (wrL L Q x t) (wrQ L Q x t) (wrOk L Q x t) e w' := by
  unfold wrL wrQ
  cases h : wrOk L Q x t
  · exact specWrite_no v w.heap.size L Q x t h h1 h2 hm w (Nat.le_refl _) ho.at
  · exact specWrite_yes v B L Q x t h w ho
end Go.Proofs.Ytfbfafpfhgjdfaa
