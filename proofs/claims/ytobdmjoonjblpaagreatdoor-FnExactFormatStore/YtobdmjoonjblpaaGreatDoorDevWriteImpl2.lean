/-
  The contract of impl.WriteSector, where the write is right.
-/
import Derived.Test.YtobdmjoonjblpaaGreatDoorDevWriteImpl
namespace Go.Proofs.YtobdmjoonjblpaaGreatDoor
open Go.RowKit

set_option maxRecDepth 100000 in
set_option maxHeartbeats 2000000 in
theorem implWrite_yes (v : Value) (B : Nat) (L : List ByteArray) (Q : List (Int × ByteArray)) (x : Int) (t : ByteArray) (hyes : wrOk L Q x t = true) (w : World) (hB : B ≤ w.heap.size) (hv : DevAt w v B L Q) :
    Calls Tryz.prog 45 #[v, .int .i64 x, .string t] w fun e w' => DevPost w L (Q ++ [(x, t)]) true e w' := by
  unfold wrOk at hyes
  simp only [Bool.and_eq_true, Bool.not_eq_true', decide_eq_false_iff_not] at hyes
  obtain ⟨hok, hput, h400⟩ := hyes
  have hds := devOk_sec hok
  have hts : t.size ≤ 64 := by have h := hput; unfold putOk at h; simp at h; omega
  have OK := hide (fun w1 (hb : Below w.heap.size w w1) => implDev_any v B L Q (by omega) (by omega) (fun s hs => by have := hds.2.2.2.1 s hs; omega) w1 (by have := hb.size; omega) (hv.below hb hB))
  rw [hok] at OK
  have PT := hide (fun w => isPutTo_any L.length x t w)
  rw [hput] at PT
  have CD := hide (fun w1 (hb : Below w.heap.size w w1) => copyDev_any v B L Q (by omega) (by omega) (fun s hs => by have := hds.2.2.2.1 s hs; omega) (fun q hq => by have := (hds.2.2.2.2 q hq).2.2; omega) w1 (by have := hb.size; omega) (hv.below hb hB))
  have HCP := hide (fun w => copyPut_any x t (by omega) w)
  obtain ⟨i1, hj1, hy0, hy1, hy2⟩ := info_parts infoPut
  obtain ⟨a, n, c, a', n', c', rfl, hL, hQ⟩ := hv
  obtain rfl : n = L.length := hL.1.symm
  obtain rfl : n' = Q.length := hQ.1.symm
  have h4 : ((Q.length : Int) == 400) = false := by simp; omega
  have hn4 : L.length ≤ 400 := hds.1
  have hn4' : Q.length ≤ 400 := hds.2.1
  clear hL hQ hds hok hput h400 hts
  obtain ⟨n, hn⟩ : ∃ n, n = L.length := ⟨_, rfl⟩
  obtain ⟨n', hn'⟩ : ∃ n, n = Q.length := ⟨_, rfl⟩
  have HN := hide hn
  have HN' := hide hn'
  rw [← hn] at OK PT CD hn4
  rw [← hn'] at OK CD hn4' h4
  rw [← hn, ← hn']
  clear hn hn'
  go_enter Tryz.func45, Tryz.ntmps45
  go_wp2_with fail
  obtain ⟨W3, hW3⟩ : ∃ W, W = ((w.alloc (Obj.cells #[Value.slice a n c, Value.slice a' n' c'] 25)).alloc (Obj.cells #[Value.slice none 0 0, Value.slice none 0 0] 25)).alloc (Obj.cells #[Value.int .i64 x, Value.string t] 134) := ⟨_, rfl⟩
  rw [← hW3]
  have hb3 : Below w.heap.size w W3 := by rw [hW3]; exact (((Below.refl _ _).alloc (Nat.le_refl _) _).alloc (by simp) _).alloc (by simp; omega) _
  have hs3 : W3.heap.size = w.heap.size + 3 := by rw [hW3]; simp
  have HX3 : Hid (Box W3 w.heap.size (Value.slice a n c) (Value.slice a' n' c')) := by show Box _ _ _ _; rw [hW3]; exact ((Box.new _ _ _).below (below_new _ _)).below (below_new _ _)
  have HR3 : Hid (Box W3 (w.heap.size + 1) (Value.slice none 0 0) (Value.slice none 0 0)) := by
    show Box _ _ _ _
    have h := (Box.new (w.alloc (Obj.cells #[Value.slice a n c, Value.slice a' n' c'] 25)) (Value.slice none 0 0) (Value.slice none 0 0)).below (below_new _ (Obj.cells #[Value.int .i64 x, Value.string t] 134))
    rw [hW3]
    simpa using h
  have HP3 : Hid (W3.heap[w.heap.size + 1 + 1]? = some (.cells #[Value.int .i64 x, Value.string t] 134 (0, 0))) := by
    show _ = _
    have h := heap_alloc_new ((w.alloc (Obj.cells #[Value.slice a n c, Value.slice a' n' c'] 25)).alloc (Obj.cells #[Value.slice none 0 0, Value.slice none 0 0] 25)) (Obj.cells #[Value.int .i64 x, Value.string t] 134)
    rw [hW3]
    simpa using h
  clear hW3
  refine (unhide OK W3 hb3).mono ?_
  rintro e w4 ⟨rfl, hb4⟩
  have HX4 := hide ((unhide HX3).below hb4)
  have HR4 := hide ((unhide HR3).below hb4)
  have HP4 : Hid (w4.heap[w.heap.size + 1 + 1]? = some (.cells #[Value.int .i64 x, Value.string t] 134 (0, 0))) := by show _ = _; rw [hb4.block _ (by omega)]; exact unhide HP3
  have hc4 : Below w.heap.size w w4 := hb3.trans (hb4.mono hb3.size)
  have hs4 := hb4.size
  obtain ⟨p0, p1⟩ := (unhide HX4).cells
  obtain ⟨r0, r1, _⟩ := cells_of_two (unhide HP4)
  clear hb4 hb3 HX3 HR3 HP3
  go_wp2_with fail
  refine (unhide PT _).mono ?_
  rintro e w5 ⟨rfl, hb5⟩
  have HX5 := hide ((unhide HX4).below hb5)
  have HR5 := hide ((unhide HR4).below hb5)
  have HP5 : Hid (w5.heap[w.heap.size + 1 + 1]? = some (.cells #[Value.int .i64 x, Value.string t] 134 (0, 0))) := by show _ = _; rw [hb5.block _ (by omega)]; exact unhide HP4
  have hc5 : Below w.heap.size w w5 := hc4.trans (hb5.mono hc4.size)
  have hs5 := hb5.size
  clear hb5 p0 p1 r0 r1 HX4 HR4 HP4 hc4
  obtain ⟨p0, p1⟩ := (unhide HX5).cells
  go_wp2_with fail
  refine (unhide CD w5 hc5).mono ?_
  rintro e w6 ⟨⟨d, rfl, ho6⟩, hb6⟩
  have HR6 := hide ((unhide HR5).below hb6)
  have HP6 : Hid (w6.heap[w.heap.size + 1 + 1]? = some (.cells #[Value.int .i64 x, Value.string t] 134 (0, 0))) := by show _ = _; rw [hb6.block _ (by omega)]; exact unhide HP5
  have hc6 : Below w.heap.size w w6 := hc5.trans (hb6.mono hc5.size)
  have hs6 := hb6.size
  have hblk := ho6.blk
  obtain ⟨v0, v1, rfl, ho60, ho61, hne01⟩ := ho6
  obtain ⟨A0, C0, rfl, _⟩ := StrsAt.of_own ho60
  obtain ⟨A1, C1, rfl, _⟩ := PutsAt.of_own ho61
  rw [← unhide HN] at ho60 hblk hne01 ⊢
  rw [← unhide HN'] at ho61 hblk hne01 ⊢
  have HNE := hide hne01
  have HBL := hide hblk
  have HO0 := hide ho60
  have HO1 := hide ho61
  clear hb6 ho60 ho61 hne01 hblk HX5 HR5 HP5 p0 p1 hc5
  go_wp2_with fail
  obtain ⟨W7, hW7⟩ : ∃ W, W = w6.alloc (Obj.cells #[Value.slice A0 n C0, Value.slice A1 n' C1] 25) := ⟨_, rfl⟩
  rw [← hW7]
  have hb7 : Below w6.heap.size w6 W7 := by rw [hW7]; exact below_new _ _
  have hs7 : W7.heap.size = w6.heap.size + 1 := by rw [hW7]; simp
  have HY7 : Hid (Box W7 w6.heap.size (Value.slice A0 n C0) (Value.slice A1 n' C1)) := by show Box _ _ _ _; rw [hW7]; exact Box.new _ _ _
  have HR7 := hide ((unhide HR6).below hb7)
  have HP7 : Hid (W7.heap[w.heap.size + 1 + 1]? = some (.cells #[Value.int .i64 x, Value.string t] 134 (0, 0))) := by show _ = _; rw [hb7.block _ (by omega)]; exact unhide HP6
  have HO7 := hide (own_below (unhide HO1) hb7)
  have HZ7 := hide (own_below (unhide HO0) hb7)
  have hc7 : Below w.heap.size w W7 := hc6.trans (hb7.mono hc6.size)
  clear hW7 hb7 HR6 HP6 HO0 HO1 hc6
  obtain ⟨y0, y1⟩ := (unhide HY7).cells
  obtain ⟨u0, u1, _⟩ := cells_of_two (unhide HP7)
  have HOD := hide ((unhide HO7).drew)
  have HZD := hide ((unhide HZ7).drew)
  have hlt1 := (unhide HY7).lt
  have hne : (Value.slice A1 n' C1).ownBlock ≠ some w6.heap.size := fun e => by have := unhide HBL _ ⟨_, _, rfl, .inr e⟩; omega
  have hjm : n' + 1 ≤ maxLen := by unfold maxLen; omega
  go_region_law
    (first
      | (refine step_call (by rfl) 94 _ _ (by rfl) #[.agg #[.int .i64 x, .string t]] (by first | rfl | (simp [Act.eval]; done)) enterCopyPut _ (unhide HCP _) ?_; rintro e w8 ⟨rfl, hb8⟩; refine ⟨_, rfl, ?_⟩; have hown8 := own_below (unhide HOD) hb8; have HZ8 := hide (own_below (unhide HZD) hb8); have HY8 := hide ((unhide HY7).below' (B := W7.heap.size) ((Below.refl _ _).drew.trans hb8) hlt1); have s0 := (unhide HY8).cells.2; have hlt2 := (unhide HY8).lt; have s1 := ((below_new w8 (Obj.cells #[Value.int .i64 x, Value.string t] 134)).cell (p := ⟨w6.heap.size, 1, none⟩) hlt2).trans s0; have hc8 : Below w.heap.size w w8 := hc7.drew.trans (hb8.mono hc7.size); have HR8 := hide ((unhide HR7).below' (B := W7.heap.size) ((Below.refl _ _).drew.trans hb8) (unhide HR7).lt); have hsz8 : W7.heap.size ≤ w8.heap.size := hb8.size)
      | (refine step_append_lies _ (by rfl) _ _ _ (by rfl) w5.heap.size 134 i1 _ 2 24 Tryz.underlying23 hj1 hy0 hy1 hy2 rfl (by omega) (.slice A1 n' C1) n' (putsV Q) (by rfl) (by first | exact hown8.alloc _ | exact (hown8.alloc _).drew) ⟨w8.heap.size, 0, none⟩ 1 1 [.int .i64 x, .string t] (by rfl) (by rfl) (World.news_of_block (cs := #[.int .i64 x, .string t]) (t := 134) (fr := (0, 0)) (heap_alloc_new w8 _)) (by simp [Value.oneCell']) (by omega) hjm (by omega) (by simp; omega) (w8.heap.size + 1) (by simp) ?_; intro g cap w9 hown9 hgrow9 hat9 hlt9; have HY9 := hide (grown_box ((unhide HY8).below (below_new w8 (Obj.cells #[Value.int .i64 x, Value.string t] 134))) hgrow9 hne); have t0 := (unhide HY9).cells.2; have tf := (unhide HY9).froz 1))
  all_goals
    have hgb : g ≠ w6.heap.size := by
      rcases hat9 with h | h
      · exact fun e => hne (by rw [h, e])
      · omega
    have hg3 := (hown9.lt g rfl).1
    have hrow : ∀ k, (Value.slice A1 n' C1).ownBlock = some k → w5.heap.size ≤ k ∧ k < w6.heap.size := fun k hk => unhide HBL k ⟨_, _, rfl, .inr hk⟩
    have hz9 := (Kept.of_grown hgrow9).own (own_below (unhide HZ8) (below_new w8 (Obj.cells #[Value.int .i64 x, Value.string t] 134))) (fun k hk e => by
      rcases unhide HNE with h | h
      · exact h (hk.trans e.symm)
      · rw [h] at hk; cases hk)
    have hr9 := grown_box ((unhide HR8).below (below_new w8 (Obj.cells #[Value.int .i64 x, Value.string t] 134))) hgrow9 (fun e => by have := hrow _ e; omega)
    have HYA := hide ((unhide HY9).one (.slice (some ⟨g, 0, none⟩) (n' + 1) cap))
    have hkA : Kept (fun k => k = w6.heap.size) w9 (w9.setCell ⟨w6.heap.size, 1, none⟩ (.slice (some ⟨g, 0, none⟩) (n' + 1) cap)) := Kept.set _ _ _ _ rfl
    have HRA := hide (hr9.kept hkA (by omega))
    have HOA := hide (hkA.own hown9 (fun k hk e => by simp [Value.ownBlock] at hk; omega))
    have HZA := hide (hkA.own hz9 (fun k hk e => by have := unhide HBL k ⟨_, _, rfl, .inl hk⟩; omega))
    have HCA : Hid (Below w.heap.size w (w9.setCell ⟨w6.heap.size, 1, none⟩ (.slice (some ⟨g, 0, none⟩) (n' + 1) cap))) := ((hc8.alloc hc8.size _).grown hgrow9 (by simp; omega) (fun k hk => by have := hrow k hk; omega)).setCell (p := ⟨w6.heap.size, 1, none⟩) (by simp; omega) _
    have HG9 : Hid ((Value.slice A0 n C0).ownBlock ≠ some g ∨ (Value.slice A0 n C0).ownBlock = none) := by
      show _ ∨ _
      rcases unhide HNE with h | h
      · rcases hat9 with h9 | h9
        · exact .inl (by rw [← h9]; exact h)
        · exact .inl (fun e => by have := unhide HBL _ ⟨_, _, rfl, .inl e⟩; omega)
      · exact .inr h
    obtain ⟨WA, hWA⟩ : ∃ W, W = w9.setCell ⟨w6.heap.size, 1, none⟩ (.slice (some ⟨g, 0, none⟩) (n' + 1) cap) := ⟨_, rfl⟩
    rw [← hWA] at HYA HRA HOA HZA HCA ⊢
    obtain ⟨z0, z1⟩ := (unhide HYA).cells
    obtain ⟨q0, q1⟩ := (unhide HRA).cells
    have f0 := (unhide HRA).froz 0
    have f1 := (unhide HRA).froz 1
    have hlr := (unhide HRA).lt
    clear hWA hkA hown9 hz9 hr9 hgrow9 hat9 hown8 HZ8 HY8 HR8 HY9 s0 s1 t0 tf y0 y1 u0 u1 hb8 hc8 hne hrow HOD HZD HO7 HZ7 HY7 HR7 HP7 hc7
    go_wp2
    (try simp only [Exit.inBlock, Exit.then])
    refine bodyPost_ret (results_box Tryz.results45 _ _ (w.heap.size + 1) _ _ rfl ((unhide HRA).two _ _)) rfl ?_
    have hne0 : (Value.slice A0 n C0).ownBlock ≠ some (w.heap.size + 1) := fun e => by have := unhide HBL _ ⟨_, _, rfl, .inl e⟩; omega
    have hne1 : (Value.slice (some ⟨g, 0, none⟩) (n' + 1) cap).ownBlock ≠ some (w.heap.size + 1) := fun e => by simp [Value.ownBlock] at e; omega
    refine ⟨⟨_, rfl, _, _, rfl, ?_, ?_, ?_⟩, ((unhide HCA).setCell (p := ⟨w.heap.size + 1, 0, none⟩) (by simp) _).setCell (p := ⟨w.heap.size + 1, 1, none⟩) (by simp) _⟩
    · rw [← unhide HN]
      exact own_lower (by omega) (ownsRow_setCell_other (a := ⟨w.heap.size + 1, 1, none⟩) (ownsRow_setCell_other (a := ⟨w.heap.size + 1, 0, none⟩) (unhide HZA) hne0 _) hne0 _)
    · have hl : (Q ++ [(x, t)]).length = n' + 1 := by simp; exact (unhide HN').symm
      rw [hl, putsV_snoc]
      exact own_lower (by omega) (ownsRow_setCell_other (a := ⟨w.heap.size + 1, 1, none⟩) (ownsRow_setCell_other (a := ⟨w.heap.size + 1, 0, none⟩) (unhide HOA) hne1 _) hne1 _)
    · exact unhide HG9

theorem implWrite_any (v : Value) (B : Nat) (L : List ByteArray) (Q : List (Int × ByteArray)) (x : Int) (t : ByteArray) (h1 : L.length ≤ 1048576) (h2 : Q.length ≤ 1048576) (hm : ∀ s ∈ L, s.size ≤ 9223372036854775807) (w : World) (hB : B ≤ w.heap.size) (hv : DevAt w v B L Q) :
    Calls Tryz.prog 45 #[v, .int .i64 x, .string t] w fun e w' => DevPost w (wrL L Q x t) (wrQ L Q x t) (wrOk L Q x t) e w' := by
  unfold wrL wrQ
  cases h : wrOk L Q x t
  · exact implWrite_no v B L Q x t h h1 h2 hm w hB hv
  · exact implWrite_yes v B L Q x t h w hB hv
end Go.Proofs.YtobdmjoonjblpaaGreatDoor
