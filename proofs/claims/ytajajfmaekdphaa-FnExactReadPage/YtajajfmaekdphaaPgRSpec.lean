/-
  The contract of spec.ReadPage.
-/
import Derived.Test.YtajajfmaekdphaaPgLists
import Derived.Test.YtajajfmaekdphaaPgSpec3
import Derived.Test.YtajajfmaekdphaaWShort
namespace Go.Proofs.Ytajajfmaekdphaa
open Go.RowKit

set_option maxRecDepth 100000 in
set_option maxHeartbeats 4000000 in
theorem specRP_in (text s : ByteArray) (h2 : 2 ≤ s.size) (hs : s.size ≤ 8000) (k : Int) (hk : k = ((s[0]'(by omega)).toNat : Int)) (n at0 : Nat) (r0 : Bool) (tot : Option (List It)) (_hn : n ≤ 1000000000) (hr1 : r0 = true → 1 ≤ at0 ∧ at0 ≤ s.size ∧ tot = itsA k s n at0) (hr0 : r0 = false → tot = none)
    (HU : Hid (∀ w, Calls Try.prog 46 #[.string text] w fun e w' => e = .returned (.tuple #[.string s, .bool true]) ∧ Below w.heap.size w w'))
    (HV : Hid (∀ w, Calls Try.prog 47 #[.string s, .int .i64 1] w fun e w' => e = .returned (.tuple #[.int .i64 (n : Int), .int .i64 (at0 : Int), .bool r0]) ∧ Below w.heap.size w w')) (w : World) :
    Calls Try.prog 18 #[.string text] w fun e w' => PagePost w (tot.bind (heldTo text k)) e w' := by
  obtain ⟨i1, hj1, hy0, hy1, hy2⟩ := info_parts infoItem
  have hs0 : (0 : Int) < (s.size : Int) := by omega
  have hs2 : ¬ (s.size : Int) < 2 := by omega
  have HR1 := hide hr1
  have HR0 := hide hr0
  have HK := hide hk
  have hkb : ((s[0]'(by omega)).toNat : Int) ≤ 255 := by have := UInt8.toNat_lt (s[0]'(by omega)); omega
  clear hr1 hr0 hk
  go_enter Try.func18, Try.ntmps18
  go_wp2_with fail
  obtain ⟨W1, hW1⟩ : ∃ W, W = w.alloc (Obj.cells #[Value.int .i64 0, Value.slice none 0 0] 26) := ⟨_, rfl⟩
  rw [← hW1]
  have hb1 : Below w.heap.size w W1 := by rw [hW1]; exact below_new _ _
  have HR : Hid (Box W1 w.heap.size (.int .i64 0) (.slice none 0 0)) := by show Box _ _ _ _; rw [hW1]; exact Box.new _ _ _
  clear hW1
  refine (unhide HU _).mono ?_
  rintro e w1 ⟨rfl, hbu⟩
  have HR := hide ((unhide HR).below hbu)
  have hRG : w.heap.size < w1.heap.size := (unhide HR).lt
  have hc1 : Below w.heap.size w w1 := hb1.trans (hbu.mono hb1.size)
  clear hb1 hbu
  go_wp2_with fail
  rw [← unhide HK]
  obtain ⟨W2, hW2⟩ : ∃ W, W = w1.alloc (Obj.cells #[Value.int .i64 k, Value.slice none 0 0] 26) := ⟨_, rfl⟩
  rw [← hW2]
  have hb2 : Below w1.heap.size w1 W2 := by rw [hW2]; exact below_new _ _
  have HG : Hid (Box W2 w1.heap.size (.int .i64 k) (.slice none 0 0)) := by show Box _ _ _ _; rw [hW2]; exact Box.new _ _ _
  have HR := hide ((unhide HR).below hb2)
  have hc2 : Below w.heap.size w W2 := hc1.trans (hb2.mono hc1.size)
  obtain ⟨G, hGe⟩ : ∃ G, G = w1.heap.size := ⟨_, rfl⟩
  rw [← hGe] at HG hRG ⊢
  clear hW2 hb2 hc1 hGe
  refine (unhide HV _).mono ?_
  rintro e w3 ⟨rfl, hb3⟩
  have HR := hide ((unhide HR).below hb3)
  have HG := hide ((unhide HG).below hb3)
  have HB := hide (hc2.trans (hb3.mono hc2.size))
  clear hb3 hc2
  go_wp2_with fail
  go_loopw [8, 9, 10] (fun a8 a9 a10 wr => ∃ (i at1 : Nat) (r : Bool) (L : List It) (A : Option Addr) (C : Nat), a8 = .int .i64 (at1 : Int) ∧ a9 = .bool r ∧ a10 = .int .i64 (i : Int) ∧ i ≤ n ∧ i ≤ 8000 ∧ L.length = i ∧
      (r = true → i + 1 ≤ at1 ∧ at1 ≤ s.size ∧ tot = (itsA k s (n - i) at1).map (L ++ ·)) ∧ (r = false → tot = none) ∧ Small L ∧
      Box wr G (.int .i64 k) (.slice A i C) ∧ wr.ownsRow (G + 1) 33 3 (.slice A i C) i (itsV L) ∧ Box wr w.heap.size (.int .i64 0) (.slice none 0 0) ∧ Below w.heap.size w wr) (fun _ _ a10 _ => n - (intOf a10).toNat)
  case atStart =>
    refine ⟨0, at0, r0, [], none, 0, rfl, rfl, rfl, Nat.zero_le _, Nat.zero_le _, rfl, fun h => ?_, unhide HR0, fun x hx => by simp at hx, unhide HG, ⟨rfl, .inl ⟨rfl, rfl⟩⟩, unhide HR, unhide HB⟩
    have h3 := unhide HR1 h
    refine ⟨h3.1, h3.2.1, ?_⟩
    rw [h3.2.2]
    simp
  case round =>
    obtain ⟨i, at1, r, L, A, C, rfl, rfl, rfl, hin, hi8, hLL, hrt, hrf, hsm, hG, hO, hR, hB⟩ := hrel
    have HLL := hide hLL
    have HRT := hide hrt
    have HRF := hide hrf
    have HSM := hide hsm
    have HG := hide hG
    have HO := hide hO
    have HR := hide hR
    have HB := hide hB
    have hGl := hG.lt
    have hjm : i + 1 ≤ maxLen := by unfold maxLen; omega
    clear hLL hrt hrf hsm hG hO hR hB
    by_cases hlt : (i : Int) < (n : Int)
    · cases r
      · -- nothing more is read
        obtain ⟨g0, g1⟩ := (unhide HG).cells
        obtain ⟨q0, q1⟩ := (unhide HR).cells
        have qf0 := (unhide HR).froz 0
        have qf1 := (unhide HR).froz 1
        have hat : PageAt wr (.agg #[.int .i64 k, .slice A i C]) wr.heap.size k L := by
          obtain ⟨a', c', e, hq⟩ := ItemsAt.of_own (unhide HO)
          simp at e
          obtain ⟨rfl, rfl⟩ := e
          exact ⟨_, _, _, rfl, hq⟩
        have HPT := hide (specPage_any _ wr.heap.size k L (by have := unhide HLL; omega) (fun x hx => by have := unhide HSM x hx; omega) wr (Nat.le_refl _) hat)
        clear hat
        obtain ⟨tt, bb, hpa⟩ := pageA_two k L
        rw [hpa] at HPT
        have HN := hide (unhide HRF rfl)
        clear hpa HRT HRF
        go_wp2_with fail
        refine (unhide HPT).mono ?_
        rintro e w7 ⟨rfl, hb7⟩
        have HG := hide ((unhide HG).below hb7)
        have HR := hide ((unhide HR).below hb7)
        have HO := hide (own_below (unhide HO) hb7)
        have HB := hide ((unhide HB).trans (hb7.mono (unhide HB).size))
        clear hb7 g0 g1 q0 q1 qf0 qf1 HPT
        obtain ⟨g0, g1⟩ := (unhide HG).cells
        obtain ⟨q0, q1⟩ := (unhide HR).cells
        have qf0 := (unhide HR).froz 0
        have qf1 := (unhide HR).froz 1
        go_wp2
        (try simp only [Exit.inBlock, Exit.then])
        refine bodyPost_ret (results_box Try.results18 _ _ w.heap.size _ _ rfl ((unhide HR).two _ _)) rfl ?_
        rw [show tot.bind (heldTo text k) = none by rw [unhide HN]; rfl]
        exact ⟨⟨_, rfl, pageNil _ _⟩, ((unhide HB).setCell (p := ⟨w.heap.size, 0, none⟩) (by simp) _).setCell (p := ⟨w.heap.size, 1, none⟩) (by simp) _⟩
      · obtain ⟨ha1, ha2, htot⟩ := unhide HRT rfl
        have HTOT := hide htot
        clear htot HRT HRF
        have hs1 := fun w => specRS_any s (at1 : Int) (by omega) w
        cases hrs : rsA s at1 with
        | none =>
          rw [rsOut_none hrs] at hs1
          have HS1 := hide hs1
          have HF := hide (itsA_fail (by omega) (unhide HTOT) (itA_key hrs))
          clear hs1 hrs
          go_wp2_with fail
          obtain ⟨W3, hW3⟩ : ∃ W, W = wr.alloc (Obj.cells #[Value.string ⟨#[]⟩, Value.string ⟨#[]⟩, Value.int .i64 0] 33) := ⟨_, rfl⟩
          rw [← hW3]
          have hb3 : Below wr.heap.size wr W3 := by rw [hW3]; exact below_new _ _
          have hX3 : W3.heap[wr.heap.size]? = some (.cells #[Value.string ⟨#[]⟩, Value.string ⟨#[]⟩, Value.int .i64 0] 33 (0, 0)) := by rw [hW3]; exact heap_alloc_new _ _
          have hlX : wr.heap.size < W3.heap.size := by rw [hW3]; simp
          have HG := hide ((unhide HG).below hb3)
          have HR := hide ((unhide HR).below hb3)
          have HOL := hide ((unhide HO).lt)
          have HO := hide (own_below (unhide HO) hb3)
          have HB := hide ((unhide HB).trans (hb3.mono (unhide HB).size))
          have hGX : G < wr.heap.size := hGl
          obtain ⟨X, hX⟩ : ∃ X, X = wr.heap.size := ⟨_, rfl⟩
          rw [← hX] at hX3 hlX hGX HOL ⊢
          clear hW3 hb3 hX hGl
          refine (unhide HS1 _).mono ?_
          rintro e w4 ⟨rfl, hb4⟩
          have HG := hide ((unhide HG).below hb4)
          have HR := hide ((unhide HR).below hb4)
          have HO := hide (own_below (unhide HO) hb4)
          have HB := hide ((unhide HB).trans (hb4.mono (unhide HB).size))
          have hX4 := (hb4.block X hlX).trans hX3
          have hlX4 : X < w4.heap.size := Nat.lt_of_lt_of_le hlX hb4.size
          clear hb4 hX3 hlX
          obtain ⟨x0, x1, x2, xf⟩ := cells_of_three hX4
          have xf0 := xf 0
          obtain ⟨g0, g1⟩ := (unhide HG).cells
          have hGX1 : ¬ G = X := by omega
          have hGX2 : ¬ X = G := by omega
          have hRX : w.heap.size < X := by omega
          clear xf
          clear hX4
          have hnews : ∀ j uu, [Value.string ⟨#[]⟩, .string ⟨#[]⟩, .int .i64 0][j]? = some uu → ((w4.setCell ⟨X, 0, none⟩ (.string ⟨#[]⟩)).alloc (Obj.cells #[Value.string ⟨#[]⟩, Value.string ⟨#[]⟩, Value.int .i64 0] 33)).cell? ((⟨w4.heap.size, 0, none⟩ : Addr).add j) = some uu := by
            have h := World.news_of_block (cs := #[Value.string ⟨#[]⟩, Value.string ⟨#[]⟩, Value.int .i64 0]) (t := 33) (fr := (0, 0)) (heap_alloc_new ((w4.setCell ⟨X, 0, none⟩ (.string ⟨#[]⟩))) (Obj.cells #[Value.string ⟨#[]⟩, Value.string ⟨#[]⟩, Value.int .i64 0] 33))
            simpa [World.setCell] using h
          have HNW := hide hnews
          have HOS : Hid (((w4.setCell ⟨X, 0, none⟩ (.string ⟨#[]⟩)).alloc (Obj.cells #[Value.string ⟨#[]⟩, Value.string ⟨#[]⟩, Value.int .i64 0] 33)).ownsRow (G + 1) 33 3 (.slice A i C) i (itsV L)) := (ownsRow_setCell_other (unhide HO) (fun e => by have := unhide HOL _ e; simp at this <;> omega) _).alloc _
          have hkS : Kept (fun k => k = X) w4 (w4.setCell ⟨X, 0, none⟩ (.string ⟨#[]⟩)) := Kept.set _ _ _ _ rfl
          have HGS : Hid (Box ((w4.setCell ⟨X, 0, none⟩ (.string ⟨#[]⟩)).alloc (Obj.cells #[Value.string ⟨#[]⟩, Value.string ⟨#[]⟩, Value.int .i64 0] 33)) G (.int .i64 k) (.slice A i C)) := ((unhide HG).kept hkS (by omega)).below (below_new _ _)
          have HRS : Hid (Box ((w4.setCell ⟨X, 0, none⟩ (.string ⟨#[]⟩)).alloc (Obj.cells #[Value.string ⟨#[]⟩, Value.string ⟨#[]⟩, Value.int .i64 0] 33)) w.heap.size (.int .i64 0) (.slice none 0 0)) := ((unhide HR).kept hkS (by omega)).below (below_new _ _)
          have HBS : Hid (Below w.heap.size w ((w4.setCell ⟨X, 0, none⟩ (.string ⟨#[]⟩)).alloc (Obj.cells #[Value.string ⟨#[]⟩, Value.string ⟨#[]⟩, Value.int .i64 0] 33))) := ((unhide HB).setCell (p := ⟨X, 0, none⟩) (by simp; omega) _).alloc (by have := (unhide HB).size; simp [World.setCell]; omega) _
          clear hnews hkS
          go_wp2_with (at_builtin; refine wpList_append_lies _ rfl _ _ 24 rfl (G + 1) 33 i1 (.agg #[.string ⟨#[]⟩, .string ⟨#[]⟩, .int .i64 0]) 3 40 Try.underlying24 hj1 hy0 hy1 hy2 rfl (by decide) _ i (itsV L) rfl (unhide HOS) ⟨w4.heap.size, 0, none⟩ 1 1 [.string ⟨#[]⟩, .string ⟨#[]⟩, .int .i64 0] rfl rfl (unhide HNW) (by simp [Value.oneCell']) (by omega) hjm (by omega) (by simp [World.setCell]; omega) (w4.heap.size + 1) (by simp [World.setCell]) ?_)
          intro g cap w9 hown9 hgrow9 hat9 hlt9
          have hG9 := grown_box (unhide HGS) hgrow9 (fun e => by have := (unhide HOS).lt _ e; omega)
          have t0 := hG9.cells.2
          have tf := hG9.froz 1
          have hap := append_page (x := ⟨⟨#[]⟩, ⟨#[]⟩, 0⟩) (unhide HGS) (unhide HRS) hRG (Nat.le_refl _) (unhide HOS) (unhide HBS) hgrow9 hown9 hat9
          have HAP := hide hap
          clear hap hG9 hown9 hgrow9 hat9 hlt9 HOS HGS HRS HBS HNW
          go_wp2
          go_roundw
          case rel =>
            obtain ⟨z1, z2, z3, z4⟩ := unhide HAP
            exact ⟨i + 1, at1, false, L ++ [⟨⟨#[]⟩, ⟨#[]⟩, 0⟩], _, _, rfl, rfl, by go_num, by omega, by omega, by simp; exact unhide HLL, (fun h => by cases h), fun _ => unhide HF, (unhide HSM).snoc size_none size_none, z1, z2, z3, z4⟩
          case measure => simp [intOf]; omega
        | some pr =>
          obtain ⟨t, b⟩ := pr
          rw [rsOut_some hrs] at hs1
          have HS1 := hide hs1
          have hra := rsA_ahead hrs
          by_cases hk1 : k = 1
          · subst hk1
            have hs2 := fun w => specRS_any s (b : Int) (by omega) w
            cases hrd : rsA s b with
            | none =>
              rw [rsOut_none hrd] at hs2
              have HS2 := hide hs2
              have HF := hide (itsA_fail (by omega) (unhide HTOT) (itA_rest hrs (by rw [restA_one, hrd]; rfl)))
              clear hs1 hs2 hrs hrd
              go_wp2_with fail
              obtain ⟨W3, hW3⟩ : ∃ W, W = wr.alloc (Obj.cells #[Value.string ⟨#[]⟩, Value.string ⟨#[]⟩, Value.int .i64 0] 33) := ⟨_, rfl⟩
              rw [← hW3]
              have hb3 : Below wr.heap.size wr W3 := by rw [hW3]; exact below_new _ _
              have hX3 : W3.heap[wr.heap.size]? = some (.cells #[Value.string ⟨#[]⟩, Value.string ⟨#[]⟩, Value.int .i64 0] 33 (0, 0)) := by rw [hW3]; exact heap_alloc_new _ _
              have hlX : wr.heap.size < W3.heap.size := by rw [hW3]; simp
              have HG := hide ((unhide HG).below hb3)
              have HR := hide ((unhide HR).below hb3)
              have HOL := hide ((unhide HO).lt)
              have HO := hide (own_below (unhide HO) hb3)
              have HB := hide ((unhide HB).trans (hb3.mono (unhide HB).size))
              have hGX : G < wr.heap.size := hGl
              obtain ⟨X, hX⟩ : ∃ X, X = wr.heap.size := ⟨_, rfl⟩
              rw [← hX] at hX3 hlX hGX HOL ⊢
              clear hW3 hb3 hX hGl
              refine (unhide HS1 _).mono ?_
              rintro e w4 ⟨rfl, hb4⟩
              have HG := hide ((unhide HG).below hb4)
              have HR := hide ((unhide HR).below hb4)
              have HO := hide (own_below (unhide HO) hb4)
              have HB := hide ((unhide HB).trans (hb4.mono (unhide HB).size))
              have hX4 := (hb4.block X hlX).trans hX3
              have hlX4 : X < w4.heap.size := Nat.lt_of_lt_of_le hlX hb4.size
              clear hb4 hX3 hlX
              obtain ⟨x0, x1, x2, xf⟩ := cells_of_three hX4
              have xf0 := xf 0
              obtain ⟨g0, g1⟩ := (unhide HG).cells
              have hGX1 : ¬ G = X := by omega
              have hGX2 : ¬ X = G := by omega
              have hRX : w.heap.size < X := by omega
              clear xf
              have hX4' := three_zero hX4 (.string t)
              obtain ⟨y0, y1, y2, yf⟩ := cells_of_three hX4'
              have HX4 := hide hX4'
              clear hX4 hX4' yf
              go_wp2_with fail
              obtain ⟨W5, hW5⟩ : ∃ W, W = w4.setCell ⟨X, 0, none⟩ (.string t) := ⟨_, rfl⟩
              rw [← hW5]
              have hk5 : Kept (fun k => k = X) w4 W5 := by rw [hW5]; exact Kept.set _ _ _ _ rfl
              have HG := hide ((unhide HG).kept hk5 (by omega))
              have HR := hide ((unhide HR).kept hk5 (by omega))
              have HO := hide (hk5.own (unhide HO) (fun g hg e => by have := unhide HOL _ hg; omega))
              have HB : Hid (Below w.heap.size w W5) := by show Below _ _ _; rw [hW5]; exact (unhide HB).setCell (p := ⟨X, 0, none⟩) (by simp; omega) _
              have HX5 : Hid (W5.heap[X]? = some (.cells #[.string t, Value.string ⟨#[]⟩, Value.int .i64 0] 33 (0, 0))) := by show _ = _; rw [hW5]; exact unhide HX4
              have hlX5 : X < W5.heap.size := by rw [hW5]; simpa [World.setCell] using hlX4
              clear hW5 hk5 HX4 hlX4 x0 x1 x2 y0 y1 y2 xf0 g0 g1
              refine (unhide HS2 _).mono ?_
              rintro e w6 ⟨rfl, hb6⟩
              have HG := hide ((unhide HG).below hb6)
              have HR := hide ((unhide HR).below hb6)
              have HO := hide (own_below (unhide HO) hb6)
              have HB := hide ((unhide HB).trans (hb6.mono (unhide HB).size))
              have hX6 := (hb6.block X hlX5).trans (unhide HX5)
              have hlX6 : X < w6.heap.size := Nat.lt_of_lt_of_le hlX5 hb6.size
              clear hb6 HX5 hlX5
              obtain ⟨x0, x1, x2, xf⟩ := cells_of_three hX6
              have xf1 := xf 1
              have xf2 := xf 2
              obtain ⟨g0, g1⟩ := (unhide HG).cells
              clear xf hX6
              have hnews : ∀ j uu, [Value.string t, .string ⟨#[]⟩, .int .i64 0][j]? = some uu → ((w6.setCell ⟨X, 1, none⟩ (.string ⟨#[]⟩)).alloc (Obj.cells #[Value.string t, Value.string ⟨#[]⟩, Value.int .i64 0] 33)).cell? ((⟨w6.heap.size, 0, none⟩ : Addr).add j) = some uu := by
                have h := World.news_of_block (cs := #[Value.string t, Value.string ⟨#[]⟩, Value.int .i64 0]) (t := 33) (fr := (0, 0)) (heap_alloc_new ((w6.setCell ⟨X, 1, none⟩ (.string ⟨#[]⟩))) (Obj.cells #[Value.string t, Value.string ⟨#[]⟩, Value.int .i64 0] 33))
                simpa [World.setCell] using h
              have HNW := hide hnews
              have HOS : Hid (((w6.setCell ⟨X, 1, none⟩ (.string ⟨#[]⟩)).alloc (Obj.cells #[Value.string t, Value.string ⟨#[]⟩, Value.int .i64 0] 33)).ownsRow (G + 1) 33 3 (.slice A i C) i (itsV L)) := (ownsRow_setCell_other (unhide HO) (fun e => by have := unhide HOL _ e; simp at this <;> omega) _).alloc _
              have hkS : Kept (fun k => k = X) w6 (w6.setCell ⟨X, 1, none⟩ (.string ⟨#[]⟩)) := Kept.set _ _ _ _ rfl
              have HGS : Hid (Box ((w6.setCell ⟨X, 1, none⟩ (.string ⟨#[]⟩)).alloc (Obj.cells #[Value.string t, Value.string ⟨#[]⟩, Value.int .i64 0] 33)) G (.int .i64 1) (.slice A i C)) := ((unhide HG).kept hkS (by omega)).below (below_new _ _)
              have HRS : Hid (Box ((w6.setCell ⟨X, 1, none⟩ (.string ⟨#[]⟩)).alloc (Obj.cells #[Value.string t, Value.string ⟨#[]⟩, Value.int .i64 0] 33)) w.heap.size (.int .i64 0) (.slice none 0 0)) := ((unhide HR).kept hkS (by omega)).below (below_new _ _)
              have HBS : Hid (Below w.heap.size w ((w6.setCell ⟨X, 1, none⟩ (.string ⟨#[]⟩)).alloc (Obj.cells #[Value.string t, Value.string ⟨#[]⟩, Value.int .i64 0] 33))) := ((unhide HB).setCell (p := ⟨X, 1, none⟩) (by simp; omega) _).alloc (by have := (unhide HB).size; simp [World.setCell]; omega) _
              clear hnews hkS
              go_wp2_with (at_builtin; refine wpList_append_lies _ rfl _ _ 24 rfl (G + 1) 33 i1 (.agg #[.string ⟨#[]⟩, .string ⟨#[]⟩, .int .i64 0]) 3 40 Try.underlying24 hj1 hy0 hy1 hy2 rfl (by decide) _ i (itsV L) rfl (unhide HOS) ⟨w6.heap.size, 0, none⟩ 1 1 [.string t, .string ⟨#[]⟩, .int .i64 0] rfl rfl (unhide HNW) (by simp [Value.oneCell']) (by omega) hjm (by omega) (by simp [World.setCell]; omega) (w6.heap.size + 1) (by simp [World.setCell]) ?_)
              intro g cap w9 hown9 hgrow9 hat9 hlt9
              have hG9 := grown_box (unhide HGS) hgrow9 (fun e => by have := (unhide HOS).lt _ e; omega)
              have t0 := hG9.cells.2
              have tf := hG9.froz 1
              have hap := append_page (x := ⟨t, ⟨#[]⟩, 0⟩) (unhide HGS) (unhide HRS) hRG (Nat.le_refl _) (unhide HOS) (unhide HBS) hgrow9 hown9 hat9
              have HAP := hide hap
              clear hap hG9 hown9 hgrow9 hat9 hlt9 HOS HGS HRS HBS HNW
              go_wp2
              go_roundw
              case rel =>
                obtain ⟨z1, z2, z3, z4⟩ := unhide HAP
                exact ⟨i + 1, 0, false, L ++ [⟨t, ⟨#[]⟩, 0⟩], _, _, rfl, rfl, by go_num, by omega, by omega, by simp; exact unhide HLL, (fun h => by cases h), fun _ => unhide HF, (unhide HSM).snoc hra.2.2 size_none, z1, z2, z3, z4⟩
              case measure => simp [intOf]; omega
            | some pd =>
              obtain ⟨u, d⟩ := pd
              rw [rsOut_some hrd] at hs2
              have HS2 := hide hs2
              have hrb := rsA_ahead hrd
              have HF := hide (itsA_go (by omega) (unhide HTOT) (itA_yes (u := u) (y := 0) (c := d) hrs (by rw [restA_one, hrd]; rfl)))
              clear hs1 hs2 hrs hrd
              go_wp2_with fail
              obtain ⟨W3, hW3⟩ : ∃ W, W = wr.alloc (Obj.cells #[Value.string ⟨#[]⟩, Value.string ⟨#[]⟩, Value.int .i64 0] 33) := ⟨_, rfl⟩
              rw [← hW3]
              have hb3 : Below wr.heap.size wr W3 := by rw [hW3]; exact below_new _ _
              have hX3 : W3.heap[wr.heap.size]? = some (.cells #[Value.string ⟨#[]⟩, Value.string ⟨#[]⟩, Value.int .i64 0] 33 (0, 0)) := by rw [hW3]; exact heap_alloc_new _ _
              have hlX : wr.heap.size < W3.heap.size := by rw [hW3]; simp
              have HG := hide ((unhide HG).below hb3)
              have HR := hide ((unhide HR).below hb3)
              have HOL := hide ((unhide HO).lt)
              have HO := hide (own_below (unhide HO) hb3)
              have HB := hide ((unhide HB).trans (hb3.mono (unhide HB).size))
              have hGX : G < wr.heap.size := hGl
              obtain ⟨X, hX⟩ : ∃ X, X = wr.heap.size := ⟨_, rfl⟩
              rw [← hX] at hX3 hlX hGX HOL ⊢
              clear hW3 hb3 hX hGl
              refine (unhide HS1 _).mono ?_
              rintro e w4 ⟨rfl, hb4⟩
              have HG := hide ((unhide HG).below hb4)
              have HR := hide ((unhide HR).below hb4)
              have HO := hide (own_below (unhide HO) hb4)
              have HB := hide ((unhide HB).trans (hb4.mono (unhide HB).size))
              have hX4 := (hb4.block X hlX).trans hX3
              have hlX4 : X < w4.heap.size := Nat.lt_of_lt_of_le hlX hb4.size
              clear hb4 hX3 hlX
              obtain ⟨x0, x1, x2, xf⟩ := cells_of_three hX4
              have xf0 := xf 0
              obtain ⟨g0, g1⟩ := (unhide HG).cells
              have hGX1 : ¬ G = X := by omega
              have hGX2 : ¬ X = G := by omega
              have hRX : w.heap.size < X := by omega
              clear xf
              have hX4' := three_zero hX4 (.string t)
              obtain ⟨y0, y1, y2, yf⟩ := cells_of_three hX4'
              have HX4 := hide hX4'
              clear hX4 hX4' yf
              go_wp2_with fail
              obtain ⟨W5, hW5⟩ : ∃ W, W = w4.setCell ⟨X, 0, none⟩ (.string t) := ⟨_, rfl⟩
              rw [← hW5]
              have hk5 : Kept (fun k => k = X) w4 W5 := by rw [hW5]; exact Kept.set _ _ _ _ rfl
              have HG := hide ((unhide HG).kept hk5 (by omega))
              have HR := hide ((unhide HR).kept hk5 (by omega))
              have HO := hide (hk5.own (unhide HO) (fun g hg e => by have := unhide HOL _ hg; omega))
              have HB : Hid (Below w.heap.size w W5) := by show Below _ _ _; rw [hW5]; exact (unhide HB).setCell (p := ⟨X, 0, none⟩) (by simp; omega) _
              have HX5 : Hid (W5.heap[X]? = some (.cells #[.string t, Value.string ⟨#[]⟩, Value.int .i64 0] 33 (0, 0))) := by show _ = _; rw [hW5]; exact unhide HX4
              have hlX5 : X < W5.heap.size := by rw [hW5]; simpa [World.setCell] using hlX4
              clear hW5 hk5 HX4 hlX4 x0 x1 x2 y0 y1 y2 xf0 g0 g1
              refine (unhide HS2 _).mono ?_
              rintro e w6 ⟨rfl, hb6⟩
              have HG := hide ((unhide HG).below hb6)
              have HR := hide ((unhide HR).below hb6)
              have HO := hide (own_below (unhide HO) hb6)
              have HB := hide ((unhide HB).trans (hb6.mono (unhide HB).size))
              have hX6 := (hb6.block X hlX5).trans (unhide HX5)
              have hlX6 : X < w6.heap.size := Nat.lt_of_lt_of_le hlX5 hb6.size
              clear hb6 HX5 hlX5
              obtain ⟨x0, x1, x2, xf⟩ := cells_of_three hX6
              have xf1 := xf 1
              have xf2 := xf 2
              obtain ⟨g0, g1⟩ := (unhide HG).cells
              clear xf hX6
              have hnews : ∀ j uu, [Value.string t, .string u, .int .i64 0][j]? = some uu → ((w6.setCell ⟨X, 1, none⟩ (.string u)).alloc (Obj.cells #[Value.string t, Value.string u, Value.int .i64 0] 33)).cell? ((⟨w6.heap.size, 0, none⟩ : Addr).add j) = some uu := by
                have h := World.news_of_block (cs := #[Value.string t, Value.string u, Value.int .i64 0]) (t := 33) (fr := (0, 0)) (heap_alloc_new ((w6.setCell ⟨X, 1, none⟩ (.string u))) (Obj.cells #[Value.string t, Value.string u, Value.int .i64 0] 33))
                simpa [World.setCell] using h
              have HNW := hide hnews
              have HOS : Hid (((w6.setCell ⟨X, 1, none⟩ (.string u)).alloc (Obj.cells #[Value.string t, Value.string u, Value.int .i64 0] 33)).ownsRow (G + 1) 33 3 (.slice A i C) i (itsV L)) := (ownsRow_setCell_other (unhide HO) (fun e => by have := unhide HOL _ e; simp at this <;> omega) _).alloc _
              have hkS : Kept (fun k => k = X) w6 (w6.setCell ⟨X, 1, none⟩ (.string u)) := Kept.set _ _ _ _ rfl
              have HGS : Hid (Box ((w6.setCell ⟨X, 1, none⟩ (.string u)).alloc (Obj.cells #[Value.string t, Value.string u, Value.int .i64 0] 33)) G (.int .i64 1) (.slice A i C)) := ((unhide HG).kept hkS (by omega)).below (below_new _ _)
              have HRS : Hid (Box ((w6.setCell ⟨X, 1, none⟩ (.string u)).alloc (Obj.cells #[Value.string t, Value.string u, Value.int .i64 0] 33)) w.heap.size (.int .i64 0) (.slice none 0 0)) := ((unhide HR).kept hkS (by omega)).below (below_new _ _)
              have HBS : Hid (Below w.heap.size w ((w6.setCell ⟨X, 1, none⟩ (.string u)).alloc (Obj.cells #[Value.string t, Value.string u, Value.int .i64 0] 33))) := ((unhide HB).setCell (p := ⟨X, 1, none⟩) (by simp; omega) _).alloc (by have := (unhide HB).size; simp [World.setCell]; omega) _
              clear hnews hkS
              go_wp2_with (at_builtin; refine wpList_append_lies _ rfl _ _ 24 rfl (G + 1) 33 i1 (.agg #[.string ⟨#[]⟩, .string ⟨#[]⟩, .int .i64 0]) 3 40 Try.underlying24 hj1 hy0 hy1 hy2 rfl (by decide) _ i (itsV L) rfl (unhide HOS) ⟨w6.heap.size, 0, none⟩ 1 1 [.string t, .string u, .int .i64 0] rfl rfl (unhide HNW) (by simp [Value.oneCell']) (by omega) hjm (by omega) (by simp [World.setCell]; omega) (w6.heap.size + 1) (by simp [World.setCell]) ?_)
              intro g cap w9 hown9 hgrow9 hat9 hlt9
              have hG9 := grown_box (unhide HGS) hgrow9 (fun e => by have := (unhide HOS).lt _ e; omega)
              have t0 := hG9.cells.2
              have tf := hG9.froz 1
              have hap := append_page (x := ⟨t, u, 0⟩) (unhide HGS) (unhide HRS) hRG (Nat.le_refl _) (unhide HOS) (unhide HBS) hgrow9 hown9 hat9
              have HAP := hide hap
              clear hap hG9 hown9 hgrow9 hat9 hlt9 HOS HGS HRS HBS HNW
              go_wp2
              go_roundw
              case rel =>
                obtain ⟨z1, z2, z3, z4⟩ := unhide HAP
                exact ⟨i + 1, d, true, L ++ [⟨t, u, 0⟩], _, _, rfl, rfl, by go_num, by omega, by omega, by simp; exact unhide HLL, fun _ => ⟨by omega, hrb.2.1, unhide HF⟩, (fun h => by cases h), (unhide HSM).snoc hra.2.2 hrb.2.2, z1, z2, z3, z4⟩
              case measure => simp [intOf]; omega
          · have hs2 := fun w => specRead_any s (b : Int) (by omega) w
            cases hrd : readA s (b : Int) with
            | none =>
              rw [hrd] at hs2
              simp only [rvOut] at hs2
              have HS2 := hide hs2
              have HF := hide (itsA_fail (by omega) (unhide HTOT) (itA_rest hrs (by rw [restA_other hk1, hrd]; rfl)))
              have hk1b : (k == 1) = false := by simp [hk1]
              clear hs1 hs2 hrs hrd
              go_wp2_with fail
              obtain ⟨W3, hW3⟩ : ∃ W, W = wr.alloc (Obj.cells #[Value.string ⟨#[]⟩, Value.string ⟨#[]⟩, Value.int .i64 0] 33) := ⟨_, rfl⟩
              rw [← hW3]
              have hb3 : Below wr.heap.size wr W3 := by rw [hW3]; exact below_new _ _
              have hX3 : W3.heap[wr.heap.size]? = some (.cells #[Value.string ⟨#[]⟩, Value.string ⟨#[]⟩, Value.int .i64 0] 33 (0, 0)) := by rw [hW3]; exact heap_alloc_new _ _
              have hlX : wr.heap.size < W3.heap.size := by rw [hW3]; simp
              have HG := hide ((unhide HG).below hb3)
              have HR := hide ((unhide HR).below hb3)
              have HOL := hide ((unhide HO).lt)
              have HO := hide (own_below (unhide HO) hb3)
              have HB := hide ((unhide HB).trans (hb3.mono (unhide HB).size))
              have hGX : G < wr.heap.size := hGl
              obtain ⟨X, hX⟩ : ∃ X, X = wr.heap.size := ⟨_, rfl⟩
              rw [← hX] at hX3 hlX hGX HOL ⊢
              clear hW3 hb3 hX hGl
              refine (unhide HS1 _).mono ?_
              rintro e w4 ⟨rfl, hb4⟩
              have HG := hide ((unhide HG).below hb4)
              have HR := hide ((unhide HR).below hb4)
              have HO := hide (own_below (unhide HO) hb4)
              have HB := hide ((unhide HB).trans (hb4.mono (unhide HB).size))
              have hX4 := (hb4.block X hlX).trans hX3
              have hlX4 : X < w4.heap.size := Nat.lt_of_lt_of_le hlX hb4.size
              clear hb4 hX3 hlX
              obtain ⟨x0, x1, x2, xf⟩ := cells_of_three hX4
              have xf0 := xf 0
              obtain ⟨g0, g1⟩ := (unhide HG).cells
              have hGX1 : ¬ G = X := by omega
              have hGX2 : ¬ X = G := by omega
              have hRX : w.heap.size < X := by omega
              clear xf
              have hX4' := three_zero hX4 (.string t)
              obtain ⟨y0, y1, y2, yf⟩ := cells_of_three hX4'
              have HX4 := hide hX4'
              clear hX4 hX4' yf
              go_wp2_with fail
              obtain ⟨W5, hW5⟩ : ∃ W, W = w4.setCell ⟨X, 0, none⟩ (.string t) := ⟨_, rfl⟩
              rw [← hW5]
              have hk5 : Kept (fun k => k = X) w4 W5 := by rw [hW5]; exact Kept.set _ _ _ _ rfl
              have HG := hide ((unhide HG).kept hk5 (by omega))
              have HR := hide ((unhide HR).kept hk5 (by omega))
              have HO := hide (hk5.own (unhide HO) (fun g hg e => by have := unhide HOL _ hg; omega))
              have HB : Hid (Below w.heap.size w W5) := by show Below _ _ _; rw [hW5]; exact (unhide HB).setCell (p := ⟨X, 0, none⟩) (by simp; omega) _
              have HX5 : Hid (W5.heap[X]? = some (.cells #[.string t, Value.string ⟨#[]⟩, Value.int .i64 0] 33 (0, 0))) := by show _ = _; rw [hW5]; exact unhide HX4
              have hlX5 : X < W5.heap.size := by rw [hW5]; simpa [World.setCell] using hlX4
              clear hW5 hk5 HX4 hlX4 x0 x1 x2 y0 y1 y2 xf0 g0 g1
              refine (unhide HS2 _).mono ?_
              rintro e w6 ⟨rfl, hb6⟩
              have HG := hide ((unhide HG).below hb6)
              have HR := hide ((unhide HR).below hb6)
              have HO := hide (own_below (unhide HO) hb6)
              have HB := hide ((unhide HB).trans (hb6.mono (unhide HB).size))
              have hX6 := (hb6.block X hlX5).trans (unhide HX5)
              have hlX6 : X < w6.heap.size := Nat.lt_of_lt_of_le hlX5 hb6.size
              clear hb6 HX5 hlX5
              obtain ⟨x0, x1, x2, xf⟩ := cells_of_three hX6
              have xf1 := xf 1
              have xf2 := xf 2
              obtain ⟨g0, g1⟩ := (unhide HG).cells
              clear xf hX6
              have hnews : ∀ j uu, [Value.string t, .string ⟨#[]⟩, .int .i64 0][j]? = some uu → ((w6.setCell ⟨X, 2, none⟩ (.int .i64 0)).alloc (Obj.cells #[Value.string t, Value.string ⟨#[]⟩, Value.int .i64 0] 33)).cell? ((⟨w6.heap.size, 0, none⟩ : Addr).add j) = some uu := by
                have h := World.news_of_block (cs := #[Value.string t, Value.string ⟨#[]⟩, Value.int .i64 0]) (t := 33) (fr := (0, 0)) (heap_alloc_new ((w6.setCell ⟨X, 2, none⟩ (.int .i64 0))) (Obj.cells #[Value.string t, Value.string ⟨#[]⟩, Value.int .i64 0] 33))
                simpa [World.setCell] using h
              have HNW := hide hnews
              have HOS : Hid (((w6.setCell ⟨X, 2, none⟩ (.int .i64 0)).alloc (Obj.cells #[Value.string t, Value.string ⟨#[]⟩, Value.int .i64 0] 33)).ownsRow (G + 1) 33 3 (.slice A i C) i (itsV L)) := (ownsRow_setCell_other (unhide HO) (fun e => by have := unhide HOL _ e; simp at this <;> omega) _).alloc _
              have hkS : Kept (fun k => k = X) w6 (w6.setCell ⟨X, 2, none⟩ (.int .i64 0)) := Kept.set _ _ _ _ rfl
              have HGS : Hid (Box ((w6.setCell ⟨X, 2, none⟩ (.int .i64 0)).alloc (Obj.cells #[Value.string t, Value.string ⟨#[]⟩, Value.int .i64 0] 33)) G (.int .i64 k) (.slice A i C)) := ((unhide HG).kept hkS (by omega)).below (below_new _ _)
              have HRS : Hid (Box ((w6.setCell ⟨X, 2, none⟩ (.int .i64 0)).alloc (Obj.cells #[Value.string t, Value.string ⟨#[]⟩, Value.int .i64 0] 33)) w.heap.size (.int .i64 0) (.slice none 0 0)) := ((unhide HR).kept hkS (by omega)).below (below_new _ _)
              have HBS : Hid (Below w.heap.size w ((w6.setCell ⟨X, 2, none⟩ (.int .i64 0)).alloc (Obj.cells #[Value.string t, Value.string ⟨#[]⟩, Value.int .i64 0] 33))) := ((unhide HB).setCell (p := ⟨X, 2, none⟩) (by simp; omega) _).alloc (by have := (unhide HB).size; simp [World.setCell]; omega) _
              clear hnews hkS
              go_wp2_with (at_builtin; refine wpList_append_lies _ rfl _ _ 24 rfl (G + 1) 33 i1 (.agg #[.string ⟨#[]⟩, .string ⟨#[]⟩, .int .i64 0]) 3 40 Try.underlying24 hj1 hy0 hy1 hy2 rfl (by decide) _ i (itsV L) rfl (unhide HOS) ⟨w6.heap.size, 0, none⟩ 1 1 [.string t, .string ⟨#[]⟩, .int .i64 0] rfl rfl (unhide HNW) (by simp [Value.oneCell']) (by omega) hjm (by omega) (by simp [World.setCell]; omega) (w6.heap.size + 1) (by simp [World.setCell]) ?_)
              intro g cap w9 hown9 hgrow9 hat9 hlt9
              have hG9 := grown_box (unhide HGS) hgrow9 (fun e => by have := (unhide HOS).lt _ e; omega)
              have t0 := hG9.cells.2
              have tf := hG9.froz 1
              have hap := append_page (x := ⟨t, ⟨#[]⟩, 0⟩) (unhide HGS) (unhide HRS) hRG (Nat.le_refl _) (unhide HOS) (unhide HBS) hgrow9 hown9 hat9
              have HAP := hide hap
              clear hap hG9 hown9 hgrow9 hat9 hlt9 HOS HGS HRS HBS HNW
              go_wp2
              go_roundw
              case rel =>
                obtain ⟨z1, z2, z3, z4⟩ := unhide HAP
                exact ⟨i + 1, 0, false, L ++ [⟨t, ⟨#[]⟩, 0⟩], _, _, rfl, rfl, by go_num, by omega, by omega, by simp; exact unhide HLL, (fun h => by cases h), fun _ => unhide HF, (unhide HSM).snoc hra.2.2 size_none, z1, z2, z3, z4⟩
              case measure => simp [intOf]; omega
            | some pd =>
              obtain ⟨y, d⟩ := pd
              rw [hrd] at hs2
              simp only [rvOut] at hs2
              have HS2 := hide hs2
              have hrb := readA_ahead hrd
              have HF := hide (itsA_go (by omega) (unhide HTOT) (itA_yes (u := ⟨#[]⟩) (y := (y : Int)) (c := d) hrs (by rw [restA_other hk1, hrd]; rfl)))
              have hk1b : (k == 1) = false := by simp [hk1]
              clear hs1 hs2 hrs hrd
              go_wp2_with fail
              obtain ⟨W3, hW3⟩ : ∃ W, W = wr.alloc (Obj.cells #[Value.string ⟨#[]⟩, Value.string ⟨#[]⟩, Value.int .i64 0] 33) := ⟨_, rfl⟩
              rw [← hW3]
              have hb3 : Below wr.heap.size wr W3 := by rw [hW3]; exact below_new _ _
              have hX3 : W3.heap[wr.heap.size]? = some (.cells #[Value.string ⟨#[]⟩, Value.string ⟨#[]⟩, Value.int .i64 0] 33 (0, 0)) := by rw [hW3]; exact heap_alloc_new _ _
              have hlX : wr.heap.size < W3.heap.size := by rw [hW3]; simp
              have HG := hide ((unhide HG).below hb3)
              have HR := hide ((unhide HR).below hb3)
              have HOL := hide ((unhide HO).lt)
              have HO := hide (own_below (unhide HO) hb3)
              have HB := hide ((unhide HB).trans (hb3.mono (unhide HB).size))
              have hGX : G < wr.heap.size := hGl
              obtain ⟨X, hX⟩ : ∃ X, X = wr.heap.size := ⟨_, rfl⟩
              rw [← hX] at hX3 hlX hGX HOL ⊢
              clear hW3 hb3 hX hGl
              refine (unhide HS1 _).mono ?_
              rintro e w4 ⟨rfl, hb4⟩
              have HG := hide ((unhide HG).below hb4)
              have HR := hide ((unhide HR).below hb4)
              have HO := hide (own_below (unhide HO) hb4)
              have HB := hide ((unhide HB).trans (hb4.mono (unhide HB).size))
              have hX4 := (hb4.block X hlX).trans hX3
              have hlX4 : X < w4.heap.size := Nat.lt_of_lt_of_le hlX hb4.size
              clear hb4 hX3 hlX
              obtain ⟨x0, x1, x2, xf⟩ := cells_of_three hX4
              have xf0 := xf 0
              obtain ⟨g0, g1⟩ := (unhide HG).cells
              have hGX1 : ¬ G = X := by omega
              have hGX2 : ¬ X = G := by omega
              have hRX : w.heap.size < X := by omega
              clear xf
              have hX4' := three_zero hX4 (.string t)
              obtain ⟨y0, y1, y2, yf⟩ := cells_of_three hX4'
              have HX4 := hide hX4'
              clear hX4 hX4' yf
              go_wp2_with fail
              obtain ⟨W5, hW5⟩ : ∃ W, W = w4.setCell ⟨X, 0, none⟩ (.string t) := ⟨_, rfl⟩
              rw [← hW5]
              have hk5 : Kept (fun k => k = X) w4 W5 := by rw [hW5]; exact Kept.set _ _ _ _ rfl
              have HG := hide ((unhide HG).kept hk5 (by omega))
              have HR := hide ((unhide HR).kept hk5 (by omega))
              have HO := hide (hk5.own (unhide HO) (fun g hg e => by have := unhide HOL _ hg; omega))
              have HB : Hid (Below w.heap.size w W5) := by show Below _ _ _; rw [hW5]; exact (unhide HB).setCell (p := ⟨X, 0, none⟩) (by simp; omega) _
              have HX5 : Hid (W5.heap[X]? = some (.cells #[.string t, Value.string ⟨#[]⟩, Value.int .i64 0] 33 (0, 0))) := by show _ = _; rw [hW5]; exact unhide HX4
              have hlX5 : X < W5.heap.size := by rw [hW5]; simpa [World.setCell] using hlX4
              clear hW5 hk5 HX4 hlX4 x0 x1 x2 y0 y1 y2 xf0 g0 g1
              refine (unhide HS2 _).mono ?_
              rintro e w6 ⟨rfl, hb6⟩
              have HG := hide ((unhide HG).below hb6)
              have HR := hide ((unhide HR).below hb6)
              have HO := hide (own_below (unhide HO) hb6)
              have HB := hide ((unhide HB).trans (hb6.mono (unhide HB).size))
              have hX6 := (hb6.block X hlX5).trans (unhide HX5)
              have hlX6 : X < w6.heap.size := Nat.lt_of_lt_of_le hlX5 hb6.size
              clear hb6 HX5 hlX5
              obtain ⟨x0, x1, x2, xf⟩ := cells_of_three hX6
              have xf1 := xf 1
              have xf2 := xf 2
              obtain ⟨g0, g1⟩ := (unhide HG).cells
              clear xf hX6
              have hnews : ∀ j uu, [Value.string t, .string ⟨#[]⟩, .int .i64 (y : Int)][j]? = some uu → ((w6.setCell ⟨X, 2, none⟩ (.int .i64 (y : Int))).alloc (Obj.cells #[Value.string t, Value.string ⟨#[]⟩, Value.int .i64 (y : Int)] 33)).cell? ((⟨w6.heap.size, 0, none⟩ : Addr).add j) = some uu := by
                have h := World.news_of_block (cs := #[Value.string t, Value.string ⟨#[]⟩, Value.int .i64 (y : Int)]) (t := 33) (fr := (0, 0)) (heap_alloc_new ((w6.setCell ⟨X, 2, none⟩ (.int .i64 (y : Int)))) (Obj.cells #[Value.string t, Value.string ⟨#[]⟩, Value.int .i64 (y : Int)] 33))
                simpa [World.setCell] using h
              have HNW := hide hnews
              have HOS : Hid (((w6.setCell ⟨X, 2, none⟩ (.int .i64 (y : Int))).alloc (Obj.cells #[Value.string t, Value.string ⟨#[]⟩, Value.int .i64 (y : Int)] 33)).ownsRow (G + 1) 33 3 (.slice A i C) i (itsV L)) := (ownsRow_setCell_other (unhide HO) (fun e => by have := unhide HOL _ e; simp at this <;> omega) _).alloc _
              have hkS : Kept (fun k => k = X) w6 (w6.setCell ⟨X, 2, none⟩ (.int .i64 (y : Int))) := Kept.set _ _ _ _ rfl
              have HGS : Hid (Box ((w6.setCell ⟨X, 2, none⟩ (.int .i64 (y : Int))).alloc (Obj.cells #[Value.string t, Value.string ⟨#[]⟩, Value.int .i64 (y : Int)] 33)) G (.int .i64 k) (.slice A i C)) := ((unhide HG).kept hkS (by omega)).below (below_new _ _)
              have HRS : Hid (Box ((w6.setCell ⟨X, 2, none⟩ (.int .i64 (y : Int))).alloc (Obj.cells #[Value.string t, Value.string ⟨#[]⟩, Value.int .i64 (y : Int)] 33)) w.heap.size (.int .i64 0) (.slice none 0 0)) := ((unhide HR).kept hkS (by omega)).below (below_new _ _)
              have HBS : Hid (Below w.heap.size w ((w6.setCell ⟨X, 2, none⟩ (.int .i64 (y : Int))).alloc (Obj.cells #[Value.string t, Value.string ⟨#[]⟩, Value.int .i64 (y : Int)] 33))) := ((unhide HB).setCell (p := ⟨X, 2, none⟩) (by simp; omega) _).alloc (by have := (unhide HB).size; simp [World.setCell]; omega) _
              clear hnews hkS
              go_wp2_with (at_builtin; refine wpList_append_lies _ rfl _ _ 24 rfl (G + 1) 33 i1 (.agg #[.string ⟨#[]⟩, .string ⟨#[]⟩, .int .i64 0]) 3 40 Try.underlying24 hj1 hy0 hy1 hy2 rfl (by decide) _ i (itsV L) rfl (unhide HOS) ⟨w6.heap.size, 0, none⟩ 1 1 [.string t, .string ⟨#[]⟩, .int .i64 (y : Int)] rfl rfl (unhide HNW) (by simp [Value.oneCell']) (by omega) hjm (by omega) (by simp [World.setCell]; omega) (w6.heap.size + 1) (by simp [World.setCell]) ?_)
              intro g cap w9 hown9 hgrow9 hat9 hlt9
              have hG9 := grown_box (unhide HGS) hgrow9 (fun e => by have := (unhide HOS).lt _ e; omega)
              have t0 := hG9.cells.2
              have tf := hG9.froz 1
              have hap := append_page (x := ⟨t, ⟨#[]⟩, (y : Int)⟩) (unhide HGS) (unhide HRS) hRG (Nat.le_refl _) (unhide HOS) (unhide HBS) hgrow9 hown9 hat9
              have HAP := hide hap
              clear hap hG9 hown9 hgrow9 hat9 hlt9 HOS HGS HRS HBS HNW
              go_wp2
              go_roundw
              case rel =>
                obtain ⟨z1, z2, z3, z4⟩ := unhide HAP
                exact ⟨i + 1, d, true, L ++ [⟨t, ⟨#[]⟩, (y : Int)⟩], _, _, rfl, rfl, by go_num, by omega, by omega, by simp; exact unhide HLL, fun _ => ⟨by omega, hrb.2.1, unhide HF⟩, (fun h => by cases h), (unhide HSM).snoc hra.2.2 size_none, z1, z2, z3, z4⟩
              case measure => simp [intOf]; omega
    · cases r
      · -- MARK E0
        obtain ⟨g0, g1⟩ := (unhide HG).cells
        obtain ⟨q0, q1⟩ := (unhide HR).cells
        have qf0 := (unhide HR).froz 0
        have qf1 := (unhide HR).froz 1
        have hat : PageAt wr (.agg #[.int .i64 k, .slice A i C]) wr.heap.size k L := by
          obtain ⟨a', c', e, hq⟩ := ItemsAt.of_own (unhide HO)
          simp at e
          obtain ⟨rfl, rfl⟩ := e
          exact ⟨_, _, _, rfl, hq⟩
        have HPT := hide (specPage_any _ wr.heap.size k L (by have := unhide HLL; omega) (fun x hx => by have := unhide HSM x hx; omega) wr (Nat.le_refl _) hat)
        clear hat
        obtain ⟨tt, bb, hpa⟩ := pageA_two k L
        rw [hpa] at HPT
        have HN := hide (unhide HRF rfl)
        clear hpa HRT HRF
        go_wp2_with fail
        refine (unhide HPT).mono ?_
        rintro e w7 ⟨rfl, hb7⟩
        have HG := hide ((unhide HG).below hb7)
        have HR := hide ((unhide HR).below hb7)
        have HO := hide (own_below (unhide HO) hb7)
        have HB := hide ((unhide HB).trans (hb7.mono (unhide HB).size))
        clear hb7 g0 g1 q0 q1 qf0 qf1 HPT
        obtain ⟨g0, g1⟩ := (unhide HG).cells
        obtain ⟨q0, q1⟩ := (unhide HR).cells
        have qf0 := (unhide HR).froz 0
        have qf1 := (unhide HR).froz 1
        go_wp2
        (try simp only [Exit.inBlock, Exit.then])
        refine bodyPost_ret (results_box Try.results18 _ _ w.heap.size _ _ rfl ((unhide HR).two _ _)) rfl ?_
        rw [show tot.bind (heldTo text k) = none by rw [unhide HN]; rfl]
        exact ⟨⟨_, rfl, pageNil _ _⟩, ((unhide HB).setCell (p := ⟨w.heap.size, 0, none⟩) (by simp) _).setCell (p := ⟨w.heap.size, 1, none⟩) (by simp) _⟩
      · -- MARK E1
        obtain ⟨g0, g1⟩ := (unhide HG).cells
        obtain ⟨q0, q1⟩ := (unhide HR).cells
        have qf0 := (unhide HR).froz 0
        have qf1 := (unhide HR).froz 1
        have hat : PageAt wr (.agg #[.int .i64 k, .slice A i C]) wr.heap.size k L := by
          obtain ⟨a', c', e, hq⟩ := ItemsAt.of_own (unhide HO)
          simp at e
          obtain ⟨rfl, rfl⟩ := e
          exact ⟨_, _, _, rfl, hq⟩
        have HPT := hide (specPage_any _ wr.heap.size k L (by have := unhide HLL; omega) (fun x hx => by have := unhide HSM x hx; omega) wr (Nat.le_refl _) hat)
        clear hat
        obtain ⟨_, _, htot⟩ := unhide HRT rfl
        have hsome := itsA_end (by omega) htot
        clear htot HRT HRF
        by_cases hp : PageOk k L
        · rw [pageA_yes hp] at HPT
          cases hq : ((sealB (pageTo k L L.length)).toList == text.toList)
          · have hne : sealB (pageTo k L L.length) ≠ text := fun e => by rw [e] at hq; simp at hq
            have HN : Hid (tot.bind (heldTo text k) = none) := by show _ = _; rw [hsome]; exact heldTo_other hne
            generalize sealB (pageTo k L L.length) = out at HPT hq
            clear hsome hp hne
            go_wp2_with fail
            refine (unhide HPT).mono ?_
            rintro e w7 ⟨rfl, hb7⟩
            have HG := hide ((unhide HG).below hb7)
            have HR := hide ((unhide HR).below hb7)
            have HO := hide (own_below (unhide HO) hb7)
            have HB := hide ((unhide HB).trans (hb7.mono (unhide HB).size))
            clear hb7 g0 g1 q0 q1 qf0 qf1 HPT
            obtain ⟨g0, g1⟩ := (unhide HG).cells
            obtain ⟨q0, q1⟩ := (unhide HR).cells
            have qf0 := (unhide HR).froz 0
            have qf1 := (unhide HR).froz 1
            go_wp2
            (try simp only [Exit.inBlock, Exit.then])
            refine bodyPost_ret (results_box Try.results18 _ _ w.heap.size _ _ rfl ((unhide HR).two _ _)) rfl ?_
            rw [unhide HN]
            exact ⟨⟨_, rfl, pageNil _ _⟩, ((unhide HB).setCell (p := ⟨w.heap.size, 0, none⟩) (by simp) _).setCell (p := ⟨w.heap.size, 1, none⟩) (by simp) _⟩
          · have he : sealB (pageTo k L L.length) = text := toList_inj (eq_of_beq hq)
            have HN : Hid (tot.bind (heldTo text k) = some (k, L)) := by show _ = _; rw [hsome]; exact heldTo_yes hp he
            generalize sealB (pageTo k L L.length) = out at HPT hq
            clear hsome hp he
            go_wp2_with fail
            refine (unhide HPT).mono ?_
            rintro e w7 ⟨rfl, hb7⟩
            have HG := hide ((unhide HG).below hb7)
            have HR := hide ((unhide HR).below hb7)
            have HO := hide (own_below (unhide HO) hb7)
            have HB := hide ((unhide HB).trans (hb7.mono (unhide HB).size))
            clear hb7 g0 g1 q0 q1 qf0 qf1 HPT
            obtain ⟨g0, g1⟩ := (unhide HG).cells
            obtain ⟨q0, q1⟩ := (unhide HR).cells
            have qf0 := (unhide HR).froz 0
            have qf1 := (unhide HR).froz 1
            have hne0 : ∀ g, (Value.slice A i C).ownBlock = some g → g ≠ w.heap.size := fun g hg e => by have := (unhide HO).lt g hg; omega
            have hRG1 : ¬ w.heap.size = G := by omega
            have hRG2 : ¬ G = w.heap.size := by omega
            go_wp2
            (try simp only [Exit.inBlock, Exit.then])
            refine bodyPost_ret (results_box Try.results18 _ _ w.heap.size _ _ rfl ((unhide HR).two _ _)) rfl ?_
            rw [unhide HN]
            refine ⟨⟨_, rfl, _, rfl, ?_⟩, ((unhide HB).setCell (p := ⟨w.heap.size, 0, none⟩) (by simp) _).setCell (p := ⟨w.heap.size, 1, none⟩) (by simp) _⟩
            show World.ownsRow _ _ _ _ _ L.length (itsV L)
            rw [unhide HLL]
            exact own_lower (by omega) (ownsRow_setCell_other (a := ⟨w.heap.size, 1, none⟩) (ownsRow_setCell_other (a := ⟨w.heap.size, 0, none⟩) (unhide HO) (fun e => hne0 _ e rfl) _) (fun e => hne0 _ e rfl) _)
        · have HN : Hid (tot.bind (heldTo text k) = none) := by show _ = _; rw [hsome]; exact heldTo_no hp
          rw [pageA_no hp] at HPT
          clear hsome hp
          go_wp2_with fail
          refine (unhide HPT).mono ?_
          rintro e w7 ⟨rfl, hb7⟩
          have HG := hide ((unhide HG).below hb7)
          have HR := hide ((unhide HR).below hb7)
          have HO := hide (own_below (unhide HO) hb7)
          have HB := hide ((unhide HB).trans (hb7.mono (unhide HB).size))
          clear hb7 g0 g1 q0 q1 qf0 qf1 HPT
          obtain ⟨g0, g1⟩ := (unhide HG).cells
          obtain ⟨q0, q1⟩ := (unhide HR).cells
          have qf0 := (unhide HR).froz 0
          have qf1 := (unhide HR).froz 1
          go_wp2
          (try simp only [Exit.inBlock, Exit.then])
          refine bodyPost_ret (results_box Try.results18 _ _ w.heap.size _ _ rfl ((unhide HR).two _ _)) rfl ?_
          rw [unhide HN]
          exact ⟨⟨_, rfl, pageNil _ _⟩, ((unhide HB).setCell (p := ⟨w.heap.size, 0, none⟩) (by simp) _).setCell (p := ⟨w.heap.size, 1, none⟩) (by simp) _⟩
end Go.Proofs.Ytajajfmaekdphaa
