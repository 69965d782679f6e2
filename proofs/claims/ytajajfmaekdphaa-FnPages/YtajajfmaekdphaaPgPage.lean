/-
  The contract of the program's reader of a page, from its first byte on.
-/
import Derived.Test.YtajajfmaekdphaaPgPage0
import Derived.Deep.RegionWith
namespace Go.Proofs.Ytajajfmaekdphaa
open Go.RowKit

/-- What the reader of a page leaves: the page, or its own panic. -/
def PgPost (w : World) (g : Nat) (k : Int) (tot : Option (List It)) (e : Ending) (w' : World) : Prop :=
  (∀ Q, tot = some Q → ∃ d, e = .returned d ∧ PageOwn w' w.heap.size d k Q) ∧ (tot = none → e = noPg) ∧ Kept (fun k => k = g) w w'

theorem PgPost.no {w : World} {g : Nat} {k : Int} {tot : Option (List It)} {w' : World} (h : tot = none) (hk : Kept (fun k => k = g) w w') : PgPost w g k tot noPg w' :=
  ⟨fun Q e => (by rw [h] at e; cases e), fun _ => rfl, hk⟩

theorem Kept.grown {S : Nat → Prop} {w W w9 : World} {row : Option Nat} (h : Kept S w W) (hg : W.grownBy w9 row) (hr : ∀ k, row = some k → w.heap.size ≤ k) : Kept S w w9 :=
  ⟨hg.os.trans h.1, hg.tape.trans h.2.1, hg.output.trans h.2.2.1, Nat.le_trans h.2.2.2.1 hg.size, fun i hi hn => (hg.block i (Nat.lt_of_lt_of_le hi h.2.2.2.1) (fun e => by have := hr i e.symm; omega)).trans (h.2.2.2.2 i hi hn)⟩

set_option maxRecDepth 100000 in
set_option maxHeartbeats 4000000 in
theorem page_in_one (g : Nat) (s : ByteArray) (hs : s.size ≤ 8000) (h0 : 0 < s.size) (hk : ((s[0]'h0).toNat : Int) = 1) (n at0 : Nat) (hr1 : readA s 1 = some (n, at0)) (tot : Option (List It)) (ht : tot = itsA 1 s n at0) (w : World) (hr : RdAt w g s 0) :
    Calls Try.prog 66 #[.pointer (some ⟨g, 0, none⟩)] w fun e w' => PgPost w g 1 tot e w' := by
  obtain ⟨i1, hj1, hy0, hy1, hy2⟩ := info_parts infoItem
  have hob := fun w h => oneByte_yes g s 0 hs h0 w h
  rw [hk] at hob
  have HOB := hide hob
  have hra := readA_ahead (a := 1) hr1
  have HNU := hide (fun w h => number_yes g s 1 n at0 hs hr1 w h)
  have hgl := hr.lt
  have HRD := hide hr
  have HT := hide ht
  have hnb : n ≤ 1000000000 := hra.2.2
  have hab : 1 < at0 := hra.1
  have hac : at0 ≤ s.size := hra.2.1
  clear hob hra hr1 hr ht hk h0
  go_enter Try.func66, Try.ntmps66
  go_wp2_with fail
  obtain ⟨W1, hW1⟩ : ∃ W, W = w.alloc (Obj.cells #[Value.int .i64 0, Value.slice none 0 0] 26) := ⟨_, rfl⟩
  rw [← hW1]
  have hk1 : Kept (fun k => k = g) w W1 := by rw [hW1]; exact (Kept.refl _ _).alloc _
  have HR1 : Hid (Box W1 w.heap.size (.int .i64 0) (.slice none 0 0)) := by show Box _ _ _ _; rw [hW1]; exact Box.new _ _ _
  have HRD1 : Hid (RdAt W1 g s 0) := by show RdAt _ _ _ _; rw [hW1]; exact (unhide HRD).below (below_new _ _) hgl
  clear hW1 HRD
  refine (unhide HOB _ (unhide HRD1)).mono ?_
  rintro e w2 ⟨rfl, hrd2, hk2⟩
  have HRD2 := hide hrd2
  have HR2 := hide ((unhide HR1).kept hk2 (by omega))
  have HK2 := hide (hk1.trans hk2)
  clear hrd2 hk2 hk1 HR1 HRD1 HOB
  go_wp2_with fail
  obtain ⟨W3, hW3⟩ : ∃ W, W = w2.alloc (Obj.cells #[Value.int .i64 1, Value.slice none 0 0] 26) := ⟨_, rfl⟩
  rw [← hW3]
  have HP3 : Hid (Box W3 w2.heap.size (.int .i64 1) (.slice none 0 0)) := by show Box _ _ _ _; rw [hW3]; exact Box.new _ _ _
  have hb3 : Below w2.heap.size w2 W3 := by rw [hW3]; exact below_new _ _
  have HRD3 := hide ((unhide HRD2).below hb3 (unhide HRD2).lt)
  have HR3 := hide ((unhide HR2).below hb3)
  have HK3 := hide ((unhide HK2).trans (Kept.of_below hb3))
  have hPR : w.heap.size < w2.heap.size := (unhide HR2).lt
  obtain ⟨P, hP⟩ : ∃ P, P = w2.heap.size := ⟨_, rfl⟩
  rw [← hP] at HP3 hPR ⊢
  clear hW3 hb3 HRD2 HR2 HK2 hP
  refine (kindOf_one _).mono ?_
  rintro e w9 ⟨rfl, rfl⟩
  go_wp2_with fail
  refine (want_yes _ _).mono ?_
  rintro e w9 ⟨rfl, rfl⟩
  go_wp2_with fail
  refine (unhide HNU _ (unhide HRD3)).mono ?_
  rintro e w4 ⟨rfl, hrd4, hk4⟩
  have HRD4 := hide hrd4
  have HP4 := hide ((unhide HP3).kept hk4 (by omega))
  have HR4 := hide ((unhide HR3).kept hk4 (by omega))
  have HK4 := hide ((unhide HK3).trans hk4)
  clear hrd4 hk4 HP3 HR3 HK3 HRD3 HNU
  go_wp2_with fail
  go_loopw [20] (fun a20 wr => ∃ (i at1 : Nat) (L : List It) (A : Option Addr) (C : Nat), a20 = .int .i64 (i : Int) ∧ i ≤ n ∧ i + 1 ≤ at1 ∧ at1 ≤ s.size ∧ L.length = i ∧ tot = (itsA 1 s (n - i) at1).map (L ++ ·) ∧
      RdAt wr g s at1 ∧ Box wr P (.int .i64 1) (.slice A i C) ∧ wr.ownsRow (P + 1) 33 3 (.slice A i C) i (itsV L) ∧ Box wr w.heap.size (.int .i64 0) (.slice none 0 0) ∧ Kept (fun k => k = g) w wr) (fun a20 _ => n - (intOf a20).toNat)
  case atStart =>
    exact ⟨0, at0, [], none, 0, rfl, Nat.zero_le _, by omega, hac, rfl, by rw [unhide HT]; simp, unhide HRD4, unhide HP4, ⟨rfl, .inl ⟨rfl, rfl⟩⟩, unhide HR4, unhide HK4⟩
  case round =>
    obtain ⟨i, at1, L, A, C, rfl, hin, hia, has, hLL, htot, hrd, hP, hO, hR, hK⟩ := hrel
    have HLL := hide hLL
    have HTOT := hide htot
    have HRD := hide hrd
    have HP := hide hP
    have HO := hide hO
    have HR := hide hR
    have HK := hide hK
    have hPl := hP.lt
    have hgw : g < wr.heap.size := hrd.lt
    have hjm : i + 1 ≤ maxLen := by unfold maxLen; omega
    clear hLL htot hrd hP hO hR hK
    by_cases hlt : (i : Int) < (n : Int)
    · cases hit : itA 1 s at1 with
      | none =>
        have HF := hide (itsA_fail (by omega) (unhide HTOT) hit)
        have HIT := hide (item_none_one g s at1 hs hit wr.drew (show RdAt wr.drew g s at1 from unhide HRD))
        obtain ⟨g0, g1⟩ := (unhide HP).cells
        clear hit
        go_wp2_with fail
        go_region_with ((go_at_call 76; refine (unhide HIT).mono ?_; rintro e w8 ⟨rfl, hk8⟩; (refine aside (A := wpAny Try.prog Region.Mode.any #[] (fun _ _ _ => True) 0 #[] { tmps := #[], defers := [] } w) ⟨rfl, PgPost.no (unhide HF) ((unhide HK).trans (show Kept _ wr w8 from hk8))⟩ ?_)))
        all_goals trivial
      | some pr =>
        obtain ⟨x, c⟩ := pr
        have hia2 := itA_ahead hit
        have HF := hide (itsA_go (by omega) (unhide HTOT) hit)
        have HIT := hide (item_some_one g s at1 x c hs hit wr.drew (show RdAt wr.drew g s at1 from unhide HRD))
        obtain ⟨g0, g1⟩ := (unhide HP).cells
        have hac2 : at1 < c := hia2.1
        have hcs : c ≤ s.size := hia2.2.1
        obtain ⟨kx, vx, px⟩ := x
        simp only [itV] at HIT
        clear hit hia2
        go_wp2_with fail
        go_region_law
          (first
            | (refine step_call (by rfl) 76 _ _ (by rfl) #[.pointer (some ⟨g, 0, none⟩), .iface 87 (.agg #[])] (by first | rfl | (simp [Act.eval, Act.put]; done)) enterItem _ (unhide HIT) ?_; rintro e w8 ⟨rfl, hrd8, hk8⟩; refine ⟨_, rfl, ?_⟩; have hk8' : Kept (fun k => k = g) wr w8 := hk8; have HRD8 := hide hrd8; have HP8 := hide ((unhide HP).kept hk8' (by omega)); have HR8 := hide ((unhide HR).kept hk8' (by omega)); have hO8 := hk8'.own (unhide HO) (fun k hk e => by have := (unhide HO).lt k hk; omega); have HK8 := hide ((unhide HK).trans hk8'); have s0 := (unhide HP8).cells.2; have hlt8 := (unhide HP8).lt; have s1 := ((below_new w8 (Obj.cells #[Value.string kx, Value.string vx, Value.int .i64 px] 33)).cell (p := ⟨P, 1, none⟩) hlt8).trans s0; clear hrd8 hk8 hk8')
            | (refine step_append_lies _ (by rfl) _ _ _ (by rfl) (P + 1) 33 i1 _ 3 40 Try.underlying24 hj1 hy0 hy1 hy2 rfl (by omega) (.slice A i C) i (itsV L) (by rfl) (by first | exact hO8.alloc _ | exact (hO8.alloc _).drew) ⟨w8.heap.size, 0, none⟩ 1 1 [.string kx, .string vx, .int .i64 px] (by rfl) (by rfl) (World.news_of_block (cs := #[.string kx, .string vx, .int .i64 px]) (t := 33) (fr := (0, 0)) (heap_alloc_new w8 _)) (by simp [Value.oneCell']) (by omega) hjm (by omega) (by simp; omega) (w8.heap.size + 1) (by simp) ?_; intro g9 cap w9 hown9 hgrow9 hat9 hlt9; have HP9 := hide (grown_box ((unhide HP8).below (below_new w8 (Obj.cells #[Value.string kx, Value.string vx, Value.int .i64 px] 33))) hgrow9 (fun e => by have := hO8.lt _ e; omega)); have t0 := (unhide HP9).cells.2; have tf := (unhide HP9).froz 1))
        all_goals
          have hap := append_page (x := ⟨kx, vx, px⟩) (w := w8.alloc (Obj.cells #[Value.string kx, Value.string vx, Value.int .i64 px] 33)) ((unhide HP8).below (below_new w8 _)) ((unhide HR8).below (below_new w8 _)) hPR (Nat.le_refl _) (hO8.alloc _) (Below.refl _ _) hgrow9 hown9 hat9
          have HAP := hide (And.intro hap.1 (And.intro hap.2.1 hap.2.2.1))
          have hrow : ∀ k, (Value.slice A i C).ownBlock = some k → P + 1 ≤ k := fun k hk => (hO8.lt k hk).1
          have HK9 := hide ((((unhide HK8).alloc (Obj.cells #[Value.string kx, Value.string vx, Value.int .i64 px] 33)).grown hgrow9 (fun k hk => by have := hrow k hk; omega)).set_new (X := P) (by omega) 1 (.slice (some ⟨g9, 0, none⟩) (i + 1) cap))
          have HRD9 : Hid (RdAt (w9.setCell ⟨P, 1, none⟩ (.slice (some ⟨g9, 0, none⟩) (i + 1) cap)) g s c) := (((unhide HRD8).below (below_new w8 (Obj.cells #[Value.string kx, Value.string vx, Value.int .i64 px] 33)) (unhide HRD8).lt).kept (Kept.of_grown hgrow9) (fun e => by have := hrow _ e; omega)).kept (S := fun k => k = P) (Kept.set _ _ _ _ rfl) (by omega)
          clear hap hrow hown9 hgrow9 hat9 hlt9 HP9 HP8 HR8 HK8 HRD8 hO8 s0 s1 g0 g1
          go_wp2
          go_roundw
          case rel =>
            obtain ⟨z1, z2, z3⟩ := unhide HAP
            exact ⟨i + 1, c, L ++ [⟨kx, vx, px⟩], _, _, by go_num, by omega, by omega, hcs, by simp; exact unhide HLL, unhide HF, unhide HRD9, z1, z2, z3, unhide HK9⟩
          case measure => simp [intOf]; omega
    · have hsome := itsA_end (by omega) (unhide HTOT)
      have HS := hide hsome
      obtain ⟨g0, g1⟩ := (unhide HP).cells
      obtain ⟨q0, q1⟩ := (unhide HR).cells
      have qf0 := (unhide HR).froz 0
      have qf1 := (unhide HR).froz 1
      have hPR1 : ¬ w.heap.size = P := by omega
      have hPR2 : ¬ P = w.heap.size := by omega
      have hne0 : ∀ k, (Value.slice A i C).ownBlock = some k → k ≠ w.heap.size := fun k hk e => by have := (unhide HO).lt k hk; omega
      clear hsome
      go_wp2
      (try simp only [Exit.inBlock, Exit.then])
      refine bodyPost_ret (results_cell_row Try.results66 _ _ w.heap.size _ _ _ _ rfl ((unhide HR).two _ _) Try.underlying26 rfl (by kernel_rfl)) rfl ?_
      refine ⟨fun Q hQ => ⟨_, rfl, _, rfl, ?_⟩, fun e => (by rw [unhide HS] at e; cases e), ((unhide HK).set_new (Nat.le_refl _) _ _).set_new (Nat.le_refl _) _ _⟩
      rw [unhide HS] at hQ
      cases hQ
      rw [unhide HLL]
      exact own_lower (by omega) (ownsRow_setCell_other (a := ⟨w.heap.size, 1, none⟩) (ownsRow_setCell_other (a := ⟨w.heap.size, 0, none⟩) (unhide HO) (fun e => hne0 _ e rfl) _) (fun e => hne0 _ e rfl) _)

set_option maxRecDepth 100000 in
set_option maxHeartbeats 4000000 in
theorem page_in_two (g : Nat) (s : ByteArray) (hs : s.size ≤ 8000) (h0 : 0 < s.size) (hk : ((s[0]'h0).toNat : Int) = 2) (n at0 : Nat) (hr1 : readA s 1 = some (n, at0)) (tot : Option (List It)) (ht : tot = itsA 2 s n at0) (w : World) (hr : RdAt w g s 0) :
    Calls Try.prog 66 #[.pointer (some ⟨g, 0, none⟩)] w fun e w' => PgPost w g 2 tot e w' := by
  obtain ⟨i1, hj1, hy0, hy1, hy2⟩ := info_parts infoItem
  have hob := fun w h => oneByte_yes g s 0 hs h0 w h
  rw [hk] at hob
  have HOB := hide hob
  have hra := readA_ahead (a := 1) hr1
  have HNU := hide (fun w h => number_yes g s 1 n at0 hs hr1 w h)
  have hgl := hr.lt
  have HRD := hide hr
  have HT := hide ht
  have hnb : n ≤ 1000000000 := hra.2.2
  have hab : 1 < at0 := hra.1
  have hac : at0 ≤ s.size := hra.2.1
  clear hob hra hr1 hr ht hk h0
  go_enter Try.func66, Try.ntmps66
  go_wp2_with fail
  obtain ⟨W1, hW1⟩ : ∃ W, W = w.alloc (Obj.cells #[Value.int .i64 0, Value.slice none 0 0] 26) := ⟨_, rfl⟩
  rw [← hW1]
  have hk1 : Kept (fun k => k = g) w W1 := by rw [hW1]; exact (Kept.refl _ _).alloc _
  have HR1 : Hid (Box W1 w.heap.size (.int .i64 0) (.slice none 0 0)) := by show Box _ _ _ _; rw [hW1]; exact Box.new _ _ _
  have HRD1 : Hid (RdAt W1 g s 0) := by show RdAt _ _ _ _; rw [hW1]; exact (unhide HRD).below (below_new _ _) hgl
  clear hW1 HRD
  refine (unhide HOB _ (unhide HRD1)).mono ?_
  rintro e w2 ⟨rfl, hrd2, hk2⟩
  have HRD2 := hide hrd2
  have HR2 := hide ((unhide HR1).kept hk2 (by omega))
  have HK2 := hide (hk1.trans hk2)
  clear hrd2 hk2 hk1 HR1 HRD1 HOB
  go_wp2_with fail
  obtain ⟨W3, hW3⟩ : ∃ W, W = w2.alloc (Obj.cells #[Value.int .i64 2, Value.slice none 0 0] 26) := ⟨_, rfl⟩
  rw [← hW3]
  have HP3 : Hid (Box W3 w2.heap.size (.int .i64 2) (.slice none 0 0)) := by show Box _ _ _ _; rw [hW3]; exact Box.new _ _ _
  have hb3 : Below w2.heap.size w2 W3 := by rw [hW3]; exact below_new _ _
  have HRD3 := hide ((unhide HRD2).below hb3 (unhide HRD2).lt)
  have HR3 := hide ((unhide HR2).below hb3)
  have HK3 := hide ((unhide HK2).trans (Kept.of_below hb3))
  have hPR : w.heap.size < w2.heap.size := (unhide HR2).lt
  obtain ⟨P, hP⟩ : ∃ P, P = w2.heap.size := ⟨_, rfl⟩
  rw [← hP] at HP3 hPR ⊢
  clear hW3 hb3 HRD2 HR2 HK2 hP
  refine (kindOf_two _).mono ?_
  rintro e w9 ⟨rfl, rfl⟩
  go_wp2_with fail
  refine (want_yes _ _).mono ?_
  rintro e w9 ⟨rfl, rfl⟩
  go_wp2_with fail
  refine (unhide HNU _ (unhide HRD3)).mono ?_
  rintro e w4 ⟨rfl, hrd4, hk4⟩
  have HRD4 := hide hrd4
  have HP4 := hide ((unhide HP3).kept hk4 (by omega))
  have HR4 := hide ((unhide HR3).kept hk4 (by omega))
  have HK4 := hide ((unhide HK3).trans hk4)
  clear hrd4 hk4 HP3 HR3 HK3 HRD3 HNU
  go_wp2_with fail
  go_loopw [20] (fun a20 wr => ∃ (i at1 : Nat) (L : List It) (A : Option Addr) (C : Nat), a20 = .int .i64 (i : Int) ∧ i ≤ n ∧ i + 1 ≤ at1 ∧ at1 ≤ s.size ∧ L.length = i ∧ tot = (itsA 2 s (n - i) at1).map (L ++ ·) ∧
      RdAt wr g s at1 ∧ Box wr P (.int .i64 2) (.slice A i C) ∧ wr.ownsRow (P + 1) 33 3 (.slice A i C) i (itsV L) ∧ Box wr w.heap.size (.int .i64 0) (.slice none 0 0) ∧ Kept (fun k => k = g) w wr) (fun a20 _ => n - (intOf a20).toNat)
  case atStart =>
    exact ⟨0, at0, [], none, 0, rfl, Nat.zero_le _, by omega, hac, rfl, by rw [unhide HT]; simp, unhide HRD4, unhide HP4, ⟨rfl, .inl ⟨rfl, rfl⟩⟩, unhide HR4, unhide HK4⟩
  case round =>
    obtain ⟨i, at1, L, A, C, rfl, hin, hia, has, hLL, htot, hrd, hP, hO, hR, hK⟩ := hrel
    have HLL := hide hLL
    have HTOT := hide htot
    have HRD := hide hrd
    have HP := hide hP
    have HO := hide hO
    have HR := hide hR
    have HK := hide hK
    have hPl := hP.lt
    have hgw : g < wr.heap.size := hrd.lt
    have hjm : i + 1 ≤ maxLen := by unfold maxLen; omega
    clear hLL htot hrd hP hO hR hK
    by_cases hlt : (i : Int) < (n : Int)
    · cases hit : itA 2 s at1 with
      | none =>
        have HF := hide (itsA_fail (by omega) (unhide HTOT) hit)
        have HIT := hide (item_none_two g s at1 hs hit wr.drew (show RdAt wr.drew g s at1 from unhide HRD))
        obtain ⟨g0, g1⟩ := (unhide HP).cells
        clear hit
        go_wp2_with fail
        go_region_with ((go_at_call 76; refine (unhide HIT).mono ?_; rintro e w8 ⟨rfl, hk8⟩; (refine aside (A := wpAny Try.prog Region.Mode.any #[] (fun _ _ _ => True) 0 #[] { tmps := #[], defers := [] } w) ⟨rfl, PgPost.no (unhide HF) ((unhide HK).trans (show Kept _ wr w8 from hk8))⟩ ?_)))
        all_goals trivial
      | some pr =>
        obtain ⟨x, c⟩ := pr
        have hia2 := itA_ahead hit
        have HF := hide (itsA_go (by omega) (unhide HTOT) hit)
        have HIT := hide (item_some_two g s at1 x c hs hit wr.drew (show RdAt wr.drew g s at1 from unhide HRD))
        obtain ⟨g0, g1⟩ := (unhide HP).cells
        have hac2 : at1 < c := hia2.1
        have hcs : c ≤ s.size := hia2.2.1
        obtain ⟨kx, vx, px⟩ := x
        simp only [itV] at HIT
        clear hit hia2
        go_wp2_with fail
        go_region_law
          (first
            | (refine step_call (by rfl) 76 _ _ (by rfl) #[.pointer (some ⟨g, 0, none⟩), .iface 88 (.agg #[])] (by first | rfl | (simp [Act.eval, Act.put]; done)) enterItem _ (unhide HIT) ?_; rintro e w8 ⟨rfl, hrd8, hk8⟩; refine ⟨_, rfl, ?_⟩; have hk8' : Kept (fun k => k = g) wr w8 := hk8; have HRD8 := hide hrd8; have HP8 := hide ((unhide HP).kept hk8' (by omega)); have HR8 := hide ((unhide HR).kept hk8' (by omega)); have hO8 := hk8'.own (unhide HO) (fun k hk e => by have := (unhide HO).lt k hk; omega); have HK8 := hide ((unhide HK).trans hk8'); have s0 := (unhide HP8).cells.2; have hlt8 := (unhide HP8).lt; have s1 := ((below_new w8 (Obj.cells #[Value.string kx, Value.string vx, Value.int .i64 px] 33)).cell (p := ⟨P, 1, none⟩) hlt8).trans s0; clear hrd8 hk8 hk8')
            | (refine step_append_lies _ (by rfl) _ _ _ (by rfl) (P + 1) 33 i1 _ 3 40 Try.underlying24 hj1 hy0 hy1 hy2 rfl (by omega) (.slice A i C) i (itsV L) (by rfl) (by first | exact hO8.alloc _ | exact (hO8.alloc _).drew) ⟨w8.heap.size, 0, none⟩ 1 1 [.string kx, .string vx, .int .i64 px] (by rfl) (by rfl) (World.news_of_block (cs := #[.string kx, .string vx, .int .i64 px]) (t := 33) (fr := (0, 0)) (heap_alloc_new w8 _)) (by simp [Value.oneCell']) (by omega) hjm (by omega) (by simp; omega) (w8.heap.size + 1) (by simp) ?_; intro g9 cap w9 hown9 hgrow9 hat9 hlt9; have HP9 := hide (grown_box ((unhide HP8).below (below_new w8 (Obj.cells #[Value.string kx, Value.string vx, Value.int .i64 px] 33))) hgrow9 (fun e => by have := hO8.lt _ e; omega)); have t0 := (unhide HP9).cells.2; have tf := (unhide HP9).froz 1))
        all_goals
          have hap := append_page (x := ⟨kx, vx, px⟩) (w := w8.alloc (Obj.cells #[Value.string kx, Value.string vx, Value.int .i64 px] 33)) ((unhide HP8).below (below_new w8 _)) ((unhide HR8).below (below_new w8 _)) hPR (Nat.le_refl _) (hO8.alloc _) (Below.refl _ _) hgrow9 hown9 hat9
          have HAP := hide (And.intro hap.1 (And.intro hap.2.1 hap.2.2.1))
          have hrow : ∀ k, (Value.slice A i C).ownBlock = some k → P + 1 ≤ k := fun k hk => (hO8.lt k hk).1
          have HK9 := hide ((((unhide HK8).alloc (Obj.cells #[Value.string kx, Value.string vx, Value.int .i64 px] 33)).grown hgrow9 (fun k hk => by have := hrow k hk; omega)).set_new (X := P) (by omega) 1 (.slice (some ⟨g9, 0, none⟩) (i + 1) cap))
          have HRD9 : Hid (RdAt (w9.setCell ⟨P, 1, none⟩ (.slice (some ⟨g9, 0, none⟩) (i + 1) cap)) g s c) := (((unhide HRD8).below (below_new w8 (Obj.cells #[Value.string kx, Value.string vx, Value.int .i64 px] 33)) (unhide HRD8).lt).kept (Kept.of_grown hgrow9) (fun e => by have := hrow _ e; omega)).kept (S := fun k => k = P) (Kept.set _ _ _ _ rfl) (by omega)
          clear hap hrow hown9 hgrow9 hat9 hlt9 HP9 HP8 HR8 HK8 HRD8 hO8 s0 s1 g0 g1
          go_wp2
          go_roundw
          case rel =>
            obtain ⟨z1, z2, z3⟩ := unhide HAP
            exact ⟨i + 1, c, L ++ [⟨kx, vx, px⟩], _, _, by go_num, by omega, by omega, hcs, by simp; exact unhide HLL, unhide HF, unhide HRD9, z1, z2, z3, unhide HK9⟩
          case measure => simp [intOf]; omega
    · have hsome := itsA_end (by omega) (unhide HTOT)
      have HS := hide hsome
      obtain ⟨g0, g1⟩ := (unhide HP).cells
      obtain ⟨q0, q1⟩ := (unhide HR).cells
      have qf0 := (unhide HR).froz 0
      have qf1 := (unhide HR).froz 1
      have hPR1 : ¬ w.heap.size = P := by omega
      have hPR2 : ¬ P = w.heap.size := by omega
      have hne0 : ∀ k, (Value.slice A i C).ownBlock = some k → k ≠ w.heap.size := fun k hk e => by have := (unhide HO).lt k hk; omega
      clear hsome
      go_wp2
      (try simp only [Exit.inBlock, Exit.then])
      refine bodyPost_ret (results_cell_row Try.results66 _ _ w.heap.size _ _ _ _ rfl ((unhide HR).two _ _) Try.underlying26 rfl (by kernel_rfl)) rfl ?_
      refine ⟨fun Q hQ => ⟨_, rfl, _, rfl, ?_⟩, fun e => (by rw [unhide HS] at e; cases e), ((unhide HK).set_new (Nat.le_refl _) _ _).set_new (Nat.le_refl _) _ _⟩
      rw [unhide HS] at hQ
      cases hQ
      rw [unhide HLL]
      exact own_lower (by omega) (ownsRow_setCell_other (a := ⟨w.heap.size, 1, none⟩) (ownsRow_setCell_other (a := ⟨w.heap.size, 0, none⟩) (unhide HO) (fun e => hne0 _ e rfl) _) (fun e => hne0 _ e rfl) _)
end Go.Proofs.Ytajajfmaekdphaa
