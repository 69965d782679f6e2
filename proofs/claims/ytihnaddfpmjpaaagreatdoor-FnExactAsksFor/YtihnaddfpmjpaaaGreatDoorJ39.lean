/-
 GrRC3.
-/
import Derived.Test.YtihnaddfpmjpaaaGreatDoorJ38
import Derived.Deep.RegionLaw
import Derived.Deep.CutBlock
namespace Go.Proofs.YtihnaddfpmjpaaaGreatDoor
namespace Gr
open Go.RowKit
theorem rdEdges_stop (t : ByteArray) (k : Nat) (c : CS) (h : k = 0 ∨ c.b = true) : rdEdges t k c = ([], c) := by
  cases k with
  | zero => rfl
  | succ k =>
    rcases h with h | h
    · cases h
    · rw [rdEdges, if_pos h]
theorem rdCouples_stop (t : ByteArray) (k : Nat) (c : CS) (h : k = 0 ∨ c.b = true) : rdCouples t k c = ([], c) := by
  cases k with
  | zero => rfl
  | succ k =>
    rcases h with h | h
    · cases h
    · rw [rdCouples, if_pos h]
theorem rdInts_stop (t : ByteArray) (k : Nat) (c : CS) (h : k = 0 ∨ c.b = true) : rdInts t k c = ([], c) := by
  cases k with
  | zero => rfl
  | succ k =>
    rcases h with h | h
    · cases h
    · rw [rdInts, if_pos h]
theorem rdGroups_stop (t : ByteArray) (k : Nat) (c : CS) (h : k = 0 ∨ c.b = true) : rdGroups t k c = ([], c) := by
  cases k with
  | zero => rfl
  | succ k =>
    rcases h with h | h
    · cases h
    · rw [rdGroups, if_pos h]
theorem RS.size {w W : World} {t : ByteArray} {c : CS} {s s' : Int} {v1 v2 v3 v4 : Value} {Q : List EdgeI} {M : List CoupleI} {Y : List Int} {G : List GrpI} (h : RS w W t c s v1 v2 v3 v4 Q M Y G) :
    RS w (W.setCell ⟨w.heap.size + 1 + 1, 0, none⟩ (.int .i64 s')) t c s' v1 v2 v3 v4 Q M Y G := by
  obtain ⟨t1, t2, t3, t4, t5, t6, t7, t8, t9, t10, t11, t12, t13, t14, t15⟩ := ty_ne
  obtain ⟨xs, g1, g2⟩ := h.groups
  have k2 : Kept (fun i => i = w.heap.size + 1 + 1) W (W.setCell ⟨w.heap.size + 1 + 1, 0, none⟩ (.int .i64 s')) := Kept.set _ _ _ _ rfl
  have al2 : ∀ e : TypeId, (134 : Nat) ≠ e → ∀ k, k = w.heap.size + 1 + 1 → Alien W k e := fun e he k hk => by subst hk; exact h.box.alien he
  exact ⟨h.below.trans (k2.below h.below.size (fun i hi => by omega)), h.res.kept k2 (by omega), ⟨h.cur.1.kept k2 (by omega), h.cur.2⟩, h.box.set 0 _, k2.own_alien h.edges (al2 _ t6), k2.own_alien h.couples (al2 _ t7), k2.own_alien h.ints (al2 _ t8), xs, k2.own_alien g1 (al2 _ t9), g2.kept k2 (al2 _ t8)⟩
theorem own_shape3 {w : World} {B e size n : Nat} {v : Value} {xs : List Value} (h : w.ownsRow B e size v n xs) : ∃ a c, v = .slice a n c := by
  rcases h.2 with ⟨rfl, h0⟩ | ⟨g, cap, cur, rfl, _⟩
  · exact ⟨none, 0, by rw [h0]⟩
  · exact ⟨_, _, rfl⟩
theorem enterL12 (vs : Array Value) (w : World) : (callFunc 118 vs).run Tryz.prog w = .ok (.enter 118 vs) w := by kernel_rfl
theorem Kept.past {S T : Nat → Prop} {a b c : World} (h : Kept S a b) (k : Kept T b c) (hT : ∀ i, T i → a.heap.size ≤ i) : Kept S a c :=
  ⟨k.1.trans h.1, k.2.1.trans h.2.1, k.2.2.1.trans h.2.2.1, Nat.le_trans h.2.2.2.1 k.2.2.2.1, fun i hi hn => (k.2.2.2.2 i (Nat.lt_of_lt_of_le hi h.2.2.2.1) (fun ht => by have := hT i ht; omega)).trans (h.2.2.2.2 i hi hn)⟩
theorem groups_of {w : World} {B : Nat} {v : Value} {G : List GrpI} {xs : List Value} (h : w.ownsRow B 164 2 v G.length xs) (hg : GV w B xs G) : ∃ a c, v = .slice a G.length c ∧ groupsAt w a G.length w.heap.size G := by
  rcases h.2 with ⟨rfl, h0⟩ | ⟨g, cap, cur, rfl, _, hh, _⟩
  · exact ⟨none, 0, by rw [h0], rfl, fun j hj => by omega⟩
  · refine ⟨_, _, rfl, rfl, fun j hj => ?_⟩
    obtain ⟨u, h1, h2, h3⟩ := hg.2 j hj
    obtain ⟨a', c', rfl, hI⟩ := h3.at
    refine ⟨g, 0, a', c', rfl, (h.lt g rfl).2, ?_, ?_, hI⟩
    · rw [Nat.zero_add, h.cellAt (j * 2) (by omega)]; exact h1
    · rw [Nat.zero_add, h.cellAt (j * 2 + 1) (by omega)]; exact h2
theorem RS.at {w wr : World} {t : ByteArray} {c : CS} {s : Int} {v1 v2 v3 v4 : Value} {Q : List EdgeI} {M : List CoupleI} {Y : List Int} {G : List GrpI} (h : RS w wr t c s v1 v2 v3 v4 Q M Y G)
    (hQ : Q.length ≤ 100) (hM : M.length ≤ 100) (hY : Y.length ≤ 100) (hG : G.length ≤ 100) (hl : ∀ q ∈ G, q.M.length ≤ 100) : CeAt wr (.agg #[.int .i64 s, v1, v2, v3, v4]) wr.heap.size s Q M Y G := by
  obtain ⟨a, c0, rfl, h1⟩ := edgesAt.of_own h.edges
  obtain ⟨a1, c1, rfl, h2⟩ := couplesAt.of_own h.couples
  obtain ⟨a2, c2, rfl, h3⟩ := intsAt_of_own h.ints
  obtain ⟨xs, g1, g2⟩ := h.groups
  obtain ⟨a3, c3, rfl, h4⟩ := groups_of g1 g2
  exact ⟨a, c0, a1, c1, a2, c2, a3, c3, rfl, ⟨_, _, _, rfl, h1⟩, ⟨_, _, rfl, h2⟩, ⟨_, _, _, _, _, _, rfl, h3, h4, by omega, by omega, fun q hq => by have := hl q hq; omega⟩, by omega, by omega⟩
theorem CeAt.zero (w : World) (B : Nat) : CeAt w (.agg #[.int .i64 0, .slice none 0 0, .slice none 0 0, .slice none 0 0, .slice none 0 0]) B 0 [] [] [] [] :=
  ⟨none, 0, none, 0, none, 0, none, 0, rfl, ⟨_, _, _, rfl, rfl, fun j hj => absurd hj (Nat.not_lt_zero _)⟩, ⟨_, _, rfl, rfl, fun j hj => absurd hj (Nat.not_lt_zero _)⟩, ⟨_, _, _, _, _, _, rfl, ⟨rfl, fun j hj => absurd hj (Nat.not_lt_zero _)⟩, ⟨rfl, fun j hj => absurd hj (Nat.not_lt_zero _)⟩, by simp, by simp, by simp⟩, by simp, by simp⟩
theorem RS.keptRes {w wr W : World} {t : ByteArray} {c : CS} {s : Int} {v1 v2 v3 v4 : Value} {Q : List EdgeI} {M : List CoupleI} {Y : List Int} {G : List GrpI} (h : RS w wr t c s v1 v2 v3 v4 Q M Y G)
    (hk : Kept (fun k => k = w.heap.size) wr W) (hl : Q.length ≤ 100 ∧ M.length ≤ 100 ∧ Y.length ≤ 100 ∧ G.length ≤ 100 ∧ ∀ q ∈ G, q.M.length ≤ 100) : CeAt W (.agg #[.int .i64 s, v1, v2, v3, v4]) W.heap.size s Q M Y G := by
  obtain ⟨t1, t2, t3, t4, t5, t6, t7, t8, t9, _⟩ := ty_ne
  have al : ∀ e : TypeId, (134 : Nat) ≠ e → ∀ k, k = w.heap.size → Alien wr k e := fun e he k hk => by subst hk; exact h.res.alien he
  obtain ⟨xs, g1, g2⟩ := h.groups
  obtain ⟨a, c0, rfl, h1⟩ := edgesAt.of_own (hk.own_alien h.edges (al _ t6))
  obtain ⟨a1, c1, rfl, h2⟩ := couplesAt.of_own (hk.own_alien h.couples (al _ t7))
  obtain ⟨a2, c2, rfl, h3⟩ := intsAt_of_own (hk.own_alien h.ints (al _ t8))
  obtain ⟨a3, c3, rfl, h4⟩ := groups_of (hk.own_alien g1 (al _ t9)) (g2.kept hk (al _ t8))
  obtain ⟨hQ, hM, hY, hG, hl⟩ := hl
  exact ⟨a, c0, a1, c1, a2, c2, a3, c3, rfl, ⟨_, _, _, rfl, h1⟩, ⟨_, _, rfl, h2⟩, ⟨_, _, _, _, _, _, rfl, h3, h4, by omega, by omega, fun q hq => by have := hl q hq; omega⟩, by omega, by omega⟩
theorem results_cert2 {fn : Func} {p u : Tmp} (h : fn.results = #[.cell p 134, .tmp u]) (tmps : Array Value) (w : World) (g : Nat) (x0 x1 x2 x3 x4 : Value) (hp : tmps.getD p undef = .pointer (some ⟨g, 0, none⟩)) (hg : Blk w g #[x0, x1, x2, x3, x4] 134) :
    (results fn tmps).run Tryz.prog w = .ok (.tuple #[.agg #[x0, x1, x2, x3, x4], tmps.getD u undef]) w := by
  have c0 := hg.cell 0 x0 rfl
  have c1 := hg.cell 1 x1 rfl
  have c2 := hg.cell 2 x2 rfl
  have c3 := hg.cell 3 x3 rfl
  have c4 := hg.cell 4 x4 rfl
  have hp' : tmps[p]?.getD undef = .pointer (some ⟨g, 0, none⟩) := by simpa using hp
  simp [results, h, hp', go_sem, c0, c1, c2, c3, c4]
theorem gbulk_short : ∀ (G : List GrpI), (∀ q ∈ G, q.M.length ≤ 100) → gbulk G ≤ G.length * 100
  | [], _ => by simp [gbulk]
  | q :: r, h => by
    have h1 := gbulk_short r (fun x hx => h x (by simp [hx]))
    have h2 := h q (by simp)
    rw [gbulk, List.length_cons]
    omega
theorem csize_short {Q : List EdgeI} {M : List CoupleI} {Y : List Int} {G : List GrpI} (hQ : Q.length ≤ 100) (hM : M.length ≤ 100) (hY : Y.length ≤ 100) (hG : G.length ≤ 100) (hl : ∀ q ∈ G, q.M.length ≤ 100) : csize Q M Y G ≤ 1048576 := by
  have h := gbulk_short G hl
  unfold csize psize
  omega
theorem rdInts_short (t : ByteArray) : ∀ (k : Nat) (c : CS), (rdInts t k c).1.length ≤ k
  | 0, _ => by simp [rdInts]
  | k + 1, c => by
    rw [rdInts]
    split
    · simp
    · have := rdInts_short t k (Gr.rd t c).2
      simp only [List.length_cons]
      omega
theorem rdGroups_short (t : ByteArray) : ∀ (k : Nat) (c : CS), ∀ q ∈ (rdGroups t k c).1, q.M.length ≤ 100
  | 0, _, q, h => by simp [rdGroups] at h
  | k + 1, c, q, h => by
    rw [rdGroups] at h
    split at h
    · simp at h
    · simp only [List.mem_cons] at h
      rcases h with rfl | h
      · have := rdInts_short t (min (Gr.rd t c).1.toNat 100) (Gr.rd t c).2
        simp only
        omega
      · exact rdGroups_short t k _ q h
theorem own_nil (w : World) (B e size : Nat) : w.ownsRow B e size (.slice none 0 0) 0 [] := ⟨by simp, .inl ⟨rfl, rfl⟩⟩
set_option maxRecDepth 100000 in
set_option maxHeartbeats 8000000 in
theorem specReadCert_new (t : ByteArray) (ht : t.size ≤ 1048576) (w : World) :
    Calls Tryz.prog 100 #[.string t] w fun e w' => (∃ d, e = .returned (.tuple #[d, .bool (rcOk t)]) ∧ CeAt w' d w'.heap.size (rcV t).s (rcV t).Q (rcV t).M (rcV t).Y (rcV t).G ∧ CNew w' (w.heap.size + 3) d (rcV t).s (rcV t).Q (rcV t).M (rcV t).Y (rcV t).G) ∧ Below w.heap.size w w' := by
  obtain ⟨ie, hie, ez0, ez1, ez2⟩ := info_parts infoEdge
  obtain ⟨ic, hic, cz0, cz1, cz2⟩ := info_parts infoCouple
  obtain ⟨ii, hii, iz0, iz1, iz2⟩ := info_parts info3
  obtain ⟨ig, hig, gz0, gz1, gz2⟩ := info_parts infoGroup
  have LV := hide (fun c w1 (h : CuAt w1 (w.heap.size + 1) t c) => l12Var_any t ht (w.heap.size + 1) c w1 h)
  have HRB := hide (fun c (h : c.p ≤ t.size) => rd_bound t c h)
  obtain ⟨RCV, hRC⟩ : ∃ x, x = rdCert t := ⟨_, rfl⟩
  have HOK : Hid (rcOk t = RCV.ok t ∧ rcV t = if RCV.ok t = true then RCV else ⟨0, [], [], [], [], ⟨0, false⟩⟩) := by rw [hRC]; exact ⟨rfl, rfl⟩
  unfold rdCert at hRC
  have HRC := hide hRC
  clear hRC
  generalize rcOk t = OK at HOK ⊢
  generalize rcV t = RV at HOK ⊢
  go_enter Tryz.func100, Tryz.ntmps100
  go_wp2_with fail
  obtain ⟨V0, hV0⟩ : ∃ W, W = ((w.alloc (Obj.cells #[Value.int .i64 0, Value.slice none 0 0, Value.slice none 0 0, Value.slice none 0 0, Value.slice none 0 0] 134)).alloc (Obj.cells #[Value.string t, Value.int .i64 0, Value.bool false] 159)).alloc (Obj.cells #[Value.int .i64 0, Value.slice none 0 0, Value.slice none 0 0, Value.slice none 0 0, Value.slice none 0 0] 134) := ⟨_, rfl⟩
  rw [← hV0]
  have R0 : RS w V0 t ⟨0, false⟩ 0 (.slice none 0 0) (.slice none 0 0) (.slice none 0 0) (.slice none 0 0) [] [] [] [] := by
    rw [hV0]
    exact ⟨((below_new _ _).alloc (by simp) _).alloc (by simp; omega) _, Blk.new0.alloc.alloc, ⟨Blk.new1.alloc, Nat.zero_le _⟩, Blk.new2, own_nil _ _ _ _, own_nil _ _ _ _, own_nil _ _ _ _, [], own_nil _ _ _ _, rfl, fun j hj => absurd hj (Nat.not_lt_zero _)⟩
  clear hV0
  go_fit (unhide LV _ V0 R0.cur)
  rintro e w1 ⟨rfl, cu1, k1⟩
  have R1 := R0.rd k1 cu1
  obtain ⟨x0, hx0⟩ : ∃ x, x = rd t ⟨0, false⟩ := ⟨_, rfl⟩
  have hb0 := unhide HRB ⟨0, false⟩ (Nat.zero_le _)
  have HRC1 := hide (unhide HRC)
  rw [← hx0] at hb0 HRC1 R1 ⊢
  clear hx0 R0 k1 cu1 HRC
  obtain ⟨s, c0⟩ := x0
  simp only at hb0 HRC1 R1 ⊢
  have HR1 := hide (R1.size (s' := s))
  have p0 := R1.box.cell 0 _ rfl
  have f0 := R1.box.froz 0
  have hsz1 := R1.box.lt
  clear R1
  go_wp2_with fail
  go_fit (unhide LV _ _ (unhide HR1).cur)
  rintro e w2 ⟨rfl, cu2, k2⟩
  have HR2 := hide ((unhide HR1).rd k2 cu2)
  obtain ⟨x1, hx1⟩ : ∃ x, x = rd t c0 := ⟨_, rfl⟩
  have hb1 := unhide HRB c0 hb0.2.2
  have HRC2 := hide (unhide HRC1)
  rw [← hx1] at hb1 HRC2 HR2 ⊢
  clear hx1 k2 cu2 HR1 HRC1 p0 f0
  obtain ⟨n, c1⟩ := x1
  simp only at hb1 HRC2 HR2 ⊢
  obtain ⟨N1, hN1⟩ : ∃ k, k = min n.toNat 100 := ⟨_, rfl⟩
  rw [← hN1] at HRC2
  have HN1 := hide hN1
  obtain ⟨E0, hE0⟩ : ∃ x, x = rdEdges t N1 c1 := ⟨_, rfl⟩
  have HRC3 := hide (unhide HRC2)
  rw [← hE0] at HRC3
  have HE0 := hide hE0
  clear hN1 hE0 HRC2
  have HRC := hide (unhide HRC3)
  clear HRC3
  go_upto_block 0 with fail
  go_cut [7] (fun _ wx => ∃ (c : CS) (v1 : Value) (Q : List EdgeI), Q.length ≤ 100 ∧ Hid (RS w wx t c s v1 (.slice none 0 0) (.slice none 0 0) (.slice none 0 0) Q [] [] []) ∧ Hid (E0 = (Q, c)))
  case first =>
    go_wp2_with fail
    go_loopw [7] (fun i wr => ∃ (j : Nat) (c : CS) (v1 : Value) (Q : List EdgeI), i = .int .i64 (j : Int) ∧ j ≤ N1 ∧ Hid (Q.length = j) ∧ Hid (RS w wr t c s v1 (.slice none 0 0) (.slice none 0 0) (.slice none 0 0) Q [] [] []) ∧ Hid (E0 = (Q ++ (rdEdges t (N1 - j) c).1, (rdEdges t (N1 - j) c).2))) (fun i _ => N1 - (intOf i).toNat)
    case atStart => exact ⟨0, c1, _, [], rfl, Nat.zero_le _, rfl, unhide HR2, by show _ = _; rw [unhide HE0]; rfl⟩
    case round =>
      obtain ⟨j, c, v1, Q, rfl, hj, hQj, HR, HS⟩ := hrel
      have hN := unhide HN1
      have hbad := (unhide HR).cur.bad
      have hcp := (unhide HR).cur.2
      have hwl := (unhide HR).box.lt
      obtain ⟨gb, hgb⟩ : ∃ b : Bool, b = (decide (j < N1) && !c.b) := ⟨_, rfl⟩
      have HGB := hide hgb
      have HN9 := hide hN
      clear hgb
      go_upto_region 6 with fail
      go_cut [41] (fun cc wx => cc = .bool gb ∧ wx = wr)
      case first =>
        by_cases h1 : (j : Int) < n
        · cases hcb : c.b
          · rw [hcb] at hbad
            by_cases h2 : (j : Int) < 100
            · have h3 : j < N1 := by omega
              clear hN
              go_wp2
              go_meet
              case rel => exact ⟨by rw [unhide HGB, hcb, decide_eq_true h3]; rfl, rfl⟩
            · have h3 : ¬ j < N1 := by omega
              clear hN
              go_wp2
              go_meet
              case rel => exact ⟨by rw [unhide HGB, hcb, decide_eq_false h3]; rfl, rfl⟩
          · rw [hcb] at hbad
            clear hN
            go_wp2
            go_meet
            case rel => exact ⟨by rw [unhide HGB, hcb]; simp, rfl⟩
        · have h3 : ¬ j < N1 := by omega
          clear hN
          go_wp2
          go_meet
          case rel => exact ⟨by rw [unhide HGB, decide_eq_false h3]; rfl, rfl⟩
      case rest =>
        obtain ⟨rfl, hwc⟩ := hcut
        subst wc
        clear hN
        cases gb with
        | true =>
          have hgo : j < N1 ∧ c.b = false := by have h := unhide HGB; simp at h; exact h
          obtain ⟨hlt, hcb⟩ := hgo
          have hj100 : (j : Int) < 100 := by have := unhide HN9; omega
          clear HGB hbad
          obtain ⟨k, hk⟩ : ∃ k, N1 - j = k + 1 := ⟨N1 - j - 1, by omega⟩
          have hk2 : N1 - (j + 1) = k := by omega
          have HS1 : Hid (E0 = (Q ++ (rdEdges t (k + 1) c).1, (rdEdges t (k + 1) c).2)) := by rw [← hk]; exact HS
          have HK2 := hide hk2
          clear HS hk hk2
          have HS2 := unhide HS1
          rw [rdEdges, if_neg (by rw [hcb]; simp)] at HS2
          have HS := hide HS2
          clear HS1 HS2
          go_wp2_with fail
          obtain ⟨U0, hU0⟩ : ∃ W, W = wr.alloc (Obj.cells #[Value.int .i64 0, Value.int .i64 0, Value.int .i64 0, Value.int .i64 0, Value.int .i64 0] 106) := ⟨_, rfl⟩
          rw [← hU0]
          have K0 : Kept (fun k => k = w.heap.size + 1) wr U0 := by rw [hU0]; exact Kept.of_below (below_new _ _)
          have B0 : Blk U0 wr.heap.size #[Value.int .i64 0, Value.int .i64 0, Value.int .i64 0, Value.int .i64 0, Value.int .i64 0] 106 := by rw [hU0]; exact Blk.new0
          have cu0 := (unhide HR).cur.kept (S := fun _ => False) (Kept.of_below (show Below wr.heap.size wr U0 by rw [hU0]; exact below_new _ _)) (fun h => h)
          clear hU0
          go_fit (unhide LV c _ cu0)
          rintro e y0 ⟨rfl, cv0, kv0⟩
          have K10 := K0.trans kv0
          have B10 := B0.kept kv0 (by omega)
          obtain ⟨z0, hz0⟩ : ∃ x, x = rd t c := ⟨_, rfl⟩
          have bd0 := unhide HRB c hcp
          have HS0 := hide (unhide HS)
          rw [← hz0] at bd0 HS0 cv0 ⊢
          obtain ⟨a0, d0⟩ := z0
          simp only at bd0 HS0 cv0 ⊢
          clear hz0 kv0 cu0 K0 B0
          have HS := hide (unhide HS0)
          clear HS0
          have pw0 : y0.cell? ⟨wr.heap.size, 0, none⟩ = some (Value.int .i64 0) := B10.cell 0 _ rfl
          have fw0 := B10.froz 0
          have B1 : Blk (y0.setCell ⟨wr.heap.size, 0, none⟩ (.int .i64 a0)) wr.heap.size #[Value.int .i64 a0, Value.int .i64 0, Value.int .i64 0, Value.int .i64 0, Value.int .i64 0] 106 := B10.set 0 _
          have kk0 : Kept (fun k => k = wr.heap.size) y0 (y0.setCell ⟨wr.heap.size, 0, none⟩ (.int .i64 a0)) := Kept.set _ _ _ _ rfl
          have K1 : Kept (fun k => k = w.heap.size + 1) wr (y0.setCell ⟨wr.heap.size, 0, none⟩ (.int .i64 a0)) := K10.over kk0
          have cu1 := cv0.kept kk0 (by omega)
          have HK := hide K1
          have HB := hide B1
          have HU := hide cu1
          clear kk0 K10 B10 cv0 K1 B1 cu1
          go_wp2_with fail
          have K1 := unhide HK
          have B1 := unhide HB
          have cu1 := unhide HU
          clear pw0 fw0 HK HB HU
          go_fit (unhide LV d0 _ cu1)
          rintro e y1 ⟨rfl, cv1, kv1⟩
          have K11 := K1.trans kv1
          have B11 := B1.kept kv1 (by omega)
          obtain ⟨z1, hz1⟩ : ∃ x, x = rd t d0 := ⟨_, rfl⟩
          have bd1 := unhide HRB d0 bd0.2.2
          have HS1 := hide (unhide HS)
          rw [← hz1] at bd1 HS1 cv1 ⊢
          obtain ⟨a1, d1⟩ := z1
          simp only at bd1 HS1 cv1 ⊢
          clear hz1 kv1 cu1 K1 B1
          have HS := hide (unhide HS1)
          clear HS1
          have pw1 : y1.cell? ⟨wr.heap.size, 1, none⟩ = some (Value.int .i64 0) := B11.cell 1 _ rfl
          have fw1 := B11.froz 1
          have B2 : Blk (y1.setCell ⟨wr.heap.size, 1, none⟩ (.int .i64 a1)) wr.heap.size #[Value.int .i64 a0, Value.int .i64 a1, Value.int .i64 0, Value.int .i64 0, Value.int .i64 0] 106 := B11.set 1 _
          have kk1 : Kept (fun k => k = wr.heap.size) y1 (y1.setCell ⟨wr.heap.size, 1, none⟩ (.int .i64 a1)) := Kept.set _ _ _ _ rfl
          have K2 : Kept (fun k => k = w.heap.size + 1) wr (y1.setCell ⟨wr.heap.size, 1, none⟩ (.int .i64 a1)) := K11.over kk1
          have cu2 := cv1.kept kk1 (by omega)
          have HK := hide K2
          have HB := hide B2
          have HU := hide cu2
          clear kk1 K11 B11 cv1 K2 B2 cu2
          go_wp2_with fail
          have K2 := unhide HK
          have B2 := unhide HB
          have cu2 := unhide HU
          clear pw1 fw1 HK HB HU
          go_fit (unhide LV d1 _ cu2)
          rintro e y2 ⟨rfl, cv2, kv2⟩
          have K12 := K2.trans kv2
          have B12 := B2.kept kv2 (by omega)
          obtain ⟨z2, hz2⟩ : ∃ x, x = rd t d1 := ⟨_, rfl⟩
          have bd2 := unhide HRB d1 bd1.2.2
          have HS2 := hide (unhide HS)
          rw [← hz2] at bd2 HS2 cv2 ⊢
          obtain ⟨a2, d2⟩ := z2
          simp only at bd2 HS2 cv2 ⊢
          clear hz2 kv2 cu2 K2 B2
          have HS := hide (unhide HS2)
          clear HS2
          have pw2 : y2.cell? ⟨wr.heap.size, 2, none⟩ = some (Value.int .i64 0) := B12.cell 2 _ rfl
          have fw2 := B12.froz 2
          have B3 : Blk (y2.setCell ⟨wr.heap.size, 2, none⟩ (.int .i64 a2)) wr.heap.size #[Value.int .i64 a0, Value.int .i64 a1, Value.int .i64 a2, Value.int .i64 0, Value.int .i64 0] 106 := B12.set 2 _
          have kk2 : Kept (fun k => k = wr.heap.size) y2 (y2.setCell ⟨wr.heap.size, 2, none⟩ (.int .i64 a2)) := Kept.set _ _ _ _ rfl
          have K3 : Kept (fun k => k = w.heap.size + 1) wr (y2.setCell ⟨wr.heap.size, 2, none⟩ (.int .i64 a2)) := K12.over kk2
          have cu3 := cv2.kept kk2 (by omega)
          have HK := hide K3
          have HB := hide B3
          have HU := hide cu3
          clear kk2 K12 B12 cv2 K3 B3 cu3
          go_wp2_with fail
          have K3 := unhide HK
          have B3 := unhide HB
          have cu3 := unhide HU
          clear pw2 fw2 HK HB HU
          go_fit (unhide LV d2 _ cu3)
          rintro e y3 ⟨rfl, cv3, kv3⟩
          have K13 := K3.trans kv3
          have B13 := B3.kept kv3 (by omega)
          obtain ⟨z3, hz3⟩ : ∃ x, x = rd t d2 := ⟨_, rfl⟩
          have bd3 := unhide HRB d2 bd2.2.2
          have HS3 := hide (unhide HS)
          rw [← hz3] at bd3 HS3 cv3 ⊢
          obtain ⟨a3, d3⟩ := z3
          simp only at bd3 HS3 cv3 ⊢
          clear hz3 kv3 cu3 K3 B3
          have HS := hide (unhide HS3)
          clear HS3
          have pw3 : y3.cell? ⟨wr.heap.size, 3, none⟩ = some (Value.int .i64 0) := B13.cell 3 _ rfl
          have fw3 := B13.froz 3
          have B4 : Blk (y3.setCell ⟨wr.heap.size, 3, none⟩ (.int .i64 a3)) wr.heap.size #[Value.int .i64 a0, Value.int .i64 a1, Value.int .i64 a2, Value.int .i64 a3, Value.int .i64 0] 106 := B13.set 3 _
          have kk3 : Kept (fun k => k = wr.heap.size) y3 (y3.setCell ⟨wr.heap.size, 3, none⟩ (.int .i64 a3)) := Kept.set _ _ _ _ rfl
          have K4 : Kept (fun k => k = w.heap.size + 1) wr (y3.setCell ⟨wr.heap.size, 3, none⟩ (.int .i64 a3)) := K13.over kk3
          have cu4 := cv3.kept kk3 (by omega)
          have HK := hide K4
          have HB := hide B4
          have HU := hide cu4
          clear kk3 K13 B13 cv3 K4 B4 cu4
          go_wp2_with fail
          have K4 := unhide HK
          have B4 := unhide HB
          have cu4 := unhide HU
          clear pw3 fw3 HK HB HU
          go_fit (unhide LV d3 _ cu4)
          rintro e y4 ⟨rfl, cv4, kv4⟩
          have K14 := K4.trans kv4
          have B14 := B4.kept kv4 (by omega)
          obtain ⟨z4, hz4⟩ : ∃ x, x = rd t d3 := ⟨_, rfl⟩
          have bd4 := unhide HRB d3 bd3.2.2
          have HS4 := hide (unhide HS)
          rw [← hz4] at bd4 HS4 cv4 ⊢
          obtain ⟨a4, d4⟩ := z4
          simp only at bd4 HS4 cv4 ⊢
          clear hz4 kv4 cu4 K4 B4
          have HS := hide (unhide HS4)
          clear HS4
          have pw4 : y4.cell? ⟨wr.heap.size, 4, none⟩ = some (Value.int .i64 0) := B14.cell 4 _ rfl
          have fw4 := B14.froz 4
          have B5 : Blk (y4.setCell ⟨wr.heap.size, 4, none⟩ (.int .i64 a4)) wr.heap.size #[Value.int .i64 a0, Value.int .i64 a1, Value.int .i64 a2, Value.int .i64 a3, Value.int .i64 a4] 106 := B14.set 4 _
          have kk4 : Kept (fun k => k = wr.heap.size) y4 (y4.setCell ⟨wr.heap.size, 4, none⟩ (.int .i64 a4)) := Kept.set _ _ _ _ rfl
          have K5 : Kept (fun k => k = w.heap.size + 1) wr (y4.setCell ⟨wr.heap.size, 4, none⟩ (.int .i64 a4)) := K14.over kk4
          have cu5 := cv4.kept kk4 (by omega)
          have HK := hide K5
          have HB := hide B5
          have HU := hide cu5
          clear kk4 K14 B14 cv4 K5 B5 cu5
          obtain ⟨A1, C1, hv1⟩ := own_shape3 (unhide HR).edges
          subst hv1
          have HRY := hide ((unhide HR).rd (unhide HK) (unhide HU))
          obtain ⟨Y9, hY9⟩ : ∃ W, W = y4.setCell ⟨wr.heap.size, 4, none⟩ (.int .i64 a4) := ⟨_, rfl⟩
          rw [← hY9] at HK HB HU HRY
          have q0 : Y9.cell? ⟨w.heap.size + 1 + 1, 1, none⟩ = some (.slice A1 Q.length C1) := (unhide HRY).box.cell 1 _ rfl
          have hyl := (unhide HB).lt
          have e0 : Y9.cell? ⟨wr.heap.size, 0, none⟩ = some (.int .i64 a0) := (unhide HB).cell 0 _ rfl
          have e1 : Y9.cell? ⟨wr.heap.size, 1, none⟩ = some (.int .i64 a1) := (unhide HB).cell 1 _ rfl
          have e2 : Y9.cell? ⟨wr.heap.size, 2, none⟩ = some (.int .i64 a2) := (unhide HB).cell 2 _ rfl
          have e3 : Y9.cell? ⟨wr.heap.size, 3, none⟩ = some (.int .i64 a3) := (unhide HB).cell 3 _ rfl
          have e4 : Y9.cell? ⟨wr.heap.size, 4, none⟩ = some (.int .i64 a4) := (unhide HB).cell 4 _ rfl
          have hbs : w.heap.size + 3 ≤ Y9.heap.size := by have := (unhide HRY).box.lt; omega
          have hql : Q.length ≤ 100 := by have := unhide HN9; have := unhide hQj; omega
          have own9 := (unhide HRY).edges
          clear HK HU
          rw [hY9] at q0 e0 e1 e2 e3 e4
          go_upto_region 14 with fail
          rw [← hY9] at q0 e0 e1 e2 e3 e4 ⊢
          clear pw4 fw4 hY9
          go_wp2_with (at_builtin; refine wpList_append_own _ rfl _ _ 33 rfl (w.heap.size + 3) 106 ie (.agg #[.int .i64 0, .int .i64 0, .int .i64 0, .int .i64 0, .int .i64 0]) 5 40 Tryz.underlying33 hie ez0 ez1 ez2 rfl (by decide) _ Q.length _ rfl (own9.alloc _) ⟨Y9.heap.size, 0, none⟩ 1 1 [.int .i64 a0, .int .i64 a1, .int .i64 a2, .int .i64 a3, .int .i64 a4] rfl rfl (World.news_of_block (heap_alloc_new Y9 _)) (by intro u hu; simp at hu; rcases hu with rfl | rfl | rfl | rfl | rfl <;> rfl) ?c1 ?c2 ?c3 ?_)
          case c1 => unfold maxLen; omega
          case c2 => omega
          case c3 => simp; omega
          intro v' w9 hown' hgrow _
          obtain ⟨A2, C2, hv2⟩ := own_shape3 hown'
          subst hv2
          have kg : Kept (fun k => (Value.slice A1 Q.length C1).ownBlock = some k) Y9 w9 := ((Kept.of_below (below_new Y9 _)).trans (Kept.of_grown hgrow))
          have R9 := (unhide HRY).box.kept_alien kg (own_alien own9 ty_ne.2.2.2.2.2.1.symm)
          have p9 := R9.cell 1 _ rfl
          have f9 := R9.froz 1
          have HR9 := hide ((unhide HRY).edge ⟨a0, a1, a2, a3, a4⟩ kg hown')
          have HS9 : Hid (E0 = ((Q ++ [⟨a0, a1, a2, a3, a4⟩]) ++ (rdEdges t (N1 - (j + 1)) d4).1, (rdEdges t (N1 - (j + 1)) d4).2)) := by show _ = _; rw [unhide HS, unhide HK2, List.append_assoc]; rfl
          clear hown' hgrow kg R9 own9 q0 e0 e1 e2 e3 e4
          go_wp2_with fail
          exact ⟨⟨j + 1, d4, _, _, by go_num, by omega, by show _ = _; rw [List.length_append, unhide hQj]; rfl, unhide HR9, unhide HS9⟩, by simp [intOf]; omega⟩
        | false =>
          have HST : Hid (E0 = (Q, c)) := by
            have h := unhide HS
            rw [rdEdges_stop t _ c (by rcases Decidable.em (j < N1) with h1 | h1; right; cases hb : c.b; have := unhide HGB; simp [h1, hb] at this; rfl; left; omega)] at h
            show _ = _
            simpa using h
          have hLL : Q.length ≤ 100 := by have := unhide HN9; have := unhide hQj; omega
          clear HGB hbad HS hQj HN9
          go_wp2_with fail
          go_meet
          case rel => exact ⟨c, _, Q, hLL, unhide HR, unhide HST⟩
  case rest =>
    obtain ⟨c, v1, Q, hQ1, HR, HST⟩ := hcut
    obtain ⟨wr, hwr⟩ : ∃ W, W = wc := ⟨_, rfl⟩
    subst hwr
    rw [unhide HST] at HRC
    simp only at HRC
    obtain ⟨Ae, Ce, hv1⟩ := own_shape3 (unhide HR).edges
    subst hv1
    clear HST
    clear HE0 HR2
    go_wp2_with fail
    go_fit (unhide LV _ _ (unhide HR).cur)
    rintro e u2 ⟨rfl, cq2, kq2⟩
    have HQ2 := hide ((unhide HR).rd kq2 cq2)
    obtain ⟨x2, hx2⟩ : ∃ x, x = rd t c := ⟨_, rfl⟩
    have hb2 := unhide HRB c (unhide HR).cur.2
    have HRD := hide (unhide HRC)
    rw [← hx2] at hb2 HRD HQ2 ⊢
    clear hx2 kq2 cq2 HRC HR
    obtain ⟨n2, g2⟩ := x2
    simp only at hb2 HRD HQ2 ⊢
    obtain ⟨N2, hN2⟩ : ∃ k, k = min n2.toNat 100 := ⟨_, rfl⟩
    rw [← hN2] at HRD
    have HN2 := hide hN2
    obtain ⟨E2, hE2⟩ : ∃ x, x = rdCouples t N2 g2 := ⟨_, rfl⟩
    have HRC := hide (unhide HRD)
    rw [← hE2] at HRC
    have HE2 := hide hE2
    clear hN2 hE2 HRD
    go_upto_block 2 with fail
    go_cut [9] (fun _ wx => ∃ (c : CS) (v1 : Value) (M : List CoupleI), M.length ≤ 100 ∧ Hid (RS w wx t c s (.slice Ae Q.length Ce) v1 (.slice none 0 0) (.slice none 0 0) Q M [] []) ∧ Hid (E2 = (M, c)))
    case first =>
      go_wp2_with fail
      go_loopw [9] (fun i wr => ∃ (j : Nat) (c : CS) (v1 : Value) (M : List CoupleI), i = .int .i64 (j : Int) ∧ j ≤ N2 ∧ Hid (M.length = j) ∧ Hid (RS w wr t c s (.slice Ae Q.length Ce) v1 (.slice none 0 0) (.slice none 0 0) Q M [] []) ∧ Hid (E2 = (M ++ (rdCouples t (N2 - j) c).1, (rdCouples t (N2 - j) c).2))) (fun i _ => N2 - (intOf i).toNat)
      case atStart => exact ⟨0, g2, _, [], rfl, Nat.zero_le _, rfl, unhide HQ2, by show _ = _; rw [unhide HE2]; rfl⟩
      case round =>
        obtain ⟨j, c, v1, M, rfl, hj, hQj, HR, HS⟩ := hrel
        have hN := unhide HN2
        have hbad := (unhide HR).cur.bad
        have hcp := (unhide HR).cur.2
        have hwl := (unhide HR).box.lt
        obtain ⟨gb, hgb⟩ : ∃ b : Bool, b = (decide (j < N2) && !c.b) := ⟨_, rfl⟩
        have HGB := hide hgb
        have HN9 := hide hN
        clear hgb
        go_upto_region 17 with fail
        go_cut [83] (fun cc wx => cc = .bool gb ∧ wx = wr)
        case first =>
          by_cases h1 : (j : Int) < n2
          · cases hcb : c.b
            · rw [hcb] at hbad
              by_cases h2 : (j : Int) < 100
              · have h3 : j < N2 := by omega
                clear hN
                go_wp2
                go_meet
                case rel => exact ⟨by rw [unhide HGB, hcb, decide_eq_true h3]; rfl, rfl⟩
              · have h3 : ¬ j < N2 := by omega
                clear hN
                go_wp2
                go_meet
                case rel => exact ⟨by rw [unhide HGB, hcb, decide_eq_false h3]; rfl, rfl⟩
            · rw [hcb] at hbad
              clear hN
              go_wp2
              go_meet
              case rel => exact ⟨by rw [unhide HGB, hcb]; simp, rfl⟩
          · have h3 : ¬ j < N2 := by omega
            clear hN
            go_wp2
            go_meet
            case rel => exact ⟨by rw [unhide HGB, decide_eq_false h3]; rfl, rfl⟩
        case rest =>
          obtain ⟨rfl, hwc⟩ := hcut
          subst wc
          clear hN
          cases gb with
          | true =>
            have hgo : j < N2 ∧ c.b = false := by have h := unhide HGB; simp at h; exact h
            obtain ⟨hlt, hcb⟩ := hgo
            have hj100 : (j : Int) < 100 := by have := unhide HN9; omega
            clear HGB hbad
            obtain ⟨k, hk⟩ : ∃ k, N2 - j = k + 1 := ⟨N2 - j - 1, by omega⟩
            have hk2 : N2 - (j + 1) = k := by omega
            have HS1 : Hid (E2 = (M ++ (rdCouples t (k + 1) c).1, (rdCouples t (k + 1) c).2)) := by rw [← hk]; exact HS
            have HK2 := hide hk2
            clear HS hk hk2
            have HS2 := unhide HS1
            rw [rdCouples, if_neg (by rw [hcb]; simp)] at HS2
            have HS := hide HS2
            clear HS1 HS2
            go_wp2_with fail
            obtain ⟨U0, hU0⟩ : ∃ W, W = wr.alloc (Obj.cells #[Value.int .i64 0, Value.int .i64 0] 162) := ⟨_, rfl⟩
            rw [← hU0]
            have K0 : Kept (fun k => k = w.heap.size + 1) wr U0 := by rw [hU0]; exact Kept.of_below (below_new _ _)
            have B0 : Blk U0 wr.heap.size #[Value.int .i64 0, Value.int .i64 0] 162 := by rw [hU0]; exact Blk.new0
            have cu0 := (unhide HR).cur.kept (S := fun _ => False) (Kept.of_below (show Below wr.heap.size wr U0 by rw [hU0]; exact below_new _ _)) (fun h => h)
            clear hU0
            go_fit (unhide LV c _ cu0)
            rintro e y0 ⟨rfl, cv0, kv0⟩
            have K10 := K0.trans kv0
            have B10 := B0.kept kv0 (by omega)
            obtain ⟨z0, hz0⟩ : ∃ x, x = rd t c := ⟨_, rfl⟩
            have bd0 := unhide HRB c hcp
            have HS0 := hide (unhide HS)
            rw [← hz0] at bd0 HS0 cv0 ⊢
            obtain ⟨a0, d0⟩ := z0
            simp only at bd0 HS0 cv0 ⊢
            clear hz0 kv0 cu0 K0 B0
            have HS := hide (unhide HS0)
            clear HS0
            have pw0 : y0.cell? ⟨wr.heap.size, 0, none⟩ = some (Value.int .i64 0) := B10.cell 0 _ rfl
            have fw0 := B10.froz 0
            have B1 : Blk (y0.setCell ⟨wr.heap.size, 0, none⟩ (.int .i64 a0)) wr.heap.size #[Value.int .i64 a0, Value.int .i64 0] 162 := B10.set 0 _
            have kk0 : Kept (fun k => k = wr.heap.size) y0 (y0.setCell ⟨wr.heap.size, 0, none⟩ (.int .i64 a0)) := Kept.set _ _ _ _ rfl
            have K1 : Kept (fun k => k = w.heap.size + 1) wr (y0.setCell ⟨wr.heap.size, 0, none⟩ (.int .i64 a0)) := K10.over kk0
            have cu1 := cv0.kept kk0 (by omega)
            have HK := hide K1
            have HB := hide B1
            have HU := hide cu1
            clear kk0 K10 B10 cv0 K1 B1 cu1
            go_wp2_with fail
            have K1 := unhide HK
            have B1 := unhide HB
            have cu1 := unhide HU
            clear pw0 fw0 HK HB HU
            go_fit (unhide LV d0 _ cu1)
            rintro e y1 ⟨rfl, cv1, kv1⟩
            have K11 := K1.trans kv1
            have B11 := B1.kept kv1 (by omega)
            obtain ⟨z1, hz1⟩ : ∃ x, x = rd t d0 := ⟨_, rfl⟩
            have bd1 := unhide HRB d0 bd0.2.2
            have HS1 := hide (unhide HS)
            rw [← hz1] at bd1 HS1 cv1 ⊢
            obtain ⟨a1, d1⟩ := z1
            simp only at bd1 HS1 cv1 ⊢
            clear hz1 kv1 cu1 K1 B1
            have HS := hide (unhide HS1)
            clear HS1
            have pw1 : y1.cell? ⟨wr.heap.size, 1, none⟩ = some (Value.int .i64 0) := B11.cell 1 _ rfl
            have fw1 := B11.froz 1
            have B2 : Blk (y1.setCell ⟨wr.heap.size, 1, none⟩ (.int .i64 a1)) wr.heap.size #[Value.int .i64 a0, Value.int .i64 a1] 162 := B11.set 1 _
            have kk1 : Kept (fun k => k = wr.heap.size) y1 (y1.setCell ⟨wr.heap.size, 1, none⟩ (.int .i64 a1)) := Kept.set _ _ _ _ rfl
            have K2 : Kept (fun k => k = w.heap.size + 1) wr (y1.setCell ⟨wr.heap.size, 1, none⟩ (.int .i64 a1)) := K11.over kk1
            have cu2 := cv1.kept kk1 (by omega)
            have HK := hide K2
            have HB := hide B2
            have HU := hide cu2
            clear kk1 K11 B11 cv1 K2 B2 cu2
            obtain ⟨A1, C1, hv1⟩ := own_shape3 (unhide HR).couples
            subst hv1
            have HRY := hide ((unhide HR).rd (unhide HK) (unhide HU))
            obtain ⟨Y9, hY9⟩ : ∃ W, W = y1.setCell ⟨wr.heap.size, 1, none⟩ (.int .i64 a1) := ⟨_, rfl⟩
            rw [← hY9] at HK HB HU HRY
            have q0 : Y9.cell? ⟨w.heap.size + 1 + 1, 2, none⟩ = some (.slice A1 M.length C1) := (unhide HRY).box.cell 2 _ rfl
            have hyl := (unhide HB).lt
            have e0 : Y9.cell? ⟨wr.heap.size, 0, none⟩ = some (.int .i64 a0) := (unhide HB).cell 0 _ rfl
            have e1 : Y9.cell? ⟨wr.heap.size, 1, none⟩ = some (.int .i64 a1) := (unhide HB).cell 1 _ rfl
            have hbs : w.heap.size + 3 ≤ Y9.heap.size := by have := (unhide HRY).box.lt; omega
            have hql : M.length ≤ 100 := by have := unhide HN9; have := unhide hQj; omega
            have own9 := (unhide HRY).couples
            clear HK HU
            rw [hY9] at q0 e0 e1
            go_upto_region 22 with fail
            rw [← hY9] at q0 e0 e1 ⊢
            clear pw1 fw1 hY9
            go_wp2_with (at_builtin; refine wpList_append_own _ rfl _ _ 129 rfl (w.heap.size + 3) 162 ic (.agg #[.int .i64 0, .int .i64 0]) 2 16 Tryz.underlying129 hic cz0 cz1 cz2 rfl (by decide) _ M.length _ rfl (own9.alloc _) ⟨Y9.heap.size, 0, none⟩ 1 1 [.int .i64 a0, .int .i64 a1] rfl rfl (World.news_of_block (heap_alloc_new Y9 _)) (by intro u hu; simp at hu; rcases hu with rfl | rfl <;> rfl) ?c1 ?c2 ?c3 ?_)
            case c1 => unfold maxLen; omega
            case c2 => omega
            case c3 => simp; omega
            intro v' w9 hown' hgrow _
            obtain ⟨A2, C2, hv2⟩ := own_shape3 hown'
            subst hv2
            have kg : Kept (fun k => (Value.slice A1 M.length C1).ownBlock = some k) Y9 w9 := ((Kept.of_below (below_new Y9 _)).trans (Kept.of_grown hgrow))
            have R9 := (unhide HRY).box.kept_alien kg (own_alien own9 ty_ne.2.2.2.2.2.2.1.symm)
            have p9 := R9.cell 2 _ rfl
            have f9 := R9.froz 2
            have HR9 := hide ((unhide HRY).couple ⟨a0, a1⟩ kg hown')
            have HS9 : Hid (E2 = ((M ++ [⟨a0, a1⟩]) ++ (rdCouples t (N2 - (j + 1)) d1).1, (rdCouples t (N2 - (j + 1)) d1).2)) := by show _ = _; rw [unhide HS, unhide HK2, List.append_assoc]; rfl
            clear hown' hgrow kg R9 own9 q0 e0 e1
            go_wp2_with fail
            exact ⟨⟨j + 1, d1, _, _, by go_num, by omega, by show _ = _; rw [List.length_append, unhide hQj]; rfl, unhide HR9, unhide HS9⟩, by simp [intOf]; omega⟩
          | false =>
            have HST : Hid (E2 = (M, c)) := by
              have h := unhide HS
              rw [rdCouples_stop t _ c (by rcases Decidable.em (j < N2) with h1 | h1; right; cases hb : c.b; have := unhide HGB; simp [h1, hb] at this; rfl; left; omega)] at h
              show _ = _
              simpa using h
            have hLL : M.length ≤ 100 := by have := unhide HN9; have := unhide hQj; omega
            clear HGB hbad HS hQj HN9
            go_wp2_with fail
            go_meet
            case rel => exact ⟨c, _, M, hLL, unhide HR, unhide HST⟩
    case rest =>
      obtain ⟨c, v1, M, hM1, HR, HST⟩ := hcut
      obtain ⟨wr, hwr⟩ : ∃ W, W = wc := ⟨_, rfl⟩
      subst hwr
      rw [unhide HST] at HRC
      simp only at HRC
      obtain ⟨Ac, Cc, hv1⟩ := own_shape3 (unhide HR).couples
      subst hv1
      clear HST
      clear HE2 HQ2
      obtain ⟨N3, hN3⟩ : ∃ k, k = min s.toNat 100 := ⟨_, rfl⟩
      rw [← hN3] at HRC
      have HN3 := hide hN3
      obtain ⟨E3, hE3⟩ : ∃ x, x = rdInts t N3 c := ⟨_, rfl⟩
      have HRD := hide (unhide HRC)
      rw [← hE3] at HRD
      have HE3 := hide hE3
      have HRC := hide (unhide HRD)
      have HR3 := hide (unhide HR)
      clear hN3 hE3 HRD HR
      go_upto_block 4 with fail
      go_cut [11] (fun _ wx => ∃ (c : CS) (v1 : Value) (Y : List Int), Y.length ≤ 100 ∧ Hid (RS w wx t c s (.slice Ae Q.length Ce) (.slice Ac M.length Cc) v1 (.slice none 0 0) Q M Y []) ∧ Hid (E3 = (Y, c)))
      case first =>
        go_wp2_with fail
        go_loopw [11] (fun i wr => ∃ (j : Nat) (c : CS) (v3 : Value) (Y : List Int), i = .int .i64 (j : Int) ∧ j ≤ N3 ∧ Hid (Y.length = j) ∧ Hid (RS w wr t c s (.slice Ae Q.length Ce) (.slice Ac M.length Cc) v3 (.slice none 0 0) Q M Y []) ∧ Hid (E3 = (Y ++ (rdInts t (N3 - j) c).1, (rdInts t (N3 - j) c).2))) (fun i _ => N3 - (intOf i).toNat)
        case atStart => exact ⟨0, c, _, [], rfl, Nat.zero_le _, rfl, unhide HR3, by show _ = _; rw [unhide HE3]; rfl⟩
        case round =>
          obtain ⟨j, c, v3, Y, rfl, hj, hQj, HR, HS⟩ := hrel
          have hs0 := (unhide HR).box.cell 0 _ rfl
          have hN := unhide HN3
          have hbad := (unhide HR).cur.bad
          have hcp := (unhide HR).cur.2
          have hwl := (unhide HR).box.lt
          obtain ⟨gb, hgb⟩ : ∃ b : Bool, b = (decide (j < N3) && !c.b) := ⟨_, rfl⟩
          have HGB := hide hgb
          have HN9 := hide hN
          clear hgb
          go_upto_region 24 with fail
          go_cut [114] (fun cc wx => cc = .bool gb ∧ wx = wr)
          case first =>
            by_cases h1 : (j : Int) < s
            · cases hcb : c.b
              · rw [hcb] at hbad
                by_cases h2 : (j : Int) < 100
                · have h3 : j < N3 := by omega
                  clear hN
                  go_wp2
                  go_meet
                  case rel => exact ⟨by rw [unhide HGB, hcb, decide_eq_true h3]; rfl, rfl⟩
                · have h3 : ¬ j < N3 := by omega
                  clear hN
                  go_wp2
                  go_meet
                  case rel => exact ⟨by rw [unhide HGB, hcb, decide_eq_false h3]; rfl, rfl⟩
              · rw [hcb] at hbad
                clear hN
                go_wp2
                go_meet
                case rel => exact ⟨by rw [unhide HGB, hcb]; simp, rfl⟩
            · have h3 : ¬ j < N3 := by omega
              clear hN
              go_wp2
              go_meet
              case rel => exact ⟨by rw [unhide HGB, decide_eq_false h3]; rfl, rfl⟩
          case rest =>
            obtain ⟨rfl, hwc⟩ := hcut
            subst wc
            clear hN
            cases gb with
            | true =>
              have hgo : j < N3 ∧ c.b = false := by have h := unhide HGB; simp at h; exact h
              obtain ⟨hlt, hcb⟩ := hgo
              have hj100 : (j : Int) < 100 := by have := unhide HN9; omega
              clear HGB hbad
              obtain ⟨k, hk⟩ : ∃ k, N3 - j = k + 1 := ⟨N3 - j - 1, by omega⟩
              have hk2 : N3 - (j + 1) = k := by omega
              have HS1 : Hid (E3 = (Y ++ (rdInts t (k + 1) c).1, (rdInts t (k + 1) c).2)) := by rw [← hk]; exact HS
              have HK2 := hide hk2
              clear HS hk hk2
              have HS2 := unhide HS1
              rw [rdInts, if_neg (by rw [hcb]; simp)] at HS2
              have HS := hide HS2
              clear HS1 HS2
              obtain ⟨A1, C1, hv1⟩ := own_shape3 (unhide HR).ints
              subst hv1
              have hql : Y.length ≤ 100 := by have := unhide HN9; have := unhide hQj; omega
              have q0 : wr.cell? ⟨w.heap.size + 1 + 1, 3, none⟩ = some (.slice A1 Y.length C1) := (unhide HR).box.cell 3 _ rfl
              have HLV := hide (unhide LV c wr.drew (show CuAt wr.drew (w.heap.size + 1) t c from (unhide HR).cur))
              obtain ⟨z0, hz0⟩ : ∃ x, x = rd t c := ⟨_, rfl⟩
              have HS5 := hide (unhide HS)
              rw [← hz0] at HLV HS5
              clear hz0 HS
              obtain ⟨a0, d0⟩ := z0
              simp only at HLV HS5
              have hjm : Y.length + 1 ≤ maxLen := by unfold maxLen; omega
              have hbox : ∀ w5 : World, Kept (fun k => k = w.heap.size + 1) wr w5 → CuAt w5 (w.heap.size + 1) t d0 → RS w w5 t d0 s (.slice Ae Q.length Ce) (.slice Ac M.length Cc) (.slice A1 Y.length C1) (.slice none 0 0) Q M Y [] := fun w5 k c => (unhide HR).rd k c
              have HBX := hide hbox
              clear hbox
              go_wp2_with fail
              go_region_law
                (first
                  | (refine step_call (by rfl) 118 _ _ (by rfl) #[.pointer (some ⟨w.heap.size + 1, 0, none⟩)] (by first | rfl | (show _ = _; kernel_rfl) | (simp [Act.eval]; done) | (simp [Act.put]; done)) enterL12 _ (unhide HLV) ?_; rintro e w13 ⟨rfl, cu13, k13⟩; refine ⟨_, rfl, ?_⟩; have HR13 := hide (unhide HBX w13 k13 cu13); have hown13 := (unhide HR13).ints; have s0 : w13.cell? ⟨w.heap.size + 1 + 1, 3, none⟩ = some (.slice A1 Y.length C1) := (unhide HR13).box.cell 3 _ rfl; have hlt2 := (unhide HR13).box.lt; have s1 := ((below_new w13 (Obj.cells #[.int .i64 a0] 3)).cell (p := ⟨w.heap.size + 1 + 1, 3, none⟩) hlt2).trans s0)
                  | (refine step_append_lies _ (by rfl) _ _ _ (by rfl) (w.heap.size + 3) 3 ii _ 1 8 Tryz.underlying24 hii iz0 iz1 iz2 rfl (by omega) (.slice A1 Y.length C1) Y.length (intsV Y) (by rfl) (by first | exact hown13.alloc _ | exact (hown13.alloc _).drew) ⟨w13.heap.size, 0, none⟩ 1 1 [.int .i64 a0] (by rfl) (by rfl) (World.news_of_block (heap_alloc_new w13 _)) (by simp [Value.oneCell']) (by omega) hjm (by omega) (by simp; omega) (w13.heap.size + 1) (by simp) ?_; intro g cap w14 hown14 hgrow14 hat14 hlt14; have kg : Kept (fun k => (Value.slice A1 Y.length C1).ownBlock = some k) w13 w14 := (Kept.of_below (below_new w13 (Obj.cells #[.int .i64 a0] 3))).trans (Kept.of_grown hgrow14); have R14 := (unhide HR13).box.kept_alien kg (own_alien hown13 ty_ne.2.2.2.2.2.2.2.1.symm); have t0 := R14.cell 3 _ rfl; have tf := R14.froz 3))
              all_goals
                have HR15 := hide ((unhide HR13).int a0 kg hown14)
                have HS9 : Hid (E3 = ((Y ++ [a0]) ++ (rdInts t (N3 - (j + 1)) d0).1, (rdInts t (N3 - (j + 1)) d0).2)) := by show _ = _; rw [unhide HS5, unhide HK2, List.append_assoc]; rfl
                clear hown14 hgrow14 hat14 kg R14 hown13 s0 s1 hlt14 q0 hs0 cu13 k13
                go_wp2_with fail
                exact ⟨⟨j + 1, d0, _, _, by go_num, by omega, by show _ = _; rw [List.length_append, unhide hQj]; rfl, unhide HR15, unhide HS9⟩, by simp [intOf]; omega⟩
            | false =>
              have HST : Hid (E3 = (Y, c)) := by
                have h := unhide HS
                rw [rdInts_stop t _ c (by rcases Decidable.em (j < N3) with h1 | h1; right; cases hb : c.b; have := unhide HGB; simp [h1, hb] at this; rfl; left; omega)] at h
                show _ = _
                simpa using h
              have hLL : Y.length ≤ 100 := by have := unhide HN9; have := unhide hQj; omega
              clear HGB hbad HS hQj HN9
              go_wp2_with fail
              go_meet
              case rel => exact ⟨c, _, Y, hLL, unhide HR, unhide HST⟩
      case rest =>
        obtain ⟨c, v1, Y, hY1, HR, HST⟩ := hcut
        obtain ⟨wr, hwr⟩ : ∃ W, W = wc := ⟨_, rfl⟩
        subst hwr
        rw [unhide HST] at HRC
        simp only at HRC
        obtain ⟨Ai, Ci, hv1⟩ := own_shape3 (unhide HR).ints
        subst hv1
        clear HST
        clear HE3 HR3
        go_wp2_with fail
        go_fit (unhide LV _ _ (unhide HR).cur)
        rintro e u4 ⟨rfl, cq4, kq4⟩
        have HQ4 := hide ((unhide HR).rd kq4 cq4)
        obtain ⟨x4, hx4⟩ : ∃ x, x = rd t c := ⟨_, rfl⟩
        have hb4 := unhide HRB c (unhide HR).cur.2
        have HRD := hide (unhide HRC)
        rw [← hx4] at hb4 HRD HQ4 ⊢
        clear hx4 kq4 cq4 HRC HR
        obtain ⟨n4, g4⟩ := x4
        simp only at hb4 HRD HQ4 ⊢
        obtain ⟨N4, hN4⟩ : ∃ k, k = min n4.toNat 100 := ⟨_, rfl⟩
        rw [← hN4] at HRD
        have HN4 := hide hN4
        obtain ⟨E4, hE4⟩ : ∃ x, x = rdGroups t N4 g4 := ⟨_, rfl⟩
        have HRC := hide (unhide HRD)
        rw [← hE4] at HRC
        have HE4 := hide hE4
        clear hN4 hE4 HRD
        have HGS := hide (show ∀ q ∈ E4.1, q.M.length ≤ 100 by rw [unhide HE4]; exact rdGroups_short t N4 g4)
        go_upto_block 6 with fail
        go_cut [12] (fun _ wx => ∃ (c : CS) (v1 : Value) (G : List GrpI), G.length ≤ 100 ∧ Hid (RS w wx t c s (.slice Ae Q.length Ce) (.slice Ac M.length Cc) (.slice Ai Y.length Ci) v1 Q M Y G) ∧ Hid (E4 = (G, c)))
        case first =>
          go_wp2_with fail
          go_loopw [12] (fun i wr => ∃ (j : Nat) (c : CS) (v4 : Value) (G : List GrpI), i = .int .i64 (j : Int) ∧ j ≤ N4 ∧ Hid (G.length = j) ∧ Hid (RS w wr t c s (.slice Ae Q.length Ce) (.slice Ac M.length Cc) (.slice Ai Y.length Ci) v4 Q M Y G) ∧ Hid (E4 = (G ++ (rdGroups t (N4 - j) c).1, (rdGroups t (N4 - j) c).2))) (fun i _ => N4 - (intOf i).toNat)
          case atStart => exact ⟨0, g4, _, [], rfl, Nat.zero_le _, rfl, unhide HQ4, by show _ = _; rw [unhide HE4]; rfl⟩
          case round =>
            obtain ⟨j, c, v4, G, rfl, hj, hQj, HR, HS⟩ := hrel
            have hN := unhide HN4
            have hbad := (unhide HR).cur.bad
            have hcp := (unhide HR).cur.2
            have hwl := (unhide HR).box.lt
            obtain ⟨gb, hgb⟩ : ∃ b : Bool, b = (decide (j < N4) && !c.b) := ⟨_, rfl⟩
            have HGB := hide hgb
            have HN9 := hide hN
            clear hgb
            go_upto_region 29 with fail
            go_cut [141] (fun cc wx => cc = .bool gb ∧ wx = wr)
            case first =>
              by_cases h1 : (j : Int) < n4
              · cases hcb : c.b
                · rw [hcb] at hbad
                  by_cases h2 : (j : Int) < 100
                  · have h3 : j < N4 := by omega
                    clear hN
                    go_wp2
                    go_meet
                    case rel => exact ⟨by rw [unhide HGB, hcb, decide_eq_true h3]; rfl, rfl⟩
                  · have h3 : ¬ j < N4 := by omega
                    clear hN
                    go_wp2
                    go_meet
                    case rel => exact ⟨by rw [unhide HGB, hcb, decide_eq_false h3]; rfl, rfl⟩
                · rw [hcb] at hbad
                  clear hN
                  go_wp2
                  go_meet
                  case rel => exact ⟨by rw [unhide HGB, hcb]; simp, rfl⟩
              · have h3 : ¬ j < N4 := by omega
                clear hN
                go_wp2
                go_meet
                case rel => exact ⟨by rw [unhide HGB, decide_eq_false h3]; rfl, rfl⟩
            case rest =>
              obtain ⟨rfl, hwc⟩ := hcut
              subst wc
              clear hN
              cases gb with
              | true =>
                have hgo : j < N4 ∧ c.b = false := by have h := unhide HGB; simp at h; exact h
                obtain ⟨hlt, hcb⟩ := hgo
                have hj100 : (j : Int) < 100 := by have := unhide HN9; omega
                clear HGB hbad
                obtain ⟨k, hk⟩ : ∃ k, N4 - j = k + 1 := ⟨N4 - j - 1, by omega⟩
                have hk2 : N4 - (j + 1) = k := by omega
                have HS1 : Hid (E4 = (G ++ (rdGroups t (k + 1) c).1, (rdGroups t (k + 1) c).2)) := by rw [← hk]; exact HS
                have HK2 := hide hk2
                clear HS hk hk2
                have HS2 := unhide HS1
                rw [rdGroups, if_neg (by rw [hcb]; simp)] at HS2
                have HS := hide HS2
                clear HS1 HS2
                obtain ⟨wq, hwq⟩ : ∃ W, W = wr := ⟨_, rfl⟩
                subst hwq
                have HLV := hide (fun wr (k : Kept (fun k => k = w.heap.size + 1) wq wr) c' (h : CuAt wr (w.heap.size + 1) t c') => (unhide HR).rd k h)
                go_wp2_with fail
                obtain ⟨U0, hU0⟩ : ∃ W, W = wq.alloc (Obj.cells #[Value.slice none 0 0, Value.int .i64 0] 164) := ⟨_, rfl⟩
                rw [← hU0]
                have K0 : Kept (fun k => k = w.heap.size + 1) wq U0 := by rw [hU0]; exact Kept.of_below (below_new _ _)
                have B0 : Blk U0 wq.heap.size #[Value.slice none 0 0, Value.int .i64 0] 164 := by rw [hU0]; exact Blk.new0
                have cu0 := (unhide HR).cur.below (show Below wq.heap.size wq U0 by rw [hU0]; exact below_new _ _)
                clear hU0
                go_fit (unhide LV c _ cu0)
                rintro e y0 ⟨rfl, cv0, kv0⟩
                have K1 := K0.trans kv0
                have B1 := B0.kept kv0 (by omega)
                obtain ⟨z0, hz0⟩ : ∃ x, x = rd t c := ⟨_, rfl⟩
                have bd0 := unhide HRB c hcp
                have HSa := hide (unhide HS)
                rw [← hz0] at bd0 HSa cv0 ⊢
                obtain ⟨n5, d0⟩ := z0
                simp only at bd0 HSa cv0 ⊢
                clear hz0 kv0 cu0 K0 B0 HS
                obtain ⟨N5, hN5⟩ : ∃ k, k = min n5.toNat 100 := ⟨_, rfl⟩
                rw [← hN5] at HSa
                have HN5 := hide hN5
                obtain ⟨E5, hE5⟩ : ∃ x, x = rdInts t N5 d0 := ⟨_, rfl⟩
                have HSb := hide (unhide HSa)
                rw [← hE5] at HSb
                have HE5 := hide hE5
                have HK1 := hide K1
                have HB1 := hide B1
                have HC1 := hide cv0
                clear hN5 hE5 HSa K1 B1 cv0
                go_wp2_with fail
                go_loopw [15] (fun i wr => ∃ (j5 : Nat) (c5 : CS) (v5 : Value) (L : List Int), i = .int .i64 (j5 : Int) ∧ j5 ≤ N5 ∧ Hid (L.length = j5) ∧ Hid (Kept (fun k => k = w.heap.size + 1) wq wr) ∧ Hid (CuAt wr (w.heap.size + 1) t c5) ∧ Hid (Blk wr wq.heap.size #[v5, .int .i64 0] 164) ∧ Hid (wr.ownsRow (wq.heap.size + 1) 3 1 v5 L.length (intsV L)) ∧ Hid (E5 = (L ++ (rdInts t (N5 - j5) c5).1, (rdInts t (N5 - j5) c5).2))) (fun i _ => N5 - (intOf i).toNat)
                case atStart => exact ⟨0, d0, _, [], rfl, Nat.zero_le _, rfl, unhide HK1, unhide HC1, unhide HB1, own_nil _ _ _ _, by show _ = _; rw [unhide HE5]; rfl⟩
                case round =>
                  obtain ⟨j5, c5, v5, L, rfl, hj5, hL5, HK5, HC5, HB5, HO5, HS5⟩ := hrel
                  have hN := unhide HN5
                  have hbad := (unhide HC5).bad
                  obtain ⟨gb, hgb⟩ : ∃ b : Bool, b = (decide (j5 < N5) && !c5.b) := ⟨_, rfl⟩
                  have HGB := hide hgb
                  have HN8 := hide hN
                  clear hgb
                  go_upto_region 34 with fail
                  go_cut [160] (fun cc wx => cc = .bool gb ∧ wx = wr)
                  case first =>
                    by_cases h1 : (j5 : Int) < n5
                    · cases hcb : c5.b
                      · rw [hcb] at hbad
                        by_cases h2 : (j5 : Int) < 100
                        · have h3 : j5 < N5 := by omega
                          clear hN
                          go_wp2
                          go_meet
                          case rel => exact ⟨by rw [unhide HGB, hcb, decide_eq_true h3]; rfl, rfl⟩
                        · have h3 : ¬ j5 < N5 := by omega
                          clear hN
                          go_wp2
                          go_meet
                          case rel => exact ⟨by rw [unhide HGB, hcb, decide_eq_false h3]; rfl, rfl⟩
                      · rw [hcb] at hbad
                        clear hN
                        go_wp2
                        go_meet
                        case rel => exact ⟨by rw [unhide HGB, hcb]; simp, rfl⟩
                    · have h3 : ¬ j5 < N5 := by omega
                      clear hN
                      go_wp2
                      go_meet
                      case rel => exact ⟨by rw [unhide HGB, decide_eq_false h3]; rfl, rfl⟩
                  case rest =>
                    obtain ⟨rfl, hwc⟩ := hcut
                    subst wc
                    clear hN
                    cases gb with
                    | true =>
                      have hgo : j5 < N5 ∧ c5.b = false := by have h := unhide HGB; simp at h; exact h
                      obtain ⟨hlt5, hcb5⟩ := hgo
                      have hj500 : (j5 : Int) < 100 := by have := unhide HN8; omega
                      clear HGB hbad
                      obtain ⟨k5, hk5⟩ : ∃ k, N5 - j5 = k + 1 := ⟨N5 - j5 - 1, by omega⟩
                      have hk52 : N5 - (j5 + 1) = k5 := by omega
                      have HS1 : Hid (E5 = (L ++ (rdInts t (k5 + 1) c5).1, (rdInts t (k5 + 1) c5).2)) := by rw [← hk5]; exact HS5
                      have HK52 := hide hk52
                      clear HS5 hk5 hk52
                      have HS2 := unhide HS1
                      rw [rdInts, if_neg (by rw [hcb5]; simp)] at HS2
                      have HS5 := hide HS2
                      clear HS1 HS2
                      obtain ⟨A1, C1, hv1⟩ := own_shape3 (unhide HO5)
                      subst hv1
                      have hql : L.length ≤ 100 := by have := unhide HN8; have := unhide hL5; omega
                      have q0 : wr.cell? ⟨wq.heap.size, 0, none⟩ = some (.slice A1 L.length C1) := (unhide HB5).cell 0 _ rfl
                      have HLW := hide (unhide LV c5 wr.drew (show CuAt wr.drew (w.heap.size + 1) t c5 from (unhide HC5)))
                      obtain ⟨z5, hz5⟩ : ∃ x, x = rd t c5 := ⟨_, rfl⟩
                      have HS6 := hide (unhide HS5)
                      rw [← hz5] at HLW HS6
                      clear hz5 HS5
                      obtain ⟨a5, d5⟩ := z5
                      simp only at HLW HS6
                      have hjm : L.length + 1 ≤ maxLen := by unfold maxLen; omega
                      have hw5 : wq.heap.size < wr.heap.size := (unhide HB5).lt
                      go_wp2_with fail
                      go_region_law
                        (first
                          | (refine step_call (by rfl) 118 _ _ (by rfl) #[.pointer (some ⟨w.heap.size + 1, 0, none⟩)] (by first | rfl | (show _ = _; kernel_rfl) | (simp [Act.eval]; done) | (simp [Act.put]; done)) enterL12 _ (unhide HLW) ?_; rintro e w13 ⟨rfl, cu13, k13⟩; refine ⟨_, rfl, ?_⟩; have k13' : Kept (fun k => k = w.heap.size + 1) wr w13 := k13; have HB13 := hide ((unhide HB5).kept k13' (by omega)); have hown13 := k13'.own (unhide HO5) (fun g hg e => by have := ((unhide HO5).lt g hg).1; omega); have s0 : w13.cell? ⟨wq.heap.size, 0, none⟩ = some (.slice A1 L.length C1) := (unhide HB13).cell 0 _ rfl; have hlt2 := (unhide HB13).lt; have s1 := ((below_new w13 (Obj.cells #[.int .i64 a5] 3)).cell (p := ⟨wq.heap.size, 0, none⟩) hlt2).trans s0)
                          | (refine step_append_lies _ (by rfl) _ _ _ (by rfl) (wq.heap.size + 1) 3 ii _ 1 8 Tryz.underlying24 hii iz0 iz1 iz2 rfl (by omega) (.slice A1 L.length C1) L.length (intsV L) (by rfl) (by first | exact hown13.alloc _ | exact (hown13.alloc _).drew) ⟨w13.heap.size, 0, none⟩ 1 1 [.int .i64 a5] (by rfl) (by rfl) (World.news_of_block (heap_alloc_new w13 _)) (by simp [Value.oneCell']) (by omega) hjm (by omega) (by simp; omega) (w13.heap.size + 1) (by simp) ?_; intro g cap w14 hown14 hgrow14 hat14 hlt14; have kg : Kept (fun k => (Value.slice A1 L.length C1).ownBlock = some k) w13 w14 := (Kept.of_below (below_new w13 (Obj.cells #[.int .i64 a5] 3))).trans (Kept.of_grown hgrow14); have R14 := (unhide HB13).kept_alien kg (own_alien hown13 ty_ne.2.2.2.2.2.2.2.2.2.2.2.2.2.2); have t0 := R14.cell 0 _ rfl; have tf := R14.froz 0))
                      all_goals
                        have k15 : Kept (fun k => k = wq.heap.size) w14 (w14.setCell ⟨wq.heap.size, 0, none⟩ (.slice (some ⟨g, 0, none⟩) (L.length + 1) cap)) := Kept.set _ _ _ _ rfl
                        have HB15 : Hid (Blk (w14.setCell ⟨wq.heap.size, 0, none⟩ (.slice (some ⟨g, 0, none⟩) (L.length + 1) cap)) wq.heap.size #[.slice (some ⟨g, 0, none⟩) (L.length + 1) cap, .int .i64 0] 164) := R14.set 0 _
                        have HK15 : Hid (Kept (fun k => k = w.heap.size + 1) wq (w14.setCell ⟨wq.heap.size, 0, none⟩ (.slice (some ⟨g, 0, none⟩) (L.length + 1) cap))) := (((unhide HK5).trans k13').past kg (fun i hi => by have := (hown13.lt i hi).1; omega)).over k15
                        have HC15 : Hid (CuAt (w14.setCell ⟨wq.heap.size, 0, none⟩ (.slice (some ⟨g, 0, none⟩) (L.length + 1) cap)) (w.heap.size + 1) t d5) := (cu13.kept kg (fun e => by have := (hown13.lt _ e).1; omega)).kept k15 (by omega)
                        have HO15 : Hid ((w14.setCell ⟨wq.heap.size, 0, none⟩ (.slice (some ⟨g, 0, none⟩) (L.length + 1) cap)).ownsRow (wq.heap.size + 1) 3 1 (.slice (some ⟨g, 0, none⟩) (L.length + 1) cap) (L ++ [a5]).length (intsV (L ++ [a5]))) := by
                          have h := k15.own hown14 (fun g' hg e => by have := (hown14.lt g' hg).1; omega)
                          rw [List.length_append, intsV, List.map_append]
                          exact h
                        have HS9 : Hid (E5 = ((L ++ [a5]) ++ (rdInts t (N5 - (j5 + 1)) d5).1, (rdInts t (N5 - (j5 + 1)) d5).2)) := by show _ = _; rw [unhide HS6, unhide HK52, List.append_assoc]; rfl
                        clear hown14 hgrow14 hat14 kg R14 hown13 s0 s1 hlt14 q0 cu13 k13 k13' k15
                        go_wp2_with fail
                        exact ⟨⟨j5 + 1, d5, _, _, by go_num, by omega, by show _ = _; rw [List.length_append, unhide hL5]; rfl, unhide HK15, unhide HC15, unhide HB15, unhide HO15, unhide HS9⟩, by simp [intOf]; omega⟩
                    | false =>
                      have hst : E5 = (L, c5) := by
                        have h := unhide HS5
                        rw [rdInts_stop t _ c5 (by rcases Decidable.em (j5 < N5) with h1 | h1; right; cases hb : c5.b; have := unhide HGB; simp [h1, hb] at this; rfl; left; omega)] at h
                        simpa using h
                      rw [hst] at HSb
                      simp only at HSb
                      have hL100 : L.length ≤ 100 := by have := unhide HN8; have := unhide hL5; omega
                      obtain ⟨A5, C5, hv5⟩ := own_shape3 (unhide HO5)
                      subst hv5
                      clear HGB hbad hst HS5 HN8
                      go_wp2_with fail
                      go_fit (unhide LV c5 _ (unhide HC5))
                      rintro e y5 ⟨rfl, cv5, kv5⟩
                      have K6 := (unhide HK5).trans kv5
                      have B6 := (unhide HB5).kept kv5 (by omega)
                      have O6 := kv5.own (unhide HO5) (fun g hg e => by have := ((unhide HO5).lt g hg).1; omega)
                      obtain ⟨z6, hz6⟩ : ∃ x, x = rd t c5 := ⟨_, rfl⟩
                      have bd6 := unhide HRB c5 (unhide HC5).2
                      have HSd := hide (unhide HSb)
                      rw [← hz6] at bd6 HSd cv5 ⊢
                      obtain ⟨a6, d6⟩ := z6
                      simp only at bd6 HSd cv5 ⊢
                      clear hz6 kv5 HSb HK5 HB5 HO5 HC5 HK1 HB1 HC1
                      have hyl := B6.lt
                      have pw : y5.cell? ⟨wq.heap.size, 1, none⟩ = some (.int .i64 0) := B6.cell 1 _ rfl
                      have fw := B6.froz 1
                      have kk : Kept (fun k => k = wq.heap.size) y5 (y5.setCell ⟨wq.heap.size, 1, none⟩ (.int .i64 a6)) := Kept.set _ _ _ _ rfl
                      have HB7 : Hid (Blk (y5.setCell ⟨wq.heap.size, 1, none⟩ (.int .i64 a6)) wq.heap.size #[.slice A5 L.length C5, .int .i64 a6] 164) := B6.set 1 _
                      have HRY := hide (unhide HLV _ (K6.over kk) d6 (cv5.kept kk (by omega)))
                      have HO7 := hide (kk.own O6 (fun g hg e => by have := (O6.lt g hg).1; omega))
                      clear K6 B6 O6 kk cv5
                      obtain ⟨A1, C1, hv1⟩ : ∃ a c, v4 = .slice a G.length c := by obtain ⟨xs, g1, _⟩ := (unhide HR).groups; exact own_shape3 g1
                      subst hv1
                      obtain ⟨Y9, hY9⟩ : ∃ W, W = y5.setCell ⟨wq.heap.size, 1, none⟩ (.int .i64 a6) := ⟨_, rfl⟩
                      rw [← hY9] at HB7 HRY HO7
                      have q0 : Y9.cell? ⟨w.heap.size + 1 + 1, 4, none⟩ = some (.slice A1 G.length C1) := (unhide HRY).box.cell 4 _ rfl
                      have hyl9 := (unhide HB7).lt
                      have e0 : Y9.cell? ⟨wq.heap.size, 0, none⟩ = some (.slice A5 L.length C5) := (unhide HB7).cell 0 _ rfl
                      have e1 : Y9.cell? ⟨wq.heap.size, 1, none⟩ = some (.int .i64 a6) := (unhide HB7).cell 1 _ rfl
                      have hbs : w.heap.size + 3 ≤ Y9.heap.size := by have := (unhide HRY).box.lt; omega
                      have hql : G.length ≤ 100 := by have := unhide HN9; have := unhide hQj; omega
                      obtain ⟨xs9, own9, gv9⟩ := (unhide HRY).groups
                      have HGV := hide gv9
                      clear gv9
                      rw [hY9] at q0 e0 e1
                      go_upto_region 38 with fail
                      rw [← hY9] at q0 e0 e1 ⊢
                      clear pw fw hY9
                      go_wp2_with (at_builtin; refine wpList_append_own _ rfl _ _ 130 rfl (w.heap.size + 3) 164 ig (.agg #[.slice none 0 0, .int .i64 0]) 2 32 Tryz.underlying130 hig gz0 gz1 gz2 rfl (by decide) _ G.length _ rfl (own9.alloc _) ⟨Y9.heap.size, 0, none⟩ 1 1 [.slice A5 L.length C5, .int .i64 a6] rfl rfl (World.news_of_block (heap_alloc_new Y9 _)) (by intro u hu; simp at hu; rcases hu with rfl | rfl <;> rfl) ?c1 ?c2 ?c3 ?_)
                      case c1 => unfold maxLen; omega
                      case c2 => omega
                      case c3 => simp; omega
                      intro v' w9 hown' hgrow _
                      obtain ⟨A2, C2, hv2⟩ := own_shape3 hown'
                      subst hv2
                      have kg : Kept (fun k => (Value.slice A1 G.length C1).ownBlock = some k) Y9 w9 := ((Kept.of_below (below_new Y9 _)).trans (Kept.of_grown hgrow))
                      have R9 := (unhide HRY).box.kept_alien kg (own_alien own9 ty_ne.2.2.2.2.2.2.2.2.1.symm)
                      have p9 := R9.cell 4 _ rfl
                      have f9 := R9.froz 4
                      have HR9 := hide ((unhide HRY).group ⟨L, a6⟩ own9 (unhide HGV) kg hown' (InOwn.lower (unhide HO7) (by omega)))
                      have HS9 : Hid (E4 = ((G ++ [⟨L, a6⟩]) ++ (rdGroups t (N4 - (j + 1)) d6).1, (rdGroups t (N4 - (j + 1)) d6).2)) := by show _ = _; rw [unhide HSd, unhide HK2, List.append_assoc]; rfl
                      clear hown' hgrow kg R9 own9 q0 e0 e1
                      go_wp2_with fail
                      exact ⟨⟨j + 1, d6, _, _, by go_num, by omega, by show _ = _; rw [List.length_append, unhide hQj]; rfl, unhide HR9, unhide HS9⟩, by simp [intOf]; omega⟩
              | false =>
                have HST : Hid (E4 = (G, c)) := by
                  have h := unhide HS
                  rw [rdGroups_stop t _ c (by rcases Decidable.em (j < N4) with h1 | h1; right; cases hb : c.b; have := unhide HGB; simp [h1, hb] at this; rfl; left; omega)] at h
                  show _ = _
                  simpa using h
                have hLL : G.length ≤ 100 := by have := unhide HN9; have := unhide hQj; omega
                clear HGB hbad HS hQj HN9
                go_wp2_with fail
                go_meet
                case rel => exact ⟨c, _, G, hLL, unhide HR, unhide HST⟩
        case rest =>
          obtain ⟨c, v1, G, hG1, HR, HST⟩ := hcut
          obtain ⟨wr, hwr⟩ : ∃ W, W = wc := ⟨_, rfl⟩
          subst hwr
          have HGL := hide (show ∀ q ∈ G, q.M.length ≤ 100 by have h := unhide HGS; rw [unhide HST] at h; exact h)
          rw [unhide HST] at HRC
          simp only at HRC
          obtain ⟨Ag, Cg, hv1⟩ := (show ∃ a c, v1 = .slice a G.length c by obtain ⟨xs, g1, _⟩ := (unhide HR).groups; exact own_shape3 g1)
          subst hv1
          clear HST
          have hGl := unhide HGL
          have HAT := hide ((unhide HR).at hQ1 hM1 hY1 hG1 hGl)
          have HLEN : Hid (Q.length ≤ 100 ∧ M.length ≤ 100 ∧ Y.length ≤ 100 ∧ G.length ≤ 100 ∧ ∀ q ∈ G, q.M.length ≤ 100) := ⟨hQ1, hM1, hY1, hG1, hGl⟩
          have hcs : csize Q M Y G ≤ 1048576 := csize_short hQ1 hM1 hY1 hG1 hGl
          have HCT := hide (specCertText_gen wr.heap.size _ s Q M Y G hcs wr (Nat.le_refl _) (unhide HAT))
          have hT : certT s Q M Y G = if certR s Q M Y G = true then certB s Q M Y G else ⟨#[]⟩ := rfl
          have hOK : RCV.ok t = (!c.b && (certR s Q M Y G && decide (certB s Q M Y G = t))) := by rw [unhide HRC]; rfl
          have HRV : Hid (RCV = ⟨s, Q, M, Y, G, c⟩) := unhide HRC
          generalize certT s Q M Y G = T9 at hT HCT
          generalize certR s Q M Y G = r9 at hT hOK HCT
          generalize certB s Q M Y G = b9 at hT hOK
          have HOK2 := unhide HOK
          rw [hOK] at HOK2
          have HT := hide hT
          have hbad := (unhide HR).cur.bad
          have b0 : wr.cell? ⟨w.heap.size + 1 + 1, 0, none⟩ = some (.int .i64 s) := (unhide HR).box.cell 0 _ rfl
          have b1 : wr.cell? ⟨w.heap.size + 1 + 1, 1, none⟩ = some (.slice Ae Q.length Ce) := (unhide HR).box.cell 1 _ rfl
          have b2 : wr.cell? ⟨w.heap.size + 1 + 1, 2, none⟩ = some (.slice Ac M.length Cc) := (unhide HR).box.cell 2 _ rfl
          have b3 : wr.cell? ⟨w.heap.size + 1 + 1, 3, none⟩ = some (.slice Ai Y.length Ci) := (unhide HR).box.cell 3 _ rfl
          have b4 : wr.cell? ⟨w.heap.size + 1 + 1, 4, none⟩ = some (.slice Ag G.length Cg) := (unhide HR).box.cell 4 _ rfl
          have HOK3 := hide HOK2
          clear HE4 hT hOK HOK HOK2 hGl hcs HQ4
          go_wp2_with fail
          go_fit (unhide HCT)
          rintro e w20 ⟨rfl, hb20⟩
          have HR20 := hide ((unhide HR).rd (Kept.of_below hb20) ((unhide HR).cur.below hb20))
          clear hbad b0 b1 b2 b3 b4
          have hbad := (unhide HR20).cur.bad
          have b0 : w20.cell? ⟨w.heap.size + 1 + 1, 0, none⟩ = some (.int .i64 s) := (unhide HR20).box.cell 0 _ rfl
          have b1 : w20.cell? ⟨w.heap.size + 1 + 1, 1, none⟩ = some (.slice Ae Q.length Ce) := (unhide HR20).box.cell 1 _ rfl
          have b2 : w20.cell? ⟨w.heap.size + 1 + 1, 2, none⟩ = some (.slice Ac M.length Cc) := (unhide HR20).box.cell 2 _ rfl
          have b3 : w20.cell? ⟨w.heap.size + 1 + 1, 3, none⟩ = some (.slice Ai Y.length Ci) := (unhide HR20).box.cell 3 _ rfl
          have b4 : w20.cell? ⟨w.heap.size + 1 + 1, 4, none⟩ = some (.slice Ag G.length Cg) := (unhide HR20).box.cell 4 _ rfl
          have r0 : w20.cell? ⟨w.heap.size, 0, none⟩ = some (.int .i64 0) := (unhide HR20).res.cell 0 _ rfl
          have r1 : w20.cell? ⟨w.heap.size, 1, none⟩ = some (.slice none 0 0) := (unhide HR20).res.cell 1 _ rfl
          have r2 : w20.cell? ⟨w.heap.size, 2, none⟩ = some (.slice none 0 0) := (unhide HR20).res.cell 2 _ rfl
          have r3 : w20.cell? ⟨w.heap.size, 3, none⟩ = some (.slice none 0 0) := (unhide HR20).res.cell 3 _ rfl
          have r4 : w20.cell? ⟨w.heap.size, 4, none⟩ = some (.slice none 0 0) := (unhide HR20).res.cell 4 _ rfl
          have rf := (unhide HR20).res.froz
          have hz20 := (unhide HR20).res.lt
          cases hcb : c.b
          · rw [hcb] at hbad
            cases r9
            · have HNO : Hid (OK = false ∧ RV = ⟨0, [], [], [], [], ⟨0, false⟩⟩) := by have h := unhide HOK3; rw [hcb] at h; exact hide (by simpa using h)
              clear HOK3
              have HB1 : Hid (Below w.heap.size w (((((w20.setCell ⟨w.heap.size, 0, none⟩ (.int .i64 0)).setCell ⟨w.heap.size, 1, none⟩ (.slice none 0 0)).setCell ⟨w.heap.size, 2, none⟩ (.slice none 0 0)).setCell ⟨w.heap.size, 3, none⟩ (.slice none 0 0)).setCell ⟨w.heap.size, 4, none⟩ (.slice none 0 0))) := ((((((unhide HR20).below.setCell (p := ⟨w.heap.size, 0, none⟩) (Nat.le_refl _) _).setCell (p := ⟨w.heap.size, 1, none⟩) (Nat.le_refl _) _).setCell (p := ⟨w.heap.size, 2, none⟩) (Nat.le_refl _) _).setCell (p := ⟨w.heap.size, 3, none⟩) (Nat.le_refl _) _).setCell (p := ⟨w.heap.size, 4, none⟩) (Nat.le_refl _) _)
              have HB2 : Hid (Blk (((((w20.setCell ⟨w.heap.size, 0, none⟩ (.int .i64 0)).setCell ⟨w.heap.size, 1, none⟩ (.slice none 0 0)).setCell ⟨w.heap.size, 2, none⟩ (.slice none 0 0)).setCell ⟨w.heap.size, 3, none⟩ (.slice none 0 0)).setCell ⟨w.heap.size, 4, none⟩ (.slice none 0 0)) w.heap.size #[.int .i64 0, .slice none 0 0, .slice none 0 0, .slice none 0 0, .slice none 0 0] 134) := (((((unhide HR20).res.set 0 _).set 1 _).set 2 _).set 3 _).set 4 _
              clear b0 b1 b2 b3 b4 HT HR20 HAT HRV HCT HLEN HRC LV HRB HGL HGS HR
              go_wp2_with fail
              (try simp only [Exit.inBlock, Exit.then])
              refine bodyPost_ret (results_cert2 Tryz.results100 _ _ w.heap.size _ _ _ _ _ rfl (unhide HB2)) rfl ?_
              rw [(unhide HNO).1, (unhide HNO).2]
              exact ⟨⟨_, rfl, CeAt.zero _ _, CNew.zero _ _⟩, unhide HB1⟩
            · obtain rfl : T9 = b9 := by rw [unhide HT]; rfl
              cases hq : (T9.toList == t.toList)
              · have hne : T9 ≠ t := fun h => by rw [h] at hq; simp at hq
                have HNO : Hid (OK = false ∧ RV = ⟨0, [], [], [], [], ⟨0, false⟩⟩) := by have h := unhide HOK3; rw [hcb, decide_eq_false hne] at h; exact hide (by simpa using h)
                clear HOK3 hne
                have HB1 : Hid (Below w.heap.size w (((((w20.setCell ⟨w.heap.size, 0, none⟩ (.int .i64 0)).setCell ⟨w.heap.size, 1, none⟩ (.slice none 0 0)).setCell ⟨w.heap.size, 2, none⟩ (.slice none 0 0)).setCell ⟨w.heap.size, 3, none⟩ (.slice none 0 0)).setCell ⟨w.heap.size, 4, none⟩ (.slice none 0 0))) := ((((((unhide HR20).below.setCell (p := ⟨w.heap.size, 0, none⟩) (Nat.le_refl _) _).setCell (p := ⟨w.heap.size, 1, none⟩) (Nat.le_refl _) _).setCell (p := ⟨w.heap.size, 2, none⟩) (Nat.le_refl _) _).setCell (p := ⟨w.heap.size, 3, none⟩) (Nat.le_refl _) _).setCell (p := ⟨w.heap.size, 4, none⟩) (Nat.le_refl _) _)
                have HB2 : Hid (Blk (((((w20.setCell ⟨w.heap.size, 0, none⟩ (.int .i64 0)).setCell ⟨w.heap.size, 1, none⟩ (.slice none 0 0)).setCell ⟨w.heap.size, 2, none⟩ (.slice none 0 0)).setCell ⟨w.heap.size, 3, none⟩ (.slice none 0 0)).setCell ⟨w.heap.size, 4, none⟩ (.slice none 0 0)) w.heap.size #[.int .i64 0, .slice none 0 0, .slice none 0 0, .slice none 0 0, .slice none 0 0] 134) := (((((unhide HR20).res.set 0 _).set 1 _).set 2 _).set 3 _).set 4 _
                clear b0 b1 b2 b3 b4 HT HR20 HAT HRV HCT HLEN HRC LV HRB HGL HGS HR
                go_wp2_with fail
                (try simp only [Exit.inBlock, Exit.then])
                refine bodyPost_ret (results_cert2 Tryz.results100 _ _ w.heap.size _ _ _ _ _ rfl (unhide HB2)) rfl ?_
                rw [(unhide HNO).1, (unhide HNO).2]
                exact ⟨⟨_, rfl, CeAt.zero _ _, CNew.zero _ _⟩, unhide HB1⟩
              · have hqe : T9 = t := by
                  have h := eq_of_beq hq
                  rw [ByteArray.toList_eq, ByteArray.toList_eq] at h
                  exact ByteArray.ext (Array.toList_inj.1 h)
                have HYES : Hid (OK = true ∧ RV = ⟨s, Q, M, Y, G, c⟩) := by have h := unhide HOK3; rw [hcb, decide_eq_true hqe, unhide HRV] at h; exact hide (by simpa using h)
                clear HOK3 hqe
                have HB1 : Hid (Below w.heap.size w (((((w20.setCell ⟨w.heap.size, 0, none⟩ (.int .i64 s)).setCell ⟨w.heap.size, 1, none⟩ (.slice Ae Q.length Ce)).setCell ⟨w.heap.size, 2, none⟩ (.slice Ac M.length Cc)).setCell ⟨w.heap.size, 3, none⟩ (.slice Ai Y.length Ci)).setCell ⟨w.heap.size, 4, none⟩ (.slice Ag G.length Cg))) := ((((((unhide HR20).below.setCell (p := ⟨w.heap.size, 0, none⟩) (Nat.le_refl _) _).setCell (p := ⟨w.heap.size, 1, none⟩) (Nat.le_refl _) _).setCell (p := ⟨w.heap.size, 2, none⟩) (Nat.le_refl _) _).setCell (p := ⟨w.heap.size, 3, none⟩) (Nat.le_refl _) _).setCell (p := ⟨w.heap.size, 4, none⟩) (Nat.le_refl _) _)
                have HB2 : Hid (Blk (((((w20.setCell ⟨w.heap.size, 0, none⟩ (.int .i64 s)).setCell ⟨w.heap.size, 1, none⟩ (.slice Ae Q.length Ce)).setCell ⟨w.heap.size, 2, none⟩ (.slice Ac M.length Cc)).setCell ⟨w.heap.size, 3, none⟩ (.slice Ai Y.length Ci)).setCell ⟨w.heap.size, 4, none⟩ (.slice Ag G.length Cg)) w.heap.size #[.int .i64 s, .slice Ae Q.length Ce, .slice Ac M.length Cc, .slice Ai Y.length Ci, .slice Ag G.length Cg] 134) := (((((unhide HR20).res.set 0 _).set 1 _).set 2 _).set 3 _).set 4 _
                have HCE : Hid (CeAt (((((w20.setCell ⟨w.heap.size, 0, none⟩ (.int .i64 s)).setCell ⟨w.heap.size, 1, none⟩ (.slice Ae Q.length Ce)).setCell ⟨w.heap.size, 2, none⟩ (.slice Ac M.length Cc)).setCell ⟨w.heap.size, 3, none⟩ (.slice Ai Y.length Ci)).setCell ⟨w.heap.size, 4, none⟩ (.slice Ag G.length Cg)) (.agg #[.int .i64 s, .slice Ae Q.length Ce, .slice Ac M.length Cc, .slice Ai Y.length Ci, .slice Ag G.length Cg]) (((((w20.setCell ⟨w.heap.size, 0, none⟩ (.int .i64 s)).setCell ⟨w.heap.size, 1, none⟩ (.slice Ae Q.length Ce)).setCell ⟨w.heap.size, 2, none⟩ (.slice Ac M.length Cc)).setCell ⟨w.heap.size, 3, none⟩ (.slice Ai Y.length Ci)).setCell ⟨w.heap.size, 4, none⟩ (.slice Ag G.length Cg)).heap.size s Q M Y G) := (unhide HR20).keptRes (W := (((((w20.setCell ⟨w.heap.size, 0, none⟩ (.int .i64 s)).setCell ⟨w.heap.size, 1, none⟩ (.slice Ae Q.length Ce)).setCell ⟨w.heap.size, 2, none⟩ (.slice Ac M.length Cc)).setCell ⟨w.heap.size, 3, none⟩ (.slice Ai Y.length Ci)).setCell ⟨w.heap.size, 4, none⟩ (.slice Ag G.length Cg))) (((((Kept.set (S := fun k => k = w.heap.size) _ _ _ _ rfl).trans (Kept.set (S := fun k => k = w.heap.size) _ _ _ _ rfl)).trans (Kept.set (S := fun k => k = w.heap.size) _ _ _ _ rfl)).trans (Kept.set (S := fun k => k = w.heap.size) _ _ _ _ rfl)).trans (Kept.set (S := fun k => k = w.heap.size) _ _ _ _ rfl)) (unhide HLEN)
                have HCN : Hid (CNew (((((w20.setCell ⟨w.heap.size, 0, none⟩ (.int .i64 s)).setCell ⟨w.heap.size, 1, none⟩ (.slice Ae Q.length Ce)).setCell ⟨w.heap.size, 2, none⟩ (.slice Ac M.length Cc)).setCell ⟨w.heap.size, 3, none⟩ (.slice Ai Y.length Ci)).setCell ⟨w.heap.size, 4, none⟩ (.slice Ag G.length Cg)) (w.heap.size + 3) (.agg #[.int .i64 s, .slice Ae Q.length Ce, .slice Ac M.length Cc, .slice Ai Y.length Ci, .slice Ag G.length Cg]) s Q M Y G) := (unhide HR20).keptNew (W := (((((w20.setCell ⟨w.heap.size, 0, none⟩ (.int .i64 s)).setCell ⟨w.heap.size, 1, none⟩ (.slice Ae Q.length Ce)).setCell ⟨w.heap.size, 2, none⟩ (.slice Ac M.length Cc)).setCell ⟨w.heap.size, 3, none⟩ (.slice Ai Y.length Ci)).setCell ⟨w.heap.size, 4, none⟩ (.slice Ag G.length Cg))) (((((Kept.set (S := fun k => k = w.heap.size) _ _ _ _ rfl).trans (Kept.set (S := fun k => k = w.heap.size) _ _ _ _ rfl)).trans (Kept.set (S := fun k => k = w.heap.size) _ _ _ _ rfl)).trans (Kept.set (S := fun k => k = w.heap.size) _ _ _ _ rfl)).trans (Kept.set (S := fun k => k = w.heap.size) _ _ _ _ rfl))
                clear HT HR20 HAT HRV HCT HLEN HRC LV HRB HGL HGS HR
                go_wp2_with fail
                (try simp only [Exit.inBlock, Exit.then])
                refine bodyPost_ret (results_cert2 Tryz.results100 _ _ w.heap.size _ _ _ _ _ rfl (unhide HB2)) rfl ?_
                rw [(unhide HYES).1, (unhide HYES).2]
                exact ⟨⟨_, rfl, unhide HCE, unhide HCN⟩, unhide HB1⟩
          · rw [hcb] at hbad
            have HNO : Hid (OK = false ∧ RV = ⟨0, [], [], [], [], ⟨0, false⟩⟩) := by have h := unhide HOK3; rw [hcb] at h; exact hide (by simpa using h)
            clear HOK3
            have HB1 : Hid (Below w.heap.size w (((((w20.setCell ⟨w.heap.size, 0, none⟩ (.int .i64 0)).setCell ⟨w.heap.size, 1, none⟩ (.slice none 0 0)).setCell ⟨w.heap.size, 2, none⟩ (.slice none 0 0)).setCell ⟨w.heap.size, 3, none⟩ (.slice none 0 0)).setCell ⟨w.heap.size, 4, none⟩ (.slice none 0 0))) := ((((((unhide HR20).below.setCell (p := ⟨w.heap.size, 0, none⟩) (Nat.le_refl _) _).setCell (p := ⟨w.heap.size, 1, none⟩) (Nat.le_refl _) _).setCell (p := ⟨w.heap.size, 2, none⟩) (Nat.le_refl _) _).setCell (p := ⟨w.heap.size, 3, none⟩) (Nat.le_refl _) _).setCell (p := ⟨w.heap.size, 4, none⟩) (Nat.le_refl _) _)
            have HB2 : Hid (Blk (((((w20.setCell ⟨w.heap.size, 0, none⟩ (.int .i64 0)).setCell ⟨w.heap.size, 1, none⟩ (.slice none 0 0)).setCell ⟨w.heap.size, 2, none⟩ (.slice none 0 0)).setCell ⟨w.heap.size, 3, none⟩ (.slice none 0 0)).setCell ⟨w.heap.size, 4, none⟩ (.slice none 0 0)) w.heap.size #[.int .i64 0, .slice none 0 0, .slice none 0 0, .slice none 0 0, .slice none 0 0] 134) := (((((unhide HR20).res.set 0 _).set 1 _).set 2 _).set 3 _).set 4 _
            clear b0 b1 b2 b3 b4 HT HR20 HAT HRV HCT HLEN HRC LV HRB HGL HGS HR
            go_wp2_with fail
            (try simp only [Exit.inBlock, Exit.then])
            refine bodyPost_ret (results_cert2 Tryz.results100 _ _ w.heap.size _ _ _ _ _ rfl (unhide HB2)) rfl ?_
            rw [(unhide HNO).1, (unhide HNO).2]
            exact ⟨⟨_, rfl, CeAt.zero _ _, CNew.zero _ _⟩, unhide HB1⟩
theorem specReadCert_any (t : ByteArray) (ht : t.size ≤ 1048576) (w : World) :
    Calls Tryz.prog 100 #[.string t] w fun e w' => (∃ d, e = .returned (.tuple #[d, .bool (rcOk t)]) ∧ CeAt w' d w'.heap.size (rcV t).s (rcV t).Q (rcV t).M (rcV t).Y (rcV t).G) ∧ Below w.heap.size w w' := by
  refine (specReadCert_new t ht w).mono ?_
  rintro e w' ⟨⟨d, rfl, h1, _⟩, hb⟩
  exact ⟨⟨d, rfl, h1⟩, hb⟩
end Gr
end Go.Proofs.YtihnaddfpmjpaaaGreatDoor
