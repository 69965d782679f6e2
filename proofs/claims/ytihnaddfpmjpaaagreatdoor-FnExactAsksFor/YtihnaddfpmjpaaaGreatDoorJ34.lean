/-
 GrImplRC.
-/
import Derived.Test.YtihnaddfpmjpaaaGreatDoorJ32
import Derived.Test.YtihnaddfpmjpaaaGreatDoorJ33
import Derived.Deep.Cut
namespace Go.Proofs.YtihnaddfpmjpaaaGreatDoor
namespace Gr
open Go.RowKit
theorem cert_types : (134 : Nat) ≠ 106 ∧ (134 : Nat) ≠ 162 ∧ (134 : Nat) ≠ 164 ∧ (134 : Nat) ≠ 3 ∧ (134 : Nat) ≠ 194 := by decide
theorem results_rd2 {fn : Func} {p u : Tmp} {ty : TypeId} (h : fn.results = #[.cell p ty, .tmp u]) (tmps : Array Value) (P : Program) (w : World) (ad : Addr) (v : Value) (hp : tmps.getD p undef = .pointer (some ad)) (hl : (loadVar ty ad).run P w = .ok v w) :
    (results fn tmps).run P w = .ok (.tuple #[v, tmps.getD u undef]) w := by
  have hp' : tmps[p]?.getD undef = .pointer (some ad) := by simpa using hp
  simp [results, h, hp', asAddr, hl]
theorem load_cert {W : World} {g : Nat} {a b c d e : Value} (h : Blk W g #[a, b, c, d, e] 134) : (loadVar 134 ⟨g, 0, none⟩).run Tryz.prog W = .ok (.agg #[a, b, c, d, e]) W :=
  run_loadVar_row (P := Tryz.prog) W g 134 134 #[a, b, c, d, e] (0, 0) _ h Tryz.underlying134 rfl (by kernel_rfl)
theorem CROwn.zero (w : World) (B : Nat) : CROwn w B (.agg #[.int .i64 0, .slice none 0 0, .slice none 0 0, .slice none 0 0, .slice none 0 0]) 0 [] [] [] [] :=
  ⟨_, _, _, _, rfl, World.ownsRow_nil _ _ _ _, World.ownsRow_nil _ _ _ _, _, _, [], rfl, World.ownsRow_nil _ _ _ _, ⟨rfl, World.ownsRow_nil _ _ _ _, fun _ h1 _ => absurd h1 (Nat.not_lt_zero _)⟩, fun i j hi hj g _ _ => by simp at hi hj; omega⟩
theorem CROwn.kept {S : Nat → Prop} {w w' : World} {B : Nat} {v : Value} {s : Int} {Q : List EdgeI} {M : List CoupleI} {Y : List Int} {G : List GrpI} (h : CROwn w B v s Q M Y G) (hk : Kept S w w') (hS : ∀ g, S g → Alien w g 106 ∧ Alien w g 162 ∧ Alien w g 164 ∧ Alien w g 3) : CROwn w' B v s Q M Y G := by
  obtain ⟨v1, v2, v3, v4, rfl, h1, h2, u1, u2, ms, e, p1, p2, p3⟩ := h
  obtain ⟨q1, q2⟩ := rows_kept p1 p2 hk (fun g hg => (hS g hg).2.2)
  exact ⟨v1, v2, v3, v4, rfl, hk.own_alien h1 (fun g hg => (hS g hg).1), hk.own_alien h2 (fun g hg => (hS g hg).2.1), u1, u2, ms, e, q1, q2, p3⟩
theorem gbulk_small : ∀ (G : List GrpI), (∀ q ∈ G, q.M.length ≤ 9) → gbulk G ≤ G.length * 9
  | [], _ => by simp [gbulk]
  | q :: r, h => by
    have h1 := gbulk_small r (fun x hx => h x (List.mem_cons_of_mem _ hx))
    have h2 := h q List.mem_cons_self
    simp only [gbulk, List.length_cons]
    omega
theorem psize_small {Y : List Int} {G : List GrpI} (hY : Y.length ≤ 9) (hG : G.length ≤ 8) (hM : ∀ q ∈ G, q.M.length ≤ 9) : psize Y G ≤ 1048576 := by
  have := gbulk_small G hM
  unfold psize
  omega
theorem grps_members {t : ByteArray} : ∀ (k : Nat) (c : CS), ∀ q ∈ (grps t k c).1, q.M.length ≤ 9
  | 0, _, q, hq => by simp [grps] at hq
  | k + 1, c, q, hq => by
    simp only [grps, List.mem_cons] at hq
    rcases hq with rfl | hq
    · show (nums t (rcnt t 9 c).1.toNat (rcnt t 9 c).2).1.length ≤ 9
      rw [nums_length]
      have := rcnt_range t 9 c (by decide)
      omega
    · exact grps_members k _ q hq
set_option maxRecDepth 100000 in
set_option maxHeartbeats 4000000 in
theorem implReadCert_gen (B : Nat) (t : ByteArray) (ht : t.size ≤ 1048576) (w : World) (_hB : B ≤ w.heap.size) :
    Calls Tryz.prog 125 #[.string t] w fun e w' => (∃ d, e = .returned (.tuple #[d, .bool (rcOk t)]) ∧ CROwn w' w.heap.size d (rcV t).s (rcV t).Q (rcV t).M (rcV t).Y (rcV t).G) ∧ Below w.heap.size w w' := by
  obtain ⟨c1, c2, c3, c4, c5⟩ := cert_types
  obtain ⟨r1, r2, r3, r4, r5, _⟩ := reader_types
  have hIS := mdl_is t
  have hV0 : rcOk t = false → rcV t = ⟨0, [], [], [], [], ⟨0, false⟩⟩ := fun h => by unfold rcV; rw [h]; rfl
  have hD : mdlOk t = true ↔ ((mdl t).c.b = false ∧ t.size ≤ (mdl t).c.p ∧ certR (mdl t).s (mdl t).Q (mdl t).M (mdl t).Y (mdl t).G = true) := by
    unfold mdlOk
    simp only [Bool.and_eq_true, Bool.not_eq_true', Bool.or_eq_false_iff, decide_eq_false_iff_not, Nat.not_lt, and_assoc]
  have GA := hide (fun g w1 => graph_any t ht g ⟨0, false⟩ w1)
  have rs := rcnt_range t 9 ⟨0, false⟩ (by decide)
  unfold mdl at hD hIS
  dsimp only at hD hIS
  generalize rcnt t 9 ⟨0, false⟩ = S at GA rs hD hIS
  obtain ⟨s0, x1⟩ := S
  simp only at GA rs hD hIS
  obtain ⟨s, rfl⟩ := Int.eq_ofNat_of_zero_le rs.1
  have rn := rcnt_range t 36 x1 (by decide)
  generalize rcnt t 36 x1 = N at GA rn hD hIS
  obtain ⟨n, x2⟩ := N
  simp only at GA rn hD hIS
  have lE := edgs_length (t := t) n.toNat x2
  generalize edgs t n.toNat x2 = E at GA lE hD hIS
  obtain ⟨Q, x3⟩ := E
  simp only at GA lE hD hIS
  have PA := hide (fun g w1 => pairs_any t ht g x3 w1)
  have rm := rcnt_range t 4 x3 (by decide)
  generalize rcnt t 4 x3 = N at PA rm hD hIS
  obtain ⟨m, x4⟩ := N
  simp only at PA rm hD hIS
  have lM := cpls_length (t := t) m.toNat x4
  generalize cpls t m.toNat x4 = E at PA lM hD hIS
  obtain ⟨M, x5⟩ := E
  simp only at PA lM hD hIS
  rw [Int.toNat_natCast] at hD hIS
  have PR := hide (fun g w1 => proof_any t ht g x5 s (by omega) w1)
  have lY := nums_length (t := t) s x5
  generalize nums t s x5 = E at PR lY hD hIS
  obtain ⟨Y, x6⟩ := E
  simp only at PR lY hD hIS
  have rg := rcnt_range t 8 x6 (by decide)
  generalize rcnt t 8 x6 = N at PR rg hD hIS
  obtain ⟨gn, x7⟩ := N
  simp only at PR rg hD hIS
  have lG := grps_length (t := t) gn.toNat x7
  have mG := grps_members (t := t) gn.toNat x7
  generalize grps t gn.toNat x7 = E at PR lG mG hD hIS
  obtain ⟨G, x8⟩ := E
  simp only at PR lG mG hD hIS
  have hQn : Q.length ≤ 36 := by omega
  have hMn : M.length ≤ 4 := by omega
  have hPn : psize Y G ≤ 1048576 := psize_small (by omega) (by omega) mG
  have CK := hide (fun B v u m w1 => implCert_gen B v (s : Int) Q m M u Y G (by omega) (by omega) hPn w1)
  have hin : PrIn Y G := ⟨by omega, by omega, fun q hq => by have := mG q hq; omega⟩
  have HIN := hide hin
  rw [hIS.1] at hD
  have HV1 := hide hIS.2
  clear hIS lE rn lM rm lY rg lG mG hin hPn
  generalize rcV t = RV at HV1 hV0 ⊢
  generalize rcOk t = OK at HV1 hV0 hD ⊢
  have HV0 := hide hV0
  have HD := hide hD
  generalize certR (s : Int) Q M Y G = CR at CK HD
  clear hV0 hD
  go_enter Tryz.func125, Tryz.ntmps125
  go_wp2_with fail
  obtain ⟨W0, hW0⟩ : ∃ W, W = w.alloc (Obj.cells #[.int .i64 0, .slice none 0 0, .slice none 0 0, .slice none 0 0, .slice none 0 0] 134) := ⟨_, rfl⟩
  have z0 : W0.heap.size = w.heap.size + 1 := by rw [hW0, alloc_size]
  have b0 : Below w.heap.size w W0 := by rw [hW0]; exact below_new _ _
  have m0 : Blk W0 w.heap.size #[.int .i64 0, .slice none 0 0, .slice none 0 0, .slice none 0 0, .slice none 0 0] 134 := by rw [hW0]; exact Blk.new0
  obtain ⟨W1, hW1⟩ : ∃ W, W = W0.alloc (Obj.cells #[.string t, .int .i64 0, .bool false] 194) := ⟨_, rfl⟩
  have b1 : Below W0.heap.size W0 W1 := by rw [hW1]; exact below_new _ _
  have d1 : RdAt W1 W0.heap.size t ⟨0, false⟩ := by rw [hW1]; exact ⟨Blk.new0, Nat.zero_le _⟩
  have m1 := m0.below b1
  have B1 : Below w.heap.size w W1 := b0.trans (b1.mono b0.size)
  have z1 : W1.heap.size = w.heap.size + 2 := by rw [hW1, alloc_size, z0]
  rw [z0] at d1
  rw [← hW0, ← hW1]
  clear hW0 hW1 b0 b1 m0 z0 W0
  obtain ⟨g, hg⟩ : ∃ g, g = w.heap.size + 1 := ⟨_, rfl⟩
  rw [← hg] at d1 ⊢
  have hg1 : w.heap.size < g := by omega
  have hg2 : g < W1.heap.size := by omega
  clear hg
  refine (unhide GA g W1 d1).mono ?_
  rintro e w2 ⟨⟨v1, rfl, o2⟩, d2, k2⟩
  have m2 := m1.kept k2 (by omega)
  have K2 : Kept (fun i => i = g) W1 w2 := k2
  have o2' := own_lower (C := w.heap.size) (by omega) o2
  obtain ⟨A1, p1, rfl⟩ := own_shape o2'
  have zw2 : W1.heap.size ≤ w2.heap.size := k2.2.2.2.1
  have B2 : Below w.heap.size w w2 := B1.trans (k2.below (by omega) (fun i hi => by omega))
  have D2 := hide d2
  have O2 := hide o2'
  clear d1 m1 k2 o2 o2' d2 K2 GA
  go_wp2_with fail
  obtain ⟨W3, hW3⟩ : ∃ W, W = w2.alloc (Obj.cells #[.int .i64 (s : Int), .slice A1 Q.length p1, .slice none 0 0, .slice none 0 0, .slice none 0 0] 134) := ⟨_, rfl⟩
  have b3 : Below w2.heap.size w2 W3 := by rw [hW3]; exact below_new _ _
  have n3 : Blk W3 w2.heap.size #[.int .i64 (s : Int), .slice A1 Q.length p1, .slice none 0 0, .slice none 0 0, .slice none 0 0] 134 := by rw [hW3]; exact Blk.new0
  have z3 : W3.heap.size = w2.heap.size + 1 := by rw [hW3, alloc_size]
  have m3 := m2.below b3
  have D3 := (unhide D2).below b3
  have O3 := own_below (unhide O2) b3
  have B3 : Below w.heap.size w W3 := B2.trans (b3.mono B2.size)
  rw [← hW3]
  clear hW3 b3 m2 D2 O2
  obtain ⟨kb, hkb⟩ : ∃ kb, kb = w2.heap.size := ⟨_, rfl⟩
  rw [← hkb] at n3 ⊢
  have hk1 : g < kb := by omega
  have hk2 : kb < W3.heap.size := by omega
  clear hkb z3
  refine (unhide PA g W3 D3).mono ?_
  rintro e w4 ⟨⟨v2, rfl, o4⟩, d4, k4⟩
  have m4 := m3.kept k4 (by omega)
  have n4 := n3.kept k4 (by omega)
  have O4 := k4.own_alien O3 (D3.alien r2)
  have P4 : CoOwn w4 w.heap.size v2 M := own_lower (by omega) o4
  have B4 : Below w.heap.size w w4 := B3.trans (k4.below (by omega) (fun i hi => by omega))
  obtain ⟨A2, p2, rfl⟩ := own_shape P4
  have zw4 : W3.heap.size ≤ w4.heap.size := k4.2.2.2.1
  have q0 : w4.cell? ⟨kb, 0, none⟩ = some (.int .i64 (s : Int)) := n4.cell 0 _ rfl
  have q2 : w4.cell? ⟨kb, 2, none⟩ = some (.slice none 0 0) := n4.cell 2 _ rfl
  have f2 := n4.froz 2
  obtain ⟨W5, hW5⟩ : ∃ W, W = w4.setCell ⟨kb, 2, none⟩ (.slice A2 M.length p2) := ⟨_, rfl⟩
  have k5 : Kept (fun i => i = kb) w4 W5 := by rw [hW5]; exact Kept.set _ _ _ _ rfl
  have n5 : Blk W5 kb #[.int .i64 (s : Int), .slice A1 Q.length p1, .slice A2 M.length p2, .slice none 0 0, .slice none 0 0] 134 := by rw [hW5]; exact n4.set 2 _
  have al : ∀ e : TypeId, (134 : Nat) ≠ e → ∀ k, k = kb → Alien w4 k e := fun e he k hk => by subst hk; exact n4.alien he
  have M5 := hide (m4.kept k5 (by omega))
  have D5 := hide (d4.kept k5 (by omega))
  have O5 := hide (k5.own_alien O4 (al _ c1))
  have P5 := hide (k5.own_alien P4 (al _ c2))
  have B5 : Below w.heap.size w W5 := B4.trans (k5.below (by omega) (fun i hi => by omega))
  have N5 := hide n5
  have q0' : (w4.setCell ⟨kb, 2, none⟩ (.slice A2 M.length p2)).cell? ⟨kb, 0, none⟩ = some (.int .i64 (s : Int)) := by rw [← hW5]; exact n5.cell 0 _ rfl
  clear m4 n4 n5 O4 P4 d4 k4 k5 o4 D3 O3 n3 m3 al PA
  go_wp2_with fail
  rw [← hW5]
  have zw5 : W5.heap.size = w4.heap.size := by rw [hW5]; simp [World.setCell]
  clear q0 q2 f2 q0' hW5
  refine (unhide PR g W5 (unhide D5)).mono ?_
  rintro e w6 ⟨⟨v3, v4, rfl, o6⟩, d6, k6⟩
  have m6 := (unhide M5).kept k6 (by omega)
  have n6 := (unhide N5).kept k6 (by omega)
  have O6 := k6.own_alien (unhide O5) ((unhide D5).alien r2)
  have P6 := k6.own_alien (unhide P5) ((unhide D5).alien r3)
  have B6 : Below w.heap.size w w6 := B5.trans (k6.below (by omega) (fun i hi => by omega))
  obtain ⟨A3, p3, A4, p4, e34⟩ := o6.shape
  simp at e34
  obtain ⟨rfl, rfl⟩ := e34
  have CR6 : CROwn w6 w.heap.size (.agg #[.int .i64 (s : Int), .slice A1 Q.length p1, .slice A2 M.length p2, .slice A3 Y.length p3, .slice A4 G.length p4]) (s : Int) Q M Y G := by
    refine ⟨_, _, _, _, rfl, O6, P6, ?_⟩
    obtain ⟨u1, u2, ms, e, a1, a2, a3⟩ := o6
    exact ⟨u1, u2, ms, e, own_lower (by omega) a1, ⟨a2.1, own_lower (by omega) a2.2.1, fun j h1 h2 => own_lower (by omega) (a2.2.2 j h1 h2)⟩, a3⟩
  have q3 : w6.cell? ⟨kb, 3, none⟩ = some (.slice none 0 0) := n6.cell 3 _ rfl
  have q4 : w6.cell? ⟨kb, 4, none⟩ = some (.slice none 0 0) := n6.cell 4 _ rfl
  have f3 := n6.froz 3
  have f4 := n6.froz 4
  obtain ⟨W7, hW7⟩ : ∃ W, W = (w6.setCell ⟨kb, 3, none⟩ (.slice A3 Y.length p3)).setCell ⟨kb, 4, none⟩ (.slice A4 G.length p4) := ⟨_, rfl⟩
  have k7 : Kept (fun i => i = kb) w6 W7 := by rw [hW7]; exact Kept.trans (S := fun i => i = kb) (Kept.set _ _ _ _ rfl) (Kept.set _ _ _ _ rfl)
  have n7 : Blk W7 kb #[.int .i64 (s : Int), .slice A1 Q.length p1, .slice A2 M.length p2, .slice A3 Y.length p3, .slice A4 G.length p4] 134 := by rw [hW7]; exact (n6.set 3 _).set 4 _
  have al : ∀ k, k = kb → Alien w6 k 106 ∧ Alien w6 k 162 ∧ Alien w6 k 164 ∧ Alien w6 k 3 := fun k hk => by subst hk; exact ⟨n6.alien c1, n6.alien c2, n6.alien c3, n6.alien c4⟩
  have C7 := hide (CR6.kept k7 al)
  have m7 := m6.kept k7 (by omega)
  have d7 := d6.kept k7 (by omega)
  have B7 : Below w.heap.size w W7 := B6.trans (k7.below (by have := B6.size; omega) (fun i hi => by omega))
  clear m6 n6 O6 P6 o6 d6 k6 k7 al CR6 M5 D5 O5 P5 N5 PR
  obtain ⟨xp, xb⟩ := x8
  have g1 : W7.cell? ⟨g, 1, none⟩ = some (.int .i64 (xp : Int)) := d7.1.cell 1 _ rfl
  have g2 : W7.cell? ⟨g, 2, none⟩ = some (.bool xb) := d7.1.cell 2 _ rfl
  have hxp : xp ≤ t.size := d7.2
  have HM7 := hide m7
  have HN7 := hide n7
  have hkb7 := n7.lt
  simp only at HD
  go_upto_region 5 with fail
  rw [← hW7]
  clear hW7 q3 q4 f3 f4 m7 n7 d7
  cases xb with
  | true =>
    have HNO : Hid (OK = false ∧ RV = ⟨0, [], [], [], [], ⟨0, false⟩⟩) := by
      have h : OK = false := by
        cases hO : OK with
        | false => rfl
        | true => have := (unhide HD).1 hO; simp at this
      exact ⟨h, unhide HV0 h⟩
    clear HD HV0 HV1 HN7 C7 CK HIN
    have b0 : W7.cell? ⟨w.heap.size, 0, none⟩ = some (.int .i64 0) := (unhide HM7).cell 0 _ rfl
    have b1 : W7.cell? ⟨w.heap.size, 1, none⟩ = some (.slice none 0 0) := (unhide HM7).cell 1 _ rfl
    have b2 : W7.cell? ⟨w.heap.size, 2, none⟩ = some (.slice none 0 0) := (unhide HM7).cell 2 _ rfl
    have b3 : W7.cell? ⟨w.heap.size, 3, none⟩ = some (.slice none 0 0) := (unhide HM7).cell 3 _ rfl
    have b4 : W7.cell? ⟨w.heap.size, 4, none⟩ = some (.slice none 0 0) := (unhide HM7).cell 4 _ rfl
    have y0 := (unhide HM7).froz 0
    have y1 := (unhide HM7).froz 1
    have y2 := (unhide HM7).froz 2
    have y3 := (unhide HM7).froz 3
    have y4 := (unhide HM7).froz 4
    have HB2 : Hid (Blk (((((W7.setCell ⟨w.heap.size, 0, none⟩ (.int .i64 0)).setCell ⟨w.heap.size, 1, none⟩ (.slice none 0 0)).setCell ⟨w.heap.size, 2, none⟩ (.slice none 0 0)).setCell ⟨w.heap.size, 3, none⟩ (.slice none 0 0)).setCell ⟨w.heap.size, 4, none⟩ (.slice none 0 0)) w.heap.size #[.int .i64 0, .slice none 0 0, .slice none 0 0, .slice none 0 0, .slice none 0 0] 134) := ((((((unhide HM7).set 0 _).set 1 _).set 2 _).set 3 _).set 4 _)
    have HB1 : Hid (Below w.heap.size w (((((W7.setCell ⟨w.heap.size, 0, none⟩ (.int .i64 0)).setCell ⟨w.heap.size, 1, none⟩ (.slice none 0 0)).setCell ⟨w.heap.size, 2, none⟩ (.slice none 0 0)).setCell ⟨w.heap.size, 3, none⟩ (.slice none 0 0)).setCell ⟨w.heap.size, 4, none⟩ (.slice none 0 0))) := (((((B7.setCell (p := ⟨w.heap.size, 0, none⟩) (Nat.le_refl _) _).setCell (p := ⟨w.heap.size, 1, none⟩) (Nat.le_refl _) _).setCell (p := ⟨w.heap.size, 2, none⟩) (Nat.le_refl _) _).setCell (p := ⟨w.heap.size, 3, none⟩) (Nat.le_refl _) _).setCell (p := ⟨w.heap.size, 4, none⟩) (Nat.le_refl _) _)
    go_wp2_with fail
    (try simp only [Exit.inBlock, Exit.then])
    refine bodyPost_ret (results_rd2 Tryz.results125 _ _ _ _ _ rfl (load_cert (unhide HB2))) rfl ?_
    rw [(unhide HNO).1, (unhide HNO).2]
    exact ⟨⟨_, rfl, CROwn.zero _ _⟩, unhide HB1⟩
  | false =>
    by_cases hlt : xp < t.size
    · have hx1 : (xp : Int) < (t.size : Int) := by omega
      have HNO : Hid (OK = false ∧ RV = ⟨0, [], [], [], [], ⟨0, false⟩⟩) := by
        have h : OK = false := by
          cases hO : OK with
          | false => rfl
          | true => have := (unhide HD).1 hO; simp at this; omega
        exact ⟨h, unhide HV0 h⟩
      clear HD HV0 HV1 HN7 C7 CK HIN
      have b0 : W7.cell? ⟨w.heap.size, 0, none⟩ = some (.int .i64 0) := (unhide HM7).cell 0 _ rfl
      have b1 : W7.cell? ⟨w.heap.size, 1, none⟩ = some (.slice none 0 0) := (unhide HM7).cell 1 _ rfl
      have b2 : W7.cell? ⟨w.heap.size, 2, none⟩ = some (.slice none 0 0) := (unhide HM7).cell 2 _ rfl
      have b3 : W7.cell? ⟨w.heap.size, 3, none⟩ = some (.slice none 0 0) := (unhide HM7).cell 3 _ rfl
      have b4 : W7.cell? ⟨w.heap.size, 4, none⟩ = some (.slice none 0 0) := (unhide HM7).cell 4 _ rfl
      have y0 := (unhide HM7).froz 0
      have y1 := (unhide HM7).froz 1
      have y2 := (unhide HM7).froz 2
      have y3 := (unhide HM7).froz 3
      have y4 := (unhide HM7).froz 4
      have HB2 : Hid (Blk (((((W7.setCell ⟨w.heap.size, 0, none⟩ (.int .i64 0)).setCell ⟨w.heap.size, 1, none⟩ (.slice none 0 0)).setCell ⟨w.heap.size, 2, none⟩ (.slice none 0 0)).setCell ⟨w.heap.size, 3, none⟩ (.slice none 0 0)).setCell ⟨w.heap.size, 4, none⟩ (.slice none 0 0)) w.heap.size #[.int .i64 0, .slice none 0 0, .slice none 0 0, .slice none 0 0, .slice none 0 0] 134) := ((((((unhide HM7).set 0 _).set 1 _).set 2 _).set 3 _).set 4 _)
      have HB1 : Hid (Below w.heap.size w (((((W7.setCell ⟨w.heap.size, 0, none⟩ (.int .i64 0)).setCell ⟨w.heap.size, 1, none⟩ (.slice none 0 0)).setCell ⟨w.heap.size, 2, none⟩ (.slice none 0 0)).setCell ⟨w.heap.size, 3, none⟩ (.slice none 0 0)).setCell ⟨w.heap.size, 4, none⟩ (.slice none 0 0))) := (((((B7.setCell (p := ⟨w.heap.size, 0, none⟩) (Nat.le_refl _) _).setCell (p := ⟨w.heap.size, 1, none⟩) (Nat.le_refl _) _).setCell (p := ⟨w.heap.size, 2, none⟩) (Nat.le_refl _) _).setCell (p := ⟨w.heap.size, 3, none⟩) (Nat.le_refl _) _).setCell (p := ⟨w.heap.size, 4, none⟩) (Nat.le_refl _) _)
      go_wp2_with fail
      (try simp only [Exit.inBlock, Exit.then])
      refine bodyPost_ret (results_rd2 Tryz.results125 _ _ _ _ _ rfl (load_cert (unhide HB2))) rfl ?_
      rw [(unhide HNO).1, (unhide HNO).2]
      exact ⟨⟨_, rfl, CROwn.zero _ _⟩, unhide HB1⟩
    · have hx1 : ¬ (xp : Int) < (t.size : Int) := by omega
      have hxt : t.size ≤ xp := by omega
      have n0 : W7.cell? ⟨kb, 0, none⟩ = some (.int .i64 (s : Int)) := (unhide HN7).cell 0 _ rfl
      have n1 : W7.cell? ⟨kb, 1, none⟩ = some (.slice A1 Q.length p1) := (unhide HN7).cell 1 _ rfl
      have n2 : W7.cell? ⟨kb, 2, none⟩ = some (.slice A2 M.length p2) := (unhide HN7).cell 2 _ rfl
      have n3 : W7.cell? ⟨kb, 3, none⟩ = some (.slice A3 Y.length p3) := (unhide HN7).cell 3 _ rfl
      have n4 : W7.cell? ⟨kb, 4, none⟩ = some (.slice A4 G.length p4) := (unhide HN7).cell 4 _ rfl
      have CK7 : Hid (Calls Tryz.prog 138 #[.agg #[.int .i64 (s : Int), .slice A1 Q.length p1], .slice A2 M.length p2, .agg #[.slice A3 Y.length p3, .slice A4 G.length p4]] W7 fun e w' => e = .returned (.bool CR) ∧ Below W7.heap.size W7 w') := by
        obtain ⟨u1, u2, u3, u4, e, h1, h2, h3⟩ := unhide C7
        simp at e
        obtain ⟨rfl, rfl, rfl, rfl⟩ := e
        obtain ⟨_, _, e1, hQ⟩ := edgesAt.of_own h1
        obtain ⟨_, _, e2, hM⟩ := CoOwn.at h2
        exact unhide CK W7.heap.size _ _ _ W7 (Nat.le_refl _) ⟨_, _, _, by rw [e1], hQ⟩ ⟨_, _, e2, hM⟩ (h3.at (unhide HIN))
      clear CK
      go_wp2_with fail
      refine (unhide CK7).mono ?_
      rintro e w8 ⟨rfl, b8⟩
      have B8 : Below w.heap.size w w8 := B7.trans (b8.mono B7.size)
      have HM8 := hide ((unhide HM7).below b8)
      have HN8 := hide ((unhide HN7).below b8)
      have C8 := hide ((unhide C7).below b8)
      clear n0 n1 n2 n3 n4 g1 g2 CK7 C7 HM7 HN7 b8
      cases CR with
      | false =>
        have HNO : Hid (OK = false ∧ RV = ⟨0, [], [], [], [], ⟨0, false⟩⟩) := by
          have h : OK = false := by
            cases hO : OK with
            | false => rfl
            | true => have := (unhide HD).1 hO; simp at this
          exact ⟨h, unhide HV0 h⟩
        clear HD HV0 HV1 HN8 C8 HIN
        have b0 : w8.cell? ⟨w.heap.size, 0, none⟩ = some (.int .i64 0) := (unhide HM8).cell 0 _ rfl
        have b1 : w8.cell? ⟨w.heap.size, 1, none⟩ = some (.slice none 0 0) := (unhide HM8).cell 1 _ rfl
        have b2 : w8.cell? ⟨w.heap.size, 2, none⟩ = some (.slice none 0 0) := (unhide HM8).cell 2 _ rfl
        have b3 : w8.cell? ⟨w.heap.size, 3, none⟩ = some (.slice none 0 0) := (unhide HM8).cell 3 _ rfl
        have b4 : w8.cell? ⟨w.heap.size, 4, none⟩ = some (.slice none 0 0) := (unhide HM8).cell 4 _ rfl
        have y0 := (unhide HM8).froz 0
        have y1 := (unhide HM8).froz 1
        have y2 := (unhide HM8).froz 2
        have y3 := (unhide HM8).froz 3
        have y4 := (unhide HM8).froz 4
        have HB2 : Hid (Blk (((((w8.setCell ⟨w.heap.size, 0, none⟩ (.int .i64 0)).setCell ⟨w.heap.size, 1, none⟩ (.slice none 0 0)).setCell ⟨w.heap.size, 2, none⟩ (.slice none 0 0)).setCell ⟨w.heap.size, 3, none⟩ (.slice none 0 0)).setCell ⟨w.heap.size, 4, none⟩ (.slice none 0 0)) w.heap.size #[.int .i64 0, .slice none 0 0, .slice none 0 0, .slice none 0 0, .slice none 0 0] 134) := ((((((unhide HM8).set 0 _).set 1 _).set 2 _).set 3 _).set 4 _)
        have HB1 : Hid (Below w.heap.size w (((((w8.setCell ⟨w.heap.size, 0, none⟩ (.int .i64 0)).setCell ⟨w.heap.size, 1, none⟩ (.slice none 0 0)).setCell ⟨w.heap.size, 2, none⟩ (.slice none 0 0)).setCell ⟨w.heap.size, 3, none⟩ (.slice none 0 0)).setCell ⟨w.heap.size, 4, none⟩ (.slice none 0 0))) := (((((B8.setCell (p := ⟨w.heap.size, 0, none⟩) (Nat.le_refl _) _).setCell (p := ⟨w.heap.size, 1, none⟩) (Nat.le_refl _) _).setCell (p := ⟨w.heap.size, 2, none⟩) (Nat.le_refl _) _).setCell (p := ⟨w.heap.size, 3, none⟩) (Nat.le_refl _) _).setCell (p := ⟨w.heap.size, 4, none⟩) (Nat.le_refl _) _)
        go_wp2_with fail
        (try simp only [Exit.inBlock, Exit.then])
        refine bodyPost_ret (results_rd2 Tryz.results125 _ _ _ _ _ rfl (load_cert (unhide HB2))) rfl ?_
        rw [(unhide HNO).1, (unhide HNO).2]
        exact ⟨⟨_, rfl, CROwn.zero _ _⟩, unhide HB1⟩
      | true =>
        have HYES : Hid (OK = true ∧ RV = ⟨(s : Int), Q, M, Y, G, ⟨t.size, false⟩⟩) := by
          have h : OK = true := (unhide HD).2 (by simp [hxt])
          exact ⟨h, unhide HV1 h⟩
        have n0 : w8.cell? ⟨kb, 0, none⟩ = some (.int .i64 (s : Int)) := (unhide HN8).cell 0 _ rfl
        have n1 : w8.cell? ⟨kb, 1, none⟩ = some (.slice A1 Q.length p1) := (unhide HN8).cell 1 _ rfl
        have n2 : w8.cell? ⟨kb, 2, none⟩ = some (.slice A2 M.length p2) := (unhide HN8).cell 2 _ rfl
        have n3 : w8.cell? ⟨kb, 3, none⟩ = some (.slice A3 Y.length p3) := (unhide HN8).cell 3 _ rfl
        have n4 : w8.cell? ⟨kb, 4, none⟩ = some (.slice A4 G.length p4) := (unhide HN8).cell 4 _ rfl
        have b0 : w8.cell? ⟨w.heap.size, 0, none⟩ = some (.int .i64 0) := (unhide HM8).cell 0 _ rfl
        have b1 : w8.cell? ⟨w.heap.size, 1, none⟩ = some (.slice none 0 0) := (unhide HM8).cell 1 _ rfl
        have b2 : w8.cell? ⟨w.heap.size, 2, none⟩ = some (.slice none 0 0) := (unhide HM8).cell 2 _ rfl
        have b3 : w8.cell? ⟨w.heap.size, 3, none⟩ = some (.slice none 0 0) := (unhide HM8).cell 3 _ rfl
        have b4 : w8.cell? ⟨w.heap.size, 4, none⟩ = some (.slice none 0 0) := (unhide HM8).cell 4 _ rfl
        have y0 := (unhide HM8).froz 0
        have y1 := (unhide HM8).froz 1
        have y2 := (unhide HM8).froz 2
        have y3 := (unhide HM8).froz 3
        have y4 := (unhide HM8).froz 4
        have HB2 : Hid (Blk (((((w8.setCell ⟨w.heap.size, 0, none⟩ (.int .i64 (s : Int))).setCell ⟨w.heap.size, 1, none⟩ (.slice A1 Q.length p1)).setCell ⟨w.heap.size, 2, none⟩ (.slice A2 M.length p2)).setCell ⟨w.heap.size, 3, none⟩ (.slice A3 Y.length p3)).setCell ⟨w.heap.size, 4, none⟩ (.slice A4 G.length p4)) w.heap.size #[.int .i64 (s : Int), .slice A1 Q.length p1, .slice A2 M.length p2, .slice A3 Y.length p3, .slice A4 G.length p4] 134) := ((((((unhide HM8).set 0 _).set 1 _).set 2 _).set 3 _).set 4 _)
        have HB1 : Hid (Below w.heap.size w (((((w8.setCell ⟨w.heap.size, 0, none⟩ (.int .i64 (s : Int))).setCell ⟨w.heap.size, 1, none⟩ (.slice A1 Q.length p1)).setCell ⟨w.heap.size, 2, none⟩ (.slice A2 M.length p2)).setCell ⟨w.heap.size, 3, none⟩ (.slice A3 Y.length p3)).setCell ⟨w.heap.size, 4, none⟩ (.slice A4 G.length p4))) := (((((B8.setCell (p := ⟨w.heap.size, 0, none⟩) (Nat.le_refl _) _).setCell (p := ⟨w.heap.size, 1, none⟩) (Nat.le_refl _) _).setCell (p := ⟨w.heap.size, 2, none⟩) (Nat.le_refl _) _).setCell (p := ⟨w.heap.size, 3, none⟩) (Nat.le_refl _) _).setCell (p := ⟨w.heap.size, 4, none⟩) (Nat.le_refl _) _)
        have kk : Kept (fun i => i = w.heap.size) w8 (((((w8.setCell ⟨w.heap.size, 0, none⟩ (.int .i64 (s : Int))).setCell ⟨w.heap.size, 1, none⟩ (.slice A1 Q.length p1)).setCell ⟨w.heap.size, 2, none⟩ (.slice A2 M.length p2)).setCell ⟨w.heap.size, 3, none⟩ (.slice A3 Y.length p3)).setCell ⟨w.heap.size, 4, none⟩ (.slice A4 G.length p4)) := Kept.trans (S := fun i => i = w.heap.size) (Kept.trans (S := fun i => i = w.heap.size) (Kept.trans (S := fun i => i = w.heap.size) (Kept.trans (S := fun i => i = w.heap.size) (Kept.set _ _ _ _ rfl) (Kept.set _ _ _ _ rfl)) (Kept.set _ _ _ _ rfl)) (Kept.set _ _ _ _ rfl)) (Kept.set _ _ _ _ rfl)
        have C9 := hide ((unhide C8).kept kk (fun k hk => by subst hk; exact ⟨(unhide HM8).alien c1, (unhide HM8).alien c2, (unhide HM8).alien c3, (unhide HM8).alien c4⟩))
        clear HD HV0 HV1 HN8 C8 HIN kk
        go_wp2_with fail
        (try simp only [Exit.inBlock, Exit.then])
        refine bodyPost_ret (results_rd2 Tryz.results125 _ _ _ _ _ rfl (load_cert (unhide HB2))) rfl ?_
        rw [(unhide HYES).1, (unhide HYES).2]
        exact ⟨⟨_, rfl, unhide C9⟩, unhide HB1⟩
end Gr
end Go.Proofs.YtihnaddfpmjpaaaGreatDoor
