/-
 GrRI2, GrRI3.
-/
import Derived.Test.YtihnaddfpmjpaaaGreatDoorJ31
import Derived.Test.YtihnaddfpmjpaaaGreatDoorJ23
import Derived.Laws.ResultCell
namespace Go.Proofs.YtihnaddfpmjpaaaGreatDoor
namespace Gr
open Go.RowKit
def putL : Array Value → Nat → List Int → Array Value
  | C, _, [] => C
  | C, o, x :: r => putL (C.setIfInBounds o (.int .i64 x)) (o + 1) r
def ptrs (k o n : Nat) : Array Value := ((List.range n).map fun j => Value.pointer (some ⟨k, o + j, none⟩)).toArray
theorem ptrs_at (k o n j : Nat) (h : j < n) : (ptrs k o n)[j]? = some (.pointer (some ⟨k, o + j, none⟩)) := by
  unfold ptrs
  simp [h]
set_option maxRecDepth 100000 in
set_option maxHeartbeats 2000000 in
theorem take_any (t : ByteArray) (ht : t.size ≤ 1048576) (g k r o n : Nat) (c : CS) (C : Array Value) (T : TypeId) (hn : n ≤ 100) (hgk : g ≠ k) (hgr : g ≠ r) (hkr : k ≠ r) (hC : o + n ≤ C.size) (w : World) (hc : RdAt w g t c) (hk : Blk w k C T) (hr : Blk w r (ptrs k o n) 206) :
    Calls Tryz.prog 149 #[.pointer (some ⟨g, 0, none⟩), .slice (some ⟨r, 0, none⟩) n n] w fun e w' => e = .returned (.tuple #[]) ∧ RdAt w' g t (nums t n c).2 ∧ Blk w' k (putL C o (nums t n c).1) T ∧ Kept (fun i => i = g ∨ i = k) w w' := by
  have NA := hide (fun c w1 => number_any t ht g c w1)
  generalize hR : nums t n c = R
  obtain ⟨D, hD⟩ : ∃ D, D = putL C o R.1 := ⟨_, rfl⟩
  rw [← hD]
  have H0 : Hid (D = putL C (o + 0) (nums t (n - 0) c).1 ∧ R.2 = (nums t (n - 0) c).2) := by show _ ∧ _; rw [hD, ← hR]; exact ⟨rfl, rfl⟩
  have HST : Hid (∀ j c, j < n → nums t (n - j) c = ((nm t c).1 :: (nums t (n - (j + 1)) (nm t c).2).1, (nums t (n - (j + 1)) (nm t c).2).2)) := fun j c h => by
    rw [show n - j = (n - (j + 1)) + 1 by omega]; rfl
  have HC := hide hc
  have HKK := hide hk
  have HRR := hide hr
  clear hc hR hk hr hD
  go_enter Tryz.func149, Tryz.ntmps149
  go_wp2_with fail
  go_loopw [8] (fun i wr => ∃ (j : Nat) (E : Array Value) (c : CS), i = .int .i64 (j : Int) ∧ j ≤ n ∧ Hid (E.size = C.size) ∧ Hid (D = putL E (o + j) (nums t (n - j) c).1 ∧ R.2 = (nums t (n - j) c).2) ∧ Hid (RdAt wr g t c) ∧ Hid (Blk wr k E T) ∧ Kept (fun i => i = g ∨ i = k) w wr) (fun i _ => n - (intOf i).toNat)
  case atStart => exact ⟨0, C, c, rfl, Nat.zero_le _, rfl, unhide H0, unhide HC, unhide HKK, Kept.refl _ _⟩
  case round =>
    obtain ⟨j, E, c', rfl, hj, HE, HR, hw, hb, hkp⟩ := hrel
    by_cases hlt : j < n
    · have hx0 : (0 : Int) ≤ (j : Int) := by omega
      have hx1 : (j : Int) < (n : Int) := by omega
      have HN := hide (unhide HST j c' hlt)
      have N1 := hide (unhide NA c' wr (unhide hw))
      generalize nm t c' = X at HN N1
      obtain ⟨x, c2⟩ := X
      simp only at HN N1
      have hrw := (unhide HRR).kept hkp (by omega)
      have hp : wr.cell? ⟨r, j, none⟩ = some (.pointer (some ⟨k, o + j, none⟩)) := hrw.cell j _ (ptrs_at k o n j hlt)
      go_wp2_with fail
      refine (unhide N1).mono ?_
      rintro e w1 ⟨rfl, h1, k1⟩
      have hbk := (unhide hb).kept k1 (fun e => hgk e.symm)
      have hjs : o + j < E.size := by have := unhide HE; omega
      have hce : w1.cell? ⟨k, o + j, none⟩ = some E[o + j] := hbk.cell (o + j) _ (Array.getElem?_eq_getElem hjs)
      have hfz : w1.frozen? ⟨k, o + j, none⟩ = false := hbk.froz (o + j)
      have HB2 : Hid (Blk (w1.setCell ⟨k, o + j, none⟩ (.int .i64 x)) k (E.setIfInBounds (o + j) (.int .i64 x)) T) := hbk.set _ _
      have HW2 : Hid (RdAt (w1.setCell ⟨k, o + j, none⟩ (.int .i64 x)) g t c2) := h1.kept (S := fun i => i = k) (Kept.set _ _ _ _ rfl) hgk
      have K2 : Kept (fun i => i = g ∨ i = k) w (w1.setCell ⟨k, o + j, none⟩ (.int .i64 x)) := (hkp.trans (k1.weak (fun i hi => .inl hi))).trans (Kept.set _ _ _ _ (.inr rfl))
      generalize E[o + j] = y at hce
      clear h1 k1 hbk hrw hp
      go_wp2
      go_roundw
      case rel =>
        refine ⟨j + 1, E.setIfInBounds (o + j) (.int .i64 x), c2, by go_num, by omega, ?_, ?_, unhide HW2, unhide HB2, K2⟩
        · show _ = _
          rw [Array.size_setIfInBounds]; exact unhide HE
        · show _ ∧ _
          have := unhide HR
          rw [unhide HN] at this
          exact ⟨by rw [this.1]; rfl, this.2⟩
      case measure => simp [intOf]; omega
    · obtain rfl : j = n := by omega
      have hx1 : ¬ (j : Int) < (j : Int) := by omega
      have hr := unhide HR
      rw [Nat.sub_self] at hr
      have e1 : D = E := hr.1
      have e2 : R.2 = c' := hr.2
      have HB2 : Hid (Blk wr k D T) := by rw [e1]; exact unhide hb
      have HW2 : Hid (RdAt wr g t R.2) := by rw [e2]; exact unhide hw
      clear e1 e2 hr
      go_wp2
      go_end0
      exact ⟨rfl, unhide HW2, unhide HB2, hkp⟩
theorem results_rd1 {fn : Func} {p : Tmp} {ty : TypeId} (h : fn.results = #[.cell p ty]) (tmps : Array Value) (P : Program) (w : World) (ad : Addr) (v : Value) (hp : tmps.getD p undef = .pointer (some ad)) (hl : (loadVar ty ad).run P w = .ok v w) :
    (results fn tmps).run P w = .ok v w := by
  have hp' : tmps[p]?.getD undef = .pointer (some ad) := by simpa using hp
  simp [results, h, hp', asAddr, hl]
theorem load_graph {W : World} {g : Nat} {a b : Value} (h : Blk W g #[a, b] 35) : (loadVar 35 ⟨g, 0, none⟩).run Tryz.prog W = .ok (.agg #[a, b]) W :=
  run_loadVar_row (P := Tryz.prog) W g 35 35 #[a, b] (0, 0) _ h Tryz.underlying35 rfl (by kernel_rfl)
theorem graph_types : (35 : Nat) ≠ 106 ∧ (35 : Nat) ≠ 194 := by decide
theorem edgs_step (t : ByteArray) (n j : Nat) (c : CS) (h : j < n) : edgs t (n - j) c = ((edg t c).1 :: (edgs t (n - (j + 1)) (edg t c).2).1, (edgs t (n - (j + 1)) (edg t c).2).2) := by
  rw [show n - j = (n - (j + 1)) + 1 by omega]; rfl
theorem Kept.trans_or {a b c : World} {g ke : Nat} (h : Kept (fun k => k = g) a b) (k : Kept (fun i => i = g ∨ i = ke) b c) (hke : a.heap.size ≤ ke) : Kept (fun k => k = g) a c :=
  ⟨k.1.trans h.1, k.2.1.trans h.2.1, k.2.2.1.trans h.2.2.1, Nat.le_trans h.2.2.2.1 k.2.2.2.1, fun i hi hn => (k.2.2.2.2 i (Nat.lt_of_lt_of_le hi h.2.2.2.1) (by omega)).trans (h.2.2.2.2 i hi hn)⟩
/-- The memory while a graph is read. -/
structure GS (w wr : World) (g kb : Nat) (t : ByteArray) (c : CS) (s : Int) (v : Value) (L : List EdgeI) : Prop where
  rd : RdAt wr g t c
  res : Blk wr w.heap.size #[.int .i64 0, .slice none 0 0] 35
  box : Blk wr kb #[.int .i64 s, v] 35
  own : wr.ownsRow w.heap.size 106 5 v L.length (edgesV L)
  kept : Kept (fun k => k = g) w wr
theorem GS.taken {w wr V2 w1 : World} {g kb ke : Nat} {t : ByteArray} {c : CS} {s : Int} {v : Value} {L : List EdgeI} (h : GS w wr g kb t c s v L) (hg : g < w.heap.size) (hkb : w.heap.size ≤ kb) (hb : Below wr.heap.size wr V2) (hk1 : Kept (fun i => i = g ∨ i = ke) V2 w1) (hke : wr.heap.size ≤ ke := by omega) :
    Blk w1 kb #[.int .i64 s, v] 35 ∧ w1.ownsRow w.heap.size 106 5 v L.length (edgesV L) := by
  obtain ⟨_, t3, _⟩ := reader_types
  have hz := hb.size
  have hl1 := h.box.lt
  refine ⟨(h.box.below hb).kept hk1 (by omega), hk1.own (own_below h.own hb) (fun b hbk hs => ?_)⟩
  have hlt := (h.own.lt b hbk).2
  rcases hs with rfl | rfl
  · exact (h.rd.1.apart h.own t3) hbk.symm
  · omega
theorem GS.edge {w wr V2 w1 w3 : World} {g kb ke : Nat} {t : ByteArray} {c c2 : CS} {s : Int} {v v' : Value} {L : List EdgeI} {D : Array Value} (h : GS w wr g kb t c s v L) (hg : g < w.heap.size) (hkb : w.heap.size < kb) (hke : wr.heap.size ≤ ke) (hb : Below wr.heap.size wr V2)
    (hr : RdAt w1 g t c2) (hD : Blk w1 ke D 106) (hk1 : Kept (fun i => i = g ∨ i = ke) V2 w1) (x : EdgeI) (hk2 : Kept (fun k => v.ownBlock = some k) w1 w3)
    (ho : w3.ownsRow w.heap.size 106 5 v' (L.length + 1) (edgesV L ++ [.int .i64 x.A, .int .i64 x.B, .int .i64 x.W1, .int .i64 x.W2, .int .i64 x.W3])) :
    GS w (w3.setCell ⟨kb, 1, none⟩ v') g kb t c2 s v' (L ++ [x]) := by
  obtain ⟨t1, t2⟩ := graph_types
  obtain ⟨_, t3, _⟩ := reader_types
  have hz := hb.size
  have hl1 := h.box.lt
  have hl2 := h.res.lt
  have hlw : w.heap.size ≤ wr.heap.size := h.kept.2.2.2.1
  have box1 : Blk w1 kb #[.int .i64 s, v] 35 := (h.box.below hb).kept hk1 (by omega)
  have res1 : Blk w1 w.heap.size #[.int .i64 0, .slice none 0 0] 35 := (h.res.below hb).kept hk1 (by omega)
  have own0 := own_below h.own hb
  have own1 : w1.ownsRow w.heap.size 106 5 v L.length (edgesV L) := hk1.own own0 (fun b hbk hs => by
    have hlt := (h.own.lt b hbk).2
    rcases hs with rfl | rfl
    · exact (h.rd.1.apart h.own t3) hbk.symm
    · omega)
  have box3 := box1.kept_alien hk2 (own_alien own1 t1.symm)
  have res3 := res1.kept_alien hk2 (own_alien own1 t1.symm)
  have rd3 : RdAt w3 g t c2 := ⟨hr.1.kept_alien hk2 (own_alien own1 t3.symm), hr.2⟩
  have k4 : Kept (fun i => i = kb) w3 (w3.setCell ⟨kb, 1, none⟩ v') := Kept.set _ _ _ _ rfl
  rw [← edgesV_snoc] at ho
  have ho' : w3.ownsRow w.heap.size 106 5 v' (L ++ [x]).length (edgesV (L ++ [x])) := by rw [List.length_append]; exact ho
  refine ⟨rd3.kept k4 (by omega), res3.kept k4 (by omega), box3.set 1 v', k4.own_alien ho' (fun i hi => by subst hi; exact box3.alien t1), ?_⟩
  have a1 : Kept (fun k => k = g) w V2 := h.kept.trans_new (Kept.of_below (S := fun _ => False) hb) (fun i hi => hi.elim)
  have a2 : Kept (fun k => k = g) w w1 := ⟨hk1.1.trans a1.1, hk1.2.1.trans a1.2.1, hk1.2.2.1.trans a1.2.2.1, Nat.le_trans a1.2.2.2.1 hk1.2.2.2.1, fun i hi hn => (hk1.2.2.2.2 i (Nat.lt_of_lt_of_le hi a1.2.2.2.1) (by omega)).trans (a1.2.2.2.2 i hi hn)⟩
  have a3 := a2.trans_new hk2 (fun i hi => (own1.lt i hi).1)
  exact a3.trans_new k4 (fun i hi => by omega)
set_option maxRecDepth 100000 in
set_option maxHeartbeats 4000000 in
theorem graph_any (t : ByteArray) (ht : t.size ≤ 1048576) (g : Nat) (c : CS) (w : World) (hc : RdAt w g t c) :
    Calls Tryz.prog 135 #[.pointer (some ⟨g, 0, none⟩)] w fun e w' => (∃ v, e = .returned (.agg #[.int .i64 (rcnt t 9 c).1, v]) ∧ w'.ownsRow w.heap.size 106 5 v (edgs t (rcnt t 36 (rcnt t 9 c).2).1.toNat (rcnt t 36 (rcnt t 9 c).2).2).1.length (edgesV (edgs t (rcnt t 36 (rcnt t 9 c).2).1.toNat (rcnt t 36 (rcnt t 9 c).2).2).1)) ∧ RdAt w' g t (edgs t (rcnt t 36 (rcnt t 9 c).2).1.toNat (rcnt t 36 (rcnt t 9 c).2).2).2 ∧ Kept (fun k => k = g) w w' := by
  obtain ⟨ie, hie, ez0, ez1, ez2⟩ := info_parts infoEdge
  have hg := hc.lt
  have CA := hide (fun w1 => count_any t ht g c 9 w1)
  generalize rcnt t 9 c = S at CA ⊢
  obtain ⟨s, c1⟩ := S
  simp only at CA ⊢
  have CB := hide (fun w1 => count_any t ht g c1 36 w1)
  have rn := rcnt_range t 36 c1 (by decide)
  generalize rcnt t 36 c1 = N at CB rn ⊢
  obtain ⟨n0, c2⟩ := N
  simp only at CB rn ⊢
  obtain ⟨n, rfl⟩ := Int.eq_ofNat_of_zero_le rn.1
  rw [Int.toNat_natCast]
  have hn : n ≤ 36 := by omega
  have TA := hide (fun c k r => take_any t ht g k r 0 5 c #[.int .i64 0, .int .i64 0, .int .i64 0, .int .i64 0, .int .i64 0] 106 (by decide))
  generalize hE : edgs t n c2 = R
  have H0 : Hid (R.1 = [] ++ (edgs t (n - 0) c2).1 ∧ R.2 = (edgs t (n - 0) c2).2) := by show _ ∧ _; rw [← hE]; exact ⟨rfl, rfl⟩
  have HST : Hid (∀ j c, j < n → _) := fun j c h => edgs_step t n j c h
  have HC := hide hc
  clear hc hE rn
  go_enter Tryz.func135, Tryz.ntmps135
  go_wp2_with fail
  obtain ⟨W1, hW1⟩ : ∃ W, W = w.alloc (Obj.cells #[.int .i64 0, .slice none 0 0] 35) := ⟨_, rfl⟩
  have b1 : Below w.heap.size w W1 := by rw [hW1]; exact below_new _ _
  have m1 : Blk W1 w.heap.size #[.int .i64 0, .slice none 0 0] 35 := by rw [hW1]; exact Blk.new0
  rw [← hW1]
  clear hW1
  refine (unhide CA W1 ((unhide HC).below b1)).mono ?_
  rintro e w2 ⟨rfl, h2, k2⟩
  have m2 := m1.kept k2 (by omega)
  have K2 : Kept (fun k => k = g) w w2 := (Kept.of_below b1).trans k2
  have H2 := hide h2
  clear h2 k2 m1 b1 W1
  go_wp2_with fail
  obtain ⟨W3, hW3⟩ : ∃ W, W = w2.alloc (Obj.cells #[.int .i64 s, .slice none 0 0] 35) := ⟨_, rfl⟩
  have b3 : Below w2.heap.size w2 W3 := by rw [hW3]; exact below_new _ _
  have m3 : Blk W3 w2.heap.size #[.int .i64 s, .slice none 0 0] 35 := by rw [hW3]; exact Blk.new0
  have r3 := m2.below b3
  have z2 := m2.lt
  rw [← hW3]
  clear hW3
  refine (unhide CB W3 ((unhide H2).below b3)).mono ?_
  rintro e w4 ⟨rfl, h4, k4⟩
  have hzw : w.heap.size ≤ w2.heap.size := K2.2.2.2.1
  have GS0 : Hid (GS w w4 g w2.heap.size t c2 s (.slice none 0 0) []) := ⟨h4, r3.kept k4 (by omega), m3.kept k4 (by omega), World.ownsRow_nil _ _ _ _, (K2.trans (Kept.of_below b3)).trans k4⟩
  clear h4 k4 m3 r3 b3 H2 K2 m2 W3
  generalize w2.heap.size = kb at GS0 z2 hzw
  go_wp2_with fail
  go_loopw [10] (fun i wr => ∃ (j : Nat) (L : List EdgeI) (c : CS) (v : Value), i = .int .i64 (j : Int) ∧ j ≤ n ∧ Hid (L.length = j) ∧ Hid (R.1 = L ++ (edgs t (n - j) c).1 ∧ R.2 = (edgs t (n - j) c).2) ∧ Hid (GS w wr g kb t c s v L)) (fun i _ => n - (intOf i).toNat)
  case atStart => exact ⟨0, [], c2, _, rfl, Nat.zero_le _, rfl, unhide H0, unhide GS0⟩
  case round =>
    obtain ⟨j, L, c', v, rfl, hj, HL, HR, HG⟩ := hrel
    by_cases hlt : j < n
    · have hx1 : (j : Int) < (n : Int) := by omega
      have HN := hide (unhide HST j c' hlt)
      obtain ⟨x0, x1, x2, x3, x4, c3, e1, e2⟩ : ∃ x0 x1 x2 x3 x4 c3, nums t 5 c' = ([x0, x1, x2, x3, x4], c3) ∧ edg t c' = (⟨x0, x1, x2, x3, x4⟩, c3) := ⟨_, _, _, _, _, _, rfl, rfl⟩
      have TA1 := hide (unhide TA c')
      rw [e1] at TA1
      rw [e2] at HN
      clear e1 e2
      simp only at HN
      have hkb := (unhide HG).box.lt
      have hgr := (unhide HG).rd.lt
      go_wp2_with fail
      obtain ⟨V1, hV1⟩ : ∃ W, W = wr.alloc (Obj.cells #[.int .i64 0, .int .i64 0, .int .i64 0, .int .i64 0, .int .i64 0] 106) := ⟨_, rfl⟩
      have z1 : V1.heap.size = wr.heap.size + 1 := by rw [hV1, alloc_size]
      have bV1 : Below wr.heap.size wr V1 := by rw [hV1]; exact below_new _ _
      have mV1 : Blk V1 wr.heap.size #[.int .i64 0, .int .i64 0, .int .i64 0, .int .i64 0, .int .i64 0] 106 := by rw [hV1]; exact Blk.new0
      obtain ⟨V2, hV2⟩ : ∃ W, W = V1.alloc (Obj.cells #[.pointer (some ⟨wr.heap.size, 0, none⟩), .pointer (some ⟨wr.heap.size, 1, none⟩), .pointer (some ⟨wr.heap.size, 2, none⟩), .pointer (some ⟨wr.heap.size, 3, none⟩), .pointer (some ⟨wr.heap.size, 4, none⟩)] 206) := ⟨_, rfl⟩
      have bV2 : Below V1.heap.size V1 V2 := by rw [hV2]; exact below_new _ _
      have pV2 : Blk V2 V1.heap.size (ptrs wr.heap.size 0 5) 206 := by rw [hV2]; exact Blk.new0
      rw [z1] at pV2
      rw [← hV1, ← hV2]
      have bb : Below wr.heap.size wr V2 := bV1.trans (bV2.mono bV1.size)
      refine (unhide TA1 wr.heap.size (wr.heap.size + 1) (by omega) (by omega) (by omega) (by simp) V2 ((unhide HG).rd.below bb) (mV1.below bV2) pV2).mono ?_
      rintro e w5 ⟨rfl, h5, d5, k5⟩
      have d5' : Blk w5 wr.heap.size #[.int .i64 x0, .int .i64 x1, .int .i64 x2, .int .i64 x3, .int .i64 x4] 106 := by simpa [putL] using d5
      clear d5
      have p0 : w5.cell? ⟨wr.heap.size, 0, none⟩ = some (.int .i64 x0) := d5'.cell 0 _ rfl
      have p1 : w5.cell? ⟨wr.heap.size, 1, none⟩ = some (.int .i64 x1) := d5'.cell 1 _ rfl
      have p2 : w5.cell? ⟨wr.heap.size, 2, none⟩ = some (.int .i64 x2) := d5'.cell 2 _ rfl
      have p3 : w5.cell? ⟨wr.heap.size, 3, none⟩ = some (.int .i64 x3) := d5'.cell 3 _ rfl
      have p4 : w5.cell? ⟨wr.heap.size, 4, none⟩ = some (.int .i64 x4) := d5'.cell 4 _ rfl
      obtain ⟨box5, own5⟩ := (unhide HG).taken hg hzw bb k5
      have GE := hide (fun w3 v' => (unhide HG).edge (w3 := w3) (v' := v') hg z2 (Nat.le_refl _) bb h5 d5' k5 ⟨x0, x1, x2, x3, x4⟩)
      obtain ⟨A, cp, rfl⟩ := own_shape own5
      have q1 : w5.cell? ⟨kb, 1, none⟩ = some (.slice A L.length cp) := box5.cell 1 _ rfl
      have hLn : L.length ≤ 36 := by have := unhide HL; omega
      have zz : w.heap.size ≤ w5.heap.size := by have := bb.size; have := k5.2.2.2.1; have := (unhide HG).kept.2.2.2.1; omega
      have hkb5 := box5.lt
      have hke5 := d5'.lt
      have BOX5 := hide box5
      clear box5 d5' h5 k5 hV1 hV2 bV1 bV2 mV1 pV2 bb z1 TA1 V1 V2
      go_wp2_with (at_builtin; refine wpList_append_own _ rfl _ _ 33 rfl w.heap.size 106 ie (.agg #[.int .i64 0, .int .i64 0, .int .i64 0, .int .i64 0, .int .i64 0]) 5 40 Tryz.underlying33 hie ez0 ez1 ez2 rfl (by decide) _ L.length _ rfl (own5.alloc _) ⟨w5.heap.size, 0, none⟩ 1 1 [.int .i64 x0, .int .i64 x1, .int .i64 x2, .int .i64 x3, .int .i64 x4] rfl rfl (World.news_of_block (heap_alloc_new w5 _)) (by intro u hu; simp at hu; rcases hu with rfl | rfl | rfl | rfl | rfl <;> rfl) ?c1 ?c2 ?c3 ?_)
      case c1 => unfold maxLen; omega
      case c2 => omega
      case c3 => simp; omega
      intro v' w7 hown' hgrow _
      have kA : Kept (fun k => (Value.slice A L.length cp).ownBlock = some k) w5 w7 := (Kept.of_below (below_new w5 (Obj.cells #[.int .i64 x0, .int .i64 x1, .int .i64 x2, .int .i64 x3, .int .i64 x4] 106))).trans (Kept.of_grown hgrow)
      have box7 := (unhide BOX5).kept_alien kA (own_alien own5 graph_types.1.symm)
      have G7 := hide (unhide GE w7 v' kA hown')
      have q2 : w7.cell? ⟨kb, 1, none⟩ = some (.slice A L.length cp) := box7.cell 1 _ rfl
      have f2 := box7.froz 1
      obtain ⟨A', cp', rfl⟩ := own_shape hown'
      clear hown' hgrow kA box7 own5 GE q1 p0 p1 p2 p3 p4
      go_wp2_with fail
      refine ⟨⟨j + 1, L ++ [⟨x0, x1, x2, x3, x4⟩], c3, _, by go_num, by omega, ?_, ?_, G7⟩, by simp [intOf]; omega⟩
      · show _ = _
        rw [List.length_append, unhide HL]; rfl
      · show _ ∧ _
        have := unhide HR
        rw [unhide HN] at this
        exact ⟨by rw [this.1, List.append_assoc]; rfl, this.2⟩
    · obtain rfl : j = n := by omega
      have hx1 : ¬ (j : Int) < (j : Int) := by omega
      have hr := unhide HR
      rw [Nat.sub_self] at hr
      have e1 : R.1 = L := by rw [hr.1]; exact List.append_nil _
      have e2 : R.2 = c' := hr.2
      obtain ⟨A, cp, rfl⟩ := own_shape (unhide HG).own
      have q0 : wr.cell? ⟨kb, 0, none⟩ = some (.int .i64 s) := (unhide HG).box.cell 0 _ rfl
      have q1 : wr.cell? ⟨kb, 1, none⟩ = some (.slice A L.length cp) := (unhide HG).box.cell 1 _ rfl
      have q2 : wr.cell? ⟨w.heap.size, 0, none⟩ = some (.int .i64 0) := (unhide HG).res.cell 0 _ rfl
      have q3 : wr.cell? ⟨w.heap.size, 1, none⟩ = some (.slice none 0 0) := (unhide HG).res.cell 1 _ rfl
      have f0 := (unhide HG).res.froz 0
      have f1 := (unhide HG).res.froz 1
      have HBL : Hid (Blk ((wr.setCell ⟨w.heap.size, 0, none⟩ (.int .i64 s)).setCell ⟨w.heap.size, 1, none⟩ (.slice A L.length cp)) w.heap.size #[.int .i64 s, .slice A L.length cp] 35) := ((unhide HG).res.set 0 _).set 1 _
      have kk : Kept (fun i => i = w.heap.size) wr ((wr.setCell ⟨w.heap.size, 0, none⟩ (.int .i64 s)).setCell ⟨w.heap.size, 1, none⟩ (.slice A L.length cp)) := Kept.trans (S := fun i => i = w.heap.size) (Kept.set _ _ _ _ rfl) (Kept.set _ _ _ _ rfl)
      have HOW : Hid (World.ownsRow ((wr.setCell ⟨w.heap.size, 0, none⟩ (.int .i64 s)).setCell ⟨w.heap.size, 1, none⟩ (.slice A L.length cp)) w.heap.size 106 5 (.slice A L.length cp) R.1.length (edgesV R.1)) := by
        show World.ownsRow _ _ _ _ _ _ _
        rw [e1]
        exact kk.own_alien (unhide HG).own (fun i hi => by subst hi; exact (unhide HG).res.alien graph_types.1)
      have HRD := hide ((unhide HG).rd.kept kk (by omega))
      have HKK := hide ((unhide HG).kept.trans_new kk (fun i hi => by omega))
      rw [← e2] at HRD
      clear e1 e2 hr kk
      go_wp2_with fail
      refine bodyPost_ret (results_rd1 Tryz.results135 _ _ _ _ _ rfl (load_graph (unhide HBL))) rfl ?_
      exact ⟨⟨_, rfl, unhide HOW⟩, unhide HRD, unhide HKK⟩
theorem cpls_step (t : ByteArray) (n j : Nat) (c : CS) (h : j < n) : cpls t (n - j) c = ((cpl t c).1 :: (cpls t (n - (j + 1)) (cpl t c).2).1, (cpls t (n - (j + 1)) (cpl t c).2).2) := by
  rw [show n - j = (n - (j + 1)) + 1 by omega]; rfl
set_option maxRecDepth 100000 in
set_option maxHeartbeats 4000000 in
theorem pairs_any (t : ByteArray) (ht : t.size ≤ 1048576) (g : Nat) (c : CS) (w : World) (hc : RdAt w g t c) :
    Calls Tryz.prog 136 #[.pointer (some ⟨g, 0, none⟩)] w fun e w' => (∃ v, e = .returned v ∧ CoOwn w' w.heap.size v (cpls t (rcnt t 4 c).1.toNat (rcnt t 4 c).2).1) ∧ RdAt w' g t (cpls t (rcnt t 4 c).1.toNat (rcnt t 4 c).2).2 ∧ Kept (fun k => k = g) w w' := by
  obtain ⟨ie, hie, ez0, ez1, ez2⟩ := info_parts infoCouple
  obtain ⟨_, _, t3, _⟩ := reader_types
  have hg := hc.lt
  have CB := hide (fun w1 => count_any t ht g c 4 w1)
  have rn := rcnt_range t 4 c (by decide)
  generalize rcnt t 4 c = N at CB rn ⊢
  obtain ⟨n0, c2⟩ := N
  simp only at CB rn ⊢
  obtain ⟨n, rfl⟩ := Int.eq_ofNat_of_zero_le rn.1
  rw [Int.toNat_natCast]
  have hn : n ≤ 4 := by omega
  have TA := hide (fun c k r => take_any t ht g k r 0 2 c #[.int .i64 0, .int .i64 0] 162 (by decide))
  generalize hE : cpls t n c2 = R
  have H0 : Hid (R.1 = [] ++ (cpls t (n - 0) c2).1 ∧ R.2 = (cpls t (n - 0) c2).2) := by show _ ∧ _; rw [← hE]; exact ⟨rfl, rfl⟩
  have HST : Hid (∀ j c, j < n → _) := fun j c h => cpls_step t n j c h
  have HC := hide hc
  clear hc hE rn
  go_enter Tryz.func136, Tryz.ntmps136
  go_wp2_with fail
  refine (unhide CB w (unhide HC)).mono ?_
  rintro e w4 ⟨rfl, h4, k4⟩
  have H4 := hide h4
  clear h4 HC CB
  go_wp2_with fail
  go_loopw [3, 7] (fun v i wr => ∃ (j : Nat) (L : List CoupleI) (c : CS), i = .int .i64 (j : Int) ∧ j ≤ n ∧ Hid (L.length = j) ∧ Hid (R.1 = L ++ (cpls t (n - j) c).1 ∧ R.2 = (cpls t (n - j) c).2) ∧ Hid (RdAt wr g t c) ∧ Hid (wr.ownsRow w.heap.size 162 2 v L.length (couplesV L)) ∧ Kept (fun k => k = g) w wr) (fun _ i _ => n - (intOf i).toNat)
  case atStart => exact ⟨0, [], c2, rfl, Nat.zero_le _, rfl, unhide H0, unhide H4, World.ownsRow_nil _ _ _ _, k4⟩
  case round =>
    obtain ⟨j, L, c', rfl, hj, HL, HR, hw, ho, hk⟩ := hrel
    by_cases hlt : j < n
    · have hx1 : (j : Int) < (n : Int) := by omega
      have HN := hide (unhide HST j c' hlt)
      obtain ⟨x0, x1, c3, e1, e2⟩ : ∃ x0 x1 c3, nums t 2 c' = ([x0, x1], c3) ∧ cpl t c' = (⟨x0, x1⟩, c3) := ⟨_, _, _, rfl, rfl⟩
      have TA1 := hide (unhide TA c')
      rw [e1] at TA1
      rw [e2] at HN
      clear e1 e2
      simp only at HN
      have hgr := (unhide hw).lt
      have hzr : w.heap.size ≤ wr.heap.size := hk.2.2.2.1
      go_wp2_with fail
      obtain ⟨V1, hV1⟩ : ∃ W, W = wr.alloc (Obj.cells #[.int .i64 0, .int .i64 0] 162) := ⟨_, rfl⟩
      have z1 : V1.heap.size = wr.heap.size + 1 := by rw [hV1, alloc_size]
      have bV1 : Below wr.heap.size wr V1 := by rw [hV1]; exact below_new _ _
      have mV1 : Blk V1 wr.heap.size #[.int .i64 0, .int .i64 0] 162 := by rw [hV1]; exact Blk.new0
      obtain ⟨V2, hV2⟩ : ∃ W, W = V1.alloc (Obj.cells #[.pointer (some ⟨wr.heap.size, 0, none⟩), .pointer (some ⟨wr.heap.size, 1, none⟩)] 206) := ⟨_, rfl⟩
      have bV2 : Below V1.heap.size V1 V2 := by rw [hV2]; exact below_new _ _
      have pV2 : Blk V2 V1.heap.size (ptrs wr.heap.size 0 2) 206 := by rw [hV2]; exact Blk.new0
      rw [z1] at pV2
      rw [← hV1, ← hV2]
      have bb : Below wr.heap.size wr V2 := bV1.trans (bV2.mono bV1.size)
      refine (unhide TA1 wr.heap.size (wr.heap.size + 1) (by omega) (by omega) (by omega) (by simp) V2 ((unhide hw).below bb) (mV1.below bV2) pV2).mono ?_
      rintro e w5 ⟨rfl, h5, d5, k5⟩
      have d5' : Blk w5 wr.heap.size #[.int .i64 x0, .int .i64 x1] 162 := by simpa [putL] using d5
      clear d5
      have p0 : w5.cell? ⟨wr.heap.size, 0, none⟩ = some (.int .i64 x0) := d5'.cell 0 _ rfl
      have p1 : w5.cell? ⟨wr.heap.size, 1, none⟩ = some (.int .i64 x1) := d5'.cell 1 _ rfl
      have own5 : w5.ownsRow w.heap.size 162 2 u3 L.length (couplesV L) := k5.own (own_below (unhide ho) bb) (fun b hbk hs => by
        have hlt := ((unhide ho).lt b hbk).2
        rcases hs with rfl | rfl
        · exact ((unhide hw).1.apart (unhide ho) t3) hbk.symm
        · omega)
      have K5 : Kept (fun k => k = g) w w5 := (hk.trans (Kept.of_below bb)).trans_or k5 hzr
      have hLn : L.length ≤ 36 := by have := unhide HL; omega
      have zz : w.heap.size ≤ w5.heap.size := K5.2.2.2.1
      have H5 := hide h5
      clear d5' h5 k5 hV1 hV2 bV1 bV2 mV1 pV2 bb z1 TA1 V1 V2
      go_wp2_with (at_builtin; refine wpList_append_own _ rfl _ _ 129 rfl w.heap.size 162 ie (.agg #[.int .i64 0, .int .i64 0]) 2 16 Tryz.underlying129 hie ez0 ez1 ez2 rfl (by decide) _ L.length _ rfl (own5.alloc _) ⟨w5.heap.size, 0, none⟩ 1 1 [.int .i64 x0, .int .i64 x1] rfl rfl (World.news_of_block (heap_alloc_new w5 _)) (by intro u hu; simp at hu; rcases hu with rfl | rfl <;> rfl) ?c1 ?c2 ?c3 ?_)
      case c1 => unfold maxLen; omega
      case c2 => omega
      case c3 => simp; omega
      intro v' w7 hown' hgrow _
      have kA : Kept (fun k => u3.ownBlock = some k) w5 w7 := (Kept.of_below (below_new w5 (Obj.cells #[.int .i64 x0, .int .i64 x1] 162))).trans (Kept.of_grown hgrow)
      have HW7 : Hid (RdAt w7 g t c3) := ⟨(unhide H5).1.kept_alien kA (own_alien own5 t3.symm), (unhide H5).2⟩
      have K7 : Kept (fun k => k = g) w w7 := K5.trans_new kA (fun k hk => (own5.lt k hk).1)
      have HO7 : Hid (w7.ownsRow w.heap.size 162 2 v' (L ++ [(⟨x0, x1⟩ : CoupleI)]).length (couplesV (L ++ [(⟨x0, x1⟩ : CoupleI)]))) := by
        show World.ownsRow _ _ _ _ _ _ _
        rw [couplesV_snoc, List.length_append]
        exact hown'
      clear hown' hgrow kA own5 p0 p1 K5
      go_wp2_with fail
      refine ⟨⟨j + 1, L ++ [⟨x0, x1⟩], c3, by go_num, by omega, ?_, ?_, HW7, HO7, K7⟩, by simp [intOf]; omega⟩
      · show _ = _
        rw [List.length_append, unhide HL]; rfl
      · show _ ∧ _
        have := unhide HR
        rw [unhide HN] at this
        exact ⟨by rw [this.1, List.append_assoc]; rfl, this.2⟩
    · obtain rfl : j = n := by omega
      have hx1 : ¬ (j : Int) < (j : Int) := by omega
      have hr := unhide HR
      rw [Nat.sub_self] at hr
      have e1 : R.1 = L := by rw [hr.1]; exact List.append_nil _
      have e2 : R.2 = c' := hr.2
      have HO2 : Hid (CoOwn wr w.heap.size u3 R.1) := by rw [e1]; exact unhide ho
      have HW2 : Hid (RdAt wr g t R.2) := by rw [e2]; exact unhide hw
      clear e1 e2 hr
      go_wp2_with fail
      go_ret
      exact ⟨⟨_, rfl, unhide HO2⟩, unhide HW2, hk⟩
theorem proof_types : (132 : Nat) ≠ 164 ∧ (132 : Nat) ≠ 194 ∧ (132 : Nat) ≠ 3 ∧ (164 : Nat) ≠ 3 := by decide
theorem load_proof {W : World} {g : Nat} {a b : Value} (h : Blk W g #[a, b] 132) : (loadVar 132 ⟨g, 0, none⟩).run Tryz.prog W = .ok (.agg #[a, b]) W :=
  run_loadVar_row (P := Tryz.prog) W g 132 132 #[a, b] (0, 0) _ h Tryz.underlying132 rfl (by kernel_rfl)
theorem grps_step (t : ByteArray) (n j : Nat) (c : CS) (h : j < n) : grps t (n - j) c = ((grp t c).1 :: (grps t (n - (j + 1)) (grp t c).2).1, (grps t (n - (j + 1)) (grp t c).2).2) := by
  rw [show n - j = (n - (j + 1)) + 1 by omega]; rfl
theorem DistV.snoc {vs : List Value} {v : Value} (h : DistV vs) (hv : ∀ g, v.ownBlock = some g → ∀ u ∈ vs, u.ownBlock ≠ some g) : DistV (vs ++ [v]) := by
  intro i j hi hj g h1 h2
  by_cases hil : i < vs.length <;> by_cases hjl : j < vs.length
  · rw [List.getElem_append_left hil] at h1
    rw [List.getElem_append_left hjl] at h2
    exact h i j hil hjl g h1 h2
  · rw [List.getElem_append_left hil] at h1
    rw [List.getElem_append_right (by omega)] at h2
    simp at h2
    exact absurd h1 (hv g h2 _ (List.getElem_mem hil))
  · rw [List.getElem_append_right (by omega)] at h1
    rw [List.getElem_append_left hjl] at h2
    simp at h1
    exact absurd h2 (hv g h1 _ (List.getElem_mem hjl))
  · simp at hi hj
    omega
theorem gC_snoc : ∀ (ms : List Value) (zs : List Int) (m : Value) (z : Int), ms.length = zs.length → gC (ms ++ [m]) (zs ++ [z]) = gC ms zs ++ [m, .int .i64 z]
  | [], [], _, _, _ => rfl
  | a :: ms, b :: zs, m, z, h => by
    have := gC_snoc ms zs m z (by simpa using h)
    simp only [List.cons_append, gC, this]
  | [], _ :: _, _, _, h => by simp at h
  | _ :: _, [], _, _, h => by simp at h
/-- The memory while a proof is read. -/
structure PS (w wr : World) (g kb : Nat) (t : ByteArray) (c : CS) (vY : Value) (Y : List Int) (v : Value) (ms : List Value) (L : List GrpI) : Prop where
  rd : RdAt wr g t c
  res : Blk wr w.heap.size #[.slice none 0 0, .slice none 0 0] 132
  box : Blk wr kb #[vY, v] 132
  ys : InOwn wr w.heap.size vY Y
  gs : GOwn wr w.heap.size v ms L
  dist : DistV (vY :: ms)
  kept : Kept (fun k => k = g) w wr
theorem PS.moved {w wr W : World} {g kb : Nat} {t : ByteArray} {c c' : CS} {vY : Value} {Y : List Int} {v : Value} {ms : List Value} {L : List GrpI} (h : PS w wr g kb t c vY Y v ms L) (hg : g < w.heap.size) (hkb : w.heap.size < kb)
    (hk : Kept (fun i => i = g ∨ wr.heap.size ≤ i) wr W) (hr : RdAt W g t c') : PS w W g kb t c' vY Y v ms L := by
  obtain ⟨_, _, t3, t4⟩ := proof_types
  obtain ⟨r3, _, _, r4, _⟩ := reader_types
  have hl1 := h.res.lt
  have hl2 := h.box.lt
  have no : ∀ {e size n : Nat} {u : Value} {ys : List Value}, (194 : Nat) ≠ e → wr.ownsRow w.heap.size e size u n ys → ∀ b, u.ownBlock = some b → ¬ (b = g ∨ wr.heap.size ≤ b) := fun he ho b hb hs => by
    have hlt := (ho.lt b hb).2
    rcases hs with rfl | hs
    · exact (h.rd.1.apart ho he) hb.symm
    · omega
  refine ⟨hr, h.res.kept hk (by omega), h.box.kept hk (by omega), hk.own h.ys (no r3 h.ys), ⟨h.gs.1, hk.own h.gs.2.1 (no r4 h.gs.2.1), fun j h1 h2 => hk.own (h.gs.2.2 j h1 h2) (no r3 (h.gs.2.2 j h1 h2))⟩, h.dist, ?_⟩
  have hz : w.heap.size ≤ wr.heap.size := h.kept.2.2.2.1
  exact ⟨hk.1.trans h.kept.1, hk.2.1.trans h.kept.2.1, hk.2.2.1.trans h.kept.2.2.1, Nat.le_trans hz hk.2.2.2.1, fun i hi hn => (hk.2.2.2.2 i (Nat.lt_of_lt_of_le hi hz) (by omega)).trans (h.kept.2.2.2.2 i hi hn)⟩
theorem PS.group {w w5 w7 : World} {g kb : Nat} {t : ByteArray} {c : CS} {vY : Value} {Y : List Int} {v v' vm : Value} {ms : List Value} {L : List GrpI} (h : PS w w5 g kb t c vY Y v ms L) (hg : g < w.heap.size) (hkb : w.heap.size < kb) (q : GrpI)
    (hv : InOwn w5 w.heap.size vm q.M) (hd : ∀ b, vm.ownBlock = some b → ∀ u ∈ vY :: ms, u.ownBlock ≠ some b) (hk : Kept (fun k => v.ownBlock = some k) w5 w7)
    (ho : w7.ownsRow w.heap.size 164 2 v' (L.length + 1) (gC ms (zsOf L) ++ [vm, .int .i64 q.Z])) :
    PS w (w7.setCell ⟨kb, 1, none⟩ v') g kb t c vY Y v' (ms ++ [vm]) (L ++ [q]) := by
  obtain ⟨t1, t2, t3, t4⟩ := proof_types
  obtain ⟨r3, _, _, r4, _⟩ := reader_types
  have al := fun (e : TypeId) (he : (164 : Nat) ≠ e) => own_alien h.gs.2.1 he
  have box7 := h.box.kept_alien hk (al _ t1.symm)
  have res7 := h.res.kept_alien hk (al _ t1.symm)
  have k4 : Kept (fun i => i = kb) w7 (w7.setCell ⟨kb, 1, none⟩ v') := Kept.set _ _ _ _ rfl
  have al2 : ∀ e : TypeId, (132 : Nat) ≠ e → ∀ k, k = kb → Alien w7 k e := fun e he k hk => by subst hk; exact box7.alien he
  have hl := h.gs.1
  refine ⟨⟨(h.rd.1.kept_alien hk (al _ r4.symm)).kept k4 (by omega), h.rd.2⟩, res7.kept k4 (by omega), box7.set 1 v', k4.own_alien (hk.own_alien h.ys (al _ t4)) (al2 _ t3), ⟨by simp [hl], ?_, fun j h1 h2 => ?_⟩, DistV.snoc h.dist hd, ?_⟩
  · have e : gC (ms ++ [vm]) (zsOf (L ++ [q])) = gC ms (zsOf L) ++ [vm, .int .i64 q.Z] := by
      have : zsOf (L ++ [q]) = zsOf L ++ [q.Z] := by simp [zsOf]
      rw [this, gC_snoc _ _ _ _ (by rw [zsOf_length]; exact hl)]
    rw [e, List.length_append]
    exact k4.own_alien ho (al2 _ t1)
  · by_cases hj : j < ms.length
    · have e1 : (ms ++ [vm])[j] = ms[j] := List.getElem_append_left hj
      have e2 : (L ++ [q])[j] = L[j]'(by omega) := List.getElem_append_left (by omega)
      rw [e1, e2]
      exact k4.own_alien (hk.own_alien (h.gs.2.2 j hj (by omega)) (al _ t4)) (al2 _ t3)
    · have hjj : j = ms.length := by simp at h1; omega
      subst hjj
      have e1 : (ms ++ [vm])[ms.length] = vm := by simp
      have e2 : (L ++ [q])[ms.length] = q := by simp [hl]
      rw [e1, e2]
      exact k4.own_alien (hk.own_alien hv (al _ t4)) (al2 _ t3)
  · exact (h.kept.trans_new hk (fun i hi => (h.gs.2.1.lt i hi).1)).trans_new k4 (fun i hi => by omega)
theorem Kept.far {w W V : World} {g : Nat} {S : Nat → Prop} (h : Kept (fun i => i = g ∨ w.heap.size ≤ i) w W) (k : Kept S W V) (hS : ∀ i, S i → i = g ∨ w.heap.size ≤ i) : Kept (fun i => i = g ∨ w.heap.size ≤ i) w V := h.trans (k.weak hS)
theorem InOwn.moved {w W : World} {B g n : Nat} {t : ByteArray} {c : CS} {v : Value} {K : List Int} (h : InOwn w B v K) (hr : RdAt w g t c) (hk : Kept (fun i => i = g ∨ i = n) w W) (hn : w.heap.size ≤ n) : InOwn W B v K := by
  obtain ⟨r3, _⟩ := reader_types
  refine hk.own h (fun b hb hs => ?_)
  have hlt := (World.ownsRow.lt h b hb).2
  rcases hs with rfl | rfl
  · exact (hr.1.apart h r3) hb.symm
  · omega
set_option maxRecDepth 100000 in
set_option maxHeartbeats 4000000 in
theorem proof_any (t : ByteArray) (ht : t.size ≤ 1048576) (g : Nat) (c : CS) (s : Nat) (hs : s ≤ 9) (w : World) (hc : RdAt w g t c) :
    Calls Tryz.prog 137 #[.pointer (some ⟨g, 0, none⟩), .int .i64 (s : Int)] w fun e w' => (∃ v v', e = .returned (.agg #[v, v']) ∧ POwn w' w.heap.size (.agg #[v, v']) (nums t s c).1 (grps t (rcnt t 8 (nums t s c).2).1.toNat (rcnt t 8 (nums t s c).2).2).1) ∧ RdAt w' g t (grps t (rcnt t 8 (nums t s c).2).1.toNat (rcnt t 8 (nums t s c).2).2).2 ∧ Kept (fun k => k = g) w w' := by
  obtain ⟨ie, hie, ez0, ez1, ez2⟩ := info_parts infoGroup
  have hg := hc.lt
  have NY := hide (fun w1 => numbers_any t ht g c s (by omega) w1)
  generalize nums t s c = NN at NY ⊢
  obtain ⟨Y, c1⟩ := NN
  simp only at NY ⊢
  have CB := hide (fun w1 => count_any t ht g c1 8 w1)
  have rn := rcnt_range t 8 c1 (by decide)
  generalize rcnt t 8 c1 = N at CB rn ⊢
  obtain ⟨n0, c2⟩ := N
  simp only at CB rn ⊢
  obtain ⟨n, rfl⟩ := Int.eq_ofNat_of_zero_le rn.1
  rw [Int.toNat_natCast]
  have hn : n ≤ 8 := by omega
  have CQ := hide (fun c w1 => count_any t ht g c 9 w1)
  have NQ := hide (fun c k (hk : k ≤ 9) w1 => numbers_any t ht g c k (by omega) w1)
  have TA := hide (fun c k r vm => take_any t ht g k r 1 1 c #[vm, .int .i64 0] 164 (by decide))
  have HQ : Hid (∀ c, grp t c = (⟨(nums t (rcnt t 9 c).1.toNat (rcnt t 9 c).2).1, (nm t (nums t (rcnt t 9 c).1.toNat (rcnt t 9 c).2).2).1⟩, (nm t (nums t (rcnt t 9 c).1.toNat (rcnt t 9 c).2).2).2)) := fun c => rfl
  have HQR : Hid (∀ c, 0 ≤ (rcnt t 9 c).1 ∧ (rcnt t 9 c).1 ≤ 9) := fun c => rcnt_range t 9 c (by decide)
  generalize hE : grps t n c2 = R
  have H0 : Hid (R.1 = [] ++ (grps t (n - 0) c2).1 ∧ R.2 = (grps t (n - 0) c2).2) := by show _ ∧ _; rw [← hE]; exact ⟨rfl, rfl⟩
  have HST : Hid (∀ j c, j < n → _) := fun j c h => grps_step t n j c h
  have HC := hide hc
  clear hc hE rn hs
  go_enter Tryz.func137, Tryz.ntmps137
  go_wp2_with fail
  obtain ⟨W1, hW1⟩ : ∃ W, W = w.alloc (Obj.cells #[.slice none 0 0, .slice none 0 0] 132) := ⟨_, rfl⟩
  have b1 : Below w.heap.size w W1 := by rw [hW1]; exact below_new _ _
  have m1 : Blk W1 w.heap.size #[.slice none 0 0, .slice none 0 0] 132 := by rw [hW1]; exact Blk.new0
  have zW1 : w.heap.size ≤ W1.heap.size := b1.size
  rw [← hW1]
  clear hW1
  refine (unhide NY W1 ((unhide HC).below b1)).mono ?_
  rintro e w2 ⟨⟨d, rfl, ho2⟩, h2, k2⟩
  have ho2' : InOwn w2 w.heap.size d Y := own_lower zW1 ho2
  have m2 := m1.kept k2 (by omega)
  have K2 : Kept (fun k => k = g) w w2 := (Kept.of_below b1).trans k2
  have H2 := hide h2
  obtain ⟨AY, cY, rfl⟩ := own_shape ho2
  have HO2 := hide ho2'
  clear h2 k2 m1 b1 ho2 ho2' zW1 W1
  go_wp2_with fail
  obtain ⟨W3, hW3⟩ : ∃ W, W = w2.alloc (Obj.cells #[.slice AY Y.length cY, .slice none 0 0] 132) := ⟨_, rfl⟩
  have b3 : Below w2.heap.size w2 W3 := by rw [hW3]; exact below_new _ _
  have m3 : Blk W3 w2.heap.size #[.slice AY Y.length cY, .slice none 0 0] 132 := by rw [hW3]; exact Blk.new0
  have r3 := m2.below b3
  have z2 := m2.lt
  rw [← hW3]
  clear hW3
  refine (unhide CB W3 ((unhide H2).below b3)).mono ?_
  rintro e w4 ⟨rfl, h4, k4⟩
  have hzw : w.heap.size ≤ w2.heap.size := K2.2.2.2.1
  have PS0 : Hid (PS w w4 g w2.heap.size t c2 (.slice AY Y.length cY) Y (.slice none 0 0) [] []) := ⟨h4, r3.kept k4 (by omega), m3.kept k4 (by omega), k4.own_alien (own_below (unhide HO2) b3) (((unhide H2).below b3).alien reader_types.1), ⟨rfl, World.ownsRow_nil _ _ _ _, fun j h1 _ => absurd h1 (Nat.not_lt_zero _)⟩, fun i j hi hj g _ _ => by simp at hi hj; omega, (K2.trans (Kept.of_below b3)).trans k4⟩
  clear h4 k4 m3 r3 b3 H2 K2 m2 W3 HO2
  generalize w2.heap.size = kb at PS0 z2 hzw
  generalize hvY : Value.slice AY Y.length cY = vY at PS0
  go_wp2_with fail
  go_loopw [13] (fun i wr => ∃ (j : Nat) (L : List GrpI) (c : CS) (v : Value) (ms : List Value), i = .int .i64 (j : Int) ∧ j ≤ n ∧ Hid (L.length = j) ∧ Hid (R.1 = L ++ (grps t (n - j) c).1 ∧ R.2 = (grps t (n - j) c).2) ∧ Hid (PS w wr g kb t c vY Y v ms L)) (fun i _ => n - (intOf i).toNat)
  case atStart => exact ⟨0, [], c2, _, [], rfl, Nat.zero_le _, rfl, unhide H0, unhide PS0⟩
  case round =>
    obtain ⟨j, L, c', v, ms, rfl, hj, HL, HR, HG⟩ := hrel
    by_cases hlt : j < n
    · have hx1 : (j : Int) < (n : Int) := by omega
      have HN := hide (unhide HST j c' hlt)
      rw [unhide HQ c'] at HN
      have C1 := hide (unhide CQ c' wr (unhide HG).rd)
      have rk := unhide HQR c'
      generalize rcnt t 9 c' = X at HN C1 rk
      obtain ⟨k0, c3⟩ := X
      simp only at HN C1 rk
      obtain ⟨k, rfl⟩ := Int.eq_ofNat_of_zero_le rk.1
      rw [Int.toNat_natCast] at HN
      have N1 := hide (unhide NQ c3 k (by omega))
      generalize nums t k c3 = X at HN N1
      obtain ⟨K, c4⟩ := X
      simp only at HN N1
      obtain ⟨z, c5, e1, e2⟩ : ∃ z c5, nums t 1 c4 = ([z], c5) ∧ nm t c4 = (z, c5) := ⟨_, _, rfl, rfl⟩
      have TA1 := hide (unhide TA c4)
      rw [e1] at TA1
      rw [e2] at HN
      clear e1 e2 rk
      simp only at HN
      have hkb := (unhide HG).box.lt
      have hgr := (unhide HG).rd.lt
      have hzr : w.heap.size ≤ wr.heap.size := (unhide HG).kept.2.2.2.1
      go_wp2_with fail
      refine (unhide C1).mono ?_
      rintro e w1 ⟨rfl, h1, k1⟩
      have F1 : Kept (fun i => i = g ∨ wr.heap.size ≤ i) wr w1 := k1.weak (fun i hi => .inl hi)
      have z1 : wr.heap.size ≤ w1.heap.size := k1.2.2.2.1
      have H1 := hide h1
      clear h1 k1 C1
      go_wp2_with fail
      refine (unhide N1 w1 (unhide H1)).mono ?_
      rintro e w2' ⟨⟨vm, rfl, hm⟩, h2, k2⟩
      have F2 := F1.far k2 (fun i hi => .inl hi)
      have z2' : w1.heap.size ≤ w2'.heap.size := k2.2.2.2.1
      have H2 := hide h2
      obtain ⟨Am, cm, rfl⟩ := own_shape hm
      have HM := hide hm
      clear h2 k2 hm N1 H1 F1
      go_wp2_with fail
      obtain ⟨V1, hV1⟩ : ∃ W, W = w2'.alloc (Obj.cells #[.slice Am K.length cm, .int .i64 0] 164) := ⟨_, rfl⟩
      have zV1 : V1.heap.size = w2'.heap.size + 1 := by rw [hV1, alloc_size]
      have bV1 : Below w2'.heap.size w2' V1 := by rw [hV1]; exact below_new _ _
      have mV1 : Blk V1 w2'.heap.size #[.slice Am K.length cm, .int .i64 0] 164 := by rw [hV1]; exact Blk.new0
      obtain ⟨V2, hV2⟩ : ∃ W, W = V1.alloc (Obj.cells #[.pointer (some ⟨w2'.heap.size, 1, none⟩)] 206) := ⟨_, rfl⟩
      have bV2 : Below V1.heap.size V1 V2 := by rw [hV2]; exact below_new _ _
      have pV2 : Blk V2 V1.heap.size (ptrs w2'.heap.size 1 1) 206 := by rw [hV2]; exact Blk.new0
      rw [zV1] at pV2
      rw [← hV1, ← hV2]
      have bb : Below w2'.heap.size w2' V2 := bV1.trans (bV2.mono bV1.size)
      have hg2 := (unhide H2).lt
      refine (unhide TA1 w2'.heap.size (w2'.heap.size + 1) (.slice Am K.length cm) (by omega) (by omega) (by omega) (by simp) V2 ((unhide H2).below bb) (mV1.below bV2) pV2).mono ?_
      rintro e w5 ⟨rfl, h5, d5, k5⟩
      have d5' : Blk w5 w2'.heap.size #[.slice Am K.length cm, .int .i64 z] 164 := by simpa [putL] using d5
      clear d5
      have p0 : w5.cell? ⟨w2'.heap.size, 0, none⟩ = some (.slice Am K.length cm) := d5'.cell 0 _ rfl
      have p1 : w5.cell? ⟨w2'.heap.size, 1, none⟩ = some (.int .i64 z) := d5'.cell 1 _ rfl
      have F5 := (F2.far (Kept.of_below (S := fun _ => False) bb) (fun i hi => hi.elim)).far k5 (fun i hi => by omega)
      have P5 := (unhide HG).moved hg z2 F5 h5
      have hm2 : InOwn V2 w1.heap.size (.slice Am K.length cm) K := own_below (unhide HM) bb
      have bz := bb.size
      have hm5 : InOwn w5 w1.heap.size (.slice Am K.length cm) K := by
        refine k5.own hm2 (fun b hb hs => ?_)
        have hlt := (World.ownsRow.lt (unhide HM) b hb).2
        rcases hs with rfl | rfl
        · exact ((unhide H2).1.apart (unhide HM) reader_types.1) hb.symm
        · omega
      have hdist : ∀ b, (Value.slice Am K.length cm).ownBlock = some b → ∀ u ∈ vY :: ms, u.ownBlock ≠ some b := fun b hb u hu he => by
        have a1 := (World.ownsRow.lt (unhide HM) b hb).1
        rcases List.mem_cons.1 hu with rfl | hu
        · have := (World.ownsRow.lt (unhide HG).ys b he).2
          omega
        · obtain ⟨i, hi, rfl⟩ := List.getElem_of_mem hu
          have := (World.ownsRow.lt ((unhide HG).gs.2.2 i hi (by have := (unhide HG).gs.1; omega)) b he).2
          omega
      have own5 := P5.gs.2.1
      have GE := hide (fun w7 v' => P5.group (w7 := w7) (v' := v') hg z2 ⟨K, z⟩ (own_lower (by omega) hm5) hdist)
      have BOX5 := hide P5.box
      have zz : w.heap.size ≤ w5.heap.size := P5.kept.2.2.2.1
      have hLn : L.length ≤ 36 := by have := unhide HL; omega
      have hkb5 := P5.box.lt
      have hke5 := d5'.lt
      obtain ⟨A, cp, rfl⟩ := own_shape own5
      have q1 : w5.cell? ⟨kb, 1, none⟩ = some (.slice A L.length cp) := (unhide BOX5).cell 1 _ rfl
      generalize gC ms (zsOf L) = GC at own5 GE
      generalize K.length = kn at *
      clear d5' h5 k5 hV1 hV2 bV1 bV2 mV1 pV2 bz bb zV1 TA1 hm2 hm5 hdist P5 F5 F2 HM H2 V1 V2
      go_wp2_with (at_builtin; refine wpList_append_own _ rfl _ _ 130 rfl w.heap.size 164 ie (.agg #[.slice none 0 0, .int .i64 0]) 2 32 Tryz.underlying130 hie ez0 ez1 ez2 rfl (by decide) _ L.length _ rfl (own5.alloc _) ⟨w5.heap.size, 0, none⟩ 1 1 [.slice Am kn cm, .int .i64 z] rfl rfl (World.news_of_block (heap_alloc_new w5 _)) (by intro u hu; simp at hu; rcases hu with rfl | rfl <;> rfl) ?c1 ?c2 ?c3 ?_)
      case c1 => unfold maxLen; omega
      case c2 => omega
      case c3 => simp; omega
      intro v' w7 hown' hgrow _
      have kA : Kept (fun k => (Value.slice A L.length cp).ownBlock = some k) w5 w7 := (Kept.of_below (below_new w5 (Obj.cells #[.slice Am kn cm, .int .i64 z] 164))).trans (Kept.of_grown hgrow)
      have box7 := (unhide BOX5).kept_alien kA (own_alien own5 proof_types.1.symm)
      have G7 := hide (unhide GE w7 v' kA hown')
      have q2 : w7.cell? ⟨kb, 1, none⟩ = some (.slice A L.length cp) := box7.cell 1 _ rfl
      have f2 := box7.froz 1
      obtain ⟨A', cp', rfl⟩ := own_shape hown'
      clear hown' hgrow kA box7 own5 GE q1 p0 p1
      go_wp2_with fail
      refine ⟨⟨j + 1, L ++ [⟨K, z⟩], c5, _, _, by go_num, by omega, ?_, ?_, G7⟩, by simp [intOf]; omega⟩
      · show _ = _
        rw [List.length_append, unhide HL]; rfl
      · show _ ∧ _
        have := unhide HR
        rw [unhide HN] at this
        exact ⟨by rw [this.1, List.append_assoc]; rfl, this.2⟩
    · obtain rfl : j = n := by omega
      have hx1 : ¬ (j : Int) < (j : Int) := by omega
      have hr := unhide HR
      rw [Nat.sub_self] at hr
      have e1 : R.1 = L := by rw [hr.1]; exact List.append_nil _
      have e2 : R.2 = c' := hr.2
      obtain ⟨A, cp, rfl⟩ := own_shape (unhide HG).gs.2.1
      subst hvY
      have q0 : wr.cell? ⟨kb, 0, none⟩ = some (.slice AY Y.length cY) := (unhide HG).box.cell 0 _ rfl
      have q1 : wr.cell? ⟨kb, 1, none⟩ = some (.slice A L.length cp) := (unhide HG).box.cell 1 _ rfl
      have q2 : wr.cell? ⟨w.heap.size, 0, none⟩ = some (.slice none 0 0) := (unhide HG).res.cell 0 _ rfl
      have q3 : wr.cell? ⟨w.heap.size, 1, none⟩ = some (.slice none 0 0) := (unhide HG).res.cell 1 _ rfl
      have f0 := (unhide HG).res.froz 0
      have f1 := (unhide HG).res.froz 1
      have HBL : Hid (Blk ((wr.setCell ⟨w.heap.size, 0, none⟩ (.slice AY Y.length cY)).setCell ⟨w.heap.size, 1, none⟩ (.slice A L.length cp)) w.heap.size #[.slice AY Y.length cY, .slice A L.length cp] 132) := ((unhide HG).res.set 0 _).set 1 _
      have kk : Kept (fun i => i = w.heap.size) wr ((wr.setCell ⟨w.heap.size, 0, none⟩ (.slice AY Y.length cY)).setCell ⟨w.heap.size, 1, none⟩ (.slice A L.length cp)) := Kept.trans (S := fun i => i = w.heap.size) (Kept.set _ _ _ _ rfl) (Kept.set _ _ _ _ rfl)
      have al : ∀ e : TypeId, (132 : Nat) ≠ e → ∀ k, k = w.heap.size → Alien wr k e := fun e he k hk => by subst hk; exact (unhide HG).res.alien he
      have HPO : Hid (POwn ((wr.setCell ⟨w.heap.size, 0, none⟩ (.slice AY Y.length cY)).setCell ⟨w.heap.size, 1, none⟩ (.slice A L.length cp)) w.heap.size (.agg #[.slice AY Y.length cY, .slice A L.length cp]) Y R.1) := by
        show POwn _ _ _ _ _
        rw [e1]
        exact ⟨_, _, ms, rfl, kk.own_alien (unhide HG).ys (al _ proof_types.2.2.1), ⟨(unhide HG).gs.1, kk.own_alien (unhide HG).gs.2.1 (al _ proof_types.1), fun i h1 h2 => kk.own_alien ((unhide HG).gs.2.2 i h1 h2) (al _ proof_types.2.2.1)⟩, (unhide HG).dist⟩
      have HRD := hide ((unhide HG).rd.kept kk (by omega))
      have HKK := hide ((unhide HG).kept.trans_new kk (fun i hi => by omega))
      rw [← e2] at HRD
      clear e1 e2 hr kk al
      go_wp2_with fail
      refine bodyPost_ret (results_rd1 Tryz.results137 _ _ _ _ _ rfl (load_proof (unhide HBL))) rfl ?_
      exact ⟨⟨_, _, rfl, unhide HPO⟩, unhide HRD, unhide HKK⟩
end Gr
end Go.Proofs.YtihnaddfpmjpaaaGreatDoor
