/-
  Texts of this claim, one behind the other: GrProofM, GrCertM.
-/
import Derived.Test.YtalmbdfcpnkkpaaJ35
import Derived.Test.YtalmbdfcpnkkpaaJ26

/-
  Proofs and certificates that a call has made, all their rows in blocks of their own: what is marked is held.
-/
namespace Go.Proofs.Ytalmbdfcpnkkpaa
namespace Gr
open Go.ChangeShapes Go.WideShapes Go.ChangeAt Go.RowKit

theorem DistV.tail {v : Value} {vs : List Value} (h : DistV (v :: vs)) : DistV vs := fun i j hi hj g h1 h2 => by
  have := h (i + 1) (j + 1) (by simpa using hi) (by simpa using hj) g (by simpa using h1) (by simpa using h2)
  omega

theorem DistV.head {v : Value} {vs : List Value} (h : DistV (v :: vs)) (j : Nat) (hj : j < vs.length) (g : Nat) (h1 : v.ownBlock = some g) (h2 : vs[j].ownBlock = some g) : False := by
  have := h 0 (j + 1) (by simp) (by simpa using hj) g (by simpa using h1) (by simpa using h2)
  omega

theorem GOwn.kept {S : Nat → Prop} {w w' : World} {B : Nat} {v : Value} {ms : List Value} {G : List GrpI} (h : GOwn w B v ms G) (hk : Kept S w w') (hS : ∀ g, S g → Alien w g 46) (hT : ∀ j (hj : j < ms.length) g, ms[j].ownBlock = some g → ¬ S g) : GOwn w' B v ms G :=
  ⟨h.1, hk.own_alien h.2.1 hS, fun j h1 h2 => hk.own (h.2.2 j h1 h2) (hT j h1)⟩

theorem GOwn.blk {w : World} {B : Nat} {v : Value} {ms : List Value} {G : List GrpI} (h : GOwn w B v ms G) : ∀ g, GoBlk v ms g → B ≤ g ∧ g < w.heap.size := by
  rintro g (hg | ⟨j, hj, hg⟩)
  · exact h.2.1.lt g hg
  · exact (h.2.2 j hj (by rw [← h.1]; exact hj)).blk g hg

theorem GOwn.at {w : World} {B : Nat} {v : Value} {ms : List Value} {G : List GrpI} (h : GOwn w B v ms G) : ∃ a c, v = .slice a G.length c ∧ groupsAt w a G.length w.heap.size G := by
  obtain ⟨A, c, rfl⟩ := own_shape h.2.1
  refine ⟨A, c, rfl, rfl, fun j hj => ?_⟩
  have hjm : j < ms.length := by rw [h.1]; exact hj
  obtain ⟨g, cap, hA, _, hgl⟩ := h.2.1.form (by omega)
  simp at hA
  obtain ⟨rfl, rfl⟩ := hA
  obtain ⟨a1, c1, e1, hI⟩ := (h.2.2 j hjm hj).at
  have hgc := gC_at ms (zsOf G) j hjm (by rw [zsOf_length]; exact hj)
  have k0 := h.2.1.cellAt (j * 2) (by omega)
  have k1 := h.2.1.cellAt (j * 2 + 1) (by omega)
  rw [hgc.1, e1] at k0
  rw [hgc.2, zsOf_at G j _ hj] at k1
  exact ⟨g, 0, a1, c1, rfl, hgl, by simpa using k0, by simpa using k1, hI⟩

/-- A proof that a call has made. -/
def POwn (w : World) (B : Nat) (v : Value) (Y : List Int) (G : List GrpI) : Prop := ∃ u1 u2 ms, v = .agg #[u1, u2] ∧ InOwn w B u1 Y ∧ GOwn w B u2 ms G ∧ DistV (u1 :: ms)

theorem POwn.below {w w' : World} {B : Nat} {v : Value} {Y : List Int} {G : List GrpI} (h : POwn w B v Y G) (hb : Below w.heap.size w w') : POwn w' B v Y G := by
  obtain ⟨u1, u2, ms, rfl, h1, h2, h3⟩ := h
  exact ⟨u1, u2, ms, rfl, h1.below hb, h2.below hb, h3⟩

theorem own_type {w : World} {B e size n : Nat} {v : Value} {xs : List Value} (h : w.ownsRow B e size v n xs) (g : Nat) (hg : v.ownBlock = some g) : ∃ C z, w.heap[g]? = some (.cells C e z) := by
  rcases h.2 with ⟨rfl, _⟩ | ⟨g1, cap, cur, rfl, _, hh, _⟩
  · simp [Value.ownBlock] at hg
  · have e1 : g1 = g := Option.some.inj hg
    subst e1
    exact ⟨_, _, hh⟩

set_option maxRecDepth 100000 in
set_option maxHeartbeats 1000000 in
theorem markProof_any (u1 u2 : Value) (ms : List Value) (B k : Nat) (Y : List Int) (G : List GrpI) (hk : k + Y.length + offQ G G.length ≤ 100000000) (w : World) (h1 : InOwn w B u1 Y) (h2 : GOwn w B u2 ms G) (h3 : DistV (u1 :: ms)) :
    Calls Try.prog 20 #[.agg #[u1, u2], .int .i64 (k : Int)] w fun e w' => e = .returned (.int .i64 ((k + Y.length + offQ G G.length : Nat) : Int)) ∧ (InOwn w' B u1 (marksN k Y.length) ∧ GOwn w' B u2 ms (mixQ (k + Y.length) G G.length)) ∧ Kept (fun g => InBlk u1 g ∨ GoBlk u2 ms g) w w' := by
  have hb0 := h1.blk
  obtain ⟨a1, c1, rfl⟩ := own_shape h1
  obtain ⟨a2, c2, rfl⟩ := own_shape h2.2.1
  have H1 := hide h1
  have H2 := hide h2
  have H3 := hide h3
  have HB0 := hide hb0
  have hBs : Hid (∀ g, Value.ownBlock (.slice a1 Y.length c1) = some g → B ≤ g ∧ g < w.heap.size) := hb0
  have MY := hide (fun w1 (ho : InOwn w1 B (.slice a1 Y.length c1) Y) => markInts_gen _ B k Y (by omega) w1 ho)
  have MG := hide (fun w1 (ho : GOwn w1 B (.slice a2 G.length c2) ms G) => markGroupS_any _ ms B (k + Y.length) G hk (unhide H3).tail w1 ho)
  clear h1 h2 h3 hb0
  go_enter Try.func20, Try.ntmps20
  go_wp2_with fail
  obtain ⟨V, hV⟩ : ∃ W, W = w.alloc (Obj.cells #[Value.slice a1 Y.length c1, Value.slice a2 G.length c2] 29) := ⟨_, rfl⟩
  rw [← hV]
  have bV : Below w.heap.size w V := by rw [hV]; exact below_new _ _
  have HM : Hid (Blk V w.heap.size #[Value.slice a1 Y.length c1, Value.slice a2 G.length c2] 29) := by show Blk _ _ _ _; rw [hV]; exact Blk.new0
  clear hV
  refine (unhide MY V ((unhide H1).below bV)).mono ?_
  rintro e w1 ⟨rfl, ho1, hk1⟩
  have x1 : Blk w1 w.heap.size #[Value.slice a1 Y.length c1, Value.slice a2 G.length c2] 29 := (unhide HM).kept hk1 (fun hg => by have := unhide HB0 _ hg; omega)
  have x2 : GOwn w1 B (.slice a2 G.length c2) ms G := ((unhide H2).below bV).kept hk1 (fun g hg => own_alien ((unhide H1).below bV) (by decide) g hg) (fun j hj g hg hg' => (unhide H3).head j hj g hg' hg)
  have HO1 := hide ho1
  have HX1 := hide x1
  have HX2 := hide x2
  have HK1 : Hid (Kept (fun g => InBlk (.slice a1 Y.length c1) g ∨ GoBlk (.slice a2 G.length c2) ms g) w w1) := (Kept.of_below bV).trans (hk1.weak (fun g hg => .inl hg))
  have p1 : w1.cell? ⟨w.heap.size, 1, none⟩ = some (.slice a2 G.length c2) := x1.cell 1 _ rfl
  clear ho1 hk1 x1 x2
  go_wp2_with fail
  refine (unhide MG w1 (unhide HX2)).mono ?_
  rintro e w2 ⟨rfl, ho2, hk2⟩
  have y1 : InOwn w2 B (.slice a1 Y.length c1) (marksN k Y.length) := (unhide HO1).kept hk2 (fun g hg hg' => by
    rcases hg' with hg' | ⟨j, hj, hg'⟩
    · obtain ⟨C, z, q1⟩ := own_type (unhide HX2).2.1 g hg'
      obtain ⟨C', z', r1⟩ := own_type (unhide HO1) g hg
      rw [q1] at r1
      simp at r1
    · exact (unhide H3).head j hj g hg hg')
  have HP2 : Hid (InOwn w2 B (.slice a1 Y.length c1) (marksN k Y.length) ∧ GOwn w2 B (.slice a2 G.length c2) ms (mixQ (k + Y.length) G G.length)) := ⟨y1, ho2⟩
  have HK2 : Hid (Kept (fun g => InBlk (.slice a1 Y.length c1) g ∨ GoBlk (.slice a2 G.length c2) ms g) w w2) := (unhide HK1).trans (hk2.weak (fun g hg => .inr hg))
  clear y1 ho2 hk2 p1
  go_wp2_with fail
  go_ret
  exact ⟨rfl, unhide HP2, unhide HK2⟩
end Gr
end Go.Proofs.Ytalmbdfcpnkkpaa

/-
  The contracts of laws.heldProof, laws.markCert and laws.heldCert; a certificate that a call has made.
-/
namespace Go.Proofs.Ytalmbdfcpnkkpaa
namespace Gr
open Go.ChangeShapes Go.WideShapes Go.ChangeAt Go.RowKit

theorem POwn.shape {w : World} {B : Nat} {v : Value} {Y : List Int} {G : List GrpI} (h : POwn w B v Y G) : ∃ a c a' c', v = .agg #[.slice a Y.length c, .slice a' G.length c'] := by
  obtain ⟨u1, u2, ms, rfl, h1, h2, _⟩ := h
  obtain ⟨a, c, rfl⟩ := own_shape h1
  obtain ⟨a', c', rfl⟩ := own_shape h2.2.1
  exact ⟨a, c, a', c', rfl⟩

theorem POwn.at {w : World} {B : Nat} {v : Value} {Y : List Int} {G : List GrpI} (h : POwn w B v Y G) (hin : PrIn Y G) : PrAt w v w.heap.size Y G := by
  obtain ⟨u1, u2, ms, rfl, h1, h2, _⟩ := h
  obtain ⟨a, c, rfl, hI⟩ := h1.at
  obtain ⟨a', c', rfl, hG⟩ := h2.at
  exact ⟨a, _, c, a', _, c', rfl, hI, hG, hin⟩

set_option maxRecDepth 100000 in
set_option maxHeartbeats 1000000 in
theorem heldProof_any (v : Value) (B k n : Nat) (G : List GrpI) (hk : k + n + offQ G G.length ≤ 100000000) (w : World) (h : POwn w B v (marksN k n) (mixQ (k + n) G G.length)) :
    Calls Try.prog 23 #[v, .int .i64 (k : Int)] w fun e w' => e = .returned (.int .i64 ((k + n + offQ G G.length : Nat) : Int)) ∧ Below w.heap.size w w' := by
  obtain ⟨u1, u2, ms, rfl, h1, h2, h3⟩ := h
  have H1 := hide h1
  have H2 := hide h2
  obtain ⟨a1, c1, rfl⟩ := own_shape h1
  obtain ⟨a2, c2, rfl⟩ := own_shape h2.2.1
  have MY := hide (fun w1 (hb : Below w.heap.size w w1) => heldInts_gen _ w1.heap.size k n (by omega) w1 (Nat.le_refl _) ((unhide H1).below hb).at)
  have MG := hide (fun w1 (hb : Below w.heap.size w w1) => heldGroupS_any _ ms B (k + n) G hk w1 ((unhide H2).below hb))
  generalize (marksN k n).length = n1 at MY ⊢
  generalize (mixQ (k + n) G G.length).length = n2 at MG ⊢
  have hng1 : ¬ ((k + n : Nat) : Int) < 0 := by omega
  have hng2 : ¬ ((k + n + offQ G G.length : Nat) : Int) < 0 := by omega
  generalize k + n + offQ G G.length = t at MG hng2 ⊢
  generalize k + n = t1 at MY MG hng1
  clear h1 h2 h3 hk
  go_enter Try.func23, Try.ntmps23
  go_wp2_with fail
  obtain ⟨V, hV⟩ : ∃ W, W = w.alloc (Obj.cells #[Value.slice a1 n1 c1, Value.slice a2 n2 c2] 29) := ⟨_, rfl⟩
  rw [← hV]
  have bV : Below w.heap.size w V := by rw [hV]; exact below_new _ _
  have HM : Hid (Blk V w.heap.size #[Value.slice a1 n1 c1, Value.slice a2 n2 c2] 29) := by show Blk _ _ _ _; rw [hV]; exact Blk.new0
  clear hV
  refine (unhide MY V bV).mono ?_
  rintro e w1 ⟨rfl, hb1⟩
  have b1 := bV.trans (hb1.mono bV.size)
  have p1 : w1.cell? ⟨w.heap.size, 1, none⟩ = some (.slice a2 n2 c2) := ((unhide HM).below hb1).cell 1 _ rfl
  clear hb1
  go_wp2_with fail
  refine (unhide MG w1 b1).mono ?_
  rintro e w2 ⟨rfl, hb2⟩
  have b2 := b1.trans (hb2.mono b1.size)
  clear hb2 p1
  go_wp2_with fail
  go_ret
  exact ⟨rfl, b2⟩

/-- A certificate that a call has made: all of its rows in blocks of their own. -/
def CROwn (w : World) (B : Nat) (v : Value) (s : Int) (Q : List EdgeI) (M : List CoupleI) (Y : List Int) (G : List GrpI) : Prop :=
  ∃ v1 v2 v3 v4, v = .agg #[.int .i64 s, v1, v2, v3, v4] ∧ w.ownsRow B 42 5 v1 Q.length (edgesV Q) ∧ CoOwn w B v2 M ∧ POwn w B (.agg #[v3, v4]) Y G

theorem CROwn.below {w w' : World} {B : Nat} {v : Value} {s : Int} {Q : List EdgeI} {M : List CoupleI} {Y : List Int} {G : List GrpI} (h : CROwn w B v s Q M Y G) (hb : Below w.heap.size w w') : CROwn w' B v s Q M Y G := by
  obtain ⟨v1, v2, v3, v4, rfl, h1, h2, h3⟩ := h
  exact ⟨v1, v2, v3, v4, rfl, own_below h1 hb, h2.below hb, h3.below hb⟩

theorem CROwn.at {w : World} {B : Nat} {v : Value} {s : Int} {Q : List EdgeI} {M : List CoupleI} {Y : List Int} {G : List GrpI} (h : CROwn w B v s Q M Y G) (hn : csize Q M Y G ≤ 1048576) : CeAt w v w.heap.size s Q M Y G := by
  obtain ⟨v1, v2, v3, v4, rfl, h1, h2, h3⟩ := h
  obtain ⟨l1, l2, l3⟩ := csize_le hn
  obtain ⟨m1, m2, m3⟩ := psize_le l3
  have hp := h3.at ⟨by omega, by omega, fun q hq => by have := m3 q hq; omega⟩
  obtain ⟨a2, c2, a3, c3, e3⟩ := h3.shape
  simp at e3
  obtain ⟨rfl, rfl⟩ := e3
  obtain ⟨a, c, rfl, hQ⟩ := edgesAt.of_own h1
  obtain ⟨a1, c1, rfl, hM⟩ := h2.at
  exact ⟨a, c, a1, c1, a2, c2, a3, c3, rfl, ⟨a, _, c, rfl, hQ⟩, ⟨a1, c1, rfl, hM⟩, hp, by omega, by omega⟩

/-- The rows of a proof are of two types. -/
theorem rows_kept {S : Nat → Prop} {w w' : World} {B : Nat} {u1 u2 : Value} {ms : List Value} {Y : List Int} {G : List GrpI} (h1 : InOwn w B u1 Y) (h2 : GOwn w B u2 ms G) (hk : Kept S w w') (hS : ∀ g, S g → Alien w g 46 ∧ Alien w g 3) : InOwn w' B u1 Y ∧ GOwn w' B u2 ms G :=
  ⟨hk.own_alien h1 (fun g hg => (hS g hg).2), h2.1, hk.own_alien h2.2.1 (fun g hg => (hS g hg).1), fun j i1 i2 => hk.own_alien (h2.2.2 j i1 i2) (fun g hg => (hS g hg).2)⟩

/-- The marks of a certificate. -/
def mkM (k : Nat) (Q : List EdgeI) : Nat := k + Q.length * 5
def mkY (k : Nat) (Q : List EdgeI) (M : List CoupleI) : Nat := mkM k Q + M.length * 2
def mkAll (k : Nat) (Q : List EdgeI) (M : List CoupleI) (Y : List Int) (G : List GrpI) : Nat := mkY k Q M + Y.length + offQ G G.length

/-- Blocks from B on that hold no certificate's variable. -/
def CTy (w : World) (B g : Nat) : Prop := B ≤ g ∧ ∀ C t z, w.heap[g]? = some (.cells C t z) → t ≠ 31

theorem CTy.of {w : World} {B e size n g : Nat} {v : Value} {xs : List Value} (h : w.ownsRow B e size v n xs) (hg : v.ownBlock = some g) (he : e ≠ 31) : CTy w B g := by
  refine ⟨(h.lt g hg).1, fun C t z hc => ?_⟩
  obtain ⟨C', z', h'⟩ := own_type h g hg
  rw [h'] at hc
  simp at hc
  rw [← hc.2.1]
  exact he

/-- A certificate's variable stays as it is. -/
theorem Blk.cert {w w' : World} {B g : Nat} {C : Array Value} (h : Blk w g C 31) (hk : Kept (CTy w B) w w') : Blk w' g C 31 := h.kept hk (fun hg => hg.2 _ _ _ h rfl)

theorem types_cert : (42 : Nat) ≠ 31 ∧ (44 : Nat) ≠ 31 ∧ (46 : Nat) ≠ 31 ∧ (3 : Nat) ≠ 31 := by decide

theorem types_apart : (42 : Nat) ≠ 44 ∧ (42 : Nat) ≠ 46 ∧ (42 : Nat) ≠ 3 ∧ (44 : Nat) ≠ 46 ∧ (44 : Nat) ≠ 3 := by decide

set_option maxRecDepth 100000 in
set_option maxHeartbeats 1000000 in
theorem markCert_any (v : Value) (B k : Nat) (s : Int) (Q : List EdgeI) (M : List CoupleI) (Y : List Int) (G : List GrpI) (hk : mkAll k Q M Y G ≤ 100000000) (w : World) (h : CROwn w B v s Q M Y G) :
    Calls Try.prog 7 #[v, .int .i64 (k : Int)] w fun e w' => e = .returned (.int .i64 ((mkAll k Q M Y G : Nat) : Int)) ∧ CROwn w' B v s (marksEdge k Q.length) (marksCouple (mkM k Q) M.length) (marksN (mkY k Q M) Y.length) (mixQ (mkY k Q M + Y.length) G G.length) ∧ Kept (CTy w B) w w' := by
  obtain ⟨t1, t2, t3, t4, t5⟩ := types_apart
  obtain ⟨x1, x2, x3, x4⟩ := types_cert
  obtain ⟨v1, v2, v3, v4, rfl, h1, h2, h3⟩ := h
  have e1 := own_shape h1
  obtain ⟨a1, c1, rfl⟩ := e1
  have e2 := own_shape h2
  obtain ⟨a2, c2, rfl⟩ := e2
  obtain ⟨u3, u4, ms, ev, p1, p2, p3⟩ := h3
  simp at ev
  obtain ⟨rfl, rfl⟩ := ev
  obtain ⟨a3, c3, rfl⟩ := own_shape p1
  obtain ⟨a4, c4, rfl⟩ := own_shape p2.2.1
  have H1 := hide h1
  have H2 := hide h2
  have HP1 := hide p1
  have HP2 := hide p2
  have HP3 := hide p3
  have HCT : Hid (∀ g, InBlk (.slice a3 Y.length c3) g ∨ GoBlk (.slice a4 G.length c4) ms g → CTy w B g) := fun g hg => by
    rcases hg with hg | hg | ⟨j, hj, hg⟩
    · exact CTy.of (unhide HP1) hg x4
    · exact CTy.of (unhide HP2).2.1 hg x3
    · exact CTy.of ((unhide HP2).2.2 j hj (by rw [← (unhide HP2).1]; exact hj)) hg x4
  clear p1 p2 p3
  have hAll : mkAll k Q M Y G = mkY k Q M + Y.length + offQ G G.length := rfl
  have hY : mkY k Q M = mkM k Q + M.length * 2 := rfl
  have hM : mkM k Q = k + Q.length * 5 := rfl
  have MQ := hide (fun w1 (ho : w1.ownsRow B 42 5 (.slice a1 Q.length c1) Q.length (edgesV Q)) => markGraph_any (.agg #[.int .i64 s, .slice a1 Q.length c1]) B k s Q (by omega) w1 ⟨_, rfl, ho⟩)
  have MM := hide (fun w1 (ho : CoOwn w1 B (.slice a2 M.length c2) M) => markCoupleS_gen _ B (mkM k Q) M (by omega) w1 ho)
  have MP := hide (fun w1 (q1 : InOwn w1 B (.slice a3 Y.length c3) Y) (q2 : GOwn w1 B (.slice a4 G.length c4) ms G) => markProof_any _ _ ms B (mkY k Q M) Y G (by omega) w1 q1 q2 (unhide HP3))
  rw [← hM] at MQ
  rw [← hY] at MM
  rw [← hAll] at MP
  generalize mkAll k Q M Y G = tA at MP ⊢
  generalize mkY k Q M = tY at MM MP ⊢
  generalize mkM k Q = tM at MQ MM ⊢
  clear hAll hY hM h1 h2 hk
  go_enter Try.func7, Try.ntmps7
  go_wp2_with fail
  obtain ⟨V, hV⟩ : ∃ W, W = w.alloc (Obj.cells #[Value.int .i64 s, Value.slice a1 Q.length c1, Value.slice a2 M.length c2, Value.slice a3 Y.length c3, Value.slice a4 G.length c4] 31) := ⟨_, rfl⟩
  rw [← hV]
  have bV : Below w.heap.size w V := by rw [hV]; exact below_new _ _
  have HM : Hid (Blk V w.heap.size #[Value.int .i64 s, Value.slice a1 Q.length c1, Value.slice a2 M.length c2, Value.slice a3 Y.length c3, Value.slice a4 G.length c4] 31) := by show Blk _ _ _ _; rw [hV]; exact Blk.new0
  have hzV := (unhide HM).lt
  clear hV
  have l1 := own_below (unhide H1) bV
  refine (unhide MQ V l1).mono ?_
  rintro e w1 ⟨rfl, ⟨v1', ev, ho1⟩, hk1⟩
  simp at ev
  subst ev
  have kb1 : ∀ g, GrBlk (.agg #[.int .i64 s, .slice a1 Q.length c1]) g → Value.ownBlock (.slice a1 Q.length c1) = some g := by
    rintro g ⟨x, u, he, hg⟩
    simp at he
    rw [he.2]
    exact hg
  have lt1 := (unhide H1).lt
  have m1 : Blk w1 w.heap.size #[Value.int .i64 s, Value.slice a1 Q.length c1, Value.slice a2 M.length c2, Value.slice a3 Y.length c3, Value.slice a4 G.length c4] 31 := (unhide HM).kept hk1 (fun hg => by have := lt1 _ (kb1 _ hg); omega)
  have c21 : CoOwn w1 B (.slice a2 M.length c2) M := hk1.own_alien ((unhide H2).below bV) (fun g hg => own_alien l1 t1 g (kb1 g hg))
  have c31 : InOwn w1 B (.slice a3 Y.length c3) Y ∧ GOwn w1 B (.slice a4 G.length c4) ms G := rows_kept ((unhide HP1).below bV) ((unhide HP2).below bV) hk1 (fun g hg => ⟨own_alien l1 t2 g (kb1 g hg), own_alien l1 t3 g (kb1 g hg)⟩)
  have HK1 : Hid (Kept (CTy w B) w w1) := (Kept.of_below bV).trans (hk1.weak (fun g hg => CTy.of (unhide H1) (kb1 g hg) x1))
  have HO1 := hide ho1
  have HC2 := hide c21
  have HC3 := hide c31
  have HX1 := hide m1
  have p2 : w1.cell? ⟨w.heap.size, 2, none⟩ = some (.slice a2 M.length c2) := m1.cell 2 _ rfl
  clear ho1 hk1 kb1 lt1 m1 c21 c31 l1
  go_wp2_with fail
  refine (unhide MM w1 (unhide HC2)).mono ?_
  rintro e w2 ⟨rfl, ho2, hk2⟩
  have hs1 := (unhide HK1).2.2.2.1
  have lt2' := World.ownsRow.lt (unhide H2)
  have m2 : Blk w2 w.heap.size #[Value.int .i64 s, Value.slice a1 Q.length c1, Value.slice a2 M.length c2, Value.slice a3 Y.length c3, Value.slice a4 G.length c4] 31 := (unhide HX1).kept hk2 (fun hg => by have := lt2' _ hg; omega)
  have d1 : w2.ownsRow B 42 5 (.slice a1 Q.length c1) Q.length (edgesV (marksEdge k Q.length)) := by
    have h0 := unhide HO1
    rw [marksEdge_length] at h0
    exact hk2.own_alien h0 (fun g hg => own_alien (unhide HC2) (Ne.symm t1) g hg)
  have d3 : InOwn w2 B (.slice a3 Y.length c3) Y ∧ GOwn w2 B (.slice a4 G.length c4) ms G := rows_kept (unhide HC3).1 (unhide HC3).2 hk2 (fun g hg => ⟨own_alien (unhide HC2) t4 g hg, own_alien (unhide HC2) t5 g hg⟩)
  have HK2 : Hid (Kept (CTy w B) w w2) := (unhide HK1).trans (hk2.weak (fun g hg => CTy.of (unhide H2) hg x2))
  have HO2 := hide ho2
  have HD1 := hide d1
  have HD3 := hide d3
  have p3 : w2.cell? ⟨w.heap.size, 3, none⟩ = some (.slice a3 Y.length c3) := m2.cell 3 _ rfl
  have p4 : w2.cell? ⟨w.heap.size, 4, none⟩ = some (.slice a4 G.length c4) := m2.cell 4 _ rfl
  clear ho2 hk2 hs1 m2 d1 d3 p2 HO1 HC2 HC3 HX1 lt2'
  go_wp2_with fail
  refine (unhide MP w2 (unhide HD3).1 (unhide HD3).2).mono ?_
  rintro e w3 ⟨rfl, ⟨ho3, ho4⟩, hk3⟩
  have al3 : ∀ g, InBlk (.slice a3 Y.length c3) g ∨ GoBlk (.slice a4 G.length c4) ms g → Alien w2 g 42 ∧ Alien w2 g 44 := fun g hg => by
    rcases hg with hg | hg | ⟨j, hj, hg⟩
    · exact ⟨own_alien (unhide HD3).1 (Ne.symm t3) g hg, own_alien (unhide HD3).1 (Ne.symm t5) g hg⟩
    · exact ⟨own_alien (unhide HD3).2.2.1 (Ne.symm t2) g hg, own_alien (unhide HD3).2.2.1 (Ne.symm t4) g hg⟩
    · have hr := (unhide HD3).2.2.2 j hj (by rw [← (unhide HD3).2.1]; exact hj)
      exact ⟨own_alien hr (Ne.symm t3) g hg, own_alien hr (Ne.symm t5) g hg⟩
  have f1 : w3.ownsRow B 42 5 (.slice a1 Q.length c1) (marksEdge k Q.length).length (edgesV (marksEdge k Q.length)) := by
    rw [marksEdge_length]
    exact hk3.own_alien (unhide HD1) (fun g hg => (al3 g hg).1)
  have f2 : CoOwn w3 B (.slice a2 M.length c2) (marksCouple tM M.length) := hk3.own_alien (unhide HO2) (fun g hg => (al3 g hg).2)
  have HF : Hid (CROwn w3 B (.agg #[.int .i64 s, .slice a1 Q.length c1, .slice a2 M.length c2, .slice a3 Y.length c3, .slice a4 G.length c4]) s (marksEdge k Q.length) (marksCouple tM M.length) (marksN tY Y.length) (mixQ (tY + Y.length) G G.length)) := ⟨_, _, _, _, rfl, f1, f2, _, _, ms, rfl, ho3, ho4, unhide HP3⟩
  have HK3 : Hid (Kept (CTy w B) w w3) := (unhide HK2).trans (hk3.weak (fun g hg => unhide HCT g hg))
  clear f1 f2 ho3 ho4 hk3 p3 p4 al3
  go_wp2_with fail
  go_ret
  exact ⟨rfl, unhide HF, unhide HK3⟩

set_option maxRecDepth 100000 in
set_option maxHeartbeats 1000000 in
theorem heldCert_any (v : Value) (B k : Nat) (s : Int) (Q : List EdgeI) (M : List CoupleI) (Y : List Int) (G : List GrpI) (hk : mkAll k Q M Y G ≤ 100000000) (w : World) (h : CROwn w B v s (marksEdge k Q.length) (marksCouple (mkM k Q) M.length) (marksN (mkY k Q M) Y.length) (mixQ (mkY k Q M + Y.length) G G.length)) :
    Calls Try.prog 8 #[v, .int .i64 (k : Int)] w fun e w' => e = .returned (.int .i64 ((mkAll k Q M Y G : Nat) : Int)) ∧ Below w.heap.size w w' := by
  obtain ⟨v1, v2, v3, v4, rfl, h1, h2, h3⟩ := h
  have H1 := hide h1
  have H2 := hide h2
  have H3 := hide h3
  obtain ⟨a1, c1, rfl⟩ := own_shape h1
  obtain ⟨a2, c2, rfl⟩ := own_shape h2
  obtain ⟨a3, c3, a4, c4, e3⟩ := h3.shape
  simp at e3
  obtain ⟨rfl, rfl⟩ := e3
  have hAll : mkAll k Q M Y G = mkY k Q M + Y.length + offQ G G.length := rfl
  have hY : mkY k Q M = mkM k Q + M.length * 2 := rfl
  have hM : mkM k Q = k + Q.length * 5 := rfl
  have MQ := hide (fun w1 (hb : Below w.heap.size w w1) => heldGraph_any (.agg #[.int .i64 s, .slice a1 (marksEdge k Q.length).length c1]) w1.heap.size k Q.length s (by omega) w1 (Nat.le_refl _) (GrOwn.at ⟨_, rfl, own_below (unhide H1) hb⟩))
  have MM := hide (fun w1 (hb : Below w.heap.size w w1) => heldCoupleS_gen _ w1.heap.size (mkM k Q) M.length (by omega) w1 (Nat.le_refl _) (CoOwn.at ((unhide H2).below hb)))
  have MP := hide (fun w1 (hb : Below w.heap.size w w1) => heldProof_any _ B (mkY k Q M) Y.length G (by omega) w1 ((unhide H3).below hb))
  have hn1 : ¬ ((mkM k Q : Nat) : Int) < 0 := by omega
  have hn2 : ¬ ((mkY k Q M : Nat) : Int) < 0 := by omega
  have hn3 : ¬ ((mkAll k Q M Y G : Nat) : Int) < 0 := by omega
  rw [← hM] at MQ
  rw [← hY] at MM
  rw [← hAll] at MP
  generalize (marksEdge k Q.length).length = n1 at MQ ⊢
  generalize (marksCouple (mkM k Q) M.length).length = n2 at MM ⊢
  generalize (marksN (mkY k Q M) Y.length).length = n3 at MP ⊢
  generalize (mixQ (mkY k Q M + Y.length) G G.length).length = n4 at MP ⊢
  generalize mkAll k Q M Y G = tA at MP hn3 ⊢
  generalize mkY k Q M = tY at MM MP hn2
  generalize mkM k Q = tM at MQ MM hn1
  clear hAll hY hM h1 h2 h3 hk H1 H2 H3
  go_enter Try.func8, Try.ntmps8
  go_wp2_with fail
  obtain ⟨V, hV⟩ : ∃ W, W = w.alloc (Obj.cells #[Value.int .i64 s, Value.slice a1 n1 c1, Value.slice a2 n2 c2, Value.slice a3 n3 c3, Value.slice a4 n4 c4] 31) := ⟨_, rfl⟩
  rw [← hV]
  have bV : Below w.heap.size w V := by rw [hV]; exact below_new _ _
  have HM : Hid (Blk V w.heap.size #[Value.int .i64 s, Value.slice a1 n1 c1, Value.slice a2 n2 c2, Value.slice a3 n3 c3, Value.slice a4 n4 c4] 31) := by show Blk _ _ _ _; rw [hV]; exact Blk.new0
  clear hV
  refine (unhide MQ V bV).mono ?_
  rintro e w1 ⟨rfl, hb1⟩
  have b1 := bV.trans (hb1.mono bV.size)
  have HM1 := hide ((unhide HM).below hb1)
  have p2 : w1.cell? ⟨w.heap.size, 2, none⟩ = some (.slice a2 n2 c2) := (unhide HM1).cell 2 _ rfl
  clear hb1
  go_wp2_with fail
  refine (unhide MM w1 b1).mono ?_
  rintro e w2 ⟨rfl, hb2⟩
  have b2 := b1.trans (hb2.mono b1.size)
  have p3 : w2.cell? ⟨w.heap.size, 3, none⟩ = some (.slice a3 n3 c3) := ((unhide HM1).below hb2).cell 3 _ rfl
  have p4 : w2.cell? ⟨w.heap.size, 4, none⟩ = some (.slice a4 n4 c4) := ((unhide HM1).below hb2).cell 4 _ rfl
  clear hb2 p2
  go_wp2_with fail
  refine (unhide MP w2 b2).mono ?_
  rintro e w3 ⟨rfl, hb3⟩
  have b3 := b2.trans (hb3.mono b2.size)
  clear hb3 p3 p4
  go_wp2_with fail
  go_ret
  exact ⟨rfl, b3⟩
end Gr
end Go.Proofs.Ytalmbdfcpnkkpaa
