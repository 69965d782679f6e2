/-
  Texts of this claim, one behind the other: GrCert1, GrCert2, GrCert3, GrCert4, GrRC0.
-/
import Derived.Test.YtldbanpfhlmjmaaJ25
import Derived.Laws.EntriesVeiled
import Derived.Deep.DeepFit
import Derived.Test.YtldbanpfhlmjmaaJ29

/-
  The kind of Cert: sizes, copies, equal ones, what came in.
-/
namespace Go.Proofs.Ytldbanpfhlmjmaa
namespace Gr
open Go.ChangeShapes Go.WideShapes Go.ChangeAt Go.RowKit

set_option maxRecDepth 100000 in
set_option maxHeartbeats 1000000 in
theorem szCert_gen (v : Value) (B : Nat) (s : Int) (Q : List EdgeI) (M : List CoupleI) (Y : List Int) (G : List GrpI) (left : Int) (h0 : 0 ≤ left) (h1 : left ≤ 1048576) (_hn : csize Q M Y G ≤ 9223372036854775807) (w : World) (hv : CeAt w v B s Q M Y G) :
    Calls Try.prog 5 #[v, .int .i64 left] w fun e w' => (∃ x : Int, e = .returned (.int .i64 x) ∧ x ≤ left ∧ (0 ≤ x → (csize Q M Y G : Int) + x ≤ left)) ∧ Below w.heap.size w w' := by
  obtain ⟨a, c, a1, c1, a2, c2, a3, c3, rfl, hg, hm, hp, hQ, hM⟩ := hv
  obtain ⟨g, hge⟩ : ∃ g, g = Value.agg #[.int .i64 s, .slice a Q.length c] := ⟨_, rfl⟩
  obtain ⟨m, hme⟩ : ∃ m, m = Value.slice a1 M.length c1 := ⟨_, rfl⟩
  obtain ⟨p, hpe⟩ : ∃ p, p = Value.agg #[.slice a2 Y.length c2, .slice a3 G.length c3] := ⟨_, rfl⟩
  rw [← hge] at hg
  rw [← hme] at hm
  rw [← hpe] at hp
  have hps : psize Y G ≤ 9223372036854775807 := by unfold psize; omega
  have hgw : GrAt w g w.heap.size s Q := by
    obtain ⟨a, n, c, e, hE⟩ := hg
    refine ⟨a, n, c, e, hE.1, fun j hj => ?_⟩
    obtain ⟨b, off, e, _, c0, c1⟩ := hE.2 j hj
    exact ⟨b, off, e, World.block_lt_of_cell? w _ c0, c0, c1⟩
  have hmw : CoAt w m w.heap.size M := by
    obtain ⟨a, c, e, hE⟩ := hm
    refine ⟨a, c, e, hE.1, fun j hj => ?_⟩
    obtain ⟨b, off, e, _, c0, c1⟩ := hE.2 j hj
    exact ⟨b, off, e, World.block_lt_of_cell? w _ c0, c0, c1⟩
  have hpw : PrAt w p w.heap.size Y G := by
    obtain ⟨a, n, c, a', n', c', e, hY, hG, hI⟩ := hp
    refine ⟨a, n, c, a', n', c', e, ⟨hY.1, fun k hk => ?_⟩, ⟨hG.1, fun j hj => ?_⟩, hI⟩
    · obtain ⟨b2, off2, e2, _, hc2⟩ := hY.2 k hk
      exact ⟨b2, off2, e2, World.block_lt_of_cell? w _ hc2, hc2⟩
    · obtain ⟨b, off, x, cx, e, _, c0, c1, hII⟩ := hG.2 j hj
      refine ⟨b, off, x, cx, e, World.block_lt_of_cell? w _ c0, c0, c1, hII.1, fun k hk => ?_⟩
      obtain ⟨b2, off2, e2, _, hc2⟩ := hII.2 k hk
      exact ⟨b2, off2, e2, World.block_lt_of_cell? w _ hc2, hc2⟩
  have S1 := hide (fun w1 (hb : Below w.heap.size w w1) => szGraph_gen g w.heap.size s Q left h0 h1 hQ w1 (hgw.below hb (Nat.le_refl _)))
  have S2 := hide (fun (l : Int) (l0 : 0 ≤ l) (l1 : l ≤ 1048576) w1 (hb : Below w.heap.size w w1) => szCoupleS_gen m w.heap.size M l l0 l1 hM w1 (hmw.below hb (Nat.le_refl _)))
  have S3 := hide (fun (l : Int) (l0 : 0 ≤ l) (l1 : l ≤ 1048576) w1 (hb : Below w.heap.size w w1) => szProof_gen p w.heap.size Y G l l0 l1 hps w1 (hpw.below hb (Nat.le_refl _)))
  have HP : Hid (csize Q M Y G ≤ Q.length + (M.length + psize Y G)) := by show _ ≤ _; unfold csize; omega
  clear hg hm hp hgw hmw hpw
  subst hge hme hpe
  generalize psize Y G = nP at S3 HP
  generalize csize Q M Y G = nC at HP ⊢
  obtain ⟨nQ, hnQ⟩ : ∃ n, n = Q.length := ⟨_, rfl⟩
  obtain ⟨nM, hnM⟩ : ∃ n, n = M.length := ⟨_, rfl⟩
  rw [← hnQ] at S1 HP hQ ⊢
  rw [← hnM] at S2 HP hM ⊢
  generalize Y.length = nY at S3
  generalize G.length = nG at S3
  clear hnQ hnM
  go_enter Try.func5, Try.ntmps5
  go_wp2_with fail
  obtain ⟨V, hV⟩ : ∃ W, W = w.alloc (Obj.cells #[Value.int .i64 s, Value.slice a nQ c, Value.slice a1 nM c1, Value.slice a2 nY c2, Value.slice a3 nG c3] 31) := ⟨_, rfl⟩
  rw [← hV]
  have b1 : Below w.heap.size w V := by rw [hV]; exact below_new _ _
  have m0 : Blk V w.heap.size #[Value.int .i64 s, Value.slice a nQ c, Value.slice a1 nM c1, Value.slice a2 nY c2, Value.slice a3 nG c3] 31 := by rw [hV]; exact Blk.new0
  clear hV
  refine (unhide S1 V b1).mono ?_
  rintro e w2 ⟨⟨x, rfl, hx1, hx2⟩, hb2⟩
  have b2 := b1.trans (hb2.mono b1.size)
  have m2 := m0.below hb2
  by_cases t : x < 0
  · go_wp2_with fail
    go_ret
    exact ⟨⟨-1, rfl, by omega, fun h => absurd h (by omega)⟩, b2⟩
  have hx2' := hx2 (by omega)
  have p2 : w2.cell? ⟨w.heap.size, 2, none⟩ = some (.slice a1 nM c1) := m2.cell 2 _ rfl
  have S2x := hide (unhide S2 x (by omega) (by omega) w2 b2)
  clear m0 hb2 b1 hx2
  go_wp2_with fail
  refine (unhide S2x).mono ?_
  rintro e w3 ⟨⟨y, rfl, hy1, hy2⟩, hb3⟩
  have b3 := b2.trans (hb3.mono b2.size)
  have m3 := m2.below hb3
  by_cases t2 : y < 0
  · clear p2
    go_wp2_with fail
    go_ret
    exact ⟨⟨-1, rfl, by omega, fun h => absurd h (by omega)⟩, b3⟩
  have hy2' := hy2 (by omega)
  have p3 : w3.cell? ⟨w.heap.size, 3, none⟩ = some (.slice a2 nY c2) := m3.cell 3 _ rfl
  have p4 : w3.cell? ⟨w.heap.size, 4, none⟩ = some (.slice a3 nG c3) := m3.cell 4 _ rfl
  have S3x := hide (unhide S3 y (by omega) (by omega) w3 b3)
  clear m2 hb3 b2 hy2 p2
  go_wp2_with fail
  refine (unhide S3x).mono ?_
  rintro e w4 ⟨⟨z, rfl, hz1, hz2⟩, hb4⟩
  have b4 := b3.trans (hb4.mono b3.size)
  by_cases t3 : z < 0
  · clear p3 p4
    go_wp2_with fail
    go_ret
    exact ⟨⟨-1, rfl, by omega, fun h => absurd h (by omega)⟩, b4⟩
  have HZ : Hid ((nC : Int) + z ≤ left) := by show _ ≤ _; have h1 := unhide HP; have h3 := hz2 (by omega); omega
  clear p3 p4 hz2 hb4 m3
  go_wp2_with fail
  go_ret
  exact ⟨⟨z, rfl, by omega, fun _ => unhide HZ⟩, b4⟩
end Gr
end Go.Proofs.Ytldbanpfhlmjmaa

/-
  Copies of certificates; equal ones; what came in.
-/
namespace Go.Proofs.Ytldbanpfhlmjmaa
namespace Gr
open Go.ChangeShapes Go.WideShapes Go.ChangeAt Go.RowKit

theorem results_cert {fn : Func} {p : Tmp} (h : fn.results = #[.cell p 43]) (tmps : Array Value) (w : World) (g : Nat) (x0 x1 x2 x3 x4 : Value) (hp : tmps.getD p undef = .pointer (some ⟨g, 0, none⟩)) (hg : Blk w g #[x0, x1, x2, x3, x4] 43) :
    (results fn tmps).run Try.prog w = .ok (.agg #[x0, x1, x2, x3, x4]) w := by
  have c0 := hg.cell 0 x0 rfl
  have c1 := hg.cell 1 x1 rfl
  have c2 := hg.cell 2 x2 rfl
  have c3 := hg.cell 3 x3 rfl
  have c4 := hg.cell 4 x4 rfl
  have hp' : tmps[p]?.getD undef = .pointer (some ⟨g, 0, none⟩) := by simpa using hp
  simp [results, h, hp', go_sem, c0, c1, c2, c3, c4]

set_option maxRecDepth 100000 in
set_option maxHeartbeats 2000000 in
theorem eqCert_gen (v u : Value) (B B' : Nat) (s : Int) (Q : List EdgeI) (M : List CoupleI) (Y : List Int) (G : List GrpI) (hn : csize Q M Y G ≤ 1048576) (w : World) (hB : B ≤ w.heap.size) (hB' : B' ≤ w.heap.size) (hv : CeAt w v B s Q M Y G) (hu : CeAt w u B' s Q M Y G) :
    Calls Try.prog 9 #[v, u] w fun e w' => e = .returned (.bool true) ∧ Below w.heap.size w w' := by
  obtain ⟨l1, l2, l3⟩ := csize_le hn
  obtain ⟨a, c, a1, c1, a2, c2, a3, c3, rfl, hg, hm, hp, _⟩ := hv.mono hB
  obtain ⟨x, d, x1, d1, x2, d2, x3, d3, rfl, hg', hm', hp', _⟩ := hu.mono hB'
  have E1 := hide (fun w1 (hb : Below w.heap.size w w1) => eqGraph_same _ _ w.heap.size w.heap.size s Q l1 w1 hb.size hb.size (hg.below hb (Nat.le_refl _)) (hg'.below hb (Nat.le_refl _)))
  have E2 := hide (fun w1 (hb : Below w.heap.size w w1) => eqCoupleS_gen _ _ w.heap.size w.heap.size M l2 w1 hb.size hb.size (hm.below hb (Nat.le_refl _)) (hm'.below hb (Nat.le_refl _)))
  have E3 := hide (fun w1 (hb : Below w.heap.size w w1) => eqProof_gen _ _ w.heap.size w.heap.size Y G l3 w1 hb.size hb.size (hp.below hb (Nat.le_refl _)) (hp'.below hb (Nat.le_refl _)))
  clear hg hm hp hg' hm' hp' l1 l2 l3 hn hv hu
  generalize Q.length = nQ at E1 E2 E3
  generalize M.length = nM at E1 E2 E3
  generalize Y.length = nY at E1 E2 E3
  generalize G.length = nG at E1 E2 E3
  go_enter Try.func9, Try.ntmps9
  go_wp2_with fail
  obtain ⟨V, hV⟩ : ∃ W, W = (w.alloc (Obj.cells #[Value.int .i64 s, Value.slice a nQ c, Value.slice a1 nM c1, Value.slice a2 nY c2, Value.slice a3 nG c3] 43)).alloc (Obj.cells #[Value.int .i64 s, Value.slice x nQ d, Value.slice x1 nM d1, Value.slice x2 nY d2, Value.slice x3 nG d3] 43) := ⟨_, rfl⟩
  rw [← hV]
  have b1 : Below w.heap.size w V := by rw [hV]; exact (below_new _ _).alloc (by simp) _
  have m0 : Blk V w.heap.size #[Value.int .i64 s, Value.slice a nQ c, Value.slice a1 nM c1, Value.slice a2 nY c2, Value.slice a3 nG c3] 43 := by rw [hV]; exact Blk.new0.alloc
  have m1 : Blk V (w.heap.size + 1) #[Value.int .i64 s, Value.slice x nQ d, Value.slice x1 nM d1, Value.slice x2 nY d2, Value.slice x3 nG d3] 43 := by rw [hV]; exact Blk.new1
  clear hV
  refine (unhide E1 V b1).mono ?_
  rintro e w2 ⟨rfl, hb2⟩
  have b2 := b1.trans (hb2.mono b1.size)
  have m0' := m0.below hb2
  have m1' := m1.below hb2
  have p0 : w2.cell? ⟨w.heap.size, 2, none⟩ = some (.slice a1 nM c1) := m0'.cell 2 _ rfl
  have p1 : w2.cell? ⟨w.heap.size + 1, 2, none⟩ = some (.slice x1 nM d1) := m1'.cell 2 _ rfl
  clear m0 m1 hb2 b1
  go_wp2_with fail
  refine (unhide E2 w2 b2).mono ?_
  rintro e w3 ⟨rfl, hb3⟩
  have b3 := b2.trans (hb3.mono b2.size)
  have n0 := m0'.below hb3
  have n1 := m1'.below hb3
  have q0 : w3.cell? ⟨w.heap.size, 3, none⟩ = some (.slice a2 nY c2) := n0.cell 3 _ rfl
  have q1 : w3.cell? ⟨w.heap.size, 4, none⟩ = some (.slice a3 nG c3) := n0.cell 4 _ rfl
  have q2 : w3.cell? ⟨w.heap.size + 1, 3, none⟩ = some (.slice x2 nY d2) := n1.cell 3 _ rfl
  have q3 : w3.cell? ⟨w.heap.size + 1, 4, none⟩ = some (.slice x3 nG d3) := n1.cell 4 _ rfl
  clear p0 p1 m0' m1' hb3 b2
  go_wp2_with fail
  refine (unhide E3 w3 b3).mono ?_
  rintro e w4 ⟨rfl, hb4⟩
  have b4 := b3.trans (hb4.mono b3.size)
  clear q0 q1 q2 q3 hb4
  go_wp2_with fail
  go_ret
  exact ⟨rfl, b4⟩

theorem cells_cert : Try.prog.cellsOf 31 = 5 := by kernel_rfl

set_option maxRecDepth 100000 in
set_option maxHeartbeats 2000000 in
theorem toCert_gen (v : Value) (B : Nat) (s : Int) (Q : List EdgeI) (M : List CoupleI) (Y : List Int) (G : List GrpI) (hn : csize Q M Y G ≤ 1048576) (w : World) (hB : B ≤ w.heap.size) (hv : CeAt w v B s Q M Y G) :
    Calls Try.prog 7 #[v] w fun e w' => (∃ d, e = .returned d ∧ CeOwn w' w.heap.size d s Q M Y G) ∧ Below w.heap.size w w' := by
  obtain ⟨l1, l2, l3⟩ := csize_le hn
  obtain ⟨a, c, a1, c1, a2, c2, a3, c3, rfl, hg, hm, hp, hQ, hM⟩ := hv
  have T1 := hide (fun w1 (hb : Below w.heap.size w w1) => toGraph_any _ B s Q l1 w1 (by have := hb.size; omega) (hg.below hb hB))
  have T2 := hide (fun w1 (hb : Below w.heap.size w w1) => toCoupleS_gen _ B M l2 w1 (by have := hb.size; omega) (hm.below hb hB))
  have T3 := hide (fun w1 (hb : Below w.heap.size w w1) => toProof_own _ B Y G l3 w1 (by have := hb.size; omega) (hp.below hb hB))
  have HLN := hide hp.lens
  have HQM : Hid (Q.length ≤ 9223372036854775807 ∧ M.length ≤ 9223372036854775807) := ⟨hQ, hM⟩
  clear hg hm hp hQ hM
  have HSG : Hid (∀ (w' : World) lo v, GrOwn w' lo v s Q → ∃ x cx, v = .agg #[.int .i64 s, .slice x Q.length cx]) := fun w' lo v h => by obtain ⟨x, cx, e⟩ := h.at.shape; exact ⟨x, cx, e⟩
  have HSC : Hid (∀ (w' : World) lo v, CoOwn w' lo v M → ∃ x cx, v = .slice x M.length cx) := fun w' lo v h => h.at.shape
  have HSI : Hid (∀ (w' : World) lo v, InOwn w' lo v Y → ∃ x cx, v = .slice x Y.length cx) := fun w' lo v h => h.at.shape
  have HSS : Hid (∀ (w' : World) lo v, GsOwn w' lo v G → ∃ x cx, v = .slice x G.length cx) := fun w' lo v h => by obtain ⟨x, cx, e, _⟩ := h.at; exact ⟨x, cx, e⟩
  go_enter Try.func7, Try.ntmps7
  go_wp2_with fail
  obtain ⟨V, hV⟩ : ∃ W, W = ((w.alloc (Obj.cells #[Value.int .i64 s, Value.slice a Q.length c, Value.slice a1 M.length c1, Value.slice a2 Y.length c2, Value.slice a3 G.length c3] 31)).alloc (Obj.cells #[Value.int .i64 0, Value.slice none 0 0, Value.slice none 0 0, Value.slice none 0 0, Value.slice none 0 0] 43)).alloc (Obj.cells #[Value.int .i64 0, Value.slice none 0 0, Value.slice none 0 0, Value.slice none 0 0, Value.slice none 0 0] 43) := ⟨_, rfl⟩
  rw [← hV]
  have b1 : Below w.heap.size w V := by rw [hV]; exact ((below_new _ _).alloc (by simp) _).alloc (by simp; omega) _
  have m0 : Blk V w.heap.size #[Value.int .i64 s, Value.slice a Q.length c, Value.slice a1 M.length c1, Value.slice a2 Y.length c2, Value.slice a3 G.length c3] 31 := by rw [hV]; exact Blk.new0.alloc.alloc
  have m1 : Blk V (w.heap.size + 1) #[Value.int .i64 0, Value.slice none 0 0, Value.slice none 0 0, Value.slice none 0 0, Value.slice none 0 0] 43 := by rw [hV]; exact Blk.new1.alloc
  have m2 : Blk V (w.heap.size + 1 + 1) #[Value.int .i64 0, Value.slice none 0 0, Value.slice none 0 0, Value.slice none 0 0, Value.slice none 0 0] 43 := by rw [hV]; exact Blk.new2
  clear hV
  have z2 := m2.lt
  refine (unhide T1 V b1).mono ?_
  rintro e w2 ⟨⟨g, rfl, hO1⟩, hb2⟩
  obtain ⟨x, cx, rfl⟩ := unhide HSG _ _ _ hO1
  have b2 := b1.trans (hb2.mono b1.size)
  have n0 := m0.below hb2
  have n1 := m1.below hb2
  have n2 := m2.below hb2
  have k2 : Kept (fun g => g = w.heap.size + 1 + 1) w2 ((w2.setCell ⟨w.heap.size + 1 + 1, 0, none⟩ (.int .i64 s)).setCell ⟨w.heap.size + 1 + 1, 1, none⟩ (.slice x Q.length cx)) := (Kept.set (S := fun g => g = w.heap.size + 1 + 1) _ _ _ _ rfl).trans (Kept.set (S := fun g => g = w.heap.size + 1 + 1) _ _ _ _ rfl)
  have HO1 := hide (GrOwn.lower (C := w.heap.size + 1 + 1 + 1) (hO1.kept k2 (fun g hg hS => by have := (hO1.blk g hg).1; omega)) (by omega))
  have o0 := n0.kept k2 (by omega)
  have o1 := n1.kept k2 (by omega)
  have o2 : Blk ((w2.setCell ⟨w.heap.size + 1 + 1, 0, none⟩ (.int .i64 s)).setCell ⟨w.heap.size + 1 + 1, 1, none⟩ (.slice x Q.length cx)) (w.heap.size + 1 + 1) #[Value.int .i64 s, Value.slice x Q.length cx, Value.slice none 0 0, Value.slice none 0 0, Value.slice none 0 0] 43 := (n2.set 0 _).set 1 _
  have b2' : Below w.heap.size w ((w2.setCell ⟨w.heap.size + 1 + 1, 0, none⟩ (.int .i64 s)).setCell ⟨w.heap.size + 1 + 1, 1, none⟩ (.slice x Q.length cx)) := b2.trans (k2.below b2.size (fun i hi => by omega))
  have c2' : w2.cell? ⟨w.heap.size, 2, none⟩ = some (.slice a1 M.length c1) := n0.cell 2 _ rfl
  have e0 : w2.cell? ⟨w.heap.size + 1 + 1, 0, none⟩ = some (.int .i64 0) := n2.cell 0 _ rfl
  have e1 : w2.cell? ⟨w.heap.size + 1 + 1, 1, none⟩ = some (.slice none 0 0) := n2.cell 1 _ rfl
  have f2 := n2.froz
  clear m0 m1 m2 n0 n1 n2 hO1 hb2 k2
  go_wp2_with fail
  clear c2' e0 e1 f2
  generalize ((w2.setCell ⟨w.heap.size + 1 + 1, 0, none⟩ (.int .i64 s)).setCell ⟨w.heap.size + 1 + 1, 1, none⟩ (.slice x Q.length cx)) = V2 at HO1 o0 o1 o2 b2' ⊢
  have z3 := o2.lt
  refine (unhide T2 V2 b2').mono ?_
  rintro e w3 ⟨⟨m, rfl, hO2⟩, hb3⟩
  obtain ⟨y, cy, rfl⟩ := unhide HSC _ _ _ hO2
  have b3 := b2'.trans (hb3.mono b2'.size)
  have n0 := o0.below hb3
  have n1 := o1.below hb3
  have n2 := o2.below hb3
  have k3 : Kept (fun g => g = w.heap.size + 1 + 1) w3 (w3.setCell ⟨w.heap.size + 1 + 1, 2, none⟩ (.slice y M.length cy)) := Kept.set _ _ _ _ rfl
  have HO2 := hide (CoOwn.lower (C := w.heap.size + 1 + 1 + 1) (hO2.kept k3 (fun g hg hS => by have := (hO2.blk g hg).1; omega)) (by omega))
  have hO1' := (unhide HO1).below hb3
  have HO1 := hide (hO1'.kept k3 (fun g hg hS => by have := (hO1'.blk g hg).1; omega))
  have o0 := n0.kept k3 (by omega)
  have o1 := n1.kept k3 (by omega)
  have o2 : Blk (w3.setCell ⟨w.heap.size + 1 + 1, 2, none⟩ (.slice y M.length cy)) (w.heap.size + 1 + 1) #[Value.int .i64 s, Value.slice x Q.length cx, Value.slice y M.length cy, Value.slice none 0 0, Value.slice none 0 0] 43 := n2.set 2 _
  have b3' : Below w.heap.size w (w3.setCell ⟨w.heap.size + 1 + 1, 2, none⟩ (.slice y M.length cy)) := b3.trans (k3.below b3.size (fun i hi => by omega))
  have c3' : w3.cell? ⟨w.heap.size, 3, none⟩ = some (.slice a2 Y.length c2) := n0.cell 3 _ rfl
  have c4' : w3.cell? ⟨w.heap.size, 4, none⟩ = some (.slice a3 G.length c3) := n0.cell 4 _ rfl
  have e2 : w3.cell? ⟨w.heap.size + 1 + 1, 2, none⟩ = some (.slice none 0 0) := n2.cell 2 _ rfl
  have f2 := n2.froz
  clear n0 n1 n2 hO2 hO1' hb3 k3
  go_wp2_with fail
  clear c3' c4' e2 f2
  generalize (w3.setCell ⟨w.heap.size + 1 + 1, 2, none⟩ (.slice y M.length cy)) = V3 at HO1 HO2 o0 o1 o2 b3' ⊢
  have z4 := o2.lt
  refine (unhide T3 V3 b3').mono ?_
  rintro e w4 ⟨⟨vy, vg, rfl, hO3, hO4⟩, hb4⟩
  obtain ⟨u, cu, rfl⟩ := unhide HSI _ _ _ hO3
  obtain ⟨t, ct, rfl⟩ := unhide HSS _ _ _ hO4
  have b4 := b3'.trans (hb4.mono b3'.size)
  have n1 := o1.below hb4
  have n2 := o2.below hb4
  have hO1' := (unhide HO1).below hb4
  have hO2' := (unhide HO2).below hb4
  have hz4 := hb4.size
  have e3 : w4.cell? ⟨w.heap.size + 1 + 1, 3, none⟩ = some (.slice none 0 0) := n2.cell 3 _ rfl
  have e4 : w4.cell? ⟨w.heap.size + 1 + 1, 4, none⟩ = some (.slice none 0 0) := n2.cell 4 _ rfl
  have e0 : w4.cell? ⟨w.heap.size + 1 + 1, 0, none⟩ = some (.int .i64 s) := n2.cell 0 _ rfl
  have e1 : w4.cell? ⟨w.heap.size + 1 + 1, 1, none⟩ = some (.slice x Q.length cx) := n2.cell 1 _ rfl
  have e2 : w4.cell? ⟨w.heap.size + 1 + 1, 2, none⟩ = some (.slice y M.length cy) := n2.cell 2 _ rfl
  have r0 : w4.cell? ⟨w.heap.size + 1, 0, none⟩ = some (.int .i64 0) := n1.cell 0 _ rfl
  have r1 : w4.cell? ⟨w.heap.size + 1, 1, none⟩ = some (.slice none 0 0) := n1.cell 1 _ rfl
  have r2 : w4.cell? ⟨w.heap.size + 1, 2, none⟩ = some (.slice none 0 0) := n1.cell 2 _ rfl
  have r3 : w4.cell? ⟨w.heap.size + 1, 3, none⟩ = some (.slice none 0 0) := n1.cell 3 _ rfl
  have r4 : w4.cell? ⟨w.heap.size + 1, 4, none⟩ = some (.slice none 0 0) := n1.cell 4 _ rfl
  have f1 := n1.froz
  have f2 := n2.froz
  obtain ⟨W9, hW9⟩ : ∃ W, W = ((((((w4.setCell ⟨w.heap.size + 1 + 1, 3, none⟩ (.slice u Y.length cu)).setCell ⟨w.heap.size + 1 + 1, 4, none⟩ (.slice t G.length ct)).setCell ⟨w.heap.size + 1, 0, none⟩ (.int .i64 s)).setCell ⟨w.heap.size + 1, 1, none⟩ (.slice x Q.length cx)).setCell ⟨w.heap.size + 1, 2, none⟩ (.slice y M.length cy)).setCell ⟨w.heap.size + 1, 3, none⟩ (.slice u Y.length cu)).setCell ⟨w.heap.size + 1, 4, none⟩ (.slice t G.length ct) := ⟨_, rfl⟩
  have k9 : Kept (fun g => g = w.heap.size + 1 + 1 ∨ g = w.heap.size + 1) w4 W9 := by
    rw [hW9]
    exact ((((((Kept.set _ _ _ _ (Or.inl rfl)).trans (Kept.set _ _ _ _ (Or.inl rfl))).trans (Kept.set _ _ _ _ (Or.inr rfl))).trans (Kept.set _ _ _ _ (Or.inr rfl))).trans (Kept.set _ _ _ _ (Or.inr rfl))).trans (Kept.set _ _ _ _ (Or.inr rfl))).trans (Kept.set _ _ _ _ (Or.inr rfl))
  have HN : Hid (Blk W9 (w.heap.size + 1) #[.int .i64 s, .slice x Q.length cx, .slice y M.length cy, .slice u Y.length cu, .slice t G.length ct] 43) := by
    show Blk _ _ _ _
    rw [hW9]
    exact ((((((n1.set_other (by omega) _ _).set_other (by omega) _ _).set 0 _).set 1 _).set 2 _).set 3 _).set 4 _
  have HA1 := hide (hO1'.kept k9 (fun g hg hS => by have := (hO1'.blk g hg).1; omega))
  have HA2 := hide (hO2'.kept k9 (fun g hg hS => by have := (hO2'.blk g hg).1; omega))
  have HA3 := hide (hO3.kept k9 (fun g hg hS => by have := (hO3.blk g hg).1; omega))
  have HA4 := hide (hO4.kept k9 (fun g hg hS => by omega))
  have HB9 := hide (b4.trans (k9.below b4.size (fun i hi => by omega)))
  clear o0 o1 o2 n1 n2 hO1' hO2' hO3 hO4 hb4 k9 b4
  go_wp2_with fail
  (try simp only [Exit.inBlock, Exit.then])
  rw [← hW9]
  refine bodyPost_ret (results_cert Try.results7 _ _ (w.heap.size + 1) _ _ _ _ _ rfl (unhide HN)) rfl ?_
  exact ⟨⟨_, rfl, x, cx, y, cy, u, cu, t, ct, rfl, (unhide HA1).at, (unhide HA2).at, PrAt.of_own (unhide HA3) (unhide HA4) (unhide HLN), (unhide HQM).1, (unhide HQM).2⟩, unhide HB9⟩
end Gr
end Go.Proofs.Ytldbanpfhlmjmaa

/-
  A certificate that came in.
-/
namespace Go.Proofs.Ytldbanpfhlmjmaa
namespace Gr
open Go.ChangeShapes Go.WideShapes Go.ChangeAt Go.RowKit

theorem five_of {cs : Array Value} (h : cs.size = 5) : ∃ v0 v1 v2 v3 v4, cs = #[v0, v1, v2, v3, v4] := by
  obtain ⟨l⟩ := cs
  match l, h with
  | [v0, v1, v2, v3, v4], _ => exact ⟨v0, v1, v2, v3, v4, rfl⟩

theorem cells_couples : Try.prog.cellsOf 25 = 1 := by kernel_rfl

theorem cells_groups : Try.prog.cellsOf 27 = 1 := by kernel_rfl

theorem cells_edges : Try.prog.cellsOf 22 = 1 := by kernel_rfl

theorem cells_int1 : Try.prog.cellsOf 3 = 1 := by kernel_rfl

set_option maxRecDepth 100000 in
set_option maxHeartbeats 1000000 in
theorem cert_in {H : Type} {enc : TypeId × Value → H} {W : World} {r : Reach} {b0 : Nat} {v : Value} {d : DataW H} {p : List MemPlace}
    (hv : Value.okWide Try.prog W r b0 31 v) (h : DataW.Trod enc Try.prog W 0 (fun _ => true) true 31 v d p) : ∃ s Q M Y G, CeAt W v W.heap.size s Q M Y G ∧ csize Q M Y G ≤ 9223372036854775807 := by
  obtain ⟨cs, rfl, hsz⟩ := okWide_struct Try.underlying31 hv
  obtain ⟨v0, v1, v2, v3, v4, rfl⟩ := five_of (hsz.trans cells_cert)
  obtain ⟨fuel, hf⟩ := h
  obtain ⟨y0, y1, y2, n, _, _, h0, h1, h2⟩ := Deep.trod_struct3 Try.underlying31 hf
  simp [Value.cells, cells_graph, cells_couples, cells_proof] at h0 h1 h2
  obtain ⟨z0, z1, n1, _, _, g0, g1⟩ := trod_struct2 Try.underlying24 h0
  obtain ⟨z3, z4, n2, _, _, g3, g4⟩ := trod_struct2 Try.underlying29 h2
  simp [cells_int1, cells_edges] at g0 g1
  simp [cells_intS, cells_groups] at g3 g4
  obtain ⟨s, e0, _, _⟩ := DataW.trod_int Try.underlying3 g0
  simp at e0
  subst e0
  obtain ⟨a, k, c, Q, rfl, hQ, hQ1⟩ := edges_open g1
  obtain ⟨a1, k1, c1, M, rfl, hM, hM1⟩ := couples_open h1
  have hone : [v3] = v3.cells.toList := by
    rcases Deep.open_slice Try.underlying26 g3 with ⟨hcs, _⟩ | ⟨a, len, cap, m, n, D, Pl, hcs, _⟩
    · simp at hcs; subst hcs; rfl
    · simp at hcs; subst hcs; rfl
  rw [hone] at g3
  obtain ⟨a2, k2, c2, Y, hcs, hY, _, hn⟩ := ints_open (fun _ => rfl) g3
  rw [← hone] at hcs
  simp at hcs
  subst hcs
  obtain ⟨a3, k3, c3, G, rfl, hG, hG1, hG2⟩ := groups_open (fun _ => rfl) g4
  obtain rfl := hQ.1
  obtain rfl := hM.1
  obtain rfl := hY.1
  obtain rfl := hG.1
  refine ⟨s, Q, M, Y, G, ⟨a, c, a1, c1, a2, c2, a3, c3, rfl, ⟨a, _, c, rfl, hQ⟩, ⟨a1, c1, rfl, hM⟩, ⟨a2, _, c2, a3, _, c3, rfl, hY, hG, hn, hG1, hG2⟩, hQ1, hM1⟩, ?_⟩
  unfold csize
  omega
end Gr
end Go.Proofs.Ytldbanpfhlmjmaa

/-
  The contract of spec.CertText.
-/
namespace Go.Proofs.Ytldbanpfhlmjmaa
namespace Gr
open Go.RowKit

theorem lv_any (x : Int) (h0 : 0 ≤ x) (h1 : x ≤ 1000000000) (w : World) :
    Calls Try.prog 19 #[.int .i64 x] w fun e w' => e = .returned (.string (vB x)) ∧ Below w.heap.size w w' := by
  obtain ⟨n, rfl⟩ := Int.eq_ofNat_of_zero_le h0
  exact l01Var_any n (by omega) w

theorem memOk_at (s : Int) : ∀ (M : List Int) (p : Option Int), memOk s p M = true → ∀ x ∈ M, 0 ≤ x ∧ x ≤ s - 1
  | [], _, _, x, hx => by simp at hx
  | y :: r, p, h, x, hx => by
    unfold memOk at h
    simp only [Bool.and_eq_true, decide_eq_true_eq] at h
    rcases List.mem_cons.1 hx with rfl | hx
    · exact h.1
    · exact memOk_at s r _ h.2.2 x hx

theorem grpsOk_mem (s : Int) : ∀ (G D : List GrpI), grpsOk s D G = true → ∀ q ∈ G, ∀ x ∈ q.M, 0 ≤ x ∧ x ≤ s - 1
  | [], _, _, q, hq => by simp at hq
  | y :: r, D, h, q, hq => by
    unfold grpsOk at h
    simp only [Bool.and_eq_true] at h
    rcases List.mem_cons.1 hq with rfl | hq
    · exact memOk_at s _ none h.2.1
    · exact grpsOk_mem s r (D ++ [y]) h.2.2.2 q hq

/-- What stands in a certificate. -/
theorem cert_ranges {s : Int} {Q : List EdgeI} {M : List CoupleI} {Y : List Int} {G : List GrpI} (h : certR s Q M Y G = true) :
    0 ≤ s ∧ s ≤ 9 ∧ (∀ e ∈ Q, (0 ≤ e.A ∧ e.A ≤ 9) ∧ (0 ≤ e.B ∧ e.B ≤ 9) ∧ (0 ≤ e.W1 ∧ e.W1 ≤ 50) ∧ (0 ≤ e.W2 ∧ e.W2 ≤ 50) ∧ (0 ≤ e.W3 ∧ e.W3 ≤ 50)) ∧ M.length ≤ 9 ∧ (∀ x ∈ M, (0 ≤ x.A ∧ x.A ≤ 9) ∧ (0 ≤ x.B ∧ x.B ≤ 9)) ∧ Y.length ≤ 9 ∧ (∀ y ∈ Y, 0 ≤ y ∧ y ≤ 1000000000) ∧ G.length ≤ 8 ∧ (∀ q ∈ G, q.M.length ≤ 9 ∧ (∀ x ∈ q.M, 0 ≤ x ∧ x ≤ 9) ∧ 0 ≤ q.Z ∧ q.Z ≤ 1000000000) := by
  unfold certR at h
  simp only [Bool.and_eq_true] at h
  obtain ⟨hp, hm, _⟩ := h
  obtain ⟨hg, hYl, h9, h8, hY, hG⟩ := proof_sound hp
  obtain ⟨h0, _, hE, _⟩ := graph_sound hg
  obtain ⟨_, hM9, hmf⟩ := match_sound hm
  have hE' : ∀ e ∈ Q, (0 ≤ e.A ∧ e.A ≤ 9) ∧ (0 ≤ e.B ∧ e.B ≤ 9) ∧ (0 ≤ e.W1 ∧ e.W1 ≤ 50) ∧ (0 ≤ e.W2 ∧ e.W2 ≤ 50) ∧ (0 ≤ e.W3 ∧ e.W3 ≤ 50) := fun e he => by
    obtain ⟨x0, x1, x2, w1, w2, w3⟩ := (edgeOk_iff s e).1 (hE e he)
    exact ⟨by omega, by omega, worth_range w1, worth_range w2, worth_range w3⟩
  refine ⟨h0, h9, hE', hM9, fun x hx => ?_, by omega, hY, h8, fun q hq => ?_⟩
  · obtain ⟨i, hi, _, _, hh⟩ := edgeN_at (mFrom_at Q M none [] hmf x hx)
    have := hE' _ (List.getElem_mem hi)
    unfold hit at hh
    simp only [Bool.or_eq_true, Bool.and_eq_true, beq_iff_eq] at hh
    omega
  · obtain ⟨_, _, q3, q4, q5⟩ := (grpHead_iff s q).1 (hG q hq)
    unfold proofOk at hp
    simp only [Bool.and_eq_true] at hp
    refine ⟨by omega, fun x hx => ?_, by omega, q5⟩
    have := grpsOk_mem s G [] hp.2.2.2.2.1 q hq x hx
    omega

set_option maxRecDepth 100000 in
set_option maxHeartbeats 8000000 in
theorem specCertText_gen (B : Nat) (v : Value) (s : Int) (Q : List EdgeI) (M : List CoupleI) (Y : List Int) (G : List GrpI) (h1 : csize Q M Y G ≤ 1048576) (w : World) (hB : B ≤ w.heap.size) (hv : CeAt w v B s Q M Y G) :
    Calls Try.prog 6 #[v] w fun e w' => e = .returned (.tuple #[.string (certT s Q M Y G), .bool (certR s Q M Y G)]) ∧ Below w.heap.size w w' := by
  obtain ⟨l1, l2, l3⟩ := csize_le h1
  obtain ⟨a, c, a1, c1, a2, c2, a3, c3, rfl, hg, hm, hp, _⟩ := hv
  have CK := hide (fun w1 (hb : Below w.heap.size w w1) => specCert_gen B _ s Q _ M _ Y G l1 l2 l3 w1 (by have := hb.size; omega) (hg.below hb hB) (hm.below hb hB) (hp.below hb hB))
  have hV : certT s Q M Y G = if certR s Q M Y G = true then certB s Q M Y G else ⟨#[]⟩ := rfl
  have HRG : Hid (certR s Q M Y G = true → _) := fun h => cert_ranges h
  generalize certT s Q M Y G = V at hV ⊢
  have hCB : certB s Q M Y G = groupsB (intsB (couplesB (edgesB (vB s ++ vB (Q.length : Int)) Q ++ vB (M.length : Int)) M) Y ++ vB (G.length : Int)) G := rfl
  generalize certB s Q M Y G = CB at hV hCB
  generalize certR s Q M Y G = ok at CK hV HRG ⊢
  obtain ⟨_, n0, _, eg, hE⟩ := hg
  obtain ⟨_, _, em, hMC⟩ := hm
  obtain ⟨_, nY, _, _, nG, _, ep, hYA, hGA, _⟩ := hp
  simp at eg em ep
  obtain ⟨rfl, rfl, rfl⟩ := eg
  obtain ⟨rfl, rfl⟩ := em
  obtain ⟨⟨rfl, rfl, rfl⟩, rfl, rfl, rfl⟩ := ep
  have HCE := hide hE.2
  have HCM := hide hMC.2
  have HCY := hide hYA.2
  have HCG := hide hGA.2
  clear hE hMC hYA hGA h1 l2 l3
  go_enter Try.func6, Try.ntmps6
  go_wp2_with fail
  obtain ⟨W1, hW1⟩ : ∃ W, W = w.alloc (Obj.cells #[Value.int .i64 s, Value.slice a Q.length c, Value.slice a1 M.length c1, Value.slice a2 Y.length c2, Value.slice a3 G.length c3] 43) := ⟨_, rfl⟩
  rw [← hW1]
  have b1 : Below w.heap.size w W1 := by rw [hW1]; exact below_new _ _
  have m1 : Blk W1 w.heap.size #[Value.int .i64 s, Value.slice a Q.length c, Value.slice a1 M.length c1, Value.slice a2 Y.length c2, Value.slice a3 G.length c3] 43 := by rw [hW1]; exact Blk.new0
  clear hW1
  go_fit (unhide CK W1 b1)
  rintro e w2 ⟨rfl, hb2⟩
  have b2 := b1.trans (hb2.mono b1.size)
  have m2 := m1.below hb2
  have HM := hide m2
  have z2 := m2.lt
  clear m1 hb2 b1 CK
  cases ok with
  | false =>
    rw [if_neg (by simp)] at hV
    subst hV
    clear m2
    go_wp2_with fail
    go_ret2
    exact ⟨rfl, b2⟩
  | true =>
    rw [if_pos rfl] at hV
    subst hV
    obtain ⟨s0, s9, rE, rM9, rM, rY9, rY, rG8, rG⟩ := unhide HRG rfl
    have HRE := hide rE
    have HRM := hide rM
    have HRY := hide rY
    have HRGG := hide rG
    clear rE rM rY rG HRG
    have V0 := hide (fun w => lv_any s s0 (by omega) w)
    have V1 := hide (fun w => lv_any (Q.length : Int) (by omega) (by omega) w)
    have v0 := vB_size s
    have v1 := vB_size (Q.length : Int)
    have HB0 := hide hCB
    clear hCB
    obtain ⟨bs, hbs⟩ : ∃ x, x = vB s := ⟨_, rfl⟩
    obtain ⟨bq, hbq⟩ : ∃ x, x = vB (Q.length : Int) := ⟨_, rfl⟩
    rw [← hbs] at V0 v0 HB0
    rw [← hbq] at V1 v1 HB0
    clear hbs hbq
    have k0 : ∀ d : Grown w2.heap.size w2, d.w.cell? ⟨w.heap.size, 0, none⟩ = some (.int .i64 s) := fun d => d.cell z2 (m2.cell 0 _ rfl)
    have k1 : ∀ d : Grown w2.heap.size w2, d.w.cell? ⟨w.heap.size, 1, none⟩ = some (.slice a Q.length c) := fun d => d.cell z2 (m2.cell 1 _ rfl)
    have hz0 : ¬ 9223372036854775807 < bs.size + bq.size := by omega
    clear m2
    go_wp2_with fail
    refine wp_region_grown w2.heap.size (by kernel_rfl) (by kernel_rfl) ?_
    repeat (go_big_quiet_step (first
      | (go_at_call_of 19 (Value.int IntKind.i64 s); exact Calls.grown (Nat.le_refl _) (unhide V0 _))
      | (go_at_call 19; exact Calls.grown (Nat.le_refl _) (unhide V1 _))))
    refine wpQuiet_nil ?_
    rintro w5 ⟨d5, rfl⟩
    obtain ⟨W5, hb5⟩ := d5
    dsimp only
    clear k0 k1
    go_wp2_with fail
    obtain ⟨T1, hT1⟩ : ∃ x, x = edgesB (bs ++ bq) Q := ⟨_, rfl⟩
    rw [← hT1] at HB0
    have H1 : Hid (T1 = edgesB (bs ++ bq) (Q.drop 0)) := hT1
    have HS1 : Hid (∀ S j (h : j < Q.length), edgesB S (Q.drop j) = edgesB (((((S ++ vB Q[j].A) ++ vB Q[j].B) ++ vB Q[j].W1) ++ vB Q[j].W2) ++ vB Q[j].W3) (Q.drop (j + 1))) := fun S j h => by rw [drop_step Q j h]; rfl
    have HZ1 : Hid ((bs ++ bq).size ≤ 10) := by show _ ≤ _; rw [ByteArray.size_append]; omega
    clear hT1
    go_loopw [4, 5] (fun t i wr => ∃ (j : Nat) (S : ByteArray), i = .int .i64 (j : Int) ∧ t = .string S ∧ j ≤ Q.length ∧ S.size ≤ 10 + 25 * j ∧ Hid (T1 = edgesB S (Q.drop j)) ∧ Below w2.heap.size w2 wr) (fun _ i _ => Q.length - (intOf i).toNat)
    case atStart => exact ⟨0, bs ++ bq, rfl, rfl, Nat.zero_le _, unhide HZ1, unhide H1, hb5⟩
    case round =>
      obtain ⟨j, S, rfl, rfl, hj, hS, HT, hbr⟩ := hrel
      have hzr := hbr.size
      have bw := b2.trans (hbr.mono b2.size)
      have p1 : wr.cell? ⟨w.heap.size, 1, none⟩ = some (.slice a Q.length c) := ((unhide HM).below hbr).cell 1 _ rfl
      by_cases hlt : j < Q.length
      · obtain ⟨b, off, rfl, hbB, d0, d1, d2, d3, d4⟩ := unhide HCE j hlt
        have re := unhide HRE _ (List.getElem_mem hlt)
        have HT2 := hide ((unhide HT).trans (unhide HS1 S j hlt))
        generalize Q[j] = q at d0 d1 d2 d3 d4 re HT2
        obtain ⟨y0, y1, y2, y3, y4⟩ := q
        simp only at d0 d1 d2 d3 d4 re HT2
        rw [← bw.cell (p := ⟨b, off + j * 5, none⟩) (by simp; omega)] at d0
        rw [← bw.cell (p := ⟨b, off + j * 5 + 1, none⟩) (by simp; omega)] at d1
        rw [← bw.cell (p := ⟨b, off + j * 5 + 2, none⟩) (by simp; omega)] at d2
        rw [← bw.cell (p := ⟨b, off + j * 5 + 3, none⟩) (by simp; omega)] at d3
        rw [← bw.cell (p := ⟨b, off + j * 5 + 4, none⟩) (by simp; omega)] at d4
        have X0 := hide (fun w => lv_any y0 re.1.1 (by omega) w)
        have X1 := hide (fun w => lv_any y1 re.2.1.1 (by omega) w)
        have X2 := hide (fun w => lv_any y2 re.2.2.1.1 (by omega) w)
        have X3 := hide (fun w => lv_any y3 re.2.2.2.1.1 (by omega) w)
        have X4 := hide (fun w => lv_any y4 re.2.2.2.2.1 (by omega) w)
        have x0 := vB_size y0
        have x1 := vB_size y1
        have x2 := vB_size y2
        have x3 := vB_size y3
        have x4 := vB_size y4
        generalize vB y0 = g0 at X0 x0 HT2
        generalize vB y1 = g1 at X1 x1 HT2
        generalize vB y2 = g2 at X2 x2 HT2
        generalize vB y3 = g3 at X3 x3 HT2
        generalize vB y4 = g4 at X4 x4 HT2
        have u0 : ¬ 9223372036854775807 < S.size + g0.size := by omega
        have u1 : ¬ 9223372036854775807 < (S ++ g0).size + g1.size := by rw [ByteArray.size_append]; omega
        have u2 : ¬ 9223372036854775807 < ((S ++ g0) ++ g1).size + g2.size := by rw [ByteArray.size_append, ByteArray.size_append]; omega
        have u3 : ¬ 9223372036854775807 < (((S ++ g0) ++ g1) ++ g2).size + g3.size := by rw [ByteArray.size_append, ByteArray.size_append, ByteArray.size_append]; omega
        have u4 : ¬ 9223372036854775807 < ((((S ++ g0) ++ g1) ++ g2) ++ g3).size + g4.size := by rw [ByteArray.size_append, ByteArray.size_append, ByteArray.size_append, ByteArray.size_append]; omega
        have HU5 : Hid ((((((S ++ g0) ++ g1) ++ g2) ++ g3) ++ g4).size ≤ 10 + 25 * (j + 1)) := by show _ ≤ _; rw [ByteArray.size_append, ByteArray.size_append, ByteArray.size_append, ByteArray.size_append, ByteArray.size_append]; omega
        have hbl : b < wr.heap.size := by omega
        clear re
        go_wp2_with fail
        have bx : Below wr.heap.size wr (wr.alloc (Obj.cells #[Value.int .i64 y0, Value.int .i64 y1, Value.int .i64 y2, Value.int .i64 y3, Value.int .i64 y4] 58)) := below_new _ _
        have ux : Blk (wr.alloc (Obj.cells #[Value.int .i64 y0, Value.int .i64 y1, Value.int .i64 y2, Value.int .i64 y3, Value.int .i64 y4] 58)) wr.heap.size #[Value.int .i64 y0, Value.int .i64 y1, Value.int .i64 y2, Value.int .i64 y3, Value.int .i64 y4] 58 := Blk.new0
        generalize wr.alloc (Obj.cells #[Value.int .i64 y0, Value.int .i64 y1, Value.int .i64 y2, Value.int .i64 y3, Value.int .i64 y4] 58) = V3 at bx ux ⊢
        have zx := ux.lt
        have E0 : ∀ d : Grown V3.heap.size V3, d.w.cell? ⟨wr.heap.size, 0, none⟩ = some (.int .i64 y0) := fun d => d.cell zx (ux.cell 0 _ rfl)
        have E1 : ∀ d : Grown V3.heap.size V3, d.w.cell? ⟨wr.heap.size, 1, none⟩ = some (.int .i64 y1) := fun d => d.cell zx (ux.cell 1 _ rfl)
        have E2 : ∀ d : Grown V3.heap.size V3, d.w.cell? ⟨wr.heap.size, 2, none⟩ = some (.int .i64 y2) := fun d => d.cell zx (ux.cell 2 _ rfl)
        have E3 : ∀ d : Grown V3.heap.size V3, d.w.cell? ⟨wr.heap.size, 3, none⟩ = some (.int .i64 y3) := fun d => d.cell zx (ux.cell 3 _ rfl)
        have E4 : ∀ d : Grown V3.heap.size V3, d.w.cell? ⟨wr.heap.size, 4, none⟩ = some (.int .i64 y4) := fun d => d.cell zx (ux.cell 4 _ rfl)
        clear d0 d1 d2 d3 d4 p1
        refine wp_region_grown V3.heap.size (by kernel_rfl) (by kernel_rfl) ?_
        repeat (go_big_quiet_step (first
          | (go_at_call_of 19 (Value.int IntKind.i64 y0); exact Calls.grown (Nat.le_refl _) (unhide X0 _))
          | (go_at_call_of 19 (Value.int IntKind.i64 y1); exact Calls.grown (Nat.le_refl _) (unhide X1 _))
          | (go_at_call_of 19 (Value.int IntKind.i64 y2); exact Calls.grown (Nat.le_refl _) (unhide X2 _))
          | (go_at_call_of 19 (Value.int IntKind.i64 y3); exact Calls.grown (Nat.le_refl _) (unhide X3 _))
          | (go_at_call_of 19 (Value.int IntKind.i64 y4); exact Calls.grown (Nat.le_refl _) (unhide X4 _))))
        refine wpQuiet_nil ?_
        rintro w6 ⟨d6, rfl⟩
        clear E0 E1 E2 E3 E4
        go_wp2_with fail
        exact ⟨⟨j + 1, _, by go_num, rfl, by omega, unhide HU5, unhide HT2, hbr.trans ((bx.trans (d6.below.mono bx.size)).mono hbr.size)⟩, by simp [intOf]; omega⟩
      · obtain rfl : j = Q.length := by omega
        have hT : T1 = S := by rw [unhide HT, List.drop_length]; rfl
        rw [hT] at HB0
        clear hT HT H1 HS1
        have X0 := hide (fun w => lv_any (M.length : Int) (by omega) (by omega) w)
        have x0 := vB_size (M.length : Int)
        generalize vB (M.length : Int) = g0 at X0 x0 HB0
        have u0 : ¬ 9223372036854775807 < S.size + g0.size := by omega
        have p2 : wr.cell? ⟨w.heap.size, 2, none⟩ = some (.slice a1 M.length c1) := ((unhide HM).below hbr).cell 2 _ rfl
        go_wp2_with fail
        refine (unhide X0 _).mono ?_
        rintro e w6 ⟨rfl, hb6⟩
        have hb6' := hbr.trans (hb6.mono hbr.size)
        clear p1 p2
        go_wp2_with fail
        have HB6 := hide hb6'
        obtain ⟨S0, hS0⟩ : ∃ x, x = S ++ g0 := ⟨_, rfl⟩
        have hz6 : S0.size ≤ 30000000 := by rw [hS0, ByteArray.size_append]; omega
        rw [← hS0] at HB0 ⊢
        obtain ⟨T2, hT2⟩ : ∃ x, x = couplesB S0 M := ⟨_, rfl⟩
        rw [← hT2] at HB0
        have H2 : Hid (T2 = couplesB S0 (M.drop 0)) := hT2
        have HS2 : Hid (∀ S j (h : j < M.length), couplesB S (M.drop j) = couplesB ((S ++ vB M[j].A) ++ vB M[j].B) (M.drop (j + 1))) := fun S j h => by rw [drop_step M j h]; rfl
        clear hT2 hS0 hb6 hb6' bw hbr hzr u0 x0 X0 hS
        go_loopw [4, 7] (fun t i wr => ∃ (j : Nat) (S : ByteArray), i = .int .i64 (j : Int) ∧ t = .string S ∧ j ≤ M.length ∧ S.size ≤ 30000000 + 10 * j ∧ Hid (T2 = couplesB S (M.drop j)) ∧ Below w2.heap.size w2 wr) (fun _ i _ => M.length - (intOf i).toNat)
        case atStart => exact ⟨0, S0, rfl, rfl, Nat.zero_le _, hz6, unhide H2, unhide HB6⟩
        case round =>
          obtain ⟨j, S, rfl, rfl, hj, hS, HT, hbr⟩ := hrel
          have hzr := hbr.size
          have bw := b2.trans (hbr.mono b2.size)
          have p2 : wr.cell? ⟨w.heap.size, 2, none⟩ = some (.slice a1 M.length c1) := ((unhide HM).below hbr).cell 2 _ rfl
          by_cases hlt : j < M.length
          · obtain ⟨b, off, rfl, hbB, d0, d1⟩ := unhide HCM j hlt
            have re := unhide HRM _ (List.getElem_mem hlt)
            have HT2 := hide ((unhide HT).trans (unhide HS2 S j hlt))
            generalize M[j] = q at d0 d1 re HT2
            obtain ⟨y0, y1⟩ := q
            simp only at d0 d1 re HT2
            have X0 := hide (fun w => lv_any y0 re.1.1 (by omega) w)
            have X1 := hide (fun w => lv_any y1 re.2.1 (by omega) w)
            have x0 := vB_size y0
            have x1 := vB_size y1
            generalize vB y0 = g0 at X0 x0 HT2
            generalize vB y1 = g1 at X1 x1 HT2
            have u0 : ¬ 9223372036854775807 < S.size + g0.size := by omega
            have u1 : ¬ 9223372036854775807 < (S ++ g0).size + g1.size := by rw [ByteArray.size_append]; omega
            have HU5 : Hid (((S ++ g0) ++ g1).size ≤ 30000000 + 10 * (j + 1)) := by show _ ≤ _; rw [ByteArray.size_append, ByteArray.size_append]; omega
            have hjn : (j : Int) < ((M.length : Nat) : Int) := by omega
            have P2 : ∀ d : Grown wr.heap.size wr, d.w.cell? ⟨w.heap.size, 2, none⟩ = some (.slice (some ⟨b, off, none⟩) M.length c1) := fun d => d.cell (by omega) p2
            have E0 : ∀ d : Grown wr.heap.size wr, d.w.cell? ⟨b, off + j * 2, none⟩ = some (.int .i64 y0) := fun d => d.cell (by omega) ((bw.cell (p := ⟨b, off + j * 2, none⟩) (by simp; omega)).trans d0)
            have E1 : ∀ d : Grown wr.heap.size wr, d.w.cell? ⟨b, off + j * 2 + 1, none⟩ = some (.int .i64 y1) := fun d => d.cell (by omega) ((bw.cell (p := ⟨b, off + j * 2 + 1, none⟩) (by simp; omega)).trans d1)
            clear re d0 d1
            go_wp2_with fail
            clear p2
            refine wp_region_grown wr.heap.size (by kernel_rfl) (by kernel_rfl) ?_
            repeat (go_big_quiet_step (first
              | (go_at_call_of 19 (Value.int IntKind.i64 y0); exact Calls.grown (Nat.le_refl _) (unhide X0 _))
              | (go_at_call_of 19 (Value.int IntKind.i64 y1); exact Calls.grown (Nat.le_refl _) (unhide X1 _))))
            refine wpQuiet_nil ?_
            rintro w6 ⟨d6, rfl⟩
            clear P2 E0 E1
            go_wp2_with fail
            exact ⟨⟨j + 1, _, by go_num, rfl, by omega, unhide HU5, unhide HT2, hbr.trans (d6.below.mono hbr.size)⟩, by simp [intOf]; omega⟩
          · obtain rfl : j = M.length := by omega
            have hT : T2 = S := by rw [unhide HT, List.drop_length]; rfl
            rw [hT] at HB0
            clear hT HT H2 HS2
            go_wp2_with fail
            have HB7 := hide hbr
            obtain ⟨T3, hT3⟩ : ∃ x, x = intsB S Y := ⟨_, rfl⟩
            rw [← hT3] at HB0
            have H3 : Hid (T3 = intsB S (Y.drop 0)) := hT3
            have hz7 : S.size ≤ 31000000 := by omega
            have HS3 : Hid (∀ S j (h : j < Y.length), intsB S (Y.drop j) = intsB (S ++ vB Y[j]) (Y.drop (j + 1))) := fun S j h => by rw [drop_step Y j h]; rfl
            clear hT3 bw hbr hzr p2 hS
            go_loopw [4, 8] (fun t i wr => ∃ (j : Nat) (S : ByteArray), i = .int .i64 (j : Int) ∧ t = .string S ∧ j ≤ Y.length ∧ S.size ≤ 31000000 + 5 * j ∧ Hid (T3 = intsB S (Y.drop j)) ∧ Below w2.heap.size w2 wr) (fun _ i _ => Y.length - (intOf i).toNat)
            case atStart => exact ⟨0, S, rfl, rfl, Nat.zero_le _, hz7, unhide H3, unhide HB7⟩
            case round =>
              obtain ⟨j, S, rfl, rfl, hj, hS, HT, hbr⟩ := hrel
              have hzr := hbr.size
              have bw := b2.trans (hbr.mono b2.size)
              have p3 : wr.cell? ⟨w.heap.size, 3, none⟩ = some (.slice a2 Y.length c2) := ((unhide HM).below hbr).cell 3 _ rfl
              by_cases hlt : j < Y.length
              · obtain ⟨b, off, rfl, hbB, d0⟩ := unhide HCY j hlt
                rw [← bw.cell (p := ⟨b, off + j, none⟩) (by simp; omega)] at d0
                have re := unhide HRY _ (List.getElem_mem hlt)
                have HT2 := hide ((unhide HT).trans (unhide HS3 S j hlt))
                generalize Y[j] = y0 at d0 re HT2
                have X0 := hide (fun w => lv_any y0 re.1 re.2 w)
                have x0 := vB_size y0
                generalize vB y0 = g0 at X0 x0 HT2
                have u0 : ¬ 9223372036854775807 < S.size + g0.size := by omega
                have HU5 : Hid ((S ++ g0).size ≤ 31000000 + 5 * (j + 1)) := by show _ ≤ _; rw [ByteArray.size_append]; omega
                clear re
                go_wp2_with fail
                refine (unhide X0 _).mono ?_
                rintro e w6 ⟨rfl, hb6⟩
                have hb6' := hbr.trans (hb6.mono hbr.size)
                clear p3 d0
                go_wp2_with fail
                exact ⟨⟨j + 1, _, by go_num, rfl, by omega, unhide HU5, unhide HT2, hb6'⟩, by simp [intOf]; omega⟩
              · obtain rfl : j = Y.length := by omega
                have hT : T3 = S := by rw [unhide HT, List.drop_length]; rfl
                rw [hT] at HB0
                clear hT HT H3 HS3
                have X0 := hide (fun w => lv_any (G.length : Int) (by omega) (by omega) w)
                have x0 := vB_size (G.length : Int)
                generalize vB (G.length : Int) = g0 at X0 x0 HB0
                have u0 : ¬ 9223372036854775807 < S.size + g0.size := by omega
                have p4 : wr.cell? ⟨w.heap.size, 4, none⟩ = some (.slice a3 G.length c3) := ((unhide HM).below hbr).cell 4 _ rfl
                go_wp2_with fail
                refine (unhide X0 _).mono ?_
                rintro e w6 ⟨rfl, hb6⟩
                have hb6' := hbr.trans (hb6.mono hbr.size)
                clear p3 p4
                go_wp2_with fail
                have HB8 := hide hb6'
                obtain ⟨S8, hS8⟩ : ∃ x, x = S ++ g0 := ⟨_, rfl⟩
                have hz8 : S8.size ≤ 32000000 := by rw [hS8, ByteArray.size_append]; omega
                rw [← hS8] at HB0 ⊢
                have H4 : Hid (V = groupsB S8 (G.drop 0)) := unhide HB0
                have HS4 : Hid (∀ S j (h : j < G.length), groupsB S (G.drop j) = groupsB ((intsB (S ++ vB (G[j].M.length : Int)) G[j].M) ++ vB G[j].Z) (G.drop (j + 1))) := fun S j h => by rw [drop_step G j h]; rfl
                clear hS8 hb6 hb6' bw hbr hzr u0 x0 X0 hS HB0
                go_loopw [4, 9] (fun t i wr => ∃ (j : Nat) (S : ByteArray), i = .int .i64 (j : Int) ∧ t = .string S ∧ j ≤ G.length ∧ S.size ≤ 32000000 + 55 * j ∧ Hid (V = groupsB S (G.drop j)) ∧ Below w2.heap.size w2 wr) (fun _ i _ => G.length - (intOf i).toNat)
                case atStart => exact ⟨0, S8, rfl, rfl, Nat.zero_le _, hz8, unhide H4, unhide HB8⟩
                case round =>
                  obtain ⟨j, S, rfl, rfl, hj, hS, HT, hbr⟩ := hrel
                  have hzr := hbr.size
                  have bw := b2.trans (hbr.mono b2.size)
                  have p4 : wr.cell? ⟨w.heap.size, 4, none⟩ = some (.slice a3 G.length c3) := ((unhide HM).below hbr).cell 4 _ rfl
                  by_cases hlt : j < G.length
                  · obtain ⟨b, off, a5, c5, rfl, hbB, d0, d1, hIA⟩ := unhide HCG j hlt
                    rw [← bw.cell (p := ⟨b, off + j * 2, none⟩) (by simp; omega)] at d0
                    rw [← bw.cell (p := ⟨b, off + j * 2 + 1, none⟩) (by simp; omega)] at d1
                    obtain ⟨q9, qm, qz0, qz1⟩ := unhide HRGG _ (List.getElem_mem hlt)
                    have HT2 := hide ((unhide HT).trans (unhide HS4 S j hlt))
                    have HIA := hide hIA.2
                    generalize G[j] = q at d0 d1 q9 qm qz0 qz1 HT2 HIA
                    clear hIA
                    have HQM := hide qm
                    have X0 := hide (fun w => lv_any (q.M.length : Int) (by omega) (by omega) w)
                    have X9 := hide (fun w => lv_any q.Z qz0 qz1 w)
                    have x0 := vB_size (q.M.length : Int)
                    have x9 := vB_size q.Z
                    generalize vB (q.M.length : Int) = g0 at X0 x0 HT2
                    generalize vB q.Z = g9 at X9 x9 HT2
                    have u0 : ¬ 9223372036854775807 < S.size + g0.size := by omega
                    have hbl : b < wr.heap.size := by omega
                    clear qm
                    go_wp2_with fail
                    have bx : Below wr.heap.size wr (wr.alloc (Obj.cells #[Value.slice a5 q.M.length c5, Value.int .i64 q.Z] 62)) := below_new _ _
                    have ux : Blk (wr.alloc (Obj.cells #[Value.slice a5 q.M.length c5, Value.int .i64 q.Z] 62)) wr.heap.size #[Value.slice a5 q.M.length c5, Value.int .i64 q.Z] 62 := Blk.new0
                    generalize wr.alloc (Obj.cells #[Value.slice a5 q.M.length c5, Value.int .i64 q.Z] 62) = V3 at bx ux ⊢
                    refine (unhide X0 _).mono ?_
                    rintro e w6 ⟨rfl, hb6⟩
                    obtain ⟨N7, hN7⟩ : ∃ N, N = wr.heap.size := ⟨_, rfl⟩
                    have b6 := hbr.trans ((bx.trans (hb6.mono bx.size)).mono hbr.size)
                    have u6 := ux.below hb6
                    rw [← hN7] at u6 ⊢
                    have HU6 := hide u6
                    have HB6 := hide b6
                    have z6 := u6.lt
                    clear hN7 bx ux b6 u6 d0 d1 p4 hb6 bw hbr hzr hbl
                    go_wp2_with fail
                    obtain ⟨S9, hS9⟩ : ∃ x, x = S ++ g0 := ⟨_, rfl⟩
                    have hz9 : S9.size ≤ S.size + 5 := by rw [hS9, ByteArray.size_append]; omega
                    rw [← hS9] at HT2 ⊢
                    obtain ⟨T5, hT5⟩ : ∃ x, x = intsB S9 q.M := ⟨_, rfl⟩
                    rw [← hT5] at HT2
                    have H5 : Hid (T5 = intsB S9 (q.M.drop 0)) := hT5
                    have HS5 : Hid (∀ S k (h : k < q.M.length), intsB S (q.M.drop k) = intsB (S ++ vB q.M[k]) (q.M.drop (k + 1))) := fun S k h => by rw [drop_step q.M k h]; rfl
                    clear hT5 hS9 u0 x0 X0
                    go_loopw [4, 11] (fun t i wr => ∃ (k : Nat) (S' : ByteArray), i = .int .i64 (k : Int) ∧ t = .string S' ∧ k ≤ q.M.length ∧ S'.size ≤ S.size + 5 + 5 * k ∧ Hid (T5 = intsB S' (q.M.drop k)) ∧ Below w2.heap.size w2 wr ∧ Blk wr N7 #[Value.slice a5 q.M.length c5, Value.int .i64 q.Z] 62) (fun _ i _ => q.M.length - (intOf i).toNat)
                    case atStart => exact ⟨0, S9, rfl, rfl, Nat.zero_le _, hz9, unhide H5, unhide HB6, unhide HU6⟩
                    case round =>
                      obtain ⟨k, S', rfl, rfl, hk, hS', HT5, hbr, ur⟩ := hrel
                      have hzr := hbr.size
                      have bw := b2.trans (hbr.mono b2.size)
                      have p7 : wr.cell? ⟨N7, 0, none⟩ = some (.slice a5 q.M.length c5) := ur.cell 0 _ rfl
                      by_cases hlt5 : k < q.M.length
                      · obtain ⟨b', off', rfl, hbB', e0⟩ := unhide HIA k hlt5
                        rw [← bw.cell (p := ⟨b', off' + k, none⟩) (by simp; omega)] at e0
                        have re := unhide HQM _ (List.getElem_mem hlt5)
                        have HT6 := hide ((unhide HT5).trans (unhide HS5 S' k hlt5))
                        generalize q.M[k] = y0 at e0 re HT6
                        have X0 := hide (fun w => lv_any y0 re.1 (by omega) w)
                        have x0 := vB_size y0
                        generalize vB y0 = g1 at X0 x0 HT6
                        have u0 : ¬ 9223372036854775807 < S'.size + g1.size := by omega
                        have HU5 : Hid ((S' ++ g1).size ≤ S.size + 5 + 5 * (k + 1)) := by show _ ≤ _; rw [ByteArray.size_append]; omega
                        clear re
                        go_wp2_with fail
                        refine (unhide X0 _).mono ?_
                        rintro e w7 ⟨rfl, hb7⟩
                        have hb7' := hbr.trans (hb7.mono hbr.size)
                        have ur' := ur.below hb7
                        clear p7 e0
                        go_wp2_with fail
                        exact ⟨⟨k + 1, _, by go_num, rfl, by omega, unhide HU5, unhide HT6, hb7', ur'⟩, by simp [intOf]; omega⟩
                      · obtain rfl : k = q.M.length := by omega
                        have hT : T5 = S' := by rw [unhide HT5, List.drop_length]; rfl
                        rw [hT] at HT2
                        clear hT HT5 H5 HS5
                        have p8 : wr.cell? ⟨N7, 1, none⟩ = some (.int .i64 q.Z) := ur.cell 1 _ rfl
                        have u0 : ¬ 9223372036854775807 < S'.size + g9.size := by omega
                        have HU5 : Hid ((S' ++ g9).size ≤ 32000000 + 55 * (j + 1)) := by show _ ≤ _; rw [ByteArray.size_append]; omega
                        go_wp2_with fail
                        refine (unhide X9 _).mono ?_
                        rintro e w7 ⟨rfl, hb7⟩
                        have hb7' := hbr.trans (hb7.mono hbr.size)
                        clear p7 p8
                        go_wp2_with fail
                        exact ⟨⟨j + 1, _, by go_num, rfl, by omega, unhide HU5, unhide HT2, hb7'⟩, by simp [intOf]; omega⟩
                  · obtain rfl : j = G.length := by omega
                    have hT : V = S := by rw [unhide HT, List.drop_length]; rfl
                    subst hT
                    go_wp2_with fail
                    go_ret2
                    exact ⟨rfl, bw⟩
end Gr
end Go.Proofs.Ytldbanpfhlmjmaa

/-
  The numbers of a certificate's bytes, read one behind the other; what was written is read back. Without a program.
-/
namespace Go.Proofs.Ytldbanpfhlmjmaa
namespace Gr
open Go.RowKit

def rdEdges (t : ByteArray) : Nat → CS → List EdgeI × CS
  | 0, c => ([], c)
  | k + 1, c => if c.b = true then ([], c) else
    let a := rd t c
    let b := rd t a.2
    let d := rd t b.2
    let e := rd t d.2
    let f := rd t e.2
    let r := rdEdges t k f.2
    (⟨a.1, b.1, d.1, e.1, f.1⟩ :: r.1, r.2)

def rdCouples (t : ByteArray) : Nat → CS → List CoupleI × CS
  | 0, c => ([], c)
  | k + 1, c => if c.b = true then ([], c) else
    let a := rd t c
    let b := rd t a.2
    let r := rdCouples t k b.2
    (⟨a.1, b.1⟩ :: r.1, r.2)

def rdGroups (t : ByteArray) : Nat → CS → List GrpI × CS
  | 0, c => ([], c)
  | k + 1, c => if c.b = true then ([], c) else
    let a := rd t c
    let m := rdInts t (min a.1.toNat 100) a.2
    let z := rd t m.2
    let r := rdGroups t k z.2
    (⟨m.1, z.1⟩ :: r.1, r.2)

/-- What is read of a text. -/
structure RC where
  s : Int
  Q : List EdgeI
  M : List CoupleI
  Y : List Int
  G : List GrpI
  c : CS

def rdCert (t : ByteArray) : RC :=
  let s := rd t ⟨0, false⟩
  let n := rd t s.2
  let E := rdEdges t (min n.1.toNat 100) n.2
  let m := rd t E.2
  let M := rdCouples t (min m.1.toNat 100) m.2
  let Y := rdInts t (min s.1.toNat 100) M.2
  let g := rd t Y.2
  let G := rdGroups t (min g.1.toNat 100) g.2
  ⟨s.1, E.1, M.1, Y.1, G.1, G.2⟩

def RC.ok (x : RC) (t : ByteArray) : Bool := !x.c.b && (certR x.s x.Q x.M x.Y x.G && decide (certB x.s x.Q x.M x.Y x.G = t))

/-- What ReadCert tells. -/
def rcOk (t : ByteArray) : Bool := (rdCert t).ok t
def rcV (t : ByteArray) : RC := if rcOk t = true then rdCert t else ⟨0, [], [], [], [], ⟨0, false⟩⟩

def edgeL (e : EdgeI) : List UInt8 := vL e.A ++ (vL e.B ++ (vL e.W1 ++ (vL e.W2 ++ vL e.W3)))
def coupleL (x : CoupleI) : List UInt8 := vL x.A ++ vL x.B
def grpL (q : GrpI) : List UInt8 := vL (q.M.length : Int) ++ (q.M.flatMap vL ++ vL q.Z)

theorem edgesB_list : ∀ (Q : List EdgeI) (S : ByteArray), (edgesB S Q).data.toList = S.data.toList ++ Q.flatMap edgeL
  | [], S => by simp [edgesB]
  | e :: r, S => by
    rw [edgesB, edgesB_list r]
    simp only [app_list, vB_list, List.flatMap_cons, edgeL, List.append_assoc]

theorem couplesB_list : ∀ (Q : List CoupleI) (S : ByteArray), (couplesB S Q).data.toList = S.data.toList ++ Q.flatMap coupleL
  | [], S => by simp [couplesB]
  | e :: r, S => by
    rw [couplesB, couplesB_list r]
    simp only [app_list, vB_list, List.flatMap_cons, coupleL, List.append_assoc]

theorem intsB_list : ∀ (Q : List Int) (S : ByteArray), (intsB S Q).data.toList = S.data.toList ++ Q.flatMap vL
  | [], S => by simp [intsB]
  | e :: r, S => by
    rw [intsB, intsB_list r]
    simp only [app_list, vB_list, List.flatMap_cons, List.append_assoc]

theorem groupsB_list : ∀ (Q : List GrpI) (S : ByteArray), (groupsB S Q).data.toList = S.data.toList ++ Q.flatMap grpL
  | [], S => by simp [groupsB]
  | e :: r, S => by
    rw [groupsB, groupsB_list r]
    simp only [app_list, vB_list, intsB_list, List.flatMap_cons, grpL, List.append_assoc]

theorem certB_list (s : Int) (Q : List EdgeI) (M : List CoupleI) (Y : List Int) (G : List GrpI) :
    (certB s Q M Y G).data.toList = vL s ++ (vL (Q.length : Int) ++ (Q.flatMap edgeL ++ (vL (M.length : Int) ++ (M.flatMap coupleL ++ (Y.flatMap vL ++ (vL (G.length : Int) ++ G.flatMap grpL)))))) := by
  unfold certB
  simp only [groupsB_list, app_list, vB_list, intsB_list, couplesB_list, edgesB_list, List.append_assoc]

theorem edges_back (t : ByteArray) : ∀ (Q : List EdgeI) (p r : List UInt8), (∀ e ∈ Q, small e.A ∧ small e.B ∧ small e.W1 ∧ small e.W2 ∧ small e.W3) → t.data.toList = p ++ (Q.flatMap edgeL ++ r) → rdEdges t Q.length ⟨p.length, false⟩ = (Q, ⟨(p ++ Q.flatMap edgeL).length, false⟩)
  | [], p, r, _, _ => by simp [rdEdges]
  | e :: Q, p, r, h, ht => by
    obtain ⟨⟨a0, a1⟩, ⟨b0, b1⟩, ⟨c0, c1⟩, ⟨d0, d1⟩, ⟨e0, e1⟩⟩ := h e (by simp)
    rw [List.flatMap_cons] at ht
    simp only [edgeL, List.append_assoc] at ht
    have r1 := rd_back t p _ e.A a0 a1 ht
    have r2 := rd_back t (p ++ vL e.A) _ e.B b0 b1 (by rw [ht]; simp only [List.append_assoc] <;> rfl)
    have r3 := rd_back t (p ++ vL e.A ++ vL e.B) _ e.W1 c0 c1 (by rw [ht]; simp only [List.append_assoc] <;> rfl)
    have r4 := rd_back t (p ++ vL e.A ++ vL e.B ++ vL e.W1) _ e.W2 d0 d1 (by rw [ht]; simp only [List.append_assoc] <;> rfl)
    have r5 := rd_back t (p ++ vL e.A ++ vL e.B ++ vL e.W1 ++ vL e.W2) _ e.W3 e0 e1 (by rw [ht]; simp only [List.append_assoc] <;> rfl)
    have r6 := edges_back t Q (p ++ vL e.A ++ vL e.B ++ vL e.W1 ++ vL e.W2 ++ vL e.W3) r (fun x hx => h x (by simp [hx])) (by rw [ht]; simp only [List.append_assoc] <;> rfl)
    rw [List.length_cons, rdEdges, if_neg (by simp)]
    simp only [r1, r2, r3, r4, r5, r6]
    simp only [List.flatMap_cons, edgeL, List.append_assoc]

theorem couples_back (t : ByteArray) : ∀ (Q : List CoupleI) (p r : List UInt8), (∀ e ∈ Q, small e.A ∧ small e.B) → t.data.toList = p ++ (Q.flatMap coupleL ++ r) → rdCouples t Q.length ⟨p.length, false⟩ = (Q, ⟨(p ++ Q.flatMap coupleL).length, false⟩)
  | [], p, r, _, _ => by simp [rdCouples]
  | e :: Q, p, r, h, ht => by
    obtain ⟨⟨a0, a1⟩, ⟨b0, b1⟩⟩ := h e (by simp)
    rw [List.flatMap_cons] at ht
    simp only [coupleL, List.append_assoc] at ht
    have r1 := rd_back t p _ e.A a0 a1 ht
    have r2 := rd_back t (p ++ vL e.A) _ e.B b0 b1 (by rw [ht]; simp only [List.append_assoc] <;> rfl)
    have r6 := couples_back t Q (p ++ vL e.A ++ vL e.B) r (fun x hx => h x (by simp [hx])) (by rw [ht]; simp only [List.append_assoc] <;> rfl)
    rw [List.length_cons, rdCouples, if_neg (by simp)]
    simp only [r1, r2, r6]
    simp only [List.flatMap_cons, coupleL, List.append_assoc]

theorem min_nat (n : Nat) (h : n ≤ 100) : min ((n : Int).toNat) 100 = n := by omega

theorem groups_back (t : ByteArray) : ∀ (Q : List GrpI) (p r : List UInt8), (∀ q ∈ Q, q.M.length ≤ 100 ∧ (∀ x ∈ q.M, small x) ∧ small q.Z) → t.data.toList = p ++ (Q.flatMap grpL ++ r) → rdGroups t Q.length ⟨p.length, false⟩ = (Q, ⟨(p ++ Q.flatMap grpL).length, false⟩)
  | [], p, r, _, _ => by simp [rdGroups]
  | q :: Q, p, r, h, ht => by
    obtain ⟨hl, hm, z0, z1⟩ := h q (by simp)
    rw [List.flatMap_cons] at ht
    simp only [grpL, List.append_assoc] at ht
    have r1 := rd_back t p _ (q.M.length : Int) (by omega) (by omega) ht
    have r2 := ints_back t q.M (p ++ vL (q.M.length : Int)) _ hm (by rw [ht]; simp only [List.append_assoc] <;> rfl)
    have r3 := rd_back t (p ++ vL (q.M.length : Int) ++ q.M.flatMap vL) _ q.Z z0 z1 (by rw [ht]; simp only [List.append_assoc] <;> rfl)
    have r6 := groups_back t Q (p ++ vL (q.M.length : Int) ++ q.M.flatMap vL ++ vL q.Z) r (fun x hx => h x (by simp [hx])) (by rw [ht]; simp only [List.append_assoc] <;> rfl)
    rw [List.length_cons, rdGroups, if_neg (by simp)]
    simp only [r1, min_nat _ hl, r2, r3, r6]
    simp only [List.flatMap_cons, grpL, List.append_assoc]

theorem few_of (hi : Int) : ∀ (L : List Int) (lo : Int), L.Pairwise (· < ·) → (∀ x ∈ L, lo ≤ x ∧ x < hi) → (L.length : Int) ≤ max 0 (hi - lo)
  | [], lo, _, _ => by simp; omega
  | x :: r, lo, h, hb => by
    have h1 := List.pairwise_cons.1 h
    have h2 := hb x (by simp)
    have h3 := few_of hi r (x + 1) h1.2 (fun y hy => ⟨by have := h1.1 y hy; omega, (hb y (by simp [hy])).2⟩)
    rw [List.length_cons]
    omega

theorem edges_few {s : Int} {Q : List EdgeI} (h : graphOk s Q = true) : Q.length ≤ 81 := by
  obtain ⟨h0, h9, hE, hP⟩ := graph_sound h
  have h1 : (Q.map fun e => e.A * 9 + e.B).Pairwise (· < ·) := by
    rw [List.pairwise_map]
    refine List.Pairwise.imp_of_mem ?_ hP
    intro a b ha hb hab
    have a1 := (edgeOk_iff s a).1 (hE a ha)
    have b1 := (edgeOk_iff s b).1 (hE b hb)
    rcases (ahead_iff a b).1 hab with h | ⟨h, h'⟩ <;> omega
  have h2 := few_of 81 _ 0 h1 (fun x hx => by
    obtain ⟨e, he, rfl⟩ := List.mem_map.1 hx
    have a1 := (edgeOk_iff s e).1 (hE e he)
    omega)
  rw [List.length_map] at h2
  omega

theorem cert_sizes {s : Int} {Q : List EdgeI} {M : List CoupleI} {Y : List Int} {G : List GrpI} (h : certR s Q M Y G = true) : (Y.length : Int) = s ∧ Q.length ≤ 81 := by
  unfold certR at h
  simp only [Bool.and_eq_true] at h
  have hp := proof_sound h.1
  exact ⟨hp.2.1, edges_few hp.1⟩

theorem rdCert_back {s : Int} {Q : List EdgeI} {M : List CoupleI} {Y : List Int} {G : List GrpI} (h : certR s Q M Y G = true) :
    rdCert (certB s Q M Y G) = ⟨s, Q, M, Y, G, ⟨(certB s Q M Y G).size, false⟩⟩ := by
  obtain ⟨s0, s9, rE, rM9, rM, rY9, rY, rG8, rG⟩ := cert_ranges h
  obtain ⟨hY, hQ'⟩ := cert_sizes h
  have hQ : Q.length ≤ 100 := by omega
  generalize ht : certB s Q M Y G = t
  have hl := certB_list s Q M Y G
  rw [ht] at hl
  have q1 := rd_back t [] _ s s0 (by omega) hl
  have q2 := rd_back t ([] ++ vL s) _ (Q.length : Int) (by omega) (by omega) (by rw [hl]; simp only [List.nil_append] <;> rfl)
  have q3 := edges_back t Q ([] ++ vL s ++ vL (Q.length : Int)) _ (fun e he => by obtain ⟨a, b, c, d, f⟩ := rE e he; exact ⟨⟨a.1, by omega⟩, ⟨b.1, by omega⟩, ⟨c.1, by omega⟩, ⟨d.1, by omega⟩, ⟨f.1, by omega⟩⟩) (by rw [hl]; simp only [List.append_assoc, List.nil_append] <;> rfl)
  have q4 := rd_back t ([] ++ vL s ++ vL (Q.length : Int) ++ Q.flatMap edgeL) _ (M.length : Int) (by omega) (by omega) (by rw [hl]; simp only [List.append_assoc, List.nil_append] <;> rfl)
  have q5 := couples_back t M ([] ++ vL s ++ vL (Q.length : Int) ++ Q.flatMap edgeL ++ vL (M.length : Int)) _ (fun e he => by obtain ⟨a, b⟩ := rM e he; exact ⟨⟨a.1, by omega⟩, ⟨b.1, by omega⟩⟩) (by rw [hl]; simp only [List.append_assoc, List.nil_append] <;> rfl)
  have q6 := ints_back t Y ([] ++ vL s ++ vL (Q.length : Int) ++ Q.flatMap edgeL ++ vL (M.length : Int) ++ M.flatMap coupleL) _ (fun e he => rY e he) (by rw [hl]; simp only [List.append_assoc, List.nil_append] <;> rfl)
  have q7 := rd_back t ([] ++ vL s ++ vL (Q.length : Int) ++ Q.flatMap edgeL ++ vL (M.length : Int) ++ M.flatMap coupleL ++ Y.flatMap vL) _ (G.length : Int) (by omega) (by omega) (by rw [hl]; simp only [List.append_assoc, List.nil_append] <;> rfl)
  have q8 := groups_back t G ([] ++ vL s ++ vL (Q.length : Int) ++ Q.flatMap edgeL ++ vL (M.length : Int) ++ M.flatMap coupleL ++ Y.flatMap vL ++ vL (G.length : Int)) [] (fun q hq => by obtain ⟨a, b, c, d⟩ := rG q hq; exact ⟨by omega, fun x hx => ⟨(b x hx).1, by have := (b x hx).2; omega⟩, c, d⟩) (by rw [hl]; simp only [List.append_assoc, List.nil_append, List.append_nil])
  have hsz : t.size = ([] ++ vL s ++ vL (Q.length : Int) ++ Q.flatMap edgeL ++ vL (M.length : Int) ++ M.flatMap coupleL ++ Y.flatMap vL ++ vL (G.length : Int) ++ G.flatMap grpL).length := by
    have : t.size = t.data.toList.length := by simp
    rw [this, hl]
    simp only [List.append_assoc, List.nil_append]
  have e1 : min s.toNat 100 = Y.length := by omega
  unfold rdCert
  simp only [List.length_nil] at q1
  simp only [q1, q2, min_nat _ hQ, q3, q4, min_nat _ (show M.length ≤ 100 by omega), q5, e1, q6, q7, min_nat _ (show G.length ≤ 100 by omega), q8, ← hsz]

/-- What ReadCert takes is the text of a certificate, and of each one its text is taken. -/
theorem rc_of {s : Int} {Q : List EdgeI} {M : List CoupleI} {Y : List Int} {G : List GrpI} (h : certR s Q M Y G = true) :
    rcOk (certB s Q M Y G) = true ∧ rcV (certB s Q M Y G) = ⟨s, Q, M, Y, G, ⟨(certB s Q M Y G).size, false⟩⟩ := by
  have e := rdCert_back h
  have h1 : rcOk (certB s Q M Y G) = true := by
    unfold rcOk RC.ok
    rw [e]
    simp [h]
  exact ⟨h1, by unfold rcV; rw [if_pos h1, e]⟩

theorem rc_is {t : ByteArray} (h : rcOk t = true) : certR (rcV t).s (rcV t).Q (rcV t).M (rcV t).Y (rcV t).G = true ∧ certB (rcV t).s (rcV t).Q (rcV t).M (rcV t).Y (rcV t).G = t := by
  have e : rcV t = rdCert t := by unfold rcV; rw [if_pos h]
  rw [e]
  unfold rcOk RC.ok at h
  simp only [Bool.and_eq_true, decide_eq_true_eq] at h
  exact h.2

end Gr
end Go.Proofs.Ytldbanpfhlmjmaa
