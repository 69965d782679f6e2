/-
  Texts of this claim, one behind the other: GrCert0, GrCert1, GrCert2, GrCert3, GrCert4.
-/
import Derived.Test.YtalmbdfcpnkkpaaJ23
import Derived.Test.YtalmbdfcpnkkpaaJ25
import Derived.Laws.EntriesVeiled
import Derived.Deep.DeepFit

/-
  The bytes of a certificate.
-/
namespace Go.Proofs.Ytalmbdfcpnkkpaa
namespace Gr
open Go.RowKit

def edgesB : ByteArray → List EdgeI → ByteArray
  | s, [] => s
  | s, e :: r => edgesB (((((s ++ vB e.A) ++ vB e.B) ++ vB e.W1) ++ vB e.W2) ++ vB e.W3) r

def couplesB : ByteArray → List CoupleI → ByteArray
  | s, [] => s
  | s, x :: r => couplesB ((s ++ vB x.A) ++ vB x.B) r

def intsB : ByteArray → List Int → ByteArray
  | s, [] => s
  | s, x :: r => intsB (s ++ vB x) r

def groupsB : ByteArray → List GrpI → ByteArray
  | s, [] => s
  | s, q :: r => groupsB ((intsB (s ++ vB (q.M.length : Int)) q.M) ++ vB q.Z) r

/-- The bytes of a certificate. -/
def certB (s : Int) (Q : List EdgeI) (M : List CoupleI) (Y : List Int) (G : List GrpI) : ByteArray :=
  groupsB (intsB (couplesB (edgesB (vB s ++ vB (Q.length : Int)) Q ++ vB (M.length : Int)) M) Y ++ vB (G.length : Int)) G

/-- What CertText tells. -/
def certT (s : Int) (Q : List EdgeI) (M : List CoupleI) (Y : List Int) (G : List GrpI) : ByteArray := if certR s Q M Y G = true then certB s Q M Y G else ⟨#[]⟩

/-- A certificate that can be read. -/
def CeAt (w : World) (v : Value) (B : Nat) (s : Int) (Q : List EdgeI) (M : List CoupleI) (Y : List Int) (G : List GrpI) : Prop :=
  ∃ a c a1 c1 a2 c2 a3 c3, v = .agg #[.int .i64 s, .slice a Q.length c, .slice a1 M.length c1, .slice a2 Y.length c2, .slice a3 G.length c3] ∧ GrAt w (.agg #[.int .i64 s, .slice a Q.length c]) B s Q ∧ CoAt w (.slice a1 M.length c1) B M ∧ PrAt w (.agg #[.slice a2 Y.length c2, .slice a3 G.length c3]) B Y G ∧ Q.length ≤ 9223372036854775807 ∧ M.length ≤ 9223372036854775807

theorem CeAt.below {w w' : World} {v : Value} {B C : Nat} {s : Int} {Q : List EdgeI} {M : List CoupleI} {Y : List Int} {G : List GrpI} (h : CeAt w v B s Q M Y G) (hb : Below C w w') (hC : B ≤ C) : CeAt w' v B s Q M Y G := by
  obtain ⟨a, c, a1, c1, a2, c2, a3, c3, rfl, h1, h2, h3, h4, h5⟩ := h
  exact ⟨a, c, a1, c1, a2, c2, a3, c3, rfl, h1.below hb hC, h2.below hb hC, h3.below hb hC, h4, h5⟩

theorem CeAt.mono {w : World} {v : Value} {B C : Nat} {s : Int} {Q : List EdgeI} {M : List CoupleI} {Y : List Int} {G : List GrpI} (h : CeAt w v B s Q M Y G) (hC : B ≤ C) : CeAt w v C s Q M Y G := by
  obtain ⟨a, c, a1, c1, a2, c2, a3, c3, rfl, h1, h2, h3, h4, h5⟩ := h
  exact ⟨a, c, a1, c1, a2, c2, a3, c3, rfl, h1.mono hC, h2.mono hC, h3.mono hC, h4, h5⟩

theorem CeAt.shape {w : World} {v : Value} {B : Nat} {s : Int} {Q : List EdgeI} {M : List CoupleI} {Y : List Int} {G : List GrpI} (h : CeAt w v B s Q M Y G) :
    ∃ a c a1 c1 a2 c2 a3 c3, v = .agg #[.int .i64 s, .slice a Q.length c, .slice a1 M.length c1, .slice a2 Y.length c2, .slice a3 G.length c3] := by
  obtain ⟨a, c, a1, c1, a2, c2, a3, c3, rfl, _⟩ := h
  exact ⟨a, c, a1, c1, a2, c2, a3, c3, rfl⟩

def CeOwn (w : World) (_B : Nat) (v : Value) (s : Int) (Q : List EdgeI) (M : List CoupleI) (Y : List Int) (G : List GrpI) : Prop := CeAt w v w.heap.size s Q M Y G

theorem CeOwn.at {w : World} {B : Nat} {v : Value} {s : Int} {Q : List EdgeI} {M : List CoupleI} {Y : List Int} {G : List GrpI} (h : CeOwn w B v s Q M Y G) : CeAt w v w.heap.size s Q M Y G := h

theorem CeOwn.below {w w' : World} {B : Nat} {v : Value} {s : Int} {Q : List EdgeI} {M : List CoupleI} {Y : List Int} {G : List GrpI} (h : CeOwn w B v s Q M Y G) (hb : Below w.heap.size w w') : CeOwn w' B v s Q M Y G := (CeAt.below h hb (Nat.le_refl _)).mono hb.size

def csize (Q : List EdgeI) (M : List CoupleI) (Y : List Int) (G : List GrpI) : Nat := min (Q.length + (M.length + psize Y G)) 9223372036854775807

theorem csize_le {Q : List EdgeI} {M : List CoupleI} {Y : List Int} {G : List GrpI} (h : csize Q M Y G ≤ 1048576) : Q.length ≤ 1048576 ∧ M.length ≤ 1048576 ∧ psize Y G ≤ 1048576 := by
  unfold csize at h
  omega
end Gr
end Go.Proofs.Ytalmbdfcpnkkpaa

/-
  The kind of Cert: sizes, copies, equal ones, what came in.
-/
namespace Go.Proofs.Ytalmbdfcpnkkpaa
namespace Gr
open Go.ChangeShapes Go.WideShapes Go.ChangeAt Go.RowKit

end Gr
end Go.Proofs.Ytalmbdfcpnkkpaa

/-
  Copies of certificates; equal ones; what came in.
-/
namespace Go.Proofs.Ytalmbdfcpnkkpaa
namespace Gr
open Go.ChangeShapes Go.WideShapes Go.ChangeAt Go.RowKit

theorem results_cert {fn : Func} {p : Tmp} (h : fn.results = #[.cell p 31]) (tmps : Array Value) (w : World) (g : Nat) (x0 x1 x2 x3 x4 : Value) (hp : tmps.getD p undef = .pointer (some ⟨g, 0, none⟩)) (hg : Blk w g #[x0, x1, x2, x3, x4] 31) :
    (results fn tmps).run Try.prog w = .ok (.agg #[x0, x1, x2, x3, x4]) w := by
  have c0 := hg.cell 0 x0 rfl
  have c1 := hg.cell 1 x1 rfl
  have c2 := hg.cell 2 x2 rfl
  have c3 := hg.cell 3 x3 rfl
  have c4 := hg.cell 4 x4 rfl
  have hp' : tmps[p]?.getD undef = .pointer (some ⟨g, 0, none⟩) := by simpa using hp
  simp [results, h, hp', go_sem, c0, c1, c2, c3, c4]

set_option maxRecDepth 100000 in
set_option maxHeartbeats 2000000 in
theorem eqCert_gen (v u : Value) (B B' : Nat) (s : Int) (Q : List EdgeI) (M : List CoupleI) (Y : List Int) (G : List GrpI) (hn : csize Q M Y G ≤ 1048576) (w : World) (hB : B ≤ w.heap.size) (hB' : B' ≤ w.heap.size) (hv : CeAt w v B s Q M Y G) (hu : CeAt w u B' s Q M Y G) :
    Calls Try.prog 6 #[v, u] w fun e w' => e = .returned (.bool true) ∧ Below w.heap.size w w' := by
  obtain ⟨l1, l2, l3⟩ := csize_le hn
  obtain ⟨a, c, a1, c1, a2, c2, a3, c3, rfl, hg, hm, hp, _⟩ := hv.mono hB
  obtain ⟨x, d, x1, d1, x2, d2, x3, d3, rfl, hg', hm', hp', _⟩ := hu.mono hB'
  have E1 := hide (fun w1 (hb : Below w.heap.size w w1) => eqGraph_same _ _ w.heap.size w.heap.size s Q l1 w1 hb.size hb.size (hg.below hb (Nat.le_refl _)) (hg'.below hb (Nat.le_refl _)))
  have E2 := hide (fun w1 (hb : Below w.heap.size w w1) => eqCoupleS_gen _ _ w.heap.size w.heap.size M l2 w1 hb.size hb.size (hm.below hb (Nat.le_refl _)) (hm'.below hb (Nat.le_refl _)))
  have E3 := hide (fun w1 (hb : Below w.heap.size w w1) => eqProof_gen _ _ w.heap.size w.heap.size Y G l3 w1 hb.size hb.size (hp.below hb (Nat.le_refl _)) (hp'.below hb (Nat.le_refl _)))
  clear hg hm hp hg' hm' hp' l1 l2 l3 hn hv hu
  generalize Q.length = nQ at E1 E2 E3
  generalize M.length = nM at E1 E2 E3
  generalize Y.length = nY at E1 E2 E3
  generalize G.length = nG at E1 E2 E3
  go_enter Try.func6, Try.ntmps6
  go_wp2_with fail
  obtain ⟨V, hV⟩ : ∃ W, W = (w.alloc (Obj.cells #[Value.int .i64 s, Value.slice a nQ c, Value.slice a1 nM c1, Value.slice a2 nY c2, Value.slice a3 nG c3] 31)).alloc (Obj.cells #[Value.int .i64 s, Value.slice x nQ d, Value.slice x1 nM d1, Value.slice x2 nY d2, Value.slice x3 nG d3] 31) := ⟨_, rfl⟩
  rw [← hV]
  have b1 : Below w.heap.size w V := by rw [hV]; exact (below_new _ _).alloc (by simp) _
  have m0 : Blk V w.heap.size #[Value.int .i64 s, Value.slice a nQ c, Value.slice a1 nM c1, Value.slice a2 nY c2, Value.slice a3 nG c3] 31 := by rw [hV]; exact Blk.new0.alloc
  have m1 : Blk V (w.heap.size + 1) #[Value.int .i64 s, Value.slice x nQ d, Value.slice x1 nM d1, Value.slice x2 nY d2, Value.slice x3 nG d3] 31 := by rw [hV]; exact Blk.new1
  clear hV
  refine (unhide E1 V b1).mono ?_
  rintro e w2 ⟨rfl, hb2⟩
  have b2 := b1.trans (hb2.mono b1.size)
  have m0' := m0.below hb2
  have m1' := m1.below hb2
  have p0 : w2.cell? ⟨w.heap.size, 2, none⟩ = some (.slice a1 nM c1) := m0'.cell 2 _ rfl
  have p1 : w2.cell? ⟨w.heap.size + 1, 2, none⟩ = some (.slice x1 nM d1) := m1'.cell 2 _ rfl
  clear m0 m1 hb2 b1
  go_wp2_with fail
  refine (unhide E2 w2 b2).mono ?_
  rintro e w3 ⟨rfl, hb3⟩
  have b3 := b2.trans (hb3.mono b2.size)
  have n0 := m0'.below hb3
  have n1 := m1'.below hb3
  have q0 : w3.cell? ⟨w.heap.size, 3, none⟩ = some (.slice a2 nY c2) := n0.cell 3 _ rfl
  have q1 : w3.cell? ⟨w.heap.size, 4, none⟩ = some (.slice a3 nG c3) := n0.cell 4 _ rfl
  have q2 : w3.cell? ⟨w.heap.size + 1, 3, none⟩ = some (.slice x2 nY d2) := n1.cell 3 _ rfl
  have q3 : w3.cell? ⟨w.heap.size + 1, 4, none⟩ = some (.slice x3 nG d3) := n1.cell 4 _ rfl
  clear p0 p1 m0' m1' hb3 b2
  go_wp2_with fail
  refine (unhide E3 w3 b3).mono ?_
  rintro e w4 ⟨rfl, hb4⟩
  have b4 := b3.trans (hb4.mono b3.size)
  clear q0 q1 q2 q3 hb4
  go_wp2_with fail
  go_ret
  exact ⟨rfl, b4⟩

end Gr
end Go.Proofs.Ytalmbdfcpnkkpaa

/-
  A certificate that came in.
-/
namespace Go.Proofs.Ytalmbdfcpnkkpaa
namespace Gr
open Go.ChangeShapes Go.WideShapes Go.ChangeAt Go.RowKit

theorem five_of {cs : Array Value} (h : cs.size = 5) : ∃ v0 v1 v2 v3 v4, cs = #[v0, v1, v2, v3, v4] := by
  obtain ⟨l⟩ := cs
  match l, h with
  | [v0, v1, v2, v3, v4], _ => exact ⟨v0, v1, v2, v3, v4, rfl⟩

theorem cells_int1 : Try.prog.cellsOf 3 = 1 := by kernel_rfl

end Gr
end Go.Proofs.Ytalmbdfcpnkkpaa

/-
  The contract of spec.CertText.
-/
namespace Go.Proofs.Ytalmbdfcpnkkpaa
namespace Gr
open Go.RowKit

theorem lv_any (x : Int) (h0 : 0 ≤ x) (h1 : x ≤ 1000000000) (w : World) :
    Calls Try.prog 26 #[.int .i64 x] w fun e w' => e = .returned (.string (vB x)) ∧ Below w.heap.size w w' := by
  obtain ⟨n, rfl⟩ := Int.eq_ofNat_of_zero_le h0
  exact l01Var_any n (by omega) w

theorem memOk_at (s : Int) : ∀ (M : List Int) (p : Option Int), memOk s p M = true → ∀ x ∈ M, 0 ≤ x ∧ x ≤ s - 1
  | [], _, _, x, hx => by simp at hx
  | y :: r, p, h, x, hx => by
    unfold memOk at h
    simp only [Bool.and_eq_true, decide_eq_true_eq] at h
    rcases List.mem_cons.1 hx with rfl | hx
    · exact h.1
    · exact memOk_at s r _ h.2.2 x hx

theorem grpsOk_mem (s : Int) : ∀ (G D : List GrpI), grpsOk s D G = true → ∀ q ∈ G, ∀ x ∈ q.M, 0 ≤ x ∧ x ≤ s - 1
  | [], _, _, q, hq => by simp at hq
  | y :: r, D, h, q, hq => by
    unfold grpsOk at h
    simp only [Bool.and_eq_true] at h
    rcases List.mem_cons.1 hq with rfl | hq
    · exact memOk_at s _ none h.2.1
    · exact grpsOk_mem s r (D ++ [y]) h.2.2.2 q hq

/-- What stands in a certificate. -/
theorem cert_ranges {s : Int} {Q : List EdgeI} {M : List CoupleI} {Y : List Int} {G : List GrpI} (h : certR s Q M Y G = true) :
    0 ≤ s ∧ s ≤ 9 ∧ (∀ e ∈ Q, (0 ≤ e.A ∧ e.A ≤ 9) ∧ (0 ≤ e.B ∧ e.B ≤ 9) ∧ (0 ≤ e.W1 ∧ e.W1 ≤ 50) ∧ (0 ≤ e.W2 ∧ e.W2 ≤ 50) ∧ (0 ≤ e.W3 ∧ e.W3 ≤ 50)) ∧ M.length ≤ 9 ∧ (∀ x ∈ M, (0 ≤ x.A ∧ x.A ≤ 9) ∧ (0 ≤ x.B ∧ x.B ≤ 9)) ∧ Y.length ≤ 9 ∧ (∀ y ∈ Y, 0 ≤ y ∧ y ≤ 1000000000) ∧ G.length ≤ 8 ∧ (∀ q ∈ G, q.M.length ≤ 9 ∧ (∀ x ∈ q.M, 0 ≤ x ∧ x ≤ 9) ∧ 0 ≤ q.Z ∧ q.Z ≤ 1000000000) := by
  unfold certR at h
  simp only [Bool.and_eq_true] at h
  obtain ⟨hp, hm, _⟩ := h
  obtain ⟨hg, hYl, h9, h8, hY, hG⟩ := proof_sound hp
  obtain ⟨h0, _, hE, _⟩ := graph_sound hg
  obtain ⟨_, hM9, hmf⟩ := match_sound hm
  have hE' : ∀ e ∈ Q, (0 ≤ e.A ∧ e.A ≤ 9) ∧ (0 ≤ e.B ∧ e.B ≤ 9) ∧ (0 ≤ e.W1 ∧ e.W1 ≤ 50) ∧ (0 ≤ e.W2 ∧ e.W2 ≤ 50) ∧ (0 ≤ e.W3 ∧ e.W3 ≤ 50) := fun e he => by
    obtain ⟨x0, x1, x2, w1, w2, w3⟩ := (edgeOk_iff s e).1 (hE e he)
    exact ⟨by omega, by omega, worth_range w1, worth_range w2, worth_range w3⟩
  refine ⟨h0, h9, hE', hM9, fun x hx => ?_, by omega, hY, h8, fun q hq => ?_⟩
  · obtain ⟨i, hi, _, _, hh⟩ := edgeN_at (mFrom_at Q M none [] hmf x hx)
    have := hE' _ (List.getElem_mem hi)
    unfold hit at hh
    simp only [Bool.or_eq_true, Bool.and_eq_true, beq_iff_eq] at hh
    omega
  · obtain ⟨_, _, q3, q4, q5⟩ := (grpHead_iff s q).1 (hG q hq)
    unfold proofOk at hp
    simp only [Bool.and_eq_true] at hp
    refine ⟨by omega, fun x hx => ?_, by omega, q5⟩
    have := grpsOk_mem s G [] hp.2.2.2.2.1 q hq x hx
    omega

set_option maxRecDepth 100000 in
set_option maxHeartbeats 8000000 in
theorem specCertText_gen (B : Nat) (v : Value) (s : Int) (Q : List EdgeI) (M : List CoupleI) (Y : List Int) (G : List GrpI) (h1 : csize Q M Y G ≤ 1048576) (w : World) (hB : B ≤ w.heap.size) (hv : CeAt w v B s Q M Y G) :
    Calls Try.prog 10 #[v] w fun e w' => e = .returned (.tuple #[.string (certT s Q M Y G), .bool (certR s Q M Y G)]) ∧ Below w.heap.size w w' := by
  obtain ⟨l1, l2, l3⟩ := csize_le h1
  obtain ⟨a, c, a1, c1, a2, c2, a3, c3, rfl, hg, hm, hp, _⟩ := hv
  have CK := hide (fun w1 (hb : Below w.heap.size w w1) => specCert_gen B _ s Q _ M _ Y G l1 l2 l3 w1 (by have := hb.size; omega) (hg.below hb hB) (hm.below hb hB) (hp.below hb hB))
  have hV : certT s Q M Y G = if certR s Q M Y G = true then certB s Q M Y G else ⟨#[]⟩ := rfl
  have HRG : Hid (certR s Q M Y G = true → _) := fun h => cert_ranges h
  generalize certT s Q M Y G = V at hV ⊢
  have hCB : certB s Q M Y G = groupsB (intsB (couplesB (edgesB (vB s ++ vB (Q.length : Int)) Q ++ vB (M.length : Int)) M) Y ++ vB (G.length : Int)) G := rfl
  generalize certB s Q M Y G = CB at hV hCB
  generalize certR s Q M Y G = ok at CK hV HRG ⊢
  obtain ⟨_, n0, _, eg, hE⟩ := hg
  obtain ⟨_, _, em, hMC⟩ := hm
  obtain ⟨_, nY, _, _, nG, _, ep, hYA, hGA, _⟩ := hp
  simp at eg em ep
  obtain ⟨rfl, rfl, rfl⟩ := eg
  obtain ⟨rfl, rfl⟩ := em
  obtain ⟨⟨rfl, rfl, rfl⟩, rfl, rfl, rfl⟩ := ep
  have HCE := hide hE.2
  have HCM := hide hMC.2
  have HCY := hide hYA.2
  have HCG := hide hGA.2
  clear hE hMC hYA hGA h1 l2 l3
  go_enter Try.func10, Try.ntmps10
  go_wp2_with fail
  obtain ⟨W1, hW1⟩ : ∃ W, W = w.alloc (Obj.cells #[Value.int .i64 s, Value.slice a Q.length c, Value.slice a1 M.length c1, Value.slice a2 Y.length c2, Value.slice a3 G.length c3] 31) := ⟨_, rfl⟩
  rw [← hW1]
  have b1 : Below w.heap.size w W1 := by rw [hW1]; exact below_new _ _
  have m1 : Blk W1 w.heap.size #[Value.int .i64 s, Value.slice a Q.length c, Value.slice a1 M.length c1, Value.slice a2 Y.length c2, Value.slice a3 G.length c3] 31 := by rw [hW1]; exact Blk.new0
  clear hW1
  go_fit (unhide CK W1 b1)
  rintro e w2 ⟨rfl, hb2⟩
  have b2 := b1.trans (hb2.mono b1.size)
  have m2 := m1.below hb2
  have HM := hide m2
  have z2 := m2.lt
  clear m1 hb2 b1 CK
  cases ok with
  | false =>
    rw [if_neg (by simp)] at hV
    subst hV
    clear m2
    go_wp2_with fail
    go_ret2
    exact ⟨rfl, b2⟩
  | true =>
    rw [if_pos rfl] at hV
    subst hV
    obtain ⟨s0, s9, rE, rM9, rM, rY9, rY, rG8, rG⟩ := unhide HRG rfl
    have HRE := hide rE
    have HRM := hide rM
    have HRY := hide rY
    have HRGG := hide rG
    clear rE rM rY rG HRG
    have V0 := hide (fun w => lv_any s s0 (by omega) w)
    have V1 := hide (fun w => lv_any (Q.length : Int) (by omega) (by omega) w)
    have v0 := vB_size s
    have v1 := vB_size (Q.length : Int)
    have HB0 := hide hCB
    clear hCB
    obtain ⟨bs, hbs⟩ : ∃ x, x = vB s := ⟨_, rfl⟩
    obtain ⟨bq, hbq⟩ : ∃ x, x = vB (Q.length : Int) := ⟨_, rfl⟩
    rw [← hbs] at V0 v0 HB0
    rw [← hbq] at V1 v1 HB0
    clear hbs hbq
    have k0 : ∀ d : Grown w2.heap.size w2, d.w.cell? ⟨w.heap.size, 0, none⟩ = some (.int .i64 s) := fun d => d.cell z2 (m2.cell 0 _ rfl)
    have k1 : ∀ d : Grown w2.heap.size w2, d.w.cell? ⟨w.heap.size, 1, none⟩ = some (.slice a Q.length c) := fun d => d.cell z2 (m2.cell 1 _ rfl)
    have hz0 : ¬ 9223372036854775807 < bs.size + bq.size := by omega
    clear m2
    go_wp2_with fail
    refine wp_region_grown w2.heap.size (by kernel_rfl) (by kernel_rfl) ?_
    repeat (go_big_quiet_step (first
      | (go_at_call_of 26 (Value.int IntKind.i64 s); exact Calls.grown (Nat.le_refl _) (unhide V0 _))
      | (go_at_call 26; exact Calls.grown (Nat.le_refl _) (unhide V1 _))))
    refine wpQuiet_nil ?_
    rintro w5 ⟨d5, rfl⟩
    obtain ⟨W5, hb5⟩ := d5
    dsimp only
    clear k0 k1
    go_wp2_with fail
    obtain ⟨T1, hT1⟩ : ∃ x, x = edgesB (bs ++ bq) Q := ⟨_, rfl⟩
    rw [← hT1] at HB0
    have H1 : Hid (T1 = edgesB (bs ++ bq) (Q.drop 0)) := hT1
    have HS1 : Hid (∀ S j (h : j < Q.length), edgesB S (Q.drop j) = edgesB (((((S ++ vB Q[j].A) ++ vB Q[j].B) ++ vB Q[j].W1) ++ vB Q[j].W2) ++ vB Q[j].W3) (Q.drop (j + 1))) := fun S j h => by rw [drop_step Q j h]; rfl
    have HZ1 : Hid ((bs ++ bq).size ≤ 10) := by show _ ≤ _; rw [ByteArray.size_append]; omega
    clear hT1
    go_loopw [4, 5] (fun t i wr => ∃ (j : Nat) (S : ByteArray), i = .int .i64 (j : Int) ∧ t = .string S ∧ j ≤ Q.length ∧ S.size ≤ 10 + 25 * j ∧ Hid (T1 = edgesB S (Q.drop j)) ∧ Below w2.heap.size w2 wr) (fun _ i _ => Q.length - (intOf i).toNat)
    case atStart => exact ⟨0, bs ++ bq, rfl, rfl, Nat.zero_le _, unhide HZ1, unhide H1, hb5⟩
    case round =>
      obtain ⟨j, S, rfl, rfl, hj, hS, HT, hbr⟩ := hrel
      have hzr := hbr.size
      have bw := b2.trans (hbr.mono b2.size)
      have p1 : wr.cell? ⟨w.heap.size, 1, none⟩ = some (.slice a Q.length c) := ((unhide HM).below hbr).cell 1 _ rfl
      by_cases hlt : j < Q.length
      · obtain ⟨b, off, rfl, hbB, d0, d1, d2, d3, d4⟩ := unhide HCE j hlt
        have re := unhide HRE _ (List.getElem_mem hlt)
        have HT2 := hide ((unhide HT).trans (unhide HS1 S j hlt))
        generalize Q[j] = q at d0 d1 d2 d3 d4 re HT2
        obtain ⟨y0, y1, y2, y3, y4⟩ := q
        simp only at d0 d1 d2 d3 d4 re HT2
        rw [← bw.cell (p := ⟨b, off + j * 5, none⟩) (by simp; omega)] at d0
        rw [← bw.cell (p := ⟨b, off + j * 5 + 1, none⟩) (by simp; omega)] at d1
        rw [← bw.cell (p := ⟨b, off + j * 5 + 2, none⟩) (by simp; omega)] at d2
        rw [← bw.cell (p := ⟨b, off + j * 5 + 3, none⟩) (by simp; omega)] at d3
        rw [← bw.cell (p := ⟨b, off + j * 5 + 4, none⟩) (by simp; omega)] at d4
        have X0 := hide (fun w => lv_any y0 re.1.1 (by omega) w)
        have X1 := hide (fun w => lv_any y1 re.2.1.1 (by omega) w)
        have X2 := hide (fun w => lv_any y2 re.2.2.1.1 (by omega) w)
        have X3 := hide (fun w => lv_any y3 re.2.2.2.1.1 (by omega) w)
        have X4 := hide (fun w => lv_any y4 re.2.2.2.2.1 (by omega) w)
        have x0 := vB_size y0
        have x1 := vB_size y1
        have x2 := vB_size y2
        have x3 := vB_size y3
        have x4 := vB_size y4
        generalize vB y0 = g0 at X0 x0 HT2
        generalize vB y1 = g1 at X1 x1 HT2
        generalize vB y2 = g2 at X2 x2 HT2
        generalize vB y3 = g3 at X3 x3 HT2
        generalize vB y4 = g4 at X4 x4 HT2
        have u0 : ¬ 9223372036854775807 < S.size + g0.size := by omega
        have u1 : ¬ 9223372036854775807 < (S ++ g0).size + g1.size := by rw [ByteArray.size_append]; omega
        have u2 : ¬ 9223372036854775807 < ((S ++ g0) ++ g1).size + g2.size := by rw [ByteArray.size_append, ByteArray.size_append]; omega
        have u3 : ¬ 9223372036854775807 < (((S ++ g0) ++ g1) ++ g2).size + g3.size := by rw [ByteArray.size_append, ByteArray.size_append, ByteArray.size_append]; omega
        have u4 : ¬ 9223372036854775807 < ((((S ++ g0) ++ g1) ++ g2) ++ g3).size + g4.size := by rw [ByteArray.size_append, ByteArray.size_append, ByteArray.size_append, ByteArray.size_append]; omega
        have HU5 : Hid ((((((S ++ g0) ++ g1) ++ g2) ++ g3) ++ g4).size ≤ 10 + 25 * (j + 1)) := by show _ ≤ _; rw [ByteArray.size_append, ByteArray.size_append, ByteArray.size_append, ByteArray.size_append, ByteArray.size_append]; omega
        have hbl : b < wr.heap.size := by omega
        clear re
        go_wp2_with fail
        have bx : Below wr.heap.size wr (wr.alloc (Obj.cells #[Value.int .i64 y0, Value.int .i64 y1, Value.int .i64 y2, Value.int .i64 y3, Value.int .i64 y4] 42)) := below_new _ _
        have ux : Blk (wr.alloc (Obj.cells #[Value.int .i64 y0, Value.int .i64 y1, Value.int .i64 y2, Value.int .i64 y3, Value.int .i64 y4] 42)) wr.heap.size #[Value.int .i64 y0, Value.int .i64 y1, Value.int .i64 y2, Value.int .i64 y3, Value.int .i64 y4] 42 := Blk.new0
        generalize wr.alloc (Obj.cells #[Value.int .i64 y0, Value.int .i64 y1, Value.int .i64 y2, Value.int .i64 y3, Value.int .i64 y4] 42) = V3 at bx ux ⊢
        have zx := ux.lt
        have E0 : ∀ d : Grown V3.heap.size V3, d.w.cell? ⟨wr.heap.size, 0, none⟩ = some (.int .i64 y0) := fun d => d.cell zx (ux.cell 0 _ rfl)
        have E1 : ∀ d : Grown V3.heap.size V3, d.w.cell? ⟨wr.heap.size, 1, none⟩ = some (.int .i64 y1) := fun d => d.cell zx (ux.cell 1 _ rfl)
        have E2 : ∀ d : Grown V3.heap.size V3, d.w.cell? ⟨wr.heap.size, 2, none⟩ = some (.int .i64 y2) := fun d => d.cell zx (ux.cell 2 _ rfl)
        have E3 : ∀ d : Grown V3.heap.size V3, d.w.cell? ⟨wr.heap.size, 3, none⟩ = some (.int .i64 y3) := fun d => d.cell zx (ux.cell 3 _ rfl)
        have E4 : ∀ d : Grown V3.heap.size V3, d.w.cell? ⟨wr.heap.size, 4, none⟩ = some (.int .i64 y4) := fun d => d.cell zx (ux.cell 4 _ rfl)
        clear d0 d1 d2 d3 d4 p1
        refine wp_region_grown V3.heap.size (by kernel_rfl) (by kernel_rfl) ?_
        repeat (go_big_quiet_step (first
          | (go_at_call_of 26 (Value.int IntKind.i64 y0); exact Calls.grown (Nat.le_refl _) (unhide X0 _))
          | (go_at_call_of 26 (Value.int IntKind.i64 y1); exact Calls.grown (Nat.le_refl _) (unhide X1 _))
          | (go_at_call_of 26 (Value.int IntKind.i64 y2); exact Calls.grown (Nat.le_refl _) (unhide X2 _))
          | (go_at_call_of 26 (Value.int IntKind.i64 y3); exact Calls.grown (Nat.le_refl _) (unhide X3 _))
          | (go_at_call_of 26 (Value.int IntKind.i64 y4); exact Calls.grown (Nat.le_refl _) (unhide X4 _))))
        refine wpQuiet_nil ?_
        rintro w6 ⟨d6, rfl⟩
        clear E0 E1 E2 E3 E4
        go_wp2_with fail
        exact ⟨⟨j + 1, _, by go_num, rfl, by omega, unhide HU5, unhide HT2, hbr.trans ((bx.trans (d6.below.mono bx.size)).mono hbr.size)⟩, by simp [intOf]; omega⟩
      · obtain rfl : j = Q.length := by omega
        have hT : T1 = S := by rw [unhide HT, List.drop_length]; rfl
        rw [hT] at HB0
        clear hT HT H1 HS1
        have X0 := hide (fun w => lv_any (M.length : Int) (by omega) (by omega) w)
        have x0 := vB_size (M.length : Int)
        generalize vB (M.length : Int) = g0 at X0 x0 HB0
        have u0 : ¬ 9223372036854775807 < S.size + g0.size := by omega
        have p2 : wr.cell? ⟨w.heap.size, 2, none⟩ = some (.slice a1 M.length c1) := ((unhide HM).below hbr).cell 2 _ rfl
        go_wp2_with fail
        refine (unhide X0 _).mono ?_
        rintro e w6 ⟨rfl, hb6⟩
        have hb6' := hbr.trans (hb6.mono hbr.size)
        clear p1 p2
        go_wp2_with fail
        have HB6 := hide hb6'
        obtain ⟨S0, hS0⟩ : ∃ x, x = S ++ g0 := ⟨_, rfl⟩
        have hz6 : S0.size ≤ 30000000 := by rw [hS0, ByteArray.size_append]; omega
        rw [← hS0] at HB0 ⊢
        obtain ⟨T2, hT2⟩ : ∃ x, x = couplesB S0 M := ⟨_, rfl⟩
        rw [← hT2] at HB0
        have H2 : Hid (T2 = couplesB S0 (M.drop 0)) := hT2
        have HS2 : Hid (∀ S j (h : j < M.length), couplesB S (M.drop j) = couplesB ((S ++ vB M[j].A) ++ vB M[j].B) (M.drop (j + 1))) := fun S j h => by rw [drop_step M j h]; rfl
        clear hT2 hS0 hb6 hb6' bw hbr hzr u0 x0 X0 hS
        go_loopw [4, 7] (fun t i wr => ∃ (j : Nat) (S : ByteArray), i = .int .i64 (j : Int) ∧ t = .string S ∧ j ≤ M.length ∧ S.size ≤ 30000000 + 10 * j ∧ Hid (T2 = couplesB S (M.drop j)) ∧ Below w2.heap.size w2 wr) (fun _ i _ => M.length - (intOf i).toNat)
        case atStart => exact ⟨0, S0, rfl, rfl, Nat.zero_le _, hz6, unhide H2, unhide HB6⟩
        case round =>
          obtain ⟨j, S, rfl, rfl, hj, hS, HT, hbr⟩ := hrel
          have hzr := hbr.size
          have bw := b2.trans (hbr.mono b2.size)
          have p2 : wr.cell? ⟨w.heap.size, 2, none⟩ = some (.slice a1 M.length c1) := ((unhide HM).below hbr).cell 2 _ rfl
          by_cases hlt : j < M.length
          · obtain ⟨b, off, rfl, hbB, d0, d1⟩ := unhide HCM j hlt
            have re := unhide HRM _ (List.getElem_mem hlt)
            have HT2 := hide ((unhide HT).trans (unhide HS2 S j hlt))
            generalize M[j] = q at d0 d1 re HT2
            obtain ⟨y0, y1⟩ := q
            simp only at d0 d1 re HT2
            have X0 := hide (fun w => lv_any y0 re.1.1 (by omega) w)
            have X1 := hide (fun w => lv_any y1 re.2.1 (by omega) w)
            have x0 := vB_size y0
            have x1 := vB_size y1
            generalize vB y0 = g0 at X0 x0 HT2
            generalize vB y1 = g1 at X1 x1 HT2
            have u0 : ¬ 9223372036854775807 < S.size + g0.size := by omega
            have u1 : ¬ 9223372036854775807 < (S ++ g0).size + g1.size := by rw [ByteArray.size_append]; omega
            have HU5 : Hid (((S ++ g0) ++ g1).size ≤ 30000000 + 10 * (j + 1)) := by show _ ≤ _; rw [ByteArray.size_append, ByteArray.size_append]; omega
            have hjn : (j : Int) < ((M.length : Nat) : Int) := by omega
            have P2 : ∀ d : Grown wr.heap.size wr, d.w.cell? ⟨w.heap.size, 2, none⟩ = some (.slice (some ⟨b, off, none⟩) M.length c1) := fun d => d.cell (by omega) p2
            have E0 : ∀ d : Grown wr.heap.size wr, d.w.cell? ⟨b, off + j * 2, none⟩ = some (.int .i64 y0) := fun d => d.cell (by omega) ((bw.cell (p := ⟨b, off + j * 2, none⟩) (by simp; omega)).trans d0)
            have E1 : ∀ d : Grown wr.heap.size wr, d.w.cell? ⟨b, off + j * 2 + 1, none⟩ = some (.int .i64 y1) := fun d => d.cell (by omega) ((bw.cell (p := ⟨b, off + j * 2 + 1, none⟩) (by simp; omega)).trans d1)
            clear re d0 d1
            go_wp2_with fail
            clear p2
            refine wp_region_grown wr.heap.size (by kernel_rfl) (by kernel_rfl) ?_
            repeat (go_big_quiet_step (first
              | (go_at_call_of 26 (Value.int IntKind.i64 y0); exact Calls.grown (Nat.le_refl _) (unhide X0 _))
              | (go_at_call_of 26 (Value.int IntKind.i64 y1); exact Calls.grown (Nat.le_refl _) (unhide X1 _))))
            refine wpQuiet_nil ?_
            rintro w6 ⟨d6, rfl⟩
            clear P2 E0 E1
            go_wp2_with fail
            exact ⟨⟨j + 1, _, by go_num, rfl, by omega, unhide HU5, unhide HT2, hbr.trans (d6.below.mono hbr.size)⟩, by simp [intOf]; omega⟩
          · obtain rfl : j = M.length := by omega
            have hT : T2 = S := by rw [unhide HT, List.drop_length]; rfl
            rw [hT] at HB0
            clear hT HT H2 HS2
            go_wp2_with fail
            have HB7 := hide hbr
            obtain ⟨T3, hT3⟩ : ∃ x, x = intsB S Y := ⟨_, rfl⟩
            rw [← hT3] at HB0
            have H3 : Hid (T3 = intsB S (Y.drop 0)) := hT3
            have hz7 : S.size ≤ 31000000 := by omega
            have HS3 : Hid (∀ S j (h : j < Y.length), intsB S (Y.drop j) = intsB (S ++ vB Y[j]) (Y.drop (j + 1))) := fun S j h => by rw [drop_step Y j h]; rfl
            clear hT3 bw hbr hzr p2 hS
            go_loopw [4, 8] (fun t i wr => ∃ (j : Nat) (S : ByteArray), i = .int .i64 (j : Int) ∧ t = .string S ∧ j ≤ Y.length ∧ S.size ≤ 31000000 + 5 * j ∧ Hid (T3 = intsB S (Y.drop j)) ∧ Below w2.heap.size w2 wr) (fun _ i _ => Y.length - (intOf i).toNat)
            case atStart => exact ⟨0, S, rfl, rfl, Nat.zero_le _, hz7, unhide H3, unhide HB7⟩
            case round =>
              obtain ⟨j, S, rfl, rfl, hj, hS, HT, hbr⟩ := hrel
              have hzr := hbr.size
              have bw := b2.trans (hbr.mono b2.size)
              have p3 : wr.cell? ⟨w.heap.size, 3, none⟩ = some (.slice a2 Y.length c2) := ((unhide HM).below hbr).cell 3 _ rfl
              by_cases hlt : j < Y.length
              · obtain ⟨b, off, rfl, hbB, d0⟩ := unhide HCY j hlt
                rw [← bw.cell (p := ⟨b, off + j, none⟩) (by simp; omega)] at d0
                have re := unhide HRY _ (List.getElem_mem hlt)
                have HT2 := hide ((unhide HT).trans (unhide HS3 S j hlt))
                generalize Y[j] = y0 at d0 re HT2
                have X0 := hide (fun w => lv_any y0 re.1 re.2 w)
                have x0 := vB_size y0
                generalize vB y0 = g0 at X0 x0 HT2
                have u0 : ¬ 9223372036854775807 < S.size + g0.size := by omega
                have HU5 : Hid ((S ++ g0).size ≤ 31000000 + 5 * (j + 1)) := by show _ ≤ _; rw [ByteArray.size_append]; omega
                clear re
                go_wp2_with fail
                refine (unhide X0 _).mono ?_
                rintro e w6 ⟨rfl, hb6⟩
                have hb6' := hbr.trans (hb6.mono hbr.size)
                clear p3 d0
                go_wp2_with fail
                exact ⟨⟨j + 1, _, by go_num, rfl, by omega, unhide HU5, unhide HT2, hb6'⟩, by simp [intOf]; omega⟩
              · obtain rfl : j = Y.length := by omega
                have hT : T3 = S := by rw [unhide HT, List.drop_length]; rfl
                rw [hT] at HB0
                clear hT HT H3 HS3
                have X0 := hide (fun w => lv_any (G.length : Int) (by omega) (by omega) w)
                have x0 := vB_size (G.length : Int)
                generalize vB (G.length : Int) = g0 at X0 x0 HB0
                have u0 : ¬ 9223372036854775807 < S.size + g0.size := by omega
                have p4 : wr.cell? ⟨w.heap.size, 4, none⟩ = some (.slice a3 G.length c3) := ((unhide HM).below hbr).cell 4 _ rfl
                go_wp2_with fail
                refine (unhide X0 _).mono ?_
                rintro e w6 ⟨rfl, hb6⟩
                have hb6' := hbr.trans (hb6.mono hbr.size)
                clear p3 p4
                go_wp2_with fail
                have HB8 := hide hb6'
                obtain ⟨S8, hS8⟩ : ∃ x, x = S ++ g0 := ⟨_, rfl⟩
                have hz8 : S8.size ≤ 32000000 := by rw [hS8, ByteArray.size_append]; omega
                rw [← hS8] at HB0 ⊢
                have H4 : Hid (V = groupsB S8 (G.drop 0)) := unhide HB0
                have HS4 : Hid (∀ S j (h : j < G.length), groupsB S (G.drop j) = groupsB ((intsB (S ++ vB (G[j].M.length : Int)) G[j].M) ++ vB G[j].Z) (G.drop (j + 1))) := fun S j h => by rw [drop_step G j h]; rfl
                clear hS8 hb6 hb6' bw hbr hzr u0 x0 X0 hS HB0
                go_loopw [4, 9] (fun t i wr => ∃ (j : Nat) (S : ByteArray), i = .int .i64 (j : Int) ∧ t = .string S ∧ j ≤ G.length ∧ S.size ≤ 32000000 + 55 * j ∧ Hid (V = groupsB S (G.drop j)) ∧ Below w2.heap.size w2 wr) (fun _ i _ => G.length - (intOf i).toNat)
                case atStart => exact ⟨0, S8, rfl, rfl, Nat.zero_le _, hz8, unhide H4, unhide HB8⟩
                case round =>
                  obtain ⟨j, S, rfl, rfl, hj, hS, HT, hbr⟩ := hrel
                  have hzr := hbr.size
                  have bw := b2.trans (hbr.mono b2.size)
                  have p4 : wr.cell? ⟨w.heap.size, 4, none⟩ = some (.slice a3 G.length c3) := ((unhide HM).below hbr).cell 4 _ rfl
                  by_cases hlt : j < G.length
                  · obtain ⟨b, off, a5, c5, rfl, hbB, d0, d1, hIA⟩ := unhide HCG j hlt
                    rw [← bw.cell (p := ⟨b, off + j * 2, none⟩) (by simp; omega)] at d0
                    rw [← bw.cell (p := ⟨b, off + j * 2 + 1, none⟩) (by simp; omega)] at d1
                    obtain ⟨q9, qm, qz0, qz1⟩ := unhide HRGG _ (List.getElem_mem hlt)
                    have HT2 := hide ((unhide HT).trans (unhide HS4 S j hlt))
                    have HIA := hide hIA.2
                    generalize G[j] = q at d0 d1 q9 qm qz0 qz1 HT2 HIA
                    clear hIA
                    have HQM := hide qm
                    have X0 := hide (fun w => lv_any (q.M.length : Int) (by omega) (by omega) w)
                    have X9 := hide (fun w => lv_any q.Z qz0 qz1 w)
                    have x0 := vB_size (q.M.length : Int)
                    have x9 := vB_size q.Z
                    generalize vB (q.M.length : Int) = g0 at X0 x0 HT2
                    generalize vB q.Z = g9 at X9 x9 HT2
                    have u0 : ¬ 9223372036854775807 < S.size + g0.size := by omega
                    have hbl : b < wr.heap.size := by omega
                    clear qm
                    go_wp2_with fail
                    have bx : Below wr.heap.size wr (wr.alloc (Obj.cells #[Value.slice a5 q.M.length c5, Value.int .i64 q.Z] 46)) := below_new _ _
                    have ux : Blk (wr.alloc (Obj.cells #[Value.slice a5 q.M.length c5, Value.int .i64 q.Z] 46)) wr.heap.size #[Value.slice a5 q.M.length c5, Value.int .i64 q.Z] 46 := Blk.new0
                    generalize wr.alloc (Obj.cells #[Value.slice a5 q.M.length c5, Value.int .i64 q.Z] 46) = V3 at bx ux ⊢
                    refine (unhide X0 _).mono ?_
                    rintro e w6 ⟨rfl, hb6⟩
                    obtain ⟨N7, hN7⟩ : ∃ N, N = wr.heap.size := ⟨_, rfl⟩
                    have b6 := hbr.trans ((bx.trans (hb6.mono bx.size)).mono hbr.size)
                    have u6 := ux.below hb6
                    rw [← hN7] at u6 ⊢
                    have HU6 := hide u6
                    have HB6 := hide b6
                    have z6 := u6.lt
                    clear hN7 bx ux b6 u6 d0 d1 p4 hb6 bw hbr hzr hbl
                    go_wp2_with fail
                    obtain ⟨S9, hS9⟩ : ∃ x, x = S ++ g0 := ⟨_, rfl⟩
                    have hz9 : S9.size ≤ S.size + 5 := by rw [hS9, ByteArray.size_append]; omega
                    rw [← hS9] at HT2 ⊢
                    obtain ⟨T5, hT5⟩ : ∃ x, x = intsB S9 q.M := ⟨_, rfl⟩
                    rw [← hT5] at HT2
                    have H5 : Hid (T5 = intsB S9 (q.M.drop 0)) := hT5
                    have HS5 : Hid (∀ S k (h : k < q.M.length), intsB S (q.M.drop k) = intsB (S ++ vB q.M[k]) (q.M.drop (k + 1))) := fun S k h => by rw [drop_step q.M k h]; rfl
                    clear hT5 hS9 u0 x0 X0
                    go_loopw [4, 11] (fun t i wr => ∃ (k : Nat) (S' : ByteArray), i = .int .i64 (k : Int) ∧ t = .string S' ∧ k ≤ q.M.length ∧ S'.size ≤ S.size + 5 + 5 * k ∧ Hid (T5 = intsB S' (q.M.drop k)) ∧ Below w2.heap.size w2 wr ∧ Blk wr N7 #[Value.slice a5 q.M.length c5, Value.int .i64 q.Z] 46) (fun _ i _ => q.M.length - (intOf i).toNat)
                    case atStart => exact ⟨0, S9, rfl, rfl, Nat.zero_le _, hz9, unhide H5, unhide HB6, unhide HU6⟩
                    case round =>
                      obtain ⟨k, S', rfl, rfl, hk, hS', HT5, hbr, ur⟩ := hrel
                      have hzr := hbr.size
                      have bw := b2.trans (hbr.mono b2.size)
                      have p7 : wr.cell? ⟨N7, 0, none⟩ = some (.slice a5 q.M.length c5) := ur.cell 0 _ rfl
                      by_cases hlt5 : k < q.M.length
                      · obtain ⟨b', off', rfl, hbB', e0⟩ := unhide HIA k hlt5
                        rw [← bw.cell (p := ⟨b', off' + k, none⟩) (by simp; omega)] at e0
                        have re := unhide HQM _ (List.getElem_mem hlt5)
                        have HT6 := hide ((unhide HT5).trans (unhide HS5 S' k hlt5))
                        generalize q.M[k] = y0 at e0 re HT6
                        have X0 := hide (fun w => lv_any y0 re.1 (by omega) w)
                        have x0 := vB_size y0
                        generalize vB y0 = g1 at X0 x0 HT6
                        have u0 : ¬ 9223372036854775807 < S'.size + g1.size := by omega
                        have HU5 : Hid ((S' ++ g1).size ≤ S.size + 5 + 5 * (k + 1)) := by show _ ≤ _; rw [ByteArray.size_append]; omega
                        clear re
                        go_wp2_with fail
                        refine (unhide X0 _).mono ?_
                        rintro e w7 ⟨rfl, hb7⟩
                        have hb7' := hbr.trans (hb7.mono hbr.size)
                        have ur' := ur.below hb7
                        clear p7 e0
                        go_wp2_with fail
                        exact ⟨⟨k + 1, _, by go_num, rfl, by omega, unhide HU5, unhide HT6, hb7', ur'⟩, by simp [intOf]; omega⟩
                      · obtain rfl : k = q.M.length := by omega
                        have hT : T5 = S' := by rw [unhide HT5, List.drop_length]; rfl
                        rw [hT] at HT2
                        clear hT HT5 H5 HS5
                        have p8 : wr.cell? ⟨N7, 1, none⟩ = some (.int .i64 q.Z) := ur.cell 1 _ rfl
                        have u0 : ¬ 9223372036854775807 < S'.size + g9.size := by omega
                        have HU5 : Hid ((S' ++ g9).size ≤ 32000000 + 55 * (j + 1)) := by show _ ≤ _; rw [ByteArray.size_append]; omega
                        go_wp2_with fail
                        refine (unhide X9 _).mono ?_
                        rintro e w7 ⟨rfl, hb7⟩
                        have hb7' := hbr.trans (hb7.mono hbr.size)
                        clear p7 p8
                        go_wp2_with fail
                        exact ⟨⟨j + 1, _, by go_num, rfl, by omega, unhide HU5, unhide HT2, hb7'⟩, by simp [intOf]; omega⟩
                  · obtain rfl : j = G.length := by omega
                    have hT : V = S := by rw [unhide HT, List.drop_length]; rfl
                    subst hT
                    go_wp2_with fail
                    go_ret2
                    exact ⟨rfl, bw⟩
end Gr
end Go.Proofs.Ytalmbdfcpnkkpaa
