/-
  Deeds: the kind Deed by value (sizes, copies, equal ones, what came in), and both DeedOks.
-/
import Derived.Test.YthfcipjeejgpcaaGrKInts
import Derived.Test.YthfcipjeejgpcaaGrBlkS
import Derived.BigQuiet
namespace Go.Proofs.Ythfcipjeejgpcaa
namespace Gr
open Go.ChangeShapes Go.WideShapes Go.ChangeAt Go.RowKit

theorem wrap_subD {left : Int} {n : Nat} (h0 : 0 ≤ left) (h1 : left ≤ 1048576) (hn : n ≤ 9223372036854775807) : IntKind.i64.wrap (left - (n : Int)) = left - (n : Int) := by
  have e : IntKind.i64.wrap (left - (n : Int)) = if (9223372036854775808 : Int) ≤ (left - (n : Int)) % 18446744073709551616 then (left - (n : Int)) % 18446744073709551616 - 18446744073709551616 else (left - (n : Int)) % 18446744073709551616 := by
    simp [IntKind.wrap, IntKind.signed, IntKind.bits]
  rw [e]
  split <;> omega

set_option maxRecDepth 100000 in
theorem szIntsD_any (a : Option Addr) (n c : Nat) (left : Int) (h0 : 0 ≤ left) (h1 : left ≤ 1048576) (hn : n ≤ 9223372036854775807) (w : World) :
    Calls Try.prog 9 #[.slice a n c, .int .i64 left] w fun e w' => e = .returned (.int .i64 (if left - (n : Int) < 0 then -1 else left - (n : Int))) ∧ w' = w := by
  obtain ⟨x, hx⟩ : ∃ x, x = left - (n : Int) := ⟨_, rfl⟩
  have hw : IntKind.i64.wrap (left - (n : Int)) = x := by rw [hx]; exact wrap_subD h0 h1 hn
  rw [← hx]
  clear hx
  by_cases t : x < 0
  · rw [if_pos t]
    go_enter Try.func9, Try.ntmps9
    go_wp2
    go_ret
    exact ⟨rfl, rfl⟩
  · rw [if_neg t]
    go_enter Try.func9, Try.ntmps9
    go_wp2
    go_ret
    exact ⟨rfl, rfl⟩

/-- A deed but for its Keep. -/
structure DeedI where
  T : ByteArray
  c : Bool
  s : Int
  o : Int
  p : Int

def DeAt (w : World) (v : Value) (B : Nat) (x : DeedI) (K : List Int) : Prop :=
  ∃ a c, v = .agg #[.string x.T, .bool x.c, .int .i64 x.s, .slice a K.length c, .int .i64 x.o, .int .i64 x.p] ∧ InAt w (.slice a K.length c) B K ∧ x.T.size ≤ 9223372036854775807 ∧ K.length ≤ 9223372036854775807

def DeOwn (w : World) (B : Nat) (v : Value) (x : DeedI) (K : List Int) : Prop :=
  ∃ u, v = .agg #[.string x.T, .bool x.c, .int .i64 x.s, u, .int .i64 x.o, .int .i64 x.p] ∧ InOwn w B u K ∧ x.T.size ≤ 9223372036854775807 ∧ K.length ≤ 9223372036854775807

theorem DeAt.shape {w : World} {v : Value} {B : Nat} {x : DeedI} {K : List Int} (h : DeAt w v B x K) : ∃ a c, v = .agg #[.string x.T, .bool x.c, .int .i64 x.s, .slice a K.length c, .int .i64 x.o, .int .i64 x.p] := by
  obtain ⟨a, c, e, _⟩ := h
  exact ⟨a, c, e⟩

theorem DeAt.below {w w' : World} {v : Value} {B C : Nat} {x : DeedI} {K : List Int} (h : DeAt w v B x K) (hb : Below C w w') (hC : B ≤ C) : DeAt w' v B x K := by
  obtain ⟨a, c, e, hQ, hl⟩ := h
  exact ⟨a, c, e, hQ.below hb hC, hl⟩

theorem DeAt.mono {w : World} {v : Value} {B C : Nat} {x : DeedI} {K : List Int} (h : DeAt w v B x K) (hC : B ≤ C) : DeAt w v C x K := by
  obtain ⟨a, c, e, hQ, hl⟩ := h
  exact ⟨a, c, e, hQ.mono hC, hl⟩

theorem DeOwn.at {w : World} {B : Nat} {v : Value} {x : DeedI} {K : List Int} (h : DeOwn w B v x K) : DeAt w v w.heap.size x K := by
  obtain ⟨u, rfl, ho, hl⟩ := h
  have hq := ho.at
  obtain ⟨a, c, rfl⟩ := hq.shape
  exact ⟨a, c, rfl, hq, hl⟩

theorem DeOwn.below {w w' : World} {B : Nat} {v : Value} {x : DeedI} {K : List Int} (h : DeOwn w B v x K) (hb : Below w.heap.size w w') : DeOwn w' B v x K := by
  obtain ⟨u, rfl, ho, hl⟩ := h
  exact ⟨u, rfl, ho.below hb, hl⟩

def dsize (x : DeedI) (K : List Int) : Nat := min (x.T.size + K.length) 9223372036854775807

theorem dsize_le {x : DeedI} {K : List Int} (h : dsize x K ≤ 1048576) : x.T.size ≤ 1048576 ∧ K.length ≤ 1048576 := by
  unfold dsize at h
  omega

set_option maxRecDepth 100000 in
set_option maxHeartbeats 1000000 in
theorem szDeed_gen (v : Value) (B : Nat) (x : DeedI) (K : List Int) (left : Int) (h0 : 0 ≤ left) (h1 : left ≤ 1048576) (_hn : dsize x K ≤ 9223372036854775807) (w : World) (hv : DeAt w v B x K) :
    Calls Try.prog 4 #[v, .int .i64 left] w fun e w' => (∃ z : Int, e = .returned (.int .i64 z) ∧ z ≤ left ∧ (0 ≤ z → (dsize x K : Int) + z ≤ left)) ∧ Below w.heap.size w w' := by
  obtain ⟨a, c, rfl, _, hT, hK⟩ := hv
  unfold dsize
  have SZ := hide (fun (l : Int) (h0 : 0 ≤ l) (h1 : l ≤ 1048576) (w : World) => szIntsD_any a K.length c l h0 h1 hK w)
  obtain ⟨T, cc, s, o, p⟩ := x
  simp only at hT ⊢
  generalize K.length = n at SZ hK ⊢
  have HT := hide hT
  obtain ⟨y, hy⟩ : ∃ y, y = left - (T.size : Int) := ⟨_, rfl⟩
  have hw : IntKind.i64.wrap (left - (T.size : Int)) = y := by rw [hy]; exact wrap_subD h0 h1 hT
  have HY := hide hy
  clear hy hT
  by_cases t : y < 0
  · go_enter Try.func4, Try.ntmps4
    go_wp2
    go_ret
    exact ⟨⟨-1, rfl, by omega, by omega⟩, below_new _ _⟩
  · have hyl : y ≤ left := by have := unhide HY; omega
    have SY := hide (unhide SZ y (by omega) (by omega))
    clear SZ
    obtain ⟨z, hz⟩ : ∃ z, z = (if y - (n : Int) < 0 then -1 else y - (n : Int)) := ⟨_, rfl⟩
    rw [← hz] at SY
    have HZ := hide hz
    clear hz
    by_cases t2 : z < 0
    · go_enter Try.func4, Try.ntmps4
      go_wp2_with fail
      refine (unhide SY _).mono ?_
      rintro e w1 ⟨rfl, rfl⟩
      go_wp2
      go_ret
      exact ⟨⟨-1, rfl, by omega, by omega⟩, below_new _ _⟩
    · go_enter Try.func4, Try.ntmps4
      go_wp2_with fail
      refine (unhide SY _).mono ?_
      rintro e w1 ⟨rfl, rfl⟩
      go_wp2
      go_ret
      have hz := unhide HZ
      have hy := unhide HY
      refine ⟨⟨z, rfl, ?_, ?_⟩, below_new _ _⟩
      · split at hz <;> omega
      · split at hz <;> omega

theorem results_deed {fn : Func} {p : Tmp} (h : fn.results = #[.cell p 27]) (tmps : Array Value) (w : World) (g : Nat) (x0 x1 x2 x3 x4 x5 : Value) (hp : tmps.getD p undef = .pointer (some ⟨g, 0, none⟩)) (hg : Blk w g #[x0, x1, x2, x3, x4, x5] 27) :
    (results fn tmps).run Try.prog w = .ok (.agg #[x0, x1, x2, x3, x4, x5]) w := by
  have c0 := hg.cell 0 x0 rfl
  have c1 := hg.cell 1 x1 rfl
  have c2 := hg.cell 2 x2 rfl
  have c3 := hg.cell 3 x3 rfl
  have c4 := hg.cell 4 x4 rfl
  have c5 := hg.cell 5 x5 rfl
  have hp' : tmps[p]?.getD undef = .pointer (some ⟨g, 0, none⟩) := by simpa using hp
  simp [results, h, hp', go_sem, c0, c1, c2, c3, c4, c5]

set_option maxRecDepth 100000 in
set_option maxHeartbeats 1000000 in
theorem toDeed_gen (v : Value) (B : Nat) (x : DeedI) (K : List Int) (hn : dsize x K ≤ 1048576) (w : World) (hB : B ≤ w.heap.size) (hv : DeAt w v B x K) :
    Calls Try.prog 6 #[v] w fun e w' => (∃ d, e = .returned d ∧ DeOwn w' w.heap.size d x K) ∧ Below w.heap.size w w' := by
  obtain ⟨l1, l2⟩ := dsize_le hn
  obtain ⟨a, c, rfl, hQ, hT, hK⟩ := hv
  have HTK : Hid (x.T.size ≤ 9223372036854775807 ∧ K.length ≤ 9223372036854775807) := ⟨hT, hK⟩
  have T1 := hide (fun w1 (hb : Below w.heap.size w w1) => toInts_gen _ B K l2 w1 (by have := hb.size; omega) (hQ.below hb hB))
  have HSI : Hid (∀ (w' : World) lo v, InOwn w' lo v K → ∃ x cx, v = .slice x K.length cx) := fun w' lo v h => h.at.shape
  clear hQ hT hK l1 l2 hn
  obtain ⟨T, cc, s, o, p⟩ := x
  simp only
  go_enter Try.func6, Try.ntmps6
  go_wp2_with fail
  obtain ⟨V, hV⟩ : ∃ W, W = ((w.alloc (Obj.cells #[Value.string T, Value.bool cc, Value.int .i64 s, Value.slice a K.length c, Value.int .i64 o, Value.int .i64 p] 24)).alloc (Obj.cells #[Value.string { data := #[] }, Value.bool false, Value.int .i64 0, Value.slice none 0 0, Value.int .i64 0, Value.int .i64 0] 27)).alloc (Obj.cells #[Value.string T, Value.bool cc, Value.int .i64 s, Value.slice none 0 0, Value.int .i64 0, Value.int .i64 0] 27) := ⟨_, rfl⟩
  rw [← hV]
  have b1 : Below w.heap.size w V := by rw [hV]; exact ((below_new _ _).alloc (by simp) _).alloc (by simp; omega) _
  have m0 : Blk V w.heap.size #[Value.string T, Value.bool cc, Value.int .i64 s, Value.slice a K.length c, Value.int .i64 o, Value.int .i64 p] 24 := by rw [hV]; exact Blk.new0.alloc.alloc
  have m1 : Blk V (w.heap.size + 1) #[Value.string { data := #[] }, Value.bool false, Value.int .i64 0, Value.slice none 0 0, Value.int .i64 0, Value.int .i64 0] 27 := by rw [hV]; exact Blk.new1.alloc
  have m2 : Blk V (w.heap.size + 1 + 1) #[Value.string T, Value.bool cc, Value.int .i64 s, Value.slice none 0 0, Value.int .i64 0, Value.int .i64 0] 27 := by rw [hV]; exact Blk.new2
  clear hV
  have z2 := m2.lt
  refine (unhide T1 V b1).mono ?_
  rintro e w4 ⟨⟨g, rfl, hO1⟩, hb2⟩
  obtain ⟨x, cx, rfl⟩ := unhide HSI _ _ _ hO1
  have b4 := b1.trans (hb2.mono b1.size)
  have n0 := m0.below hb2
  have n1 := m1.below hb2
  have n2 := m2.below hb2
  have c4 : w4.cell? ⟨w.heap.size, 4, none⟩ = some (.int .i64 o) := n0.cell 4 _ rfl
  have c5 : w4.cell? ⟨w.heap.size, 5, none⟩ = some (.int .i64 p) := n0.cell 5 _ rfl
  have e0 : w4.cell? ⟨w.heap.size + 1 + 1, 0, none⟩ = some (.string T) := n2.cell 0 _ rfl
  have e1 : w4.cell? ⟨w.heap.size + 1 + 1, 1, none⟩ = some (.bool cc) := n2.cell 1 _ rfl
  have e2 : w4.cell? ⟨w.heap.size + 1 + 1, 2, none⟩ = some (.int .i64 s) := n2.cell 2 _ rfl
  have e3 : w4.cell? ⟨w.heap.size + 1 + 1, 3, none⟩ = some (.slice none 0 0) := n2.cell 3 _ rfl
  have e4 : w4.cell? ⟨w.heap.size + 1 + 1, 4, none⟩ = some (.int .i64 0) := n2.cell 4 _ rfl
  have e5 : w4.cell? ⟨w.heap.size + 1 + 1, 5, none⟩ = some (.int .i64 0) := n2.cell 5 _ rfl
  have r0 : w4.cell? ⟨w.heap.size + 1, 0, none⟩ = some (.string { data := #[] }) := n1.cell 0 _ rfl
  have r1 : w4.cell? ⟨w.heap.size + 1, 1, none⟩ = some (.bool false) := n1.cell 1 _ rfl
  have r2 : w4.cell? ⟨w.heap.size + 1, 2, none⟩ = some (.int .i64 0) := n1.cell 2 _ rfl
  have r3 : w4.cell? ⟨w.heap.size + 1, 3, none⟩ = some (.slice none 0 0) := n1.cell 3 _ rfl
  have r4 : w4.cell? ⟨w.heap.size + 1, 4, none⟩ = some (.int .i64 0) := n1.cell 4 _ rfl
  have r5 : w4.cell? ⟨w.heap.size + 1, 5, none⟩ = some (.int .i64 0) := n1.cell 5 _ rfl
  have f1 := n1.froz
  have f2 := n2.froz
  obtain ⟨W9, hW9⟩ : ∃ W, W = (((((((((w4.setCell ⟨w.heap.size + 1 + 1, 3, none⟩ (.slice x K.length cx)).setCell ⟨w.heap.size + 1 + 1, 4, none⟩ (.int .i64 o)).setCell ⟨w.heap.size + 1 + 1, 5, none⟩ (.int .i64 p)).setCell ⟨w.heap.size + 1, 0, none⟩ (.string T)).setCell ⟨w.heap.size + 1, 1, none⟩ (.bool cc)).setCell ⟨w.heap.size + 1, 2, none⟩ (.int .i64 s)).setCell ⟨w.heap.size + 1, 3, none⟩ (.slice x K.length cx)).setCell ⟨w.heap.size + 1, 4, none⟩ (.int .i64 o)).setCell ⟨w.heap.size + 1, 5, none⟩ (.int .i64 p)) := ⟨_, rfl⟩
  have k9 : Kept (fun g => g = w.heap.size + 1 + 1 ∨ g = w.heap.size + 1) w4 W9 := by
    rw [hW9]
    exact ((((((((Kept.set _ _ _ _ (Or.inl rfl)).trans (Kept.set _ _ _ _ (Or.inl rfl))).trans (Kept.set _ _ _ _ (Or.inl rfl))).trans (Kept.set _ _ _ _ (Or.inr rfl))).trans (Kept.set _ _ _ _ (Or.inr rfl))).trans (Kept.set _ _ _ _ (Or.inr rfl))).trans (Kept.set _ _ _ _ (Or.inr rfl))).trans (Kept.set _ _ _ _ (Or.inr rfl))).trans (Kept.set _ _ _ _ (Or.inr rfl))
  have HN : Hid (Blk W9 (w.heap.size + 1) #[.string T, .bool cc, .int .i64 s, .slice x K.length cx, .int .i64 o, .int .i64 p] 27) := by
    show Blk _ _ _ _
    rw [hW9]
    exact (((((((((n1.set_other (by omega) _ _).set_other (by omega) _ _).set_other (by omega) _ _).set 0 _).set 1 _).set 2 _).set 3 _).set 4 _).set 5 _)
  have HA1 := hide (InOwn.lower (C := w.heap.size) (hO1.kept k9 (fun g hg hS => by have := (hO1.blk g hg).1; omega)) (by omega))
  have HB9 := hide (b4.trans (k9.below b4.size (fun i hi => by omega)))
  clear m0 m1 m2 n0 n1 n2 hO1 hb2 k9 b4 b1
  go_wp2_with fail
  (try simp only [Exit.inBlock, Exit.then])
  rw [← hW9]
  refine bodyPost_ret (results_deed Try.results6 _ _ (w.heap.size + 1) _ _ _ _ _ _ rfl (unhide HN)) rfl ?_
  exact ⟨⟨_, rfl, _, rfl, unhide HA1, (unhide HTK).1, (unhide HTK).2⟩, unhide HB9⟩

set_option maxRecDepth 100000 in
set_option maxHeartbeats 1000000 in
theorem eqDeed_gen (v u : Value) (B B' : Nat) (x : DeedI) (K : List Int) (hn : dsize x K ≤ 1048576) (w : World) (hB : B ≤ w.heap.size) (hB' : B' ≤ w.heap.size) (hv : DeAt w v B x K) (hu : DeAt w u B' x K) :
    Calls Try.prog 8 #[v, u] w fun e w' => e = .returned (.bool true) ∧ Below w.heap.size w w' := by
  obtain ⟨l1, l2⟩ := dsize_le hn
  obtain ⟨a, c, rfl, hQ, _⟩ := hv
  obtain ⟨a', c', rfl, hQ', _⟩ := hu
  have E1 := hide (fun w1 (hb : Below w.heap.size w w1) => eqInts_gen _ _ B B' K l2 w1 (by have := hb.size; omega) (by have := hb.size; omega) (hQ.below hb hB) (hQ'.below hb hB'))
  clear hQ hQ' l1 l2 hn
  generalize K.length = n at E1 ⊢
  obtain ⟨T, cc, s, o, p⟩ := x
  simp only
  have hcc : (cc != cc) = false := by simp
  go_enter Try.func8, Try.ntmps8
  go_wp2_with fail
  obtain ⟨V, hV⟩ : ∃ W, W = (w.alloc (Obj.cells #[Value.string T, Value.bool cc, Value.int .i64 s, Value.slice a n c, Value.int .i64 o, Value.int .i64 p] 27)).alloc (Obj.cells #[Value.string T, Value.bool cc, Value.int .i64 s, Value.slice a' n c', Value.int .i64 o, Value.int .i64 p] 27) := ⟨_, rfl⟩
  rw [← hV]
  have b1 : Below w.heap.size w V := by rw [hV]; exact (below_new _ _).alloc (by simp) _
  have m0 : Blk V w.heap.size #[Value.string T, Value.bool cc, Value.int .i64 s, Value.slice a n c, Value.int .i64 o, Value.int .i64 p] 27 := by rw [hV]; exact Blk.new0.alloc
  have m1 : Blk V (w.heap.size + 1) #[Value.string T, Value.bool cc, Value.int .i64 s, Value.slice a' n c', Value.int .i64 o, Value.int .i64 p] 27 := by rw [hV]; exact Blk.new1
  clear hV
  refine (unhide E1 V b1).mono ?_
  rintro e w2 ⟨rfl, hb2⟩
  have b2 := b1.trans (hb2.mono b1.size)
  have n0 := m0.below hb2
  have n1 := m1.below hb2
  have p0 : w2.cell? ⟨w.heap.size, 4, none⟩ = some (.int .i64 o) := n0.cell 4 _ rfl
  have p1 : w2.cell? ⟨w.heap.size + 1, 4, none⟩ = some (.int .i64 o) := n1.cell 4 _ rfl
  have p2 : w2.cell? ⟨w.heap.size, 5, none⟩ = some (.int .i64 p) := n0.cell 5 _ rfl
  have p3 : w2.cell? ⟨w.heap.size + 1, 5, none⟩ = some (.int .i64 p) := n1.cell 5 _ rfl
  clear m0 m1 n0 n1 hb2 b1
  go_wp2
  go_ret
  exact ⟨rfl, b2⟩

theorem cells_deed : Try.prog.cellsOf 24 = 6 := by kernel_rfl

theorem six_of {cs : Array Value} (h : cs.size = 6) : ∃ v0 v1 v2 v3 v4 v5, cs = #[v0, v1, v2, v3, v4, v5] := by
  obtain ⟨l⟩ := cs
  match l, h with
  | [v0, v1, v2, v3, v4, v5], _ => exact ⟨v0, v1, v2, v3, v4, v5, rfl⟩

theorem cellsD_int : Try.prog.cellsOf 3 = 1 := by kernel_rfl
theorem cellsD_bool : Try.prog.cellsOf 4 = 1 := by kernel_rfl
theorem cellsD_string : Try.prog.cellsOf 9 = 1 := by kernel_rfl
theorem cellsD_ints : Try.prog.cellsOf 22 = 1 := by kernel_rfl

set_option maxRecDepth 100000 in
set_option maxHeartbeats 1000000 in
theorem deed_in {H : Type} {enc : TypeId × Value → H} {W : World} {r : Reach} {b0 : Nat} {v : Value} {d : DataW H} {p : List MemPlace}
    (hv : Value.okWide Try.prog W r b0 24 v) (h : DataW.Trod enc Try.prog W 0 (fun _ => true) true 24 v d p) : ∃ x K, DeAt W v W.heap.size x K ∧ dsize x K ≤ 9223372036854775807 := by
  obtain ⟨cs, rfl, hsz⟩ := okWide_struct Try.underlying24 hv
  obtain ⟨v0, v1, v2, v3, v4, v5, rfl⟩ := six_of (hsz.trans cells_deed)
  obtain ⟨fuel, hf⟩ := h
  obtain ⟨xs, k, hk, hxy, _, hxl, hg⟩ := DataW.trod_struct Try.underlying24 hf
  have hl3 : xs.length = 6 := by simpa using hxl
  match xs, hl3 with
  | [y0, y1, y2, y3, y4, y5], _ =>
    have g0 := hg 0 _ rfl
    have g1 := hg 1 _ rfl
    have g2 := hg 2 _ rfl
    have g3 := hg 3 _ rfl
    have g4 := hg 4 _ rfl
    have g5 := hg 5 _ rfl
    simp [cellsD_int, cellsD_bool, cellsD_string, cellsD_ints, Value.cells] at g0 g1 g2 g3 g4 g5
    obtain ⟨T, e0, _, hT⟩ := DataW.trod_string Try.underlying9 g0
    obtain ⟨cc, e1, _⟩ := DataW.trod_bool Try.underlying4 g1
    obtain ⟨s, e2, _, _⟩ := DataW.trod_int Try.underlying3 g2
    obtain ⟨o, e4, _, _⟩ := DataW.trod_int Try.underlying3 g4
    obtain ⟨q, e5, _, _⟩ := DataW.trod_int Try.underlying3 g5
    simp at e0 e1 e2 e4 e5
    subst e0 e1 e2 e4 e5
    have hone : [v3] = v3.cells.toList := by
      rcases Deep.open_slice Try.underlying22 g3 with ⟨hcs, _⟩ | ⟨a, len, cap, m, n, D, Pl, hcs, _⟩
      · simp at hcs; subst hcs; rfl
      · simp at hcs; subst hcs; rfl
    rw [hone] at g3
    obtain ⟨a2, k2, c2, K, hcs, hY, _, hn⟩ := ints_open (fun _ => rfl) g3
    rw [← hone] at hcs
    simp at hcs
    subst hcs
    obtain rfl := hY.1
    refine ⟨⟨T, cc, s, o, q⟩, K, ⟨a2, c2, rfl, ⟨a2, c2, rfl, hY⟩, hT, hn⟩, ?_⟩
    unfold dsize
    omega

/-! ### What is a right deed -/

def deedOk (x : DeedI) (K : List Int) : Bool := decide (x.T.size ≤ 40) && (decide (0 ≤ x.s) && decide (x.s ≤ 1)) && decide (K.length ≤ 60) && (decide (0 ≤ x.p) && decide (x.p ≤ 64))

theorem l01InD_is (x y z : Int) (w : World) :
    Calls Try.prog 10 #[.int .i64 x, .int .i64 y, .int .i64 z] w fun e w' => e = .returned (.bool (decide (y ≤ x) && decide (x ≤ z))) ∧ w' = w := by
  go_enter Try.func10, Try.ntmps10
  go_wp2
  all_goals (go_ret; exact ⟨by simp_all <;> omega, rfl⟩)

theorem isPlaceD_is (x n : Int) (w : World) :
    Calls Try.prog 12 #[.int .i64 x, .int .i64 n] w fun e w' => e = .returned (.bool (decide (0 ≤ x) && decide (x < n))) ∧ w' = w := by
  go_enter Try.func12, Try.ntmps12
  go_wp2
  all_goals (go_ret; exact ⟨by simp_all <;> omega, rfl⟩)

set_option maxRecDepth 100000 in
set_option maxHeartbeats 1000000 in
theorem specDeed_gen (B : Nat) (v : Value) (x : DeedI) (K : List Int) (_h1 : dsize x K ≤ 1048576) (w : World) (_hB : B ≤ w.heap.size) (hv : DeAt w v B x K) :
    Calls Try.prog 5 #[v] w fun e w' => e = .returned (.bool (deedOk x K)) ∧ Below w.heap.size w w' := by
  obtain ⟨a, c, rfl, _, hT, hK⟩ := hv
  obtain ⟨T, cc, s, o, p⟩ := x
  have H1 := hide (fun w => l01InD_is s 0 1 w)
  have H2 := hide (fun w => l01InD_is p 0 64 w)
  unfold deedOk
  simp only at hT ⊢
  generalize (decide (0 ≤ s) && decide (s ≤ 1)) = t1 at H1 ⊢
  generalize (decide (0 ≤ p) && decide (p ≤ 64)) = t2 at H2 ⊢
  generalize K.length = n at hK ⊢
  by_cases c1 : T.size ≤ 40
  · have c1' : (T.size : Int) ≤ 40 := by omega
    rw [decide_eq_true c1]
    cases t1
    · go_enter Try.func5, Try.ntmps5
      go_wp2_with fail
      refine (unhide H1 _).mono ?_
      rintro e w1 ⟨rfl, rfl⟩
      go_wp2
      go_ret
      exact ⟨by simp, below_new _ _⟩
    · by_cases c3 : n ≤ 60
      · have c3' : (n : Int) ≤ 60 := by omega
        rw [decide_eq_true c3]
        go_enter Try.func5, Try.ntmps5
        go_wp2_with fail
        refine (unhide H1 _).mono ?_
        rintro e w1 ⟨rfl, rfl⟩
        go_wp2_with fail
        refine (unhide H2 _).mono ?_
        rintro e w1 ⟨rfl, rfl⟩
        go_wp2
        go_ret
        exact ⟨by simp, below_new _ _⟩
      · have c3' : ¬ (n : Int) ≤ 60 := by omega
        rw [decide_eq_false c3]
        go_enter Try.func5, Try.ntmps5
        go_wp2_with fail
        refine (unhide H1 _).mono ?_
        rintro e w1 ⟨rfl, rfl⟩
        go_wp2
        go_ret
        exact ⟨by simp, below_new _ _⟩
  · have c1' : ¬ (T.size : Int) ≤ 40 := by omega
    rw [decide_eq_false c1]
    go_enter Try.func5, Try.ntmps5
    go_wp2
    go_ret
    exact ⟨by simp, below_new _ _⟩

set_option maxRecDepth 100000 in
set_option maxHeartbeats 1000000 in
theorem implDeed_gen (B : Nat) (v : Value) (x : DeedI) (K : List Int) (_h1 : dsize x K ≤ 1048576) (w : World) (_hB : B ≤ w.heap.size) (hv : DeAt w v B x K) :
    Calls Try.prog 7 #[v] w fun e w' => e = .returned (.bool (deedOk x K)) ∧ Below w.heap.size w w' := by
  obtain ⟨a, c, rfl, _, hT, hK⟩ := hv
  obtain ⟨T, cc, s, o, p⟩ := x
  have H1 := hide (fun w => isPlaceD_is s 2 w)
  have H2 := hide (fun w => isPlaceD_is p 65 w)
  have hr : deedOk ⟨T, cc, s, o, p⟩ K = (decide (T.size ≤ 40) && decide (K.length ≤ 60) && (decide (0 ≤ s) && decide (s < 2)) && (decide (0 ≤ p) && decide (p < 65))) := by
    unfold deedOk
    simp only
    have e1 : decide (s ≤ 1) = decide (s < 2) := by simp; omega
    have e2 : decide (p ≤ 64) = decide (p < 65) := by simp; omega
    rw [e1, e2]
    cases decide (T.size ≤ 40) <;> cases decide (K.length ≤ 60) <;> cases (decide (0 ≤ s) && decide (s < 2)) <;> rfl
  rw [hr]
  clear hr _h1
  simp only at hT ⊢
  generalize (decide (0 ≤ s) && decide (s < 2)) = t1 at H1 ⊢
  generalize (decide (0 ≤ p) && decide (p < 65)) = t2 at H2 ⊢
  generalize K.length = n at hK ⊢
  by_cases c1 : T.size ≤ 40
  · have c1' : (T.size : Int) ≤ 40 := by omega
    rw [decide_eq_true c1]
    by_cases c3 : n ≤ 60
    · have c3' : (n : Int) ≤ 60 := by omega
      rw [decide_eq_true c3]
      cases t1
      · go_enter Try.func7, Try.ntmps7
        go_wp2_with fail
        go_region
        go_wp2_with fail
        refine (unhide H1 _).mono ?_
        rintro e w1 ⟨rfl, rfl⟩
        go_wp2
        go_ret
        exact ⟨by simp, (below_new _ _).drew⟩
      · go_enter Try.func7, Try.ntmps7
        go_wp2_with fail
        go_region
        go_wp2_with fail
        refine (unhide H1 _).mono ?_
        rintro e w1 ⟨rfl, rfl⟩
        go_wp2_with fail
        refine (unhide H2 _).mono ?_
        rintro e w1 ⟨rfl, rfl⟩
        go_wp2
        go_ret
        exact ⟨by simp, (below_new _ _).drew⟩
    · have c3' : ¬ (n : Int) ≤ 60 := by omega
      rw [decide_eq_false c3]
      go_enter Try.func7, Try.ntmps7
      go_wp2_with fail
      go_region
      go_wp2
      go_ret
      exact ⟨by simp, (below_new _ _).drew⟩
  · have c1' : ¬ (T.size : Int) ≤ 40 := by omega
    rw [decide_eq_false c1]
    go_enter Try.func7, Try.ntmps7
    go_wp2_with fail
    go_region
    go_wp2
    go_ret
    exact ⟨by simp, (below_new _ _).drew⟩

end Gr
end Go.Proofs.Ythfcipjeejgpcaa
