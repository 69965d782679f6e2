/-
  Texts of this claim, one behind the other: GrGroup3, GrGroup4, GrGroup5, GrOk, GrEdgeAt, GrOkMath.
-/
import Derived.Test.YtldbanpfhlmjmaaJ2
import Derived.Test.YtldbanpfhlmjmaaJ1
import Derived.Laws.EntriesVeiled
import Derived.Deep.RegionWith
import Derived.Deep.DeepCutAuto

/-
  Copies of groups and proofs.
-/
namespace Go.Proofs.Ytldbanpfhlmjmaa
namespace Gr
open Go.RowKit

theorem infoGroup : (Try.prog.info? 62).map (fun i => (i.zero, i.size, i.bytes)) = some (some (.agg #[.slice none 0 0, .int .i64 0]), 2, 32) := by kernel_rfl

theorem results_group {fn : Func} {p : Tmp} (h : fn.results = #[.cell p 62]) (tmps : Array Value) (w : World) (g : Nat) (x y : Value) (hp : tmps.getD p undef = .pointer (some ⟨g, 0, none⟩)) (hg : Blk w g #[x, y] 62) :
    (results fn tmps).run Try.prog w = .ok (.agg #[x, y]) w := by
  have c0 := hg.cell 0 x rfl
  have c1 := hg.cell 1 y rfl
  have hp' : tmps[p]?.getD undef = .pointer (some ⟨g, 0, none⟩) := by simpa using hp
  simp [results, h, hp', go_sem, c0, c1]

theorem results_proof {fn : Func} {p : Tmp} (h : fn.results = #[.cell p 41]) (tmps : Array Value) (w : World) (g : Nat) (x y : Value) (hp : tmps.getD p undef = .pointer (some ⟨g, 0, none⟩)) (hg : Blk w g #[x, y] 41) :
    (results fn tmps).run Try.prog w = .ok (.agg #[x, y]) w := by
  have c0 := hg.cell 0 x rfl
  have c1 := hg.cell 1 y rfl
  have hp' : tmps[p]?.getD undef = .pointer (some ⟨g, 0, none⟩) := by simpa using hp
  simp [results, h, hp', go_sem, c0, c1]

set_option maxRecDepth 100000 in
set_option maxHeartbeats 1000000 in
theorem toGroup_any (a : Option Addr) (c B : Nat) (q : GrpI) (hn : q.M.length ≤ 1048576) (w : World) (hB : B ≤ w.heap.size) (hM : IntsAt w a q.M.length B q.M) :
    Calls Try.prog 63 #[.agg #[.slice a q.M.length c, .int .i64 q.Z]] w fun e w' => (∃ v, e = .returned (.agg #[v, .int .i64 q.Z]) ∧ InOwn w' w.heap.size v q.M) ∧ Below w.heap.size w w' := by
  have TI := hide (fun w1 (hb : Below w.heap.size w w1) => toInts_gen (.slice a q.M.length c) B q.M hn w1 (by have := hb.size; omega) ⟨a, c, rfl, hM.below hb hB⟩)
  generalize q.M.length = n at TI
  generalize q.Z = z
  clear hM
  go_enter Try.func63, Try.ntmps63
  go_wp2_with fail
  obtain ⟨V, hV⟩ : ∃ W, W = ((w.alloc (Obj.cells #[Value.slice a n c, Value.int .i64 z] 100)).alloc (Obj.cells #[Value.slice none 0 0, Value.int .i64 0] 62)).alloc (Obj.cells #[Value.slice none 0 0, Value.int .i64 0] 62) := ⟨_, rfl⟩
  rw [← hV]
  have b1 : Below w.heap.size w V := by rw [hV]; exact ((below_new _ _).alloc (by simp) _).alloc (by simp; omega) _
  have m0 : Blk V w.heap.size #[Value.slice a n c, Value.int .i64 z] 100 := by rw [hV]; exact Blk.new0.alloc.alloc
  have m1 : Blk V (w.heap.size + 1) #[Value.slice none 0 0, Value.int .i64 0] 62 := by rw [hV]; exact Blk.new1.alloc
  have m2 : Blk V (w.heap.size + 1 + 1) #[Value.slice none 0 0, Value.int .i64 0] 62 := by rw [hV]; exact Blk.new2
  clear hV
  refine (unhide TI V b1).mono ?_
  rintro e w2 ⟨⟨v, rfl, hO⟩, hb2⟩
  obtain ⟨a', c', rfl, _⟩ := hO.at
  have z2 := m2.lt
  have b2 := b1.trans (hb2.mono b1.size)
  have n0 := m0.below hb2
  have n1 := m1.below hb2
  have n2 := m2.below hb2
  have HO := hide (hO.kept (S := fun k => k = w.heap.size + 1 ∨ k = w.heap.size + 1 + 1) (w' := (((w2.setCell ⟨w.heap.size + 1 + 1, 0, none⟩ (.slice a' q.M.length c')).setCell ⟨w.heap.size + 1 + 1, 1, none⟩ (.int .i64 z)).setCell ⟨w.heap.size + 1, 0, none⟩ (.slice a' q.M.length c')).setCell ⟨w.heap.size + 1, 1, none⟩ (.int .i64 z)) ((((Kept.set _ _ _ _ (Or.inr rfl)).trans (Kept.set _ _ _ _ (Or.inr rfl))).trans (Kept.set _ _ _ _ (Or.inl rfl))).trans (Kept.set _ _ _ _ (Or.inl rfl))) (fun g hg hS => by have := (hO.blk g hg).1; have := b1.size; omega))
  clear hO m0 m1 m2
  have c0 : w2.cell? ⟨w.heap.size, 0, none⟩ = some (.slice a n c) := n0.cell 0 _ rfl
  have c1 : w2.cell? ⟨w.heap.size, 1, none⟩ = some (.int .i64 z) := n0.cell 1 _ rfl
  have d0 : w2.cell? ⟨w.heap.size + 1, 0, none⟩ = some (.slice none 0 0) := n1.cell 0 _ rfl
  have d1 : w2.cell? ⟨w.heap.size + 1, 1, none⟩ = some (.int .i64 0) := n1.cell 1 _ rfl
  have e0 : w2.cell? ⟨w.heap.size + 1 + 1, 0, none⟩ = some (.slice none 0 0) := n2.cell 0 _ rfl
  have e1 : w2.cell? ⟨w.heap.size + 1 + 1, 1, none⟩ = some (.int .i64 0) := n2.cell 1 _ rfl
  have f1 := n1.froz
  have f2 := n2.froz
  have HN1 : Hid (Blk ((((w2.setCell ⟨w.heap.size + 1 + 1, 0, none⟩ (.slice a' q.M.length c')).setCell ⟨w.heap.size + 1 + 1, 1, none⟩ (.int .i64 z)).setCell ⟨w.heap.size + 1, 0, none⟩ (.slice a' q.M.length c')).setCell ⟨w.heap.size + 1, 1, none⟩ (.int .i64 z)) (w.heap.size + 1) #[.slice a' q.M.length c', .int .i64 z] 62) :=
    (((n1.set_other (by omega) _ _).set_other (by omega) _ _).set 0 _).set 1 _
  clear n0 n1 n2
  go_wp2_with fail
  (try simp only [Exit.inBlock, Exit.then])
  refine bodyPost_ret (results_group Try.results63 _ _ (w.heap.size + 1) _ _ rfl (unhide HN1)) rfl ?_
  refine ⟨⟨_, rfl, InOwn.lower (unhide HO) b1.size⟩, ?_⟩
  exact (((b2.setCell (p := ⟨w.heap.size + 1 + 1, 0, none⟩) (by simp; omega) _).setCell (p := ⟨w.heap.size + 1 + 1, 1, none⟩) (by simp; omega) _).setCell (p := ⟨w.heap.size + 1, 0, none⟩) (by simp) _).setCell (p := ⟨w.heap.size + 1, 1, none⟩) (by simp) _
end Gr
end Go.Proofs.Ytldbanpfhlmjmaa

/-
  Copies of rows of groups, and of proofs.
-/
namespace Go.Proofs.Ytldbanpfhlmjmaa
namespace Gr
open Go.RowKit

/-- The first k groups of a block of groups. -/
def Gs (w : World) (lo : Nat) (C : Array Value) (G : List GrpI) (k : Nat) : Prop :=
  ∀ j (h : j < G.length), j < k → ∃ v, C[j * 2]? = some v ∧ C[j * 2 + 1]? = some (.int .i64 G[j].Z) ∧ InOwn w lo v G[j].M

theorem Gs.kept {S : Nat → Prop} {w w' : World} {lo k : Nat} {C : Array Value} {G : List GrpI} (h : Gs w lo C G k) (hk : Kept S w w') (hS : ∀ g, lo ≤ g → ¬ S g) : Gs w' lo C G k := by
  intro j hj hjk
  obtain ⟨v, c0, c1, hO⟩ := h j hj hjk
  exact ⟨v, c0, c1, hO.kept hk (fun g hg => hS g (hO.blk g hg).1)⟩

theorem Gs.snoc {w : World} {lo k : Nat} {C : Array Value} {G : List GrpI} (h : Gs w lo C G k) (hk : k < G.length) (hC : C.size = G.length * 2) (v : Value) (hO : InOwn w lo v G[k].M) : Gs w lo ((C.setIfInBounds (k * 2) v).setIfInBounds (k * 2 + 1) (.int .i64 G[k].Z)) G (k + 1) := by
  intro j hj hjk
  by_cases e : j = k
  · subst e
    refine ⟨v, ?_, ?_, hO⟩
    · rw [Array.getElem?_setIfInBounds_ne (by omega), Array.getElem?_setIfInBounds_self, if_pos (by omega)]
    · rw [Array.getElem?_setIfInBounds_self, if_pos (by simp; omega)]
  · obtain ⟨v', c0, c1, hO'⟩ := h j hj (by omega)
    refine ⟨v', ?_, ?_, hO'⟩
    · rw [Array.getElem?_setIfInBounds_ne (by omega), Array.getElem?_setIfInBounds_ne (by omega)]; exact c0
    · rw [Array.getElem?_setIfInBounds_ne (by omega), Array.getElem?_setIfInBounds_ne (by omega)]; exact c1

theorem Gs.at {w : World} {lo g : Nat} {C : Array Value} {G : List GrpI} (h : Gs w lo C G G.length) (hb : Blk w g C 62) : groupsAt w (some ⟨g, 0, none⟩) G.length w.heap.size G := by
  refine ⟨rfl, fun j hj => ?_⟩
  obtain ⟨v, c0, c1, hO⟩ := h j hj hj
  obtain ⟨a', c', rfl, hI⟩ := hO.at
  refine ⟨g, 0, a', c', rfl, hb.lt, ?_, ?_, hI⟩
  · rw [Nat.zero_add]; exact hb.cell _ _ c0
  · rw [Nat.zero_add]; exact hb.cell _ _ c1

/-- A row of groups of the call's own, with the rows of its own in it. -/
def GsOwn (w : World) (lo : Nat) (v : Value) (G : List GrpI) : Prop := ∃ g C, v = .slice (some ⟨g, 0, none⟩) G.length G.length ∧ lo ≤ g ∧ Blk w g C 62 ∧ C.size = G.length * 2 ∧ Gs w lo C G G.length

theorem GsOwn.kept {S : Nat → Prop} {w w' : World} {lo : Nat} {v : Value} {G : List GrpI} (h : GsOwn w lo v G) (hk : Kept S w w') (hS : ∀ g, lo ≤ g → ¬ S g) : GsOwn w' lo v G := by
  obtain ⟨g, C, e, hg, hb, hs, h⟩ := h
  exact ⟨g, C, e, hg, hb.kept hk (hS g hg), hs, h.kept hk hS⟩

theorem Gs.lower {w : World} {lo lo' k : Nat} {C : Array Value} {G : List GrpI} (h : Gs w lo C G k) (hl : lo' ≤ lo) : Gs w lo' C G k := by
  intro j hj hjk
  obtain ⟨v, c0, c1, hO⟩ := h j hj hjk
  exact ⟨v, c0, c1, hO.lower hl⟩

theorem GsOwn.lower {w : World} {lo lo' : Nat} {v : Value} {G : List GrpI} (h : GsOwn w lo v G) (hl : lo' ≤ lo) : GsOwn w lo' v G := by
  obtain ⟨g, C, e, hg, hb, hs, h⟩ := h
  exact ⟨g, C, e, by omega, hb, hs, h.lower hl⟩

theorem GsOwn.at {w : World} {lo : Nat} {v : Value} {G : List GrpI} (h : GsOwn w lo v G) : ∃ a c, v = .slice a G.length c ∧ groupsAt w a G.length w.heap.size G := by
  obtain ⟨g, C, rfl, hg, hb, hs, h⟩ := h
  exact ⟨_, _, rfl, h.at hb⟩

set_option maxRecDepth 100000 in
set_option maxHeartbeats 1000000 in
theorem toGroups_any (a : Option Addr) (n c B : Nat) (G : List GrpI) (hn : n ≤ 1048576) (hm : ∀ q ∈ G, q.M.length ≤ 1048576) (w : World) (hB : B ≤ w.heap.size) (hG : groupsAt w a n B G) :
    Calls Try.prog 43 #[.slice a n c] w fun e w' => (∃ v, e = .returned v ∧ GsOwn w' w.heap.size v G) ∧ Below w.heap.size w w' := by
  obtain ⟨hL, hc⟩ := hG
  obtain ⟨i0, hi, hz0, hz1, hz2⟩ := info_parts infoGroup
  obtain ⟨M, hM⟩ : ∃ M, M = madeCells (Value.agg #[.slice none 0 0, .int .i64 0]).cells (n * i0.size) := ⟨_, rfl⟩
  have hMs : M.size = n * 2 := by rw [hM, size_madeCells, hz1]
  have hmk : ∀ W : World, (Instr.makeSlice 39 (.int .i64 (n : Int)) (.int .i64 (n : Int))).run Try.prog W = .ok (.slice (some ⟨W.heap.size, 0, none⟩) n n) (W.alloc (.cells M 62)) := fun W => by
    have h := run_make (P := Try.prog) W 39 62 i0 (.agg #[.slice none 0 0, .int .i64 0]) Try.underlying39 hi hz0 .i64 .i64 (n : Int) (n : Int) (by omega) (by omega) (by rw [hz2]; omega) (by omega)
    rw [Int.toNat_natCast, ← hM] at h
    simpa using h
  have TG := hide (fun j (hj : j < G.length) a' c' w1 (hb : Below w.heap.size w w1) (hI : IntsAt w a' G[j].M.length B G[j].M) => toGroup_any a' c' B G[j] (hm _ (List.getElem_mem hj)) w1 (by have := hb.size; omega) (hI.below hb hB))
  have HC := hide hc
  have HL := hide hL
  have HMs := hide hMs
  clear hM hc hL hm hMs
  go_enter Try.func43, Try.ntmps43
  go_wp2_with fail
  go_loopw [4] (fun i wr => ∃ (k : Nat) (C : Array Value), i = .int .i64 (k : Int) ∧ k ≤ n ∧ Hid (Blk wr w.heap.size C 62) ∧ Hid (C.size = n * 2) ∧ Hid (Gs wr (w.heap.size + 1) C G k) ∧ Below w.heap.size w wr) (fun i _ => n - (intOf i).toNat)
  case atStart => exact ⟨0, M, rfl, Nat.zero_le _, Blk.new0, unhide HMs, (fun j _ h => absurd h (Nat.not_lt_zero _)), below_new _ _⟩
  case round =>
    obtain ⟨k, C, rfl, hk, HB, HS, HG, hb⟩ := hrel
    have hbl := (unhide HB).lt
    by_cases hlt : k < n
    · have hkL : k < G.length := by have := unhide HL; omega
      obtain ⟨b, off, a', c', rfl, hbB, c0, c1, hI⟩ := unhide HC k hkL
      have TK := hide (unhide TG k hkL a' c' wr hb hI)
      rw [← hb.cell (p := ⟨b, off + k * 2, none⟩) (by simp; omega)] at c0
      rw [← hb.cell (p := ⟨b, off + k * 2 + 1, none⟩) (by simp; omega)] at c1
      have HSN : Hid (∀ w1 v, Gs w1 (w.heap.size + 1) C G k → InOwn w1 (w.heap.size + 1) v G[k].M → Gs w1 (w.heap.size + 1) ((C.setIfInBounds (k * 2) v).setIfInBounds (k * 2 + 1) (.int .i64 G[k].Z)) G (k + 1)) := fun w1 v h hO => h.snoc hkL (by have h1 := unhide HS; have h2 := unhide HL; omega) v hO
      generalize G[k] = q at c0 c1 TK HSN
      clear hI
      go_wp2_with fail
      refine (unhide TK).mono ?_
      rintro e w2 ⟨⟨v, rfl, hO⟩, hb2⟩
      obtain ⟨a2, c2, rfl, _⟩ := hO.at
      have hO' := hO.lower (show w.heap.size + 1 ≤ wr.heap.size by omega)
      have m2 := (unhide HB).below hb2
      have HG2 := hide (unhide HSN w2 _ ((unhide HG).kept (S := fun _ => False) (Kept.of_below hb2) (fun g _ h => h)) hO')
      have HM2 := hide m2
      have bw2 := hb.trans (hb2.mono hb.size)
      have hfz := m2.froz
      obtain ⟨u0, hu0⟩ : ∃ u, w2.cell? ⟨w.heap.size, k * 2, none⟩ = some u := ⟨C[k * 2]'(by have := unhide HS; omega), m2.cell _ _ (by simp)⟩
      obtain ⟨u1, hu1⟩ : ∃ u, w2.cell? ⟨w.heap.size, k * 2 + 1, none⟩ = some u := ⟨C[k * 2 + 1]'(by have := unhide HS; omega), m2.cell _ _ (by simp)⟩
      clear c0 c1 hO hO' m2 hb2
      go_wp2_with fail
      refine ⟨⟨k + 1, (C.setIfInBounds (k * 2) (.slice a2 q.M.length c2)).setIfInBounds (k * 2 + 1) (.int .i64 q.Z), by go_num, by omega, ((unhide HM2).set _ _).set _ _, (by show _ = _; simp; exact unhide HS), ?_, (bw2.setCell (p := ⟨w.heap.size, k * 2, none⟩) (Nat.le_refl _) _).setCell (p := ⟨w.heap.size, k * 2 + 1, none⟩) (Nat.le_refl _) _⟩, by simp [intOf]; omega⟩
      exact (unhide HG2).kept (S := fun g => g = w.heap.size) ((Kept.set (S := fun g => g = w.heap.size) _ _ _ _ rfl).trans (Kept.set (S := fun g => g = w.heap.size) _ _ _ _ rfl)) (fun g hg => by omega)
    · obtain rfl : k = n := by omega
      have HF : Hid (GsOwn wr w.heap.size (.slice (some ⟨w.heap.size, 0, none⟩) k k) G) := by
        have h1 := unhide HG
        have h2 := unhide HL
        subst h2
        exact ⟨_, C, rfl, Nat.le_refl _, unhide HB, unhide HS, h1.lower (by omega)⟩
      go_wp2_with fail
      go_ret
      exact ⟨⟨_, rfl, unhide HF⟩, hb⟩

set_option maxRecDepth 100000 in
set_option maxHeartbeats 1000000 in
theorem eqGroup_same (a a' : Option Addr) (c c' B : Nat) (q : GrpI) (hn : q.M.length ≤ 1048576) (w : World) (hB : B ≤ w.heap.size) (h : IntsAt w a q.M.length B q.M) (h' : IntsAt w a' q.M.length B q.M) :
    Calls Try.prog 76 #[.agg #[.slice a q.M.length c, .int .i64 q.Z], .agg #[.slice a' q.M.length c', .int .i64 q.Z]] w fun e w' => e = .returned (.bool true) ∧ Below w.heap.size w w' := by
  have EQ := hide (fun w1 (hb : Below w.heap.size w w1) => eqInts_same a a' q.M.length c c' B B q.M hn w1 (by have := hb.size; omega) (by have := hb.size; omega) (h.below hb hB) (h'.below hb hB))
  generalize q.M.length = n at EQ
  generalize q.Z = z
  clear h h'
  go_enter Try.func76, Try.ntmps76
  go_wp2_with fail
  have b1 : Below w.heap.size w ((w.alloc (Obj.cells #[Value.slice a n c, Value.int .i64 z] 62)).alloc (Obj.cells #[Value.slice a' n c', Value.int .i64 z] 62)) := (below_new _ _).alloc (by simp) _
  have m0 : Blk ((w.alloc (Obj.cells #[Value.slice a n c, Value.int .i64 z] 62)).alloc (Obj.cells #[Value.slice a' n c', Value.int .i64 z] 62)) w.heap.size #[Value.slice a n c, Value.int .i64 z] 62 := Blk.new0.alloc
  have m1 : Blk ((w.alloc (Obj.cells #[Value.slice a n c, Value.int .i64 z] 62)).alloc (Obj.cells #[Value.slice a' n c', Value.int .i64 z] 62)) (w.heap.size + 1) #[Value.slice a' n c', Value.int .i64 z] 62 := Blk.new1
  generalize ((w.alloc (Obj.cells #[Value.slice a n c, Value.int .i64 z] 62)).alloc (Obj.cells #[Value.slice a' n c', Value.int .i64 z] 62)) = V at b1 m0 m1 ⊢
  refine (unhide EQ V b1).mono ?_
  rintro e w2 ⟨rfl, hb2⟩
  have b2 := b1.trans (hb2.mono b1.size)
  have c0 : w2.cell? ⟨w.heap.size, 1, none⟩ = some (.int .i64 z) := (m0.below hb2).cell 1 _ rfl
  have c1 : w2.cell? ⟨w.heap.size + 1, 1, none⟩ = some (.int .i64 z) := (m1.below hb2).cell 1 _ rfl
  clear m0 m1 hb2
  go_wp2_with fail
  go_ret
  exact ⟨rfl, b2⟩
end Gr
end Go.Proofs.Ytldbanpfhlmjmaa

/-
  The kind of Proof, in the form that a law's walk asks for.
-/
namespace Go.Proofs.Ytldbanpfhlmjmaa
namespace Gr
open Go.ChangeShapes Go.WideShapes Go.ChangeAt Go.RowKit

set_option maxRecDepth 100000 in
set_option maxHeartbeats 1000000 in
theorem eqGroups_same (a a' : Option Addr) (n c c' B : Nat) (G : List GrpI) (hn : n ≤ 1048576) (hm : ∀ q ∈ G, q.M.length ≤ 1048576) (w : World) (hB : B ≤ w.heap.size) (h : groupsAt w a n B G) (h' : groupsAt w a' n B G) :
    Calls Try.prog 52 #[.slice a n c, .slice a' n c'] w fun e w' => e = .returned (.bool true) ∧ Below w.heap.size w w' := by
  obtain ⟨hL, hc⟩ := h
  obtain ⟨_, hc'⟩ := h'
  have EQ := hide (fun j (hj : j < G.length) a1 a2 c1 c2 w1 (hb : Below w.heap.size w w1) (h1 : IntsAt w a1 G[j].M.length B G[j].M) (h2 : IntsAt w a2 G[j].M.length B G[j].M) => eqGroup_same a1 a2 c1 c2 B G[j] (hm _ (List.getElem_mem hj)) w1 (by have := hb.size; omega) (h1.below hb hB) (h2.below hb hB))
  have HC := hide hc
  have HC' := hide hc'
  have HL := hide hL
  clear hc hc' hL hm
  go_enter Try.func52, Try.ntmps52
  go_wp2_with fail
  go_loopw [5] (fun i wr => ∃ k : Nat, i = .int .i64 (k : Int) ∧ k ≤ n ∧ Below w.heap.size w wr) (fun i _ => n - (intOf i).toNat)
  case atStart => exact ⟨0, rfl, Nat.zero_le _, Below.refl _ _⟩
  case round =>
    obtain ⟨k, rfl, hk, hb⟩ := hrel
    by_cases hlt : k < n
    · have hkL : k < G.length := by have := unhide HL; omega
      obtain ⟨b, off, a1, c1, rfl, hbB, d0, d1, h1⟩ := unhide HC k hkL
      obtain ⟨b', off', a2, c2, rfl, hbB', e0, e1, h2⟩ := unhide HC' k hkL
      have EK := hide (fun w1 hb => unhide EQ k hkL a1 a2 c1 c2 w1 hb h1 h2)
      generalize G[k] = q at d0 d1 e0 e1 EK
      clear h1 h2
      have hkn : (k : Int) < (n : Int) := by omega
      have hz := hb.size
      have D0 : ∀ d : Grown wr.heap.size wr, d.w.cell? ⟨b, off + k * 2, none⟩ = some (.slice a1 q.M.length c1) := fun d => d.cell (by omega) ((hb.cell (p := ⟨b, off + k * 2, none⟩) (by simp; omega)).trans d0)
      have D1 : ∀ d : Grown wr.heap.size wr, d.w.cell? ⟨b, off + k * 2 + 1, none⟩ = some (.int .i64 q.Z) := fun d => d.cell (by omega) ((hb.cell (p := ⟨b, off + k * 2 + 1, none⟩) (by simp; omega)).trans d1)
      have E0 : ∀ d : Grown wr.heap.size wr, d.w.cell? ⟨b', off' + k * 2, none⟩ = some (.slice a2 q.M.length c2) := fun d => d.cell (by omega) ((hb.cell (p := ⟨b', off' + k * 2, none⟩) (by simp; omega)).trans e0)
      have E1 : ∀ d : Grown wr.heap.size wr, d.w.cell? ⟨b', off' + k * 2 + 1, none⟩ = some (.int .i64 q.Z) := fun d => d.cell (by omega) ((hb.cell (p := ⟨b', off' + k * 2 + 1, none⟩) (by simp; omega)).trans e1)
      have EG : Hid (∀ d : Grown wr.heap.size wr, Calls Try.prog 76 #[.agg #[.slice a1 q.M.length c1, .int .i64 q.Z], .agg #[.slice a2 q.M.length c2, .int .i64 q.Z]] d.w fun e w' => e = .returned (.bool true) ∧ Below d.w.heap.size d.w w') := fun d => unhide EK d.w (hb.trans (d.below.mono hb.size))
      clear d0 d1 e0 e1 EK
      go_wp2_with fail
      refine wp_region_grown wr.heap.size (by kernel_rfl) (by kernel_rfl) ?_
      repeat (go_big_quiet_step (first | (go_at_call 76; exact Calls.grown (Nat.le_refl _) (unhide EG _))))
      refine wpQuiet_nil ?_
      rintro w5 ⟨d5, rfl⟩
      go_wp2_with fail
      exact ⟨⟨k + 1, by go_num, by omega, hb.trans (d5.below.mono hb.size)⟩, by simp [intOf]; omega⟩
    · go_wp2_with fail
      go_ret
      exact ⟨rfl, hb⟩

def PrOwn (w : World) (_B : Nat) (v : Value) (Y : List Int) (G : List GrpI) : Prop := PrAt w v w.heap.size Y G

theorem PrAt.shape {w : World} {v : Value} {B : Nat} {Y : List Int} {G : List GrpI} (h : PrAt w v B Y G) : ∃ a c a' c', v = .agg #[.slice a Y.length c, .slice a' G.length c'] := by
  obtain ⟨a, n, c, a', n', c', rfl, hY, hG, _⟩ := h
  exact ⟨a, c, a', c', by rw [hY.1, hG.1]⟩

theorem PrOwn.at {w : World} {B : Nat} {v : Value} {Y : List Int} {G : List GrpI} (h : PrOwn w B v Y G) : PrAt w v w.heap.size Y G := h

theorem PrOwn.below {w w' : World} {B : Nat} {v : Value} {Y : List Int} {G : List GrpI} (h : PrOwn w B v Y G) (hb : Below w.heap.size w w') : PrOwn w' B v Y G := (PrAt.below h hb (Nat.le_refl _)).mono hb.size

theorem psize_le {Y : List Int} {G : List GrpI} (h : psize Y G ≤ 1048576) : Y.length ≤ 1048576 ∧ G.length ≤ 1048576 ∧ ∀ q ∈ G, q.M.length ≤ 1048576 := by
  unfold psize at h
  have h1 : Y.length + (G.length + gbulk G) ≤ 1048576 := by omega
  refine ⟨by omega, by omega, fun q hq => ?_⟩
  have : ∀ (L : List GrpI), q ∈ L → q.M.length ≤ gbulk L := by
    intro L
    induction L with
    | nil => intro h; simp at h
    | cons x r ih =>
      intro h
      unfold gbulk
      rcases List.mem_cons.1 h with rfl | h
      · omega
      · have := ih h; omega
  have := this G hq
  omega

set_option maxRecDepth 100000 in
set_option maxHeartbeats 1000000 in
theorem szProof_gen (v : Value) (B : Nat) (Y : List Int) (G : List GrpI) (left : Int) (h0 : 0 ≤ left) (h1 : left ≤ 1048576) (_hn : psize Y G ≤ 9223372036854775807) (w : World) (hv : PrAt w v B Y G) :
    Calls Try.prog 17 #[v, .int .i64 left] w fun e w' => (∃ x : Int, e = .returned (.int .i64 x) ∧ x ≤ left ∧ (0 ≤ x → (psize Y G : Int) + x ≤ left)) ∧ Below w.heap.size w w' := by
  obtain ⟨a, n, c, a', n', c', rfl, hY, hG, hn⟩ := hv
  obtain ⟨i1, i2, i3⟩ := hn
  have hG2 : groupsAt w a' n' w.heap.size G := by
    refine ⟨hG.1, fun j hj => ?_⟩
    obtain ⟨b, off, x, cx, e, _, c0, c1, hI⟩ := hG.2 j hj
    refine ⟨b, off, x, cx, e, World.block_lt_of_cell? w _ c0, c0, c1, hI.1, fun k hk => ?_⟩
    obtain ⟨b2, off2, e2, _, hc2⟩ := hI.2 k hk
    exact ⟨b2, off2, e2, World.block_lt_of_cell? w _ hc2, hc2⟩
  have hnY := hY.1
  have hnG := hG.1
  have S1 := hide (fun w => szInts_any a n c left h0 h1 (by omega) w)
  have S2 := hide (fun (l : Int) (l0 : 0 ≤ l) (l1 : l ≤ 1048576) w1 (hb : Below w.heap.size w w1) => szGroups_any a' n' c' w.heap.size G l l0 l1 (by omega) i3 w1 (hG2.below hb (Nat.le_refl _)))
  have HP : Hid (psize Y G ≤ n + (G.length + gbulk G)) := by show _ ≤ _; unfold psize; omega
  obtain ⟨y, hy⟩ : ∃ y, y = left - (n : Int) := ⟨_, rfl⟩
  rw [← hy] at S1
  have HY := hide hy
  clear hy hY hG hG2 i1 i2 i3 hnY hnG
  by_cases t : y < 0
  · rw [if_pos t] at S1
    go_enter Try.func17, Try.ntmps17
    go_wp2_with fail
    refine (unhide S1 _).mono ?_
    rintro e w1 ⟨rfl, rfl⟩
    go_wp2_with fail
    go_ret
    exact ⟨⟨-1, rfl, by omega, fun h => absurd h (by omega)⟩, below_new _ _⟩
  · rw [if_neg t] at S1
    have hyl : y ≤ left := by have := unhide HY; omega
    go_enter Try.func17, Try.ntmps17
    go_wp2_with fail
    refine (unhide S1 _).mono ?_
    rintro e w1 ⟨rfl, rfl⟩
    go_wp2_with fail
    have b1 : Below w.heap.size w (w.alloc (Obj.cells #[Value.slice a n c, Value.slice a' n' c'] 29)) := below_new _ _
    refine (unhide S2 y (by omega) (by omega) _ b1).mono ?_
    rintro e w2 ⟨⟨x, rfl, hx1, hx2⟩, hb2⟩
    have b2 := b1.trans (hb2.mono b1.size)
    by_cases t2 : x < 0
    · clear hb2 b1
      go_wp2_with fail
      go_ret
      exact ⟨⟨-1, rfl, by omega, fun h => absurd h (by omega)⟩, b2⟩
    · have HX : Hid ((psize Y G : Int) + x ≤ left) := by show _ ≤ _; have h1 := unhide HP; have h2 := unhide HY; have h3 := hx2 (by omega); omega
      clear hb2 b1 hx2
      go_wp2_with fail
      go_ret
      exact ⟨⟨x, rfl, by omega, fun _ => unhide HX⟩, b2⟩

set_option maxRecDepth 100000 in
set_option maxHeartbeats 1000000 in
theorem toProof_own (v : Value) (B : Nat) (Y : List Int) (G : List GrpI) (hn : psize Y G ≤ 1048576) (w : World) (hB : B ≤ w.heap.size) (hv : PrAt w v B Y G) :
    Calls Try.prog 22 #[v] w fun e w' => (∃ vy vg, e = .returned (.agg #[vy, vg]) ∧ InOwn w' w.heap.size vy Y ∧ GsOwn w' w.heap.size vg G) ∧ Below w.heap.size w w' := by
  obtain ⟨l1, l2, l3⟩ := psize_le hn
  obtain ⟨a, n, c, a', n', c', rfl, hY, hG, _⟩ := hv
  obtain rfl := hY.1
  obtain rfl := hG.1
  have T1 := hide (fun w1 (hb : Below w.heap.size w w1) => toInts_gen (.slice a Y.length c) B Y l1 w1 (by have := hb.size; omega) ⟨a, c, rfl, hY.below hb hB⟩)
  have T2 := hide (fun w1 (hb : Below w.heap.size w w1) => toGroups_any a' G.length c' B G l2 l3 w1 (by have := hb.size; omega) (hG.below hb hB))
  clear hY hG l1 l2 l3 hn
  have HI : Hid (∀ (w' : World) lo v, InOwn w' lo v Y → ∃ x cx, v = .slice x Y.length cx ∧ IntsAt w' x Y.length w'.heap.size Y) := fun w' _ v h => h.at
  have HJ : Hid (∀ (w' : World) lo v, GsOwn w' lo v G → ∃ x cx, v = .slice x G.length cx ∧ groupsAt w' x G.length w'.heap.size G) := fun w' _ v h => h.at
  generalize Y.length = n at T1 T2 HI
  generalize G.length = n' at T1 T2 HJ
  go_enter Try.func22, Try.ntmps22
  go_wp2_with fail
  have b1 : Below w.heap.size w (((w.alloc (Obj.cells #[Value.slice a n c, Value.slice a' n' c'] 29)).alloc (Obj.cells #[Value.slice none 0 0, Value.slice none 0 0] 41)).alloc (Obj.cells #[Value.slice none 0 0, Value.slice none 0 0] 41)) := ((below_new _ _).alloc (by simp) _).alloc (by simp; omega) _
  have m0 : Blk (((w.alloc (Obj.cells #[Value.slice a n c, Value.slice a' n' c'] 29)).alloc (Obj.cells #[Value.slice none 0 0, Value.slice none 0 0] 41)).alloc (Obj.cells #[Value.slice none 0 0, Value.slice none 0 0] 41)) w.heap.size #[Value.slice a n c, Value.slice a' n' c'] 29 := Blk.new0.alloc.alloc
  have m1 : Blk (((w.alloc (Obj.cells #[Value.slice a n c, Value.slice a' n' c'] 29)).alloc (Obj.cells #[Value.slice none 0 0, Value.slice none 0 0] 41)).alloc (Obj.cells #[Value.slice none 0 0, Value.slice none 0 0] 41)) (w.heap.size + 1) #[Value.slice none 0 0, Value.slice none 0 0] 41 := Blk.new1.alloc
  have m2 : Blk (((w.alloc (Obj.cells #[Value.slice a n c, Value.slice a' n' c'] 29)).alloc (Obj.cells #[Value.slice none 0 0, Value.slice none 0 0] 41)).alloc (Obj.cells #[Value.slice none 0 0, Value.slice none 0 0] 41)) (w.heap.size + 1 + 1) #[Value.slice none 0 0, Value.slice none 0 0] 41 := Blk.new2
  generalize (((w.alloc (Obj.cells #[Value.slice a n c, Value.slice a' n' c'] 29)).alloc (Obj.cells #[Value.slice none 0 0, Value.slice none 0 0] 41)).alloc (Obj.cells #[Value.slice none 0 0, Value.slice none 0 0] 41)) = V at b1 m0 m1 m2 ⊢
  refine (unhide T1 V b1).mono ?_
  rintro e w2 ⟨⟨v, rfl, hO⟩, hb2⟩
  obtain ⟨x, cx, rfl, _⟩ := unhide HI _ _ _ hO
  have hz1 := b1.size
  have z2 := m2.lt
  have b2 := b1.trans (hb2.mono b1.size)
  have n0 := m0.below hb2
  have n1 := m1.below hb2
  have n2 := m2.below hb2
  have HO := hide (hO.lower (show w.heap.size + 1 + 1 + 1 ≤ V.heap.size by omega))
  have c0 : w2.cell? ⟨w.heap.size, 0, none⟩ = some (.slice a n c) := n0.cell 0 _ rfl
  have c1 : w2.cell? ⟨w.heap.size, 1, none⟩ = some (.slice a' n' c') := n0.cell 1 _ rfl
  have e0 : w2.cell? ⟨w.heap.size + 1 + 1, 0, none⟩ = some (.slice none 0 0) := n2.cell 0 _ rfl
  have f2 := n2.froz
  have hz2 := b2.size
  have z2' := n2.lt
  clear hO m0 m1 m2 hb2
  go_wp2_with fail
  have b3 : Below w.heap.size w (w2.setCell ⟨w.heap.size + 1 + 1, 0, none⟩ (.slice x n cx)) := b2.setCell (p := ⟨w.heap.size + 1 + 1, 0, none⟩) (by simp; omega) _
  have k3 : Kept (fun g => g = w.heap.size + 1 + 1) w2 (w2.setCell ⟨w.heap.size + 1 + 1, 0, none⟩ (.slice x n cx)) := Kept.set _ _ _ _ rfl
  have HO3 := hide ((unhide HO).kept k3 (fun g hg hS => by have := ((unhide HO).blk g hg).1; omega))
  have o1 := n1.kept k3 (by omega)
  have o2 : Blk (w2.setCell ⟨w.heap.size + 1 + 1, 0, none⟩ (.slice x n cx)) (w.heap.size + 1 + 1) #[.slice x n cx, .slice none 0 0] 41 := n2.set 0 _
  have hz3 : (w2.setCell ⟨w.heap.size + 1 + 1, 0, none⟩ (.slice x n cx)).heap.size = w2.heap.size := by simp
  generalize (w2.setCell ⟨w.heap.size + 1 + 1, 0, none⟩ (.slice x n cx)) = V3 at b3 k3 HO3 o1 o2 hz3 ⊢
  refine (unhide T2 V3 b3).mono ?_
  rintro e w4 ⟨⟨v, rfl, hO4⟩, hb4⟩
  obtain ⟨y, cy, rfl, _⟩ := unhide HJ _ _ _ hO4
  have b4 := b3.trans (hb4.mono b3.size)
  have p1 := o1.below hb4
  have p2 := o2.below hb4
  have HO4 := hide (hO4.lower (show w.heap.size + 1 + 1 + 1 ≤ V3.heap.size by omega))
  have HO5 := hide (InOwn.below (unhide HO3) hb4)
  have d0 : w4.cell? ⟨w.heap.size + 1 + 1, 0, none⟩ = some (.slice x n cx) := p2.cell 0 _ rfl
  have d1 : w4.cell? ⟨w.heap.size + 1 + 1, 1, none⟩ = some (.slice none 0 0) := p2.cell 1 _ rfl
  have g0 : w4.cell? ⟨w.heap.size + 1, 0, none⟩ = some (.slice none 0 0) := p1.cell 0 _ rfl
  have g1 : w4.cell? ⟨w.heap.size + 1, 1, none⟩ = some (.slice none 0 0) := p1.cell 1 _ rfl
  have f4 := p1.froz
  have f5 := p2.froz
  have k9 : Kept (fun g => g = w.heap.size + 1 + 1 ∨ g = w.heap.size + 1) w4 (((w4.setCell ⟨w.heap.size + 1 + 1, 1, none⟩ (.slice y n' cy)).setCell ⟨w.heap.size + 1, 0, none⟩ (.slice x n cx)).setCell ⟨w.heap.size + 1, 1, none⟩ (.slice y n' cy)) := ((Kept.set _ _ _ _ (Or.inl rfl)).trans (Kept.set _ _ _ _ (Or.inr rfl))).trans (Kept.set _ _ _ _ (Or.inr rfl))
  have HA := hide ((unhide HO5).kept k9 (fun g hg hS => by have := ((unhide HO5).blk g hg).1; omega))
  have HBB := hide ((unhide HO4).kept k9 (fun g hg hS => by omega))
  have HN : Hid (Blk (((w4.setCell ⟨w.heap.size + 1 + 1, 1, none⟩ (.slice y n' cy)).setCell ⟨w.heap.size + 1, 0, none⟩ (.slice x n cx)).setCell ⟨w.heap.size + 1, 1, none⟩ (.slice y n' cy)) (w.heap.size + 1) #[.slice x n cx, .slice y n' cy] 41) := ((p1.set_other (by omega) _ _).set 0 _).set 1 _
  have HB9 := hide (b4.trans (k9.below b4.size (fun i hi => by omega)))
  clear o1 o2 p1 p2 n0 n1 n2 hO4 k9 k3 hb4 b4
  go_wp2_with fail
  (try simp only [Exit.inBlock, Exit.then])
  refine bodyPost_ret (results_proof Try.results22 _ _ (w.heap.size + 1) _ _ rfl (unhide HN)) rfl ?_
  exact ⟨⟨_, _, rfl, (unhide HA).lower (by omega), (unhide HBB).lower (by omega)⟩, unhide HB9⟩

theorem PrAt.of_own {w : World} {lo : Nat} {vy vg : Value} {Y : List Int} {G : List GrpI} (h1 : InOwn w lo vy Y) (h2 : GsOwn w lo vg G) (hI : PrIn Y G) : PrAt w (.agg #[vy, vg]) w.heap.size Y G := by
  obtain ⟨a, c, rfl, hY⟩ := h1.at
  obtain ⟨a', c', rfl, hG⟩ := h2.at
  exact ⟨a, _, c, a', _, c', rfl, hY, hG, hI⟩

theorem PrAt.lens {w : World} {v : Value} {B : Nat} {Y : List Int} {G : List GrpI} (h : PrAt w v B Y G) : PrIn Y G := by
  obtain ⟨_, _, _, _, _, _, _, _, _, h⟩ := h
  exact h

theorem toProof_gen (v : Value) (B : Nat) (Y : List Int) (G : List GrpI) (hn : psize Y G ≤ 1048576) (w : World) (hB : B ≤ w.heap.size) (hv : PrAt w v B Y G) :
    Calls Try.prog 22 #[v] w fun e w' => (∃ d, e = .returned d ∧ PrOwn w' w.heap.size d Y G) ∧ Below w.heap.size w w' := by
  refine (toProof_own v B Y G hn w hB hv).mono ?_
  rintro e w' ⟨⟨vy, vg, rfl, h1, h2⟩, hb⟩
  exact ⟨⟨_, rfl, PrAt.of_own h1 h2 hv.lens⟩, hb⟩

set_option maxRecDepth 100000 in
set_option maxHeartbeats 1000000 in
theorem eqProof_gen (v u : Value) (B B' : Nat) (Y : List Int) (G : List GrpI) (hn : psize Y G ≤ 1048576) (w : World) (hB : B ≤ w.heap.size) (hB' : B' ≤ w.heap.size) (hv : PrAt w v B Y G) (hu : PrAt w u B' Y G) :
    Calls Try.prog 30 #[v, u] w fun e w' => e = .returned (.bool true) ∧ Below w.heap.size w w' := by
  obtain ⟨l1, l2, l3⟩ := psize_le hn
  obtain ⟨a, n, c, a', n', c', rfl, hY, hG, _⟩ := hv.mono hB
  obtain ⟨x, m, cx, y, m', cy, rfl, hY', hG', _⟩ := hu.mono hB'
  obtain rfl := hY.1
  obtain rfl := hG.1
  obtain rfl := hY'.1
  obtain rfl := hG'.1
  have E1 := hide (fun w1 (hb : Below w.heap.size w w1) => eqInts_same a x Y.length c cx w.heap.size w.heap.size Y l1 w1 hb.size hb.size (hY.below hb (Nat.le_refl _)) (hY'.below hb (Nat.le_refl _)))
  have E2 := hide (fun w1 (hb : Below w.heap.size w w1) => eqGroups_same a' y G.length c' cy w.heap.size G l2 l3 w1 hb.size (hG.below hb (Nat.le_refl _)) (hG'.below hb (Nat.le_refl _)))
  clear hY hG hY' hG' l1 l2 l3 hn hv hu
  generalize Y.length = n at E1
  generalize G.length = n' at E2
  go_enter Try.func30, Try.ntmps30
  go_wp2_with fail
  have b1 : Below w.heap.size w ((w.alloc (Obj.cells #[Value.slice a n c, Value.slice a' n' c'] 41)).alloc (Obj.cells #[Value.slice x n cx, Value.slice y n' cy] 41)) := (below_new _ _).alloc (by simp) _
  have m0 : Blk ((w.alloc (Obj.cells #[Value.slice a n c, Value.slice a' n' c'] 41)).alloc (Obj.cells #[Value.slice x n cx, Value.slice y n' cy] 41)) w.heap.size #[Value.slice a n c, Value.slice a' n' c'] 41 := Blk.new0.alloc
  have m1 : Blk ((w.alloc (Obj.cells #[Value.slice a n c, Value.slice a' n' c'] 41)).alloc (Obj.cells #[Value.slice x n cx, Value.slice y n' cy] 41)) (w.heap.size + 1) #[Value.slice x n cx, Value.slice y n' cy] 41 := Blk.new1
  generalize ((w.alloc (Obj.cells #[Value.slice a n c, Value.slice a' n' c'] 41)).alloc (Obj.cells #[Value.slice x n cx, Value.slice y n' cy] 41)) = V at b1 m0 m1 ⊢
  refine (unhide E1 V b1).mono ?_
  rintro e w2 ⟨rfl, hb2⟩
  have b2 := b1.trans (hb2.mono b1.size)
  have c0 : w2.cell? ⟨w.heap.size, 1, none⟩ = some (.slice a' n' c') := (m0.below hb2).cell 1 _ rfl
  have c1 : w2.cell? ⟨w.heap.size + 1, 1, none⟩ = some (.slice y n' cy) := (m1.below hb2).cell 1 _ rfl
  clear m0 m1 hb2
  go_wp2_with fail
  refine (unhide E2 w2 b2).mono ?_
  rintro e w3 ⟨rfl, hb3⟩
  have b3 := b2.trans (hb3.mono b2.size)
  clear hb3 c0 c1
  go_wp2_with fail
  go_ret
  exact ⟨rfl, b3⟩

theorem cells_proof : Try.prog.cellsOf 29 = 2 := by kernel_rfl

set_option maxRecDepth 100000 in
/-- A proof that came in. -/
theorem proof_in {H : Type} {enc : TypeId × Value → H} {W : World} {r : Reach} {b0 : Nat} {v : Value} {d : DataW H} {p : List MemPlace}
    (hv : Value.okWide Try.prog W r b0 29 v) (h : DataW.Trod enc Try.prog W 0 (fun _ => true) true 29 v d p) : ∃ Y G, PrAt W v W.heap.size Y G ∧ psize Y G ≤ 9223372036854775807 := by
  obtain ⟨v0, v1, y0, y1, n, rfl, _, _, h0, h1⟩ := Joins.open_agg2 Try.underlying29 (by kernel_rfl) cells_proof hv h
  have hone : [v0] = v0.cells.toList := by
    rcases Deep.open_slice Try.underlying26 h0 with ⟨hcs, _⟩ | ⟨a, len, cap, m, n, D, Pl, hcs, _⟩
    · simp at hcs; subst hcs; rfl
    · simp at hcs; subst hcs; rfl
  rw [hone] at h0
  obtain ⟨a, k, c, Y, hcs, hY, _, hn⟩ := ints_open (fun _ => rfl) h0
  rw [← hone] at hcs
  simp at hcs
  subst hcs
  obtain ⟨a', k', c', G, rfl, hG, hG1, hG2⟩ := groups_open (fun _ => rfl) h1
  refine ⟨Y, G, ⟨a, k, c, a', k', c', rfl, hY, hG, by have := hY.1; omega, hG1, hG2⟩, ?_⟩
  unfold psize
  omega

end Gr
end Go.Proofs.Ytldbanpfhlmjmaa

/-
  The contract of spec.GraphOk.
-/
namespace Go.Proofs.Ytldbanpfhlmjmaa
namespace Gr
open Go.RowKit

theorem l01In_is (x y z : Int) (w : World) :
    Calls Try.prog 56 #[.int .i64 x, .int .i64 y, .int .i64 z] w fun e w' => e = .returned (.bool (decide (y ≤ x) && decide (x ≤ z))) ∧ w' = w := by
  go_enter Try.func56, Try.ntmps56
  go_wp2
  all_goals (go_ret; exact ⟨by simp_all <;> omega, rfl⟩)

def worthOk (x : Int) : Bool := decide (0 ≤ x) && decide (x ≤ 50)

theorem worth_any (x : Int) (w : World) :
    Calls Try.prog 77 #[.int .i64 x] w fun e w' => e = .returned (.bool (worthOk x)) ∧ w' = w := by
  have H := hide (fun w => l01In_is x 0 50 w)
  unfold worthOk
  generalize (decide (0 ≤ x) && decide (x ≤ 50)) = r at H
  go_enter Try.func77, Try.ntmps77
  go_wp2_with fail
  refine (unhide H _).mono ?_
  rintro e w1 ⟨rfl, rfl⟩
  go_wp2
  go_ret
  exact ⟨rfl, rfl⟩

/-- Whether an edge may stand in a graph of a size. -/
def edgeOk (s : Int) (e : EdgeI) : Bool := decide (0 ≤ e.A) && (decide (e.A < e.B) && (decide (e.B < s) && (worthOk e.W1 && (worthOk e.W2 && worthOk e.W3))))

/-- Whether an edge may stand behind another one. -/
def ahead (p e : EdgeI) : Bool := decide (p.A < e.A) || (decide (p.A = e.A) && decide (p.B < e.B))

def aheadOf (p : Option EdgeI) (e : EdgeI) : Bool := match p with | none => true | some q => ahead q e

/-- Whether edges may stand behind another one. -/
def okFrom (s : Int) : Option EdgeI → List EdgeI → Bool
  | _, [] => true
  | p, e :: r => edgeOk s e && (aheadOf p e && okFrom s (some e) r)

/-- Whether a graph is right. -/
def graphOk (s : Int) (Q : List EdgeI) : Bool := (decide (0 ≤ s) && decide (s ≤ 9)) && okFrom s none Q

/-- The edge ahead of the k-th. -/
def prevE (Q : List EdgeI) (k : Nat) : Option EdgeI := if k = 0 then none else Q[k - 1]?

theorem okFrom_step (s : Int) (Q : List EdgeI) (k : Nat) (h : k < Q.length) : okFrom s (prevE Q k) (Q.drop k) = (edgeOk s Q[k] && (aheadOf (prevE Q k) Q[k] && okFrom s (prevE Q (k + 1)) (Q.drop (k + 1)))) := by
  rw [← List.getElem_cons_drop h]
  have e : prevE Q (k + 1) = some Q[k] := by unfold prevE; simp [h]
  rw [e]
  rfl

set_option maxRecDepth 100000 in
set_option maxHeartbeats 4000000 in
theorem specGraph_any (v : Value) (B : Nat) (s : Int) (Q : List EdgeI) (h1 : Q.length ≤ 1048576) (w : World) (hB : B ≤ w.heap.size) (hv : GrAt w v B s Q) :
    Calls Try.prog 55 #[v] w fun e w' => e = .returned (.bool (graphOk s Q)) ∧ Below w.heap.size w w' := by
  obtain ⟨a, n, c, rfl, hE⟩ := hv
  have HI := hide (fun w => l01In_is s 0 9 w)
  have hg : graphOk s Q = ((decide (0 ≤ s) && decide (s ≤ 9)) && okFrom s none Q) := rfl
  cases hsz : (decide (0 ≤ s) && decide (s ≤ 9))
  · rw [hsz] at HI hg
    rw [hg, Bool.false_and]
    clear hE hg hsz
    go_enter Try.func55, Try.ntmps55
    go_wp2_with fail
    refine (unhide HI _).mono ?_
    rintro e w1 ⟨rfl, rfl⟩
    go_wp2
    go_ret
    exact ⟨rfl, below_new _ _⟩
  · rw [hsz] at HI hg
    rw [Bool.true_and] at hg
    obtain ⟨hL, hc⟩ := hE
    have HST := hide (fun k h => okFrom_step s Q k h)
    have HEND : Hid (okFrom s (prevE Q n) (Q.drop n) = true) := by show _ = _; rw [← hL, List.drop_length]; cases prevE Q Q.length <;> rfl
    have H0 : Hid (graphOk s Q = okFrom s (prevE Q 0) (Q.drop 0)) := hg
    have HC := hide hc
    have HL := hide hL
    generalize graphOk s Q = r at H0
    have HN : Hid (n ≤ 1048576) := by show _ ≤ _; omega
    clear hc hL hg hsz h1
    go_enter Try.func55, Try.ntmps55
    go_wp2_with fail
    obtain ⟨V1, hV1⟩ : ∃ W, W = w.alloc (Obj.cells #[Value.int .i64 s, Value.slice a n c] 37) := ⟨_, rfl⟩
    rw [← hV1]
    have x1 : GBox V1 w.heap.size s (.slice a n c) := by rw [hV1]; exact GBox.new _ _ _
    have b1 : Below w.heap.size w V1 := by rw [hV1]; exact below_new _ _
    have z1 : V1.heap.size = w.heap.size + 1 := by rw [hV1]; simp
    clear hV1
    refine (unhide HI _).mono ?_
    rintro e w1 ⟨rfl, rfl⟩
    obtain ⟨p0, p1⟩ := x1.cells
    go_wp2_with fail
    go_loopw [3] (fun i wr => ∃ j : Nat, i = .int .i64 (j : Int) ∧ j ≤ n ∧ Hid (r = okFrom s (prevE Q j) (Q.drop j)) ∧ Below (w.heap.size + 1) w1 wr) (fun i _ => n - (intOf i).toNat)
    case atStart => exact ⟨0, rfl, Nat.zero_le _, unhide H0, Below.refl _ _⟩
    case round =>
      obtain ⟨j, rfl, hj, HR, hb⟩ := hrel
      have hsr := hb.size
      have g0 := p0
      have g1 := p1
      rw [← hb.cell (p := ⟨w.heap.size, 0, none⟩) (by simp)] at g0
      rw [← hb.cell (p := ⟨w.heap.size, 1, none⟩) (by simp)] at g1
      by_cases hlt : j < n
      · have hjL : j < Q.length := by have := unhide HL; omega
        obtain ⟨b, off, rfl, hbB, c0, c1, c2, c3, c4⟩ := unhide HC j hjL
        have hbw : Below w.heap.size w wr := b1.trans (hb.mono (by omega))
        rw [← hbw.cell (p := ⟨b, off + j * 5, none⟩) (by simp; omega)] at c0
        rw [← hbw.cell (p := ⟨b, off + j * 5 + 1, none⟩) (by simp; omega)] at c1
        rw [← hbw.cell (p := ⟨b, off + j * 5 + 2, none⟩) (by simp; omega)] at c2
        rw [← hbw.cell (p := ⟨b, off + j * 5 + 3, none⟩) (by simp; omega)] at c3
        rw [← hbw.cell (p := ⟨b, off + j * 5 + 4, none⟩) (by simp; omega)] at c4
        have HPR : Hid (∀ q, prevE Q j = some q → 0 < j ∧ wr.cell? ⟨b, off + (j - 1) * 5, none⟩ = some (.int .i64 q.A) ∧ wr.cell? ⟨b, off + (j - 1) * 5 + 1, none⟩ = some (.int .i64 q.B)) := fun q hq => by
          unfold prevE at hq
          split at hq
          · cases hq
          · have hj1 : j - 1 < Q.length := by omega
            obtain ⟨b', off', e', _, k0, k1, _⟩ := unhide HC (j - 1) hj1
            simp at e'
            obtain ⟨rfl, rfl⟩ := e'
            rw [List.getElem?_eq_getElem hj1] at hq
            obtain rfl := Option.some.inj hq
            refine ⟨by omega, ?_, ?_⟩
            · rw [hbw.cell (p := ⟨b, off + (j - 1) * 5, none⟩) (by simp; omega)]; exact k0
            · rw [hbw.cell (p := ⟨b, off + (j - 1) * 5 + 1, none⟩) (by simp; omega)]; exact k1
        have HPZ : Hid (prevE Q j = none → j = 0) := fun h => by
          unfold prevE at h
          split at h
          · assumption
          · rw [List.getElem?_eq_getElem (show j - 1 < Q.length by omega)] at h; cases h
        have hr := (unhide HR).trans (unhide HST j hjL)
        have hwl : w.heap.size < wr.heap.size := by omega
        have hbl : b < wr.heap.size := by omega
        have hx0 : (0 : Int) ≤ (j : Int) := by omega
        have hx1 : (j : Int) < (n : Int) := by omega
        have hx2 : (n : Int) ≤ 9223372036854775807 := by have := unhide HN; omega
        generalize Q[j] = q at c0 c1 c2 c3 c4 hr
        generalize hrest : okFrom s (prevE Q (j + 1)) (Q.drop (j + 1)) = rest at hr
        have HREST := hide hrest
        clear hrest
        generalize hpe : prevE Q j = pe at hr HPR HPZ
        obtain ⟨y0, y1, y2, y3, y4⟩ := q
        simp only at c0 c1 c2 c3 c4
        have hok : edgeOk s ⟨y0, y1, y2, y3, y4⟩ = (decide (0 ≤ y0) && (decide (y0 < y1) && (decide (y1 < s) && (worthOk y2 && (worthOk y3 && worthOk y4))))) := rfl
        rw [hok] at hr
        have W2 := hide (fun w => worth_any y2 w)
        have W3 := hide (fun w => worth_any y3 w)
        have W4 := hide (fun w => worth_any y4 w)
        generalize worthOk y2 = k2 at W2 hr
        generalize worthOk y3 = k3 at W3 hr
        generalize worthOk y4 = k4 at W4 hr
        have hbn : Below w.heap.size w (wr.alloc (Obj.cells #[Value.int .i64 y0, Value.int .i64 y1, Value.int .i64 y2, Value.int .i64 y3, Value.int .i64 y4] 58)) := hbw.alloc hbw.size _
        have HBN := hide hbn
        have hbm : Below (w.heap.size + 1) w1 (wr.alloc (Obj.cells #[Value.int .i64 y0, Value.int .i64 y1, Value.int .i64 y2, Value.int .i64 y3, Value.int .i64 y4] 58)) := hb.alloc (by omega) _
        have HBM := hide hbm
        clear hok HR hpe hbn hbm hb hbw
        by_cases t0 : y0 < 0
        · rw [decide_eq_false (show ¬ 0 ≤ y0 by omega), Bool.false_and, Bool.false_and] at hr
          subst hr
          go_wp2_with (first | (go_at_call 77; (first | refine (unhide W2 _).mono ?_ | refine (unhide W3 _).mono ?_ | refine (unhide W4 _).mono ?_); rintro e wk ⟨rfl, rfl⟩))
          go_ret
          exact ⟨rfl, unhide HBN⟩
        · rw [decide_eq_true (show 0 ≤ y0 by omega), Bool.true_and] at hr
          by_cases t1 : y1 ≤ y0
          · rw [decide_eq_false (show ¬ y0 < y1 by omega), Bool.false_and, Bool.false_and] at hr
            subst hr
            go_wp2_with (first | (go_at_call 77; (first | refine (unhide W2 _).mono ?_ | refine (unhide W3 _).mono ?_ | refine (unhide W4 _).mono ?_); rintro e wk ⟨rfl, rfl⟩))
            go_ret
            exact ⟨rfl, unhide HBN⟩
          · rw [decide_eq_true (show y0 < y1 by omega), Bool.true_and] at hr
            by_cases t2 : s ≤ y1
            · rw [decide_eq_false (show ¬ y1 < s by omega), Bool.false_and, Bool.false_and] at hr
              subst hr
              go_wp2_with (first | (go_at_call 77; (first | refine (unhide W2 _).mono ?_ | refine (unhide W3 _).mono ?_ | refine (unhide W4 _).mono ?_); rintro e wk ⟨rfl, rfl⟩))
              go_ret
              exact ⟨rfl, unhide HBN⟩
            · rw [decide_eq_true (show y1 < s by omega), Bool.true_and] at hr
              cases k2
              · rw [Bool.false_and, Bool.false_and] at hr
                subst hr
                go_wp2_with (first | (go_at_call 77; (first | refine (unhide W2 _).mono ?_ | refine (unhide W3 _).mono ?_ | refine (unhide W4 _).mono ?_); rintro e wk ⟨rfl, rfl⟩))
                go_ret
                exact ⟨rfl, unhide HBN⟩
              · rw [Bool.true_and] at hr
                cases k3
                · rw [Bool.false_and, Bool.false_and] at hr
                  subst hr
                  go_wp2_with (first | (go_at_call 77; (first | refine (unhide W2 _).mono ?_ | refine (unhide W3 _).mono ?_ | refine (unhide W4 _).mono ?_); rintro e wk ⟨rfl, rfl⟩))
                  go_ret
                  exact ⟨rfl, unhide HBN⟩
                · rw [Bool.true_and] at hr
                  cases k4
                  · rw [Bool.false_and] at hr
                    subst hr
                    go_wp2_with (first | (go_at_call 77; (first | refine (unhide W2 _).mono ?_ | refine (unhide W3 _).mono ?_ | refine (unhide W4 _).mono ?_); rintro e wk ⟨rfl, rfl⟩))
                    go_ret
                    exact ⟨rfl, unhide HBN⟩
                  · rw [Bool.true_and] at hr
                    go_wp2_with (first | (go_at_call 77; (first | refine (unhide W2 _).mono ?_ | refine (unhide W3 _).mono ?_ | refine (unhide W4 _).mono ?_); rintro e wk ⟨rfl, rfl⟩))
                    cases pe with
                    | none =>
                      obtain rfl := unhide HPZ rfl
                      change r = rest at hr
                      have hz : decide (0 < 0) = false := rfl
                      go_quiet (fail)
                      go_wp2
                      go_roundw
                      case rel => exact ⟨0 + 1, by go_num, by omega, (by show _ = _; rw [unhide HREST]; exact hr), below_drewN (unhide HBM) _⟩
                      case measure => simp [intOf]; omega
                    | some q =>
                      obtain ⟨hj0, d0, d1⟩ := unhide HPR q rfl
                      obtain ⟨i, rfl⟩ : ∃ i, j = i + 1 := ⟨j - 1, by omega⟩
                      rw [Nat.add_sub_cancel] at d0 d1
                      obtain ⟨z0, z1', z2, z3, z4⟩ := q
                      simp only at d0 d1
                      change r = ((decide (z0 < y0) || (decide (z0 = y0) && decide (z1' < y1))) && rest) at hr
                      have hj1 : (0 : Int) < (i : Int) + 1 := by omega
                      have hi0 : (0 : Int) ≤ (i : Int) := by omega
                      have hi1 : (i : Int) < (n : Int) := by omega
                      by_cases t3 : y0 < z0
                      · rw [decide_eq_false (show ¬ z0 < y0 by omega), decide_eq_false (show ¬ z0 = y0 by omega), Bool.false_and, Bool.false_or, Bool.false_and] at hr
                        subst hr
                        go_quiet (fail)
                        go_wp2
                        go_ret
                        exact ⟨rfl, below_drewN (unhide HBN) _⟩
                      · have e3 : decide (y0 < z0) = false := decide_eq_false t3
                        by_cases t4 : z0 = y0
                        · subst t4
                          rw [decide_eq_false (show ¬ z0 < z0 by omega), decide_eq_true (show z0 = z0 from rfl), Bool.true_and, Bool.false_or] at hr
                          by_cases t5 : y1 ≤ z1'
                          · rw [decide_eq_false (show ¬ z1' < y1 by omega), Bool.false_and] at hr
                            subst hr
                            go_quiet (fail)
                            go_wp2
                            go_ret
                            exact ⟨rfl, below_drewN (unhide HBN) _⟩
                          · rw [decide_eq_true (show z1' < y1 by omega), Bool.true_and] at hr
                            have e5 : decide (y1 ≤ z1') = false := decide_eq_false t5
                            go_quiet (fail)
                            go_wp2
                            go_roundw
                            case rel => exact ⟨i + 1 + 1, by go_num, by omega, (by show _ = _; rw [unhide HREST]; exact hr), below_drewN (unhide HBM) _⟩
                            case measure => simp [intOf]; omega
                        · have e4 : (z0 == y0) = false := by simpa using t4
                          rw [decide_eq_true (show z0 < y0 by omega), Bool.true_or, Bool.true_and] at hr
                          go_quiet (fail)
                          go_wp2
                          go_roundw
                          case rel => exact ⟨i + 1 + 1, by go_num, by omega, (by show _ = _; rw [unhide HREST]; exact hr), below_drewN (unhide HBM) _⟩
                          case measure => simp [intOf]; omega
      · obtain rfl : j = n := by omega
        have hr := (unhide HR).trans (unhide HEND)
        subst hr
        go_wp2
        go_ret
        exact ⟨rfl, b1.trans (hb.mono (by omega))⟩

end Gr
end Go.Proofs.Ytldbanpfhlmjmaa

/-
  The contracts of spec.Scalar and spec.EdgeAt.
-/
namespace Go.Proofs.Ytldbanpfhlmjmaa
namespace Gr
open Go.RowKit

/-- The three worths as one number. -/
def scal (x : EdgeI) : Int := wrap64 (90000 * x.W1 + 300 * x.W2 + x.W3)

theorem wrap_mod (x : Int) : wrap64 x = (x + 9223372036854775808) % 18446744073709551616 - 9223372036854775808 := by unfold wrap64; rfl

theorem wrap_add_l (x y : Int) : wrap64 (wrap64 x + y) = wrap64 (x + y) := by
  rw [wrap_mod, wrap_mod, wrap_mod]; omega

theorem wrap_add_r (x y : Int) : wrap64 (x + wrap64 y) = wrap64 (x + y) := by
  rw [wrap_mod, wrap_mod, wrap_mod]; omega

set_option maxRecDepth 100000 in
theorem specScalar_any (x : EdgeI) (w : World) :
    Calls Try.prog 61 #[x.v] w fun e w' => e = .returned (.int .i64 (scal x)) ∧ Below w.heap.size w w' := by
  have HS : Hid (scal x = wrap64 (wrap64 (wrap64 (90000 * x.W1) + wrap64 (300 * x.W2)) + x.W3)) := by
    show _ = _
    unfold scal
    simp only [wrap_mod]
    omega
  generalize scal x = r at HS
  unfold EdgeI.v
  obtain ⟨y0, y1, y2, y3, y4⟩ := x
  simp only at HS ⊢
  go_enter Try.func61, Try.ntmps61
  go_wp2
  go_ret
  rw [unhide HS]
  exact ⟨rfl, below_new _ _⟩

/-- Whether an edge lies between a and b. -/
def hit (a b : Int) (e : EdgeI) : Bool := ((e.A == a) && (e.B == b)) || ((e.A == b) && (e.B == a))

/-- Where the first edge between a and b stands. -/
def atFrom (a b : Int) : Nat → List EdgeI → Int
  | _, [] => -1
  | k, e :: r => if hit a b e = true then (k : Int) else atFrom a b (k + 1) r

theorem atFrom_step (a b : Int) (Q : List EdgeI) (k : Nat) (h : k < Q.length) : atFrom a b k (Q.drop k) = if hit a b Q[k] = true then (k : Int) else atFrom a b (k + 1) (Q.drop (k + 1)) := by
  rw [← List.getElem_cons_drop h]
  rfl

set_option maxRecDepth 100000 in
set_option maxHeartbeats 4000000 in
theorem specAt_any (v : Value) (B : Nat) (s x y : Int) (Q : List EdgeI) (h1 : Q.length ≤ 1048576) (w : World) (hB : B ≤ w.heap.size) (hv : GrAt w v B s Q) :
    Calls Try.prog 59 #[v, .int .i64 x, .int .i64 y] w fun e w' => e = .returned (.int .i64 (atFrom x y 0 Q)) ∧ Below w.heap.size w w' := by
  obtain ⟨a, n, c, rfl, hE⟩ := hv
  obtain ⟨hL, hc⟩ := hE
  have HST := hide (fun k h => atFrom_step x y Q k h)
  have HEND : Hid (atFrom x y n (Q.drop n) = -1) := by show _ = _; rw [← hL, List.drop_length]; rfl
  have H0 : Hid (atFrom x y 0 Q = atFrom x y 0 (Q.drop 0)) := rfl
  have HC := hide hc
  have HL := hide hL
  have HN : Hid (n ≤ 1048576) := by show _ ≤ _; omega
  generalize atFrom x y 0 Q = r at H0 ⊢
  clear hc hL h1
  go_enter Try.func59, Try.ntmps59
  go_wp2_with fail
  obtain ⟨V1, hV1⟩ : ∃ W, W = w.alloc (Obj.cells #[Value.int .i64 s, Value.slice a n c] 37) := ⟨_, rfl⟩
  rw [← hV1]
  have x1 : GBox V1 w.heap.size s (.slice a n c) := by rw [hV1]; exact GBox.new _ _ _
  have b1 : Below w.heap.size w V1 := by rw [hV1]; exact below_new _ _
  clear hV1
  obtain ⟨p0, p1⟩ := x1.cells
  go_loopw [7] (fun i wr => ∃ j : Nat, i = .int .i64 (j : Int) ∧ j ≤ n ∧ Hid (r = atFrom x y j (Q.drop j)) ∧ wr = V1) (fun i _ => n - (intOf i).toNat)
  case atStart => exact ⟨0, rfl, Nat.zero_le _, unhide H0, rfl⟩
  case round =>
    obtain ⟨j, rfl, hj, HR, rfl⟩ := hrel
    by_cases hlt : j < n
    · have hjL : j < Q.length := by have := unhide HL; omega
      obtain ⟨b, off, rfl, hbB, c0, c1, _⟩ := unhide HC j hjL
      rw [← b1.cell (p := ⟨b, off + j * 5, none⟩) (by simp; omega)] at c0
      rw [← b1.cell (p := ⟨b, off + j * 5 + 1, none⟩) (by simp; omega)] at c1
      have hr := (unhide HR).trans (unhide HST j hjL)
      generalize hrest : atFrom x y (j + 1) (Q.drop (j + 1)) = rest at hr
      have HREST := hide hrest
      have hx0 : (0 : Int) ≤ (j : Int) := by omega
      have hx1 : (j : Int) < (n : Int) := by omega
      have hx2 : (n : Int) ≤ 9223372036854775807 := by have := unhide HN; omega
      generalize Q[j] = q at c0 c1 hr
      obtain ⟨y0, y1, y2, y3, y4⟩ := q
      have hh : hit x y ⟨y0, y1, y2, y3, y4⟩ = (((y0 == x) && (y1 == y)) || ((y0 == y) && (y1 == x))) := rfl
      simp only at c0 c1
      generalize hit x y ⟨y0, y1, y2, y3, y4⟩ = h at hh hr
      clear hrest HR
      cases t0 : (y0 == x) <;> cases t1 : (y1 == y) <;> cases t2 : (y0 == y) <;> cases t3 : (y1 == x)
      all_goals
        rw [t0, t1, t2, t3] at hh
        first | (obtain rfl : h = true := hh) | (obtain rfl : h = false := hh)
        first | rw [if_pos rfl] at hr | rw [if_neg (by simp)] at hr
        subst hr
        go_wp2
        first
          | (go_ret; exact ⟨rfl, b1⟩)
          | (go_roundw
             case rel => exact ⟨j + 1, by go_num, by omega, (by show _ = _; rw [unhide HREST]), (by first | rfl | trivial)⟩
             case measure => simp [intOf]; omega)
    · obtain rfl : j = n := by omega
      have hr := (unhide HR).trans (unhide HEND)
      subst hr
      go_wp2
      go_ret
      exact ⟨rfl, b1⟩

/-- What EdgeAt tells. -/
def edgeAtV (s x y : Int) (Q : List EdgeI) : Int := if graphOk s Q = true then atFrom x y 0 Q else -1

end Gr
end Go.Proofs.Ytldbanpfhlmjmaa

/-
  What a right graph is, as mathematics; where an edge stands.
-/
namespace Go.Proofs.Ytldbanpfhlmjmaa
namespace Gr
open Go.RowKit

theorem ahead_iff (p e : EdgeI) : ahead p e = true ↔ p.A < e.A ∨ p.A = e.A ∧ p.B < e.B := by
  unfold ahead
  simp

theorem ahead_trans {a b c : EdgeI} (h : ahead a b = true) (k : ahead b c = true) : ahead a c = true := by
  rw [ahead_iff] at *
  omega

theorem edgeOk_iff (s : Int) (e : EdgeI) : edgeOk s e = true ↔ 0 ≤ e.A ∧ e.A < e.B ∧ e.B < s ∧ worthOk e.W1 = true ∧ worthOk e.W2 = true ∧ worthOk e.W3 = true := by
  unfold edgeOk
  simp

theorem okFrom_sound (s : Int) : ∀ (Q : List EdgeI) (p : Option EdgeI), okFrom s p Q = true → (∀ e ∈ Q, edgeOk s e = true) ∧ Q.Pairwise (fun a b => ahead a b = true) ∧ ∀ q, p = some q → ∀ e ∈ Q, ahead q e = true
  | [], _, _ => ⟨by simp, List.Pairwise.nil, by simp⟩
  | e :: r, p, h => by
    have h' : (edgeOk s e && (aheadOf p e && okFrom s (some e) r)) = true := h
    simp only [Bool.and_eq_true] at h'
    obtain ⟨h1, h2, h3⟩ := h'
    obtain ⟨i1, i2, i3⟩ := okFrom_sound s r (some e) h3
    refine ⟨fun x hx => ?_, List.Pairwise.cons (fun x hx => i3 e rfl x hx) i2, fun q hq x hx => ?_⟩
    · rcases List.mem_cons.1 hx with rfl | hx
      · exact h1
      · exact i1 x hx
    · subst hq
      have h2' : ahead q e = true := h2
      rcases List.mem_cons.1 hx with rfl | hx
      · exact h2'
      · exact ahead_trans h2' (i3 e rfl x hx)

theorem okFrom_of (s : Int) : ∀ (Q : List EdgeI) (p : Option EdgeI), (∀ e ∈ Q, edgeOk s e = true) → Q.Pairwise (fun a b => ahead a b = true) → (∀ q, p = some q → ∀ e ∈ Q, ahead q e = true) → okFrom s p Q = true
  | [], _, _, _, _ => rfl
  | e :: r, p, h1, h2, h3 => by
    show (edgeOk s e && (aheadOf p e && okFrom s (some e) r)) = true
    simp only [Bool.and_eq_true]
    rw [List.pairwise_cons] at h2
    refine ⟨h1 e List.mem_cons_self, ?_, okFrom_of s r (some e) (fun x hx => h1 x (List.mem_cons_of_mem _ hx)) h2.2 (fun q hq x hx => by obtain rfl := Option.some.inj hq; exact h2.1 x hx)⟩
    cases p with
    | none => rfl
    | some q => exact h3 q rfl e List.mem_cons_self

theorem graph_sound {s : Int} {Q : List EdgeI} (h : graphOk s Q = true) : 0 ≤ s ∧ s ≤ 9 ∧ (∀ e ∈ Q, edgeOk s e = true) ∧ Q.Pairwise (fun a b => ahead a b = true) := by
  unfold graphOk at h
  simp only [Bool.and_eq_true, decide_eq_true_eq] at h
  obtain ⟨⟨h0, h1⟩, h2⟩ := h
  obtain ⟨i1, i2, _⟩ := okFrom_sound s Q none h2
  exact ⟨h0, h1, i1, i2⟩

theorem graph_of {s : Int} {Q : List EdgeI} (h0 : 0 ≤ s) (h1 : s ≤ 9) (h2 : ∀ e ∈ Q, edgeOk s e = true) (h3 : Q.Pairwise (fun a b => ahead a b = true)) : graphOk s Q = true := by
  unfold graphOk
  rw [okFrom_of s Q none h2 h3 (by simp), decide_eq_true h0, decide_eq_true h1]
  rfl

theorem mono_at {K : List Int} (h : K.Pairwise (· < ·)) {i j : Nat} {x y : Int} (hi : K[i]? = some x) (hj : K[j]? = some y) : (i < j ↔ x < y) ∧ (i = j ↔ x = y) := by
  obtain ⟨hi', rfl⟩ := List.getElem?_eq_some_iff.1 hi
  obtain ⟨hj', rfl⟩ := List.getElem?_eq_some_iff.1 hj
  have hp := List.pairwise_iff_getElem.1 h
  rcases Nat.lt_trichotomy i j with hij | rfl | hij
  · have := hp i j hi' hj' hij
    exact ⟨⟨fun _ => this, fun _ => hij⟩, ⟨fun e => by omega, fun e => by omega⟩⟩
  · exact ⟨⟨fun e => by omega, fun e => by omega⟩, ⟨fun _ => rfl, fun _ => rfl⟩⟩
  · have := hp j i hj' hi' hij
    exact ⟨⟨fun e => by omega, fun e => by omega⟩, ⟨fun e => by omega, fun e => by omega⟩⟩

theorem lt_of_at {K : List Int} {i : Nat} {x : Int} (h : K[i]? = some x) : i < K.length := (List.getElem?_eq_some_iff.1 h).1

theorem hit_iff {s x y : Int} {e : EdgeI} (he : edgeOk s e = true) (hxy : x < y) : (hit x y e = true ↔ e.A = x ∧ e.B = y) ∧ (hit y x e = true ↔ e.A = x ∧ e.B = y) := by
  have := (edgeOk_iff s e).1 he
  unfold hit
  simp only [Bool.or_eq_true, Bool.and_eq_true, beq_iff_eq]
  omega

theorem at_some (x y : Int) : ∀ (Q : List EdgeI) (k : Nat), (∃ e ∈ Q, hit x y e = true) → ∃ i e, Q[i]? = some e ∧ hit x y e = true ∧ atFrom x y k Q = ((k + i : Nat) : Int)
  | [], _, h => by simp at h
  | q :: r, k, h => by
    unfold atFrom
    by_cases hq : hit x y q = true
    · rw [if_pos hq]
      exact ⟨0, q, rfl, hq, rfl⟩
    · rw [if_neg hq]
      have hr : ∃ e ∈ r, hit x y e = true := by
        obtain ⟨e, he, hh⟩ := h
        rcases List.mem_cons.1 he with rfl | he
        · exact absurd hh hq
        · exact ⟨e, he, hh⟩
      obtain ⟨i, e, h1, h2, h3⟩ := at_some x y r (k + 1) hr
      exact ⟨i + 1, e, by simpa using h1, h2, by rw [h3]; omega⟩

theorem at_none (x y : Int) : ∀ (Q : List EdgeI) (k : Nat), (∀ e ∈ Q, ¬ hit x y e = true) → atFrom x y k Q = -1
  | [], _, _ => rfl
  | q :: r, k, h => by
    unfold atFrom
    rw [if_neg (h q List.mem_cons_self)]
    exact at_none x y r (k + 1) (fun e he => h e (List.mem_cons_of_mem _ he))

/-- Two edges of a right graph between the same vertices are one. -/
theorem same_edge {Q : List EdgeI} (h : Q.Pairwise (fun a b => ahead a b = true)) {p e : EdgeI} (hp : p ∈ Q) (he : e ∈ Q) (hA : p.A = e.A) (hB : p.B = e.B) : p = e := by
  obtain ⟨i, hi, rfl⟩ := List.getElem_of_mem hp
  obtain ⟨j, hj, rfl⟩ := List.getElem_of_mem he
  have hq := List.pairwise_iff_getElem.1 h
  rcases Nat.lt_trichotomy i j with hij | rfl | hij
  · have := (ahead_iff _ _).1 (hq i j hi hj hij); omega
  · rfl
  · have := (ahead_iff _ _).1 (hq j i hj hi hij); omega

end Gr
end Go.Proofs.Ytldbanpfhlmjmaa
