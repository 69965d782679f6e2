/-
  Texts of this claim, one behind the other: GrGroup3, GrGroup4, GrGroup5.
-/
import Derived.Test.YtldbanpfhlmjmaaJ15
import Derived.Test.YtldbanpfhlmjmaaJ6
import Derived.Laws.EntriesVeiled

/-
  Copies of groups and proofs.
-/
namespace Go.Proofs.Ytldbanpfhlmjmaa
namespace Gr
open Go.RowKit

theorem infoGroup : (Try.prog.info? 62).map (fun i => (i.zero, i.size, i.bytes)) = some (some (.agg #[.slice none 0 0, .int .i64 0]), 2, 32) := by kernel_rfl

theorem results_group {fn : Func} {p : Tmp} (h : fn.results = #[.cell p 62]) (tmps : Array Value) (w : World) (g : Nat) (x y : Value) (hp : tmps.getD p undef = .pointer (some ⟨g, 0, none⟩)) (hg : Blk w g #[x, y] 62) :
    (results fn tmps).run Try.prog w = .ok (.agg #[x, y]) w := by
  have c0 := hg.cell 0 x rfl
  have c1 := hg.cell 1 y rfl
  have hp' : tmps[p]?.getD undef = .pointer (some ⟨g, 0, none⟩) := by simpa using hp
  simp [results, h, hp', go_sem, c0, c1]

theorem results_proof {fn : Func} {p : Tmp} (h : fn.results = #[.cell p 41]) (tmps : Array Value) (w : World) (g : Nat) (x y : Value) (hp : tmps.getD p undef = .pointer (some ⟨g, 0, none⟩)) (hg : Blk w g #[x, y] 41) :
    (results fn tmps).run Try.prog w = .ok (.agg #[x, y]) w := by
  have c0 := hg.cell 0 x rfl
  have c1 := hg.cell 1 y rfl
  have hp' : tmps[p]?.getD undef = .pointer (some ⟨g, 0, none⟩) := by simpa using hp
  simp [results, h, hp', go_sem, c0, c1]

set_option maxRecDepth 100000 in
set_option maxHeartbeats 1000000 in
theorem toGroup_any (a : Option Addr) (c B : Nat) (q : GrpI) (hn : q.M.length ≤ 1048576) (w : World) (hB : B ≤ w.heap.size) (hM : IntsAt w a q.M.length B q.M) :
    Calls Try.prog 63 #[.agg #[.slice a q.M.length c, .int .i64 q.Z]] w fun e w' => (∃ v, e = .returned (.agg #[v, .int .i64 q.Z]) ∧ InOwn w' w.heap.size v q.M) ∧ Below w.heap.size w w' := by
  have TI := hide (fun w1 (hb : Below w.heap.size w w1) => toInts_gen (.slice a q.M.length c) B q.M hn w1 (by have := hb.size; omega) ⟨a, c, rfl, hM.below hb hB⟩)
  generalize q.M.length = n at TI
  generalize q.Z = z
  clear hM
  go_enter Try.func63, Try.ntmps63
  go_wp2_with fail
  obtain ⟨V, hV⟩ : ∃ W, W = ((w.alloc (Obj.cells #[Value.slice a n c, Value.int .i64 z] 100)).alloc (Obj.cells #[Value.slice none 0 0, Value.int .i64 0] 62)).alloc (Obj.cells #[Value.slice none 0 0, Value.int .i64 0] 62) := ⟨_, rfl⟩
  rw [← hV]
  have b1 : Below w.heap.size w V := by rw [hV]; exact ((below_new _ _).alloc (by simp) _).alloc (by simp; omega) _
  have m0 : Blk V w.heap.size #[Value.slice a n c, Value.int .i64 z] 100 := by rw [hV]; exact Blk.new0.alloc.alloc
  have m1 : Blk V (w.heap.size + 1) #[Value.slice none 0 0, Value.int .i64 0] 62 := by rw [hV]; exact Blk.new1.alloc
  have m2 : Blk V (w.heap.size + 1 + 1) #[Value.slice none 0 0, Value.int .i64 0] 62 := by rw [hV]; exact Blk.new2
  clear hV
  refine (unhide TI V b1).mono ?_
  rintro e w2 ⟨⟨v, rfl, hO⟩, hb2⟩
  obtain ⟨a', c', rfl, _⟩ := hO.at
  have z2 := m2.lt
  have b2 := b1.trans (hb2.mono b1.size)
  have n0 := m0.below hb2
  have n1 := m1.below hb2
  have n2 := m2.below hb2
  have HO := hide (hO.kept (S := fun k => k = w.heap.size + 1 ∨ k = w.heap.size + 1 + 1) (w' := (((w2.setCell ⟨w.heap.size + 1 + 1, 0, none⟩ (.slice a' q.M.length c')).setCell ⟨w.heap.size + 1 + 1, 1, none⟩ (.int .i64 z)).setCell ⟨w.heap.size + 1, 0, none⟩ (.slice a' q.M.length c')).setCell ⟨w.heap.size + 1, 1, none⟩ (.int .i64 z)) ((((Kept.set _ _ _ _ (Or.inr rfl)).trans (Kept.set _ _ _ _ (Or.inr rfl))).trans (Kept.set _ _ _ _ (Or.inl rfl))).trans (Kept.set _ _ _ _ (Or.inl rfl))) (fun g hg hS => by have := (hO.blk g hg).1; have := b1.size; omega))
  clear hO m0 m1 m2
  have c0 : w2.cell? ⟨w.heap.size, 0, none⟩ = some (.slice a n c) := n0.cell 0 _ rfl
  have c1 : w2.cell? ⟨w.heap.size, 1, none⟩ = some (.int .i64 z) := n0.cell 1 _ rfl
  have d0 : w2.cell? ⟨w.heap.size + 1, 0, none⟩ = some (.slice none 0 0) := n1.cell 0 _ rfl
  have d1 : w2.cell? ⟨w.heap.size + 1, 1, none⟩ = some (.int .i64 0) := n1.cell 1 _ rfl
  have e0 : w2.cell? ⟨w.heap.size + 1 + 1, 0, none⟩ = some (.slice none 0 0) := n2.cell 0 _ rfl
  have e1 : w2.cell? ⟨w.heap.size + 1 + 1, 1, none⟩ = some (.int .i64 0) := n2.cell 1 _ rfl
  have f1 := n1.froz
  have f2 := n2.froz
  have HN1 : Hid (Blk ((((w2.setCell ⟨w.heap.size + 1 + 1, 0, none⟩ (.slice a' q.M.length c')).setCell ⟨w.heap.size + 1 + 1, 1, none⟩ (.int .i64 z)).setCell ⟨w.heap.size + 1, 0, none⟩ (.slice a' q.M.length c')).setCell ⟨w.heap.size + 1, 1, none⟩ (.int .i64 z)) (w.heap.size + 1) #[.slice a' q.M.length c', .int .i64 z] 62) :=
    (((n1.set_other (by omega) _ _).set_other (by omega) _ _).set 0 _).set 1 _
  clear n0 n1 n2
  go_wp2_with fail
  (try simp only [Exit.inBlock, Exit.then])
  refine bodyPost_ret (results_group Try.results63 _ _ (w.heap.size + 1) _ _ rfl (unhide HN1)) rfl ?_
  refine ⟨⟨_, rfl, InOwn.lower (unhide HO) b1.size⟩, ?_⟩
  exact (((b2.setCell (p := ⟨w.heap.size + 1 + 1, 0, none⟩) (by simp; omega) _).setCell (p := ⟨w.heap.size + 1 + 1, 1, none⟩) (by simp; omega) _).setCell (p := ⟨w.heap.size + 1, 0, none⟩) (by simp) _).setCell (p := ⟨w.heap.size + 1, 1, none⟩) (by simp) _
end Gr
end Go.Proofs.Ytldbanpfhlmjmaa

/-
  Copies of rows of groups, and of proofs.
-/
namespace Go.Proofs.Ytldbanpfhlmjmaa
namespace Gr
open Go.RowKit

/-- The first k groups of a block of groups. -/
def Gs (w : World) (lo : Nat) (C : Array Value) (G : List GrpI) (k : Nat) : Prop :=
  ∀ j (h : j < G.length), j < k → ∃ v, C[j * 2]? = some v ∧ C[j * 2 + 1]? = some (.int .i64 G[j].Z) ∧ InOwn w lo v G[j].M

theorem Gs.kept {S : Nat → Prop} {w w' : World} {lo k : Nat} {C : Array Value} {G : List GrpI} (h : Gs w lo C G k) (hk : Kept S w w') (hS : ∀ g, lo ≤ g → ¬ S g) : Gs w' lo C G k := by
  intro j hj hjk
  obtain ⟨v, c0, c1, hO⟩ := h j hj hjk
  exact ⟨v, c0, c1, hO.kept hk (fun g hg => hS g (hO.blk g hg).1)⟩

theorem Gs.snoc {w : World} {lo k : Nat} {C : Array Value} {G : List GrpI} (h : Gs w lo C G k) (hk : k < G.length) (hC : C.size = G.length * 2) (v : Value) (hO : InOwn w lo v G[k].M) : Gs w lo ((C.setIfInBounds (k * 2) v).setIfInBounds (k * 2 + 1) (.int .i64 G[k].Z)) G (k + 1) := by
  intro j hj hjk
  by_cases e : j = k
  · subst e
    refine ⟨v, ?_, ?_, hO⟩
    · rw [Array.getElem?_setIfInBounds_ne (by omega), Array.getElem?_setIfInBounds_self, if_pos (by omega)]
    · rw [Array.getElem?_setIfInBounds_self, if_pos (by simp; omega)]
  · obtain ⟨v', c0, c1, hO'⟩ := h j hj (by omega)
    refine ⟨v', ?_, ?_, hO'⟩
    · rw [Array.getElem?_setIfInBounds_ne (by omega), Array.getElem?_setIfInBounds_ne (by omega)]; exact c0
    · rw [Array.getElem?_setIfInBounds_ne (by omega), Array.getElem?_setIfInBounds_ne (by omega)]; exact c1

theorem Gs.at {w : World} {lo g : Nat} {C : Array Value} {G : List GrpI} (h : Gs w lo C G G.length) (hb : Blk w g C 62) : groupsAt w (some ⟨g, 0, none⟩) G.length w.heap.size G := by
  refine ⟨rfl, fun j hj => ?_⟩
  obtain ⟨v, c0, c1, hO⟩ := h j hj hj
  obtain ⟨a', c', rfl, hI⟩ := hO.at
  refine ⟨g, 0, a', c', rfl, hb.lt, ?_, ?_, hI⟩
  · rw [Nat.zero_add]; exact hb.cell _ _ c0
  · rw [Nat.zero_add]; exact hb.cell _ _ c1

/-- A row of groups of the call's own, with the rows of its own in it. -/
def GsOwn (w : World) (lo : Nat) (v : Value) (G : List GrpI) : Prop := ∃ g C, v = .slice (some ⟨g, 0, none⟩) G.length G.length ∧ lo ≤ g ∧ Blk w g C 62 ∧ C.size = G.length * 2 ∧ Gs w lo C G G.length

theorem GsOwn.kept {S : Nat → Prop} {w w' : World} {lo : Nat} {v : Value} {G : List GrpI} (h : GsOwn w lo v G) (hk : Kept S w w') (hS : ∀ g, lo ≤ g → ¬ S g) : GsOwn w' lo v G := by
  obtain ⟨g, C, e, hg, hb, hs, h⟩ := h
  exact ⟨g, C, e, hg, hb.kept hk (hS g hg), hs, h.kept hk hS⟩

theorem Gs.lower {w : World} {lo lo' k : Nat} {C : Array Value} {G : List GrpI} (h : Gs w lo C G k) (hl : lo' ≤ lo) : Gs w lo' C G k := by
  intro j hj hjk
  obtain ⟨v, c0, c1, hO⟩ := h j hj hjk
  exact ⟨v, c0, c1, hO.lower hl⟩

theorem GsOwn.lower {w : World} {lo lo' : Nat} {v : Value} {G : List GrpI} (h : GsOwn w lo v G) (hl : lo' ≤ lo) : GsOwn w lo' v G := by
  obtain ⟨g, C, e, hg, hb, hs, h⟩ := h
  exact ⟨g, C, e, by omega, hb, hs, h.lower hl⟩

theorem GsOwn.at {w : World} {lo : Nat} {v : Value} {G : List GrpI} (h : GsOwn w lo v G) : ∃ a c, v = .slice a G.length c ∧ groupsAt w a G.length w.heap.size G := by
  obtain ⟨g, C, rfl, hg, hb, hs, h⟩ := h
  exact ⟨_, _, rfl, h.at hb⟩

set_option maxRecDepth 100000 in
set_option maxHeartbeats 1000000 in
theorem toGroups_any (a : Option Addr) (n c B : Nat) (G : List GrpI) (hn : n ≤ 1048576) (hm : ∀ q ∈ G, q.M.length ≤ 1048576) (w : World) (hB : B ≤ w.heap.size) (hG : groupsAt w a n B G) :
    Calls Try.prog 43 #[.slice a n c] w fun e w' => (∃ v, e = .returned v ∧ GsOwn w' w.heap.size v G) ∧ Below w.heap.size w w' := by
  obtain ⟨hL, hc⟩ := hG
  obtain ⟨i0, hi, hz0, hz1, hz2⟩ := info_parts infoGroup
  obtain ⟨M, hM⟩ : ∃ M, M = madeCells (Value.agg #[.slice none 0 0, .int .i64 0]).cells (n * i0.size) := ⟨_, rfl⟩
  have hMs : M.size = n * 2 := by rw [hM, size_madeCells, hz1]
  have hmk : ∀ W : World, (Instr.makeSlice 39 (.int .i64 (n : Int)) (.int .i64 (n : Int))).run Try.prog W = .ok (.slice (some ⟨W.heap.size, 0, none⟩) n n) (W.alloc (.cells M 62)) := fun W => by
    have h := run_make (P := Try.prog) W 39 62 i0 (.agg #[.slice none 0 0, .int .i64 0]) Try.underlying39 hi hz0 .i64 .i64 (n : Int) (n : Int) (by omega) (by omega) (by rw [hz2]; omega) (by omega)
    rw [Int.toNat_natCast, ← hM] at h
    simpa using h
  have TG := hide (fun j (hj : j < G.length) a' c' w1 (hb : Below w.heap.size w w1) (hI : IntsAt w a' G[j].M.length B G[j].M) => toGroup_any a' c' B G[j] (hm _ (List.getElem_mem hj)) w1 (by have := hb.size; omega) (hI.below hb hB))
  have HC := hide hc
  have HL := hide hL
  have HMs := hide hMs
  clear hM hc hL hm hMs
  go_enter Try.func43, Try.ntmps43
  go_wp2_with fail
  go_loopw [4] (fun i wr => ∃ (k : Nat) (C : Array Value), i = .int .i64 (k : Int) ∧ k ≤ n ∧ Hid (Blk wr w.heap.size C 62) ∧ Hid (C.size = n * 2) ∧ Hid (Gs wr (w.heap.size + 1) C G k) ∧ Below w.heap.size w wr) (fun i _ => n - (intOf i).toNat)
  case atStart => exact ⟨0, M, rfl, Nat.zero_le _, Blk.new0, unhide HMs, (fun j _ h => absurd h (Nat.not_lt_zero _)), below_new _ _⟩
  case round =>
    obtain ⟨k, C, rfl, hk, HB, HS, HG, hb⟩ := hrel
    have hbl := (unhide HB).lt
    by_cases hlt : k < n
    · have hkL : k < G.length := by have := unhide HL; omega
      obtain ⟨b, off, a', c', rfl, hbB, c0, c1, hI⟩ := unhide HC k hkL
      have TK := hide (unhide TG k hkL a' c' wr hb hI)
      rw [← hb.cell (p := ⟨b, off + k * 2, none⟩) (by simp; omega)] at c0
      rw [← hb.cell (p := ⟨b, off + k * 2 + 1, none⟩) (by simp; omega)] at c1
      have HSN : Hid (∀ w1 v, Gs w1 (w.heap.size + 1) C G k → InOwn w1 (w.heap.size + 1) v G[k].M → Gs w1 (w.heap.size + 1) ((C.setIfInBounds (k * 2) v).setIfInBounds (k * 2 + 1) (.int .i64 G[k].Z)) G (k + 1)) := fun w1 v h hO => h.snoc hkL (by have h1 := unhide HS; have h2 := unhide HL; omega) v hO
      generalize G[k] = q at c0 c1 TK HSN
      clear hI
      go_wp2_with fail
      refine (unhide TK).mono ?_
      rintro e w2 ⟨⟨v, rfl, hO⟩, hb2⟩
      obtain ⟨a2, c2, rfl, _⟩ := hO.at
      have hO' := hO.lower (show w.heap.size + 1 ≤ wr.heap.size by omega)
      have m2 := (unhide HB).below hb2
      have HG2 := hide (unhide HSN w2 _ ((unhide HG).kept (S := fun _ => False) (Kept.of_below hb2) (fun g _ h => h)) hO')
      have HM2 := hide m2
      have bw2 := hb.trans (hb2.mono hb.size)
      have hfz := m2.froz
      obtain ⟨u0, hu0⟩ : ∃ u, w2.cell? ⟨w.heap.size, k * 2, none⟩ = some u := ⟨C[k * 2]'(by have := unhide HS; omega), m2.cell _ _ (by simp)⟩
      obtain ⟨u1, hu1⟩ : ∃ u, w2.cell? ⟨w.heap.size, k * 2 + 1, none⟩ = some u := ⟨C[k * 2 + 1]'(by have := unhide HS; omega), m2.cell _ _ (by simp)⟩
      clear c0 c1 hO hO' m2 hb2
      go_wp2_with fail
      refine ⟨⟨k + 1, (C.setIfInBounds (k * 2) (.slice a2 q.M.length c2)).setIfInBounds (k * 2 + 1) (.int .i64 q.Z), by go_num, by omega, ((unhide HM2).set _ _).set _ _, (by show _ = _; simp; exact unhide HS), ?_, (bw2.setCell (p := ⟨w.heap.size, k * 2, none⟩) (Nat.le_refl _) _).setCell (p := ⟨w.heap.size, k * 2 + 1, none⟩) (Nat.le_refl _) _⟩, by simp [intOf]; omega⟩
      exact (unhide HG2).kept (S := fun g => g = w.heap.size) ((Kept.set (S := fun g => g = w.heap.size) _ _ _ _ rfl).trans (Kept.set (S := fun g => g = w.heap.size) _ _ _ _ rfl)) (fun g hg => by omega)
    · obtain rfl : k = n := by omega
      have HF : Hid (GsOwn wr w.heap.size (.slice (some ⟨w.heap.size, 0, none⟩) k k) G) := by
        have h1 := unhide HG
        have h2 := unhide HL
        subst h2
        exact ⟨_, C, rfl, Nat.le_refl _, unhide HB, unhide HS, h1.lower (by omega)⟩
      go_wp2_with fail
      go_ret
      exact ⟨⟨_, rfl, unhide HF⟩, hb⟩

set_option maxRecDepth 100000 in
set_option maxHeartbeats 1000000 in
theorem eqGroup_same (a a' : Option Addr) (c c' B : Nat) (q : GrpI) (hn : q.M.length ≤ 1048576) (w : World) (hB : B ≤ w.heap.size) (h : IntsAt w a q.M.length B q.M) (h' : IntsAt w a' q.M.length B q.M) :
    Calls Try.prog 76 #[.agg #[.slice a q.M.length c, .int .i64 q.Z], .agg #[.slice a' q.M.length c', .int .i64 q.Z]] w fun e w' => e = .returned (.bool true) ∧ Below w.heap.size w w' := by
  have EQ := hide (fun w1 (hb : Below w.heap.size w w1) => eqInts_same a a' q.M.length c c' B B q.M hn w1 (by have := hb.size; omega) (by have := hb.size; omega) (h.below hb hB) (h'.below hb hB))
  generalize q.M.length = n at EQ
  generalize q.Z = z
  clear h h'
  go_enter Try.func76, Try.ntmps76
  go_wp2_with fail
  have b1 : Below w.heap.size w ((w.alloc (Obj.cells #[Value.slice a n c, Value.int .i64 z] 62)).alloc (Obj.cells #[Value.slice a' n c', Value.int .i64 z] 62)) := (below_new _ _).alloc (by simp) _
  have m0 : Blk ((w.alloc (Obj.cells #[Value.slice a n c, Value.int .i64 z] 62)).alloc (Obj.cells #[Value.slice a' n c', Value.int .i64 z] 62)) w.heap.size #[Value.slice a n c, Value.int .i64 z] 62 := Blk.new0.alloc
  have m1 : Blk ((w.alloc (Obj.cells #[Value.slice a n c, Value.int .i64 z] 62)).alloc (Obj.cells #[Value.slice a' n c', Value.int .i64 z] 62)) (w.heap.size + 1) #[Value.slice a' n c', Value.int .i64 z] 62 := Blk.new1
  generalize ((w.alloc (Obj.cells #[Value.slice a n c, Value.int .i64 z] 62)).alloc (Obj.cells #[Value.slice a' n c', Value.int .i64 z] 62)) = V at b1 m0 m1 ⊢
  refine (unhide EQ V b1).mono ?_
  rintro e w2 ⟨rfl, hb2⟩
  have b2 := b1.trans (hb2.mono b1.size)
  have c0 : w2.cell? ⟨w.heap.size, 1, none⟩ = some (.int .i64 z) := (m0.below hb2).cell 1 _ rfl
  have c1 : w2.cell? ⟨w.heap.size + 1, 1, none⟩ = some (.int .i64 z) := (m1.below hb2).cell 1 _ rfl
  clear m0 m1 hb2
  go_wp2_with fail
  go_ret
  exact ⟨rfl, b2⟩
end Gr
end Go.Proofs.Ytldbanpfhlmjmaa

/-
  The kind of Proof, in the form that a law's walk asks for.
-/
namespace Go.Proofs.Ytldbanpfhlmjmaa
namespace Gr
open Go.ChangeShapes Go.WideShapes Go.ChangeAt Go.RowKit

set_option maxRecDepth 100000 in
set_option maxHeartbeats 1000000 in
theorem eqGroups_same (a a' : Option Addr) (n c c' B : Nat) (G : List GrpI) (hn : n ≤ 1048576) (hm : ∀ q ∈ G, q.M.length ≤ 1048576) (w : World) (hB : B ≤ w.heap.size) (h : groupsAt w a n B G) (h' : groupsAt w a' n B G) :
    Calls Try.prog 52 #[.slice a n c, .slice a' n c'] w fun e w' => e = .returned (.bool true) ∧ Below w.heap.size w w' := by
  obtain ⟨hL, hc⟩ := h
  obtain ⟨_, hc'⟩ := h'
  have EQ := hide (fun j (hj : j < G.length) a1 a2 c1 c2 w1 (hb : Below w.heap.size w w1) (h1 : IntsAt w a1 G[j].M.length B G[j].M) (h2 : IntsAt w a2 G[j].M.length B G[j].M) => eqGroup_same a1 a2 c1 c2 B G[j] (hm _ (List.getElem_mem hj)) w1 (by have := hb.size; omega) (h1.below hb hB) (h2.below hb hB))
  have HC := hide hc
  have HC' := hide hc'
  have HL := hide hL
  clear hc hc' hL hm
  go_enter Try.func52, Try.ntmps52
  go_wp2_with fail
  go_loopw [5] (fun i wr => ∃ k : Nat, i = .int .i64 (k : Int) ∧ k ≤ n ∧ Below w.heap.size w wr) (fun i _ => n - (intOf i).toNat)
  case atStart => exact ⟨0, rfl, Nat.zero_le _, Below.refl _ _⟩
  case round =>
    obtain ⟨k, rfl, hk, hb⟩ := hrel
    by_cases hlt : k < n
    · have hkL : k < G.length := by have := unhide HL; omega
      obtain ⟨b, off, a1, c1, rfl, hbB, d0, d1, h1⟩ := unhide HC k hkL
      obtain ⟨b', off', a2, c2, rfl, hbB', e0, e1, h2⟩ := unhide HC' k hkL
      have EK := hide (fun w1 hb => unhide EQ k hkL a1 a2 c1 c2 w1 hb h1 h2)
      generalize G[k] = q at d0 d1 e0 e1 EK
      clear h1 h2
      have hkn : (k : Int) < (n : Int) := by omega
      have hz := hb.size
      have D0 : ∀ d : Grown wr.heap.size wr, d.w.cell? ⟨b, off + k * 2, none⟩ = some (.slice a1 q.M.length c1) := fun d => d.cell (by omega) ((hb.cell (p := ⟨b, off + k * 2, none⟩) (by simp; omega)).trans d0)
      have D1 : ∀ d : Grown wr.heap.size wr, d.w.cell? ⟨b, off + k * 2 + 1, none⟩ = some (.int .i64 q.Z) := fun d => d.cell (by omega) ((hb.cell (p := ⟨b, off + k * 2 + 1, none⟩) (by simp; omega)).trans d1)
      have E0 : ∀ d : Grown wr.heap.size wr, d.w.cell? ⟨b', off' + k * 2, none⟩ = some (.slice a2 q.M.length c2) := fun d => d.cell (by omega) ((hb.cell (p := ⟨b', off' + k * 2, none⟩) (by simp; omega)).trans e0)
      have E1 : ∀ d : Grown wr.heap.size wr, d.w.cell? ⟨b', off' + k * 2 + 1, none⟩ = some (.int .i64 q.Z) := fun d => d.cell (by omega) ((hb.cell (p := ⟨b', off' + k * 2 + 1, none⟩) (by simp; omega)).trans e1)
      have EG : Hid (∀ d : Grown wr.heap.size wr, Calls Try.prog 76 #[.agg #[.slice a1 q.M.length c1, .int .i64 q.Z], .agg #[.slice a2 q.M.length c2, .int .i64 q.Z]] d.w fun e w' => e = .returned (.bool true) ∧ Below d.w.heap.size d.w w') := fun d => unhide EK d.w (hb.trans (d.below.mono hb.size))
      clear d0 d1 e0 e1 EK
      go_wp2_with fail
      refine wp_region_grown wr.heap.size (by kernel_rfl) (by kernel_rfl) ?_
      repeat (go_big_quiet_step (first | (go_at_call 76; exact Calls.grown (Nat.le_refl _) (unhide EG _))))
      refine wpQuiet_nil ?_
      rintro w5 ⟨d5, rfl⟩
      go_wp2_with fail
      exact ⟨⟨k + 1, by go_num, by omega, hb.trans (d5.below.mono hb.size)⟩, by simp [intOf]; omega⟩
    · go_wp2_with fail
      go_ret
      exact ⟨rfl, hb⟩

def PrOwn (w : World) (_B : Nat) (v : Value) (Y : List Int) (G : List GrpI) : Prop := PrAt w v w.heap.size Y G

theorem PrAt.shape {w : World} {v : Value} {B : Nat} {Y : List Int} {G : List GrpI} (h : PrAt w v B Y G) : ∃ a c a' c', v = .agg #[.slice a Y.length c, .slice a' G.length c'] := by
  obtain ⟨a, n, c, a', n', c', rfl, hY, hG, _⟩ := h
  exact ⟨a, c, a', c', by rw [hY.1, hG.1]⟩

theorem PrOwn.at {w : World} {B : Nat} {v : Value} {Y : List Int} {G : List GrpI} (h : PrOwn w B v Y G) : PrAt w v w.heap.size Y G := h

theorem PrOwn.below {w w' : World} {B : Nat} {v : Value} {Y : List Int} {G : List GrpI} (h : PrOwn w B v Y G) (hb : Below w.heap.size w w') : PrOwn w' B v Y G := (PrAt.below h hb (Nat.le_refl _)).mono hb.size

theorem psize_le {Y : List Int} {G : List GrpI} (h : psize Y G ≤ 1048576) : Y.length ≤ 1048576 ∧ G.length ≤ 1048576 ∧ ∀ q ∈ G, q.M.length ≤ 1048576 := by
  unfold psize at h
  have h1 : Y.length + (G.length + gbulk G) ≤ 1048576 := by omega
  refine ⟨by omega, by omega, fun q hq => ?_⟩
  have : ∀ (L : List GrpI), q ∈ L → q.M.length ≤ gbulk L := by
    intro L
    induction L with
    | nil => intro h; simp at h
    | cons x r ih =>
      intro h
      unfold gbulk
      rcases List.mem_cons.1 h with rfl | h
      · omega
      · have := ih h; omega
  have := this G hq
  omega

set_option maxRecDepth 100000 in
set_option maxHeartbeats 1000000 in
theorem szProof_gen (v : Value) (B : Nat) (Y : List Int) (G : List GrpI) (left : Int) (h0 : 0 ≤ left) (h1 : left ≤ 1048576) (_hn : psize Y G ≤ 9223372036854775807) (w : World) (hv : PrAt w v B Y G) :
    Calls Try.prog 17 #[v, .int .i64 left] w fun e w' => (∃ x : Int, e = .returned (.int .i64 x) ∧ x ≤ left ∧ (0 ≤ x → (psize Y G : Int) + x ≤ left)) ∧ Below w.heap.size w w' := by
  obtain ⟨a, n, c, a', n', c', rfl, hY, hG, hn⟩ := hv
  obtain ⟨i1, i2, i3⟩ := hn
  have hG2 : groupsAt w a' n' w.heap.size G := by
    refine ⟨hG.1, fun j hj => ?_⟩
    obtain ⟨b, off, x, cx, e, _, c0, c1, hI⟩ := hG.2 j hj
    refine ⟨b, off, x, cx, e, World.block_lt_of_cell? w _ c0, c0, c1, hI.1, fun k hk => ?_⟩
    obtain ⟨b2, off2, e2, _, hc2⟩ := hI.2 k hk
    exact ⟨b2, off2, e2, World.block_lt_of_cell? w _ hc2, hc2⟩
  have hnY := hY.1
  have hnG := hG.1
  have S1 := hide (fun w => szInts_any a n c left h0 h1 (by omega) w)
  have S2 := hide (fun (l : Int) (l0 : 0 ≤ l) (l1 : l ≤ 1048576) w1 (hb : Below w.heap.size w w1) => szGroups_any a' n' c' w.heap.size G l l0 l1 (by omega) i3 w1 (hG2.below hb (Nat.le_refl _)))
  have HP : Hid (psize Y G ≤ n + (G.length + gbulk G)) := by show _ ≤ _; unfold psize; omega
  obtain ⟨y, hy⟩ : ∃ y, y = left - (n : Int) := ⟨_, rfl⟩
  rw [← hy] at S1
  have HY := hide hy
  clear hy hY hG hG2 i1 i2 i3 hnY hnG
  by_cases t : y < 0
  · rw [if_pos t] at S1
    go_enter Try.func17, Try.ntmps17
    go_wp2_with fail
    refine (unhide S1 _).mono ?_
    rintro e w1 ⟨rfl, rfl⟩
    go_wp2_with fail
    go_ret
    exact ⟨⟨-1, rfl, by omega, fun h => absurd h (by omega)⟩, below_new _ _⟩
  · rw [if_neg t] at S1
    have hyl : y ≤ left := by have := unhide HY; omega
    go_enter Try.func17, Try.ntmps17
    go_wp2_with fail
    refine (unhide S1 _).mono ?_
    rintro e w1 ⟨rfl, rfl⟩
    go_wp2_with fail
    have b1 : Below w.heap.size w (w.alloc (Obj.cells #[Value.slice a n c, Value.slice a' n' c'] 29)) := below_new _ _
    refine (unhide S2 y (by omega) (by omega) _ b1).mono ?_
    rintro e w2 ⟨⟨x, rfl, hx1, hx2⟩, hb2⟩
    have b2 := b1.trans (hb2.mono b1.size)
    by_cases t2 : x < 0
    · clear hb2 b1
      go_wp2_with fail
      go_ret
      exact ⟨⟨-1, rfl, by omega, fun h => absurd h (by omega)⟩, b2⟩
    · have HX : Hid ((psize Y G : Int) + x ≤ left) := by show _ ≤ _; have h1 := unhide HP; have h2 := unhide HY; have h3 := hx2 (by omega); omega
      clear hb2 b1 hx2
      go_wp2_with fail
      go_ret
      exact ⟨⟨x, rfl, by omega, fun _ => unhide HX⟩, b2⟩

set_option maxRecDepth 100000 in
set_option maxHeartbeats 1000000 in
theorem toProof_own (v : Value) (B : Nat) (Y : List Int) (G : List GrpI) (hn : psize Y G ≤ 1048576) (w : World) (hB : B ≤ w.heap.size) (hv : PrAt w v B Y G) :
    Calls Try.prog 22 #[v] w fun e w' => (∃ vy vg, e = .returned (.agg #[vy, vg]) ∧ InOwn w' w.heap.size vy Y ∧ GsOwn w' w.heap.size vg G) ∧ Below w.heap.size w w' := by
  obtain ⟨l1, l2, l3⟩ := psize_le hn
  obtain ⟨a, n, c, a', n', c', rfl, hY, hG, _⟩ := hv
  obtain rfl := hY.1
  obtain rfl := hG.1
  have T1 := hide (fun w1 (hb : Below w.heap.size w w1) => toInts_gen (.slice a Y.length c) B Y l1 w1 (by have := hb.size; omega) ⟨a, c, rfl, hY.below hb hB⟩)
  have T2 := hide (fun w1 (hb : Below w.heap.size w w1) => toGroups_any a' G.length c' B G l2 l3 w1 (by have := hb.size; omega) (hG.below hb hB))
  clear hY hG l1 l2 l3 hn
  have HI : Hid (∀ (w' : World) lo v, InOwn w' lo v Y → ∃ x cx, v = .slice x Y.length cx ∧ IntsAt w' x Y.length w'.heap.size Y) := fun w' _ v h => h.at
  have HJ : Hid (∀ (w' : World) lo v, GsOwn w' lo v G → ∃ x cx, v = .slice x G.length cx ∧ groupsAt w' x G.length w'.heap.size G) := fun w' _ v h => h.at
  generalize Y.length = n at T1 T2 HI
  generalize G.length = n' at T1 T2 HJ
  go_enter Try.func22, Try.ntmps22
  go_wp2_with fail
  have b1 : Below w.heap.size w (((w.alloc (Obj.cells #[Value.slice a n c, Value.slice a' n' c'] 29)).alloc (Obj.cells #[Value.slice none 0 0, Value.slice none 0 0] 41)).alloc (Obj.cells #[Value.slice none 0 0, Value.slice none 0 0] 41)) := ((below_new _ _).alloc (by simp) _).alloc (by simp; omega) _
  have m0 : Blk (((w.alloc (Obj.cells #[Value.slice a n c, Value.slice a' n' c'] 29)).alloc (Obj.cells #[Value.slice none 0 0, Value.slice none 0 0] 41)).alloc (Obj.cells #[Value.slice none 0 0, Value.slice none 0 0] 41)) w.heap.size #[Value.slice a n c, Value.slice a' n' c'] 29 := Blk.new0.alloc.alloc
  have m1 : Blk (((w.alloc (Obj.cells #[Value.slice a n c, Value.slice a' n' c'] 29)).alloc (Obj.cells #[Value.slice none 0 0, Value.slice none 0 0] 41)).alloc (Obj.cells #[Value.slice none 0 0, Value.slice none 0 0] 41)) (w.heap.size + 1) #[Value.slice none 0 0, Value.slice none 0 0] 41 := Blk.new1.alloc
  have m2 : Blk (((w.alloc (Obj.cells #[Value.slice a n c, Value.slice a' n' c'] 29)).alloc (Obj.cells #[Value.slice none 0 0, Value.slice none 0 0] 41)).alloc (Obj.cells #[Value.slice none 0 0, Value.slice none 0 0] 41)) (w.heap.size + 1 + 1) #[Value.slice none 0 0, Value.slice none 0 0] 41 := Blk.new2
  generalize (((w.alloc (Obj.cells #[Value.slice a n c, Value.slice a' n' c'] 29)).alloc (Obj.cells #[Value.slice none 0 0, Value.slice none 0 0] 41)).alloc (Obj.cells #[Value.slice none 0 0, Value.slice none 0 0] 41)) = V at b1 m0 m1 m2 ⊢
  refine (unhide T1 V b1).mono ?_
  rintro e w2 ⟨⟨v, rfl, hO⟩, hb2⟩
  obtain ⟨x, cx, rfl, _⟩ := unhide HI _ _ _ hO
  have hz1 := b1.size
  have z2 := m2.lt
  have b2 := b1.trans (hb2.mono b1.size)
  have n0 := m0.below hb2
  have n1 := m1.below hb2
  have n2 := m2.below hb2
  have HO := hide (hO.lower (show w.heap.size + 1 + 1 + 1 ≤ V.heap.size by omega))
  have c0 : w2.cell? ⟨w.heap.size, 0, none⟩ = some (.slice a n c) := n0.cell 0 _ rfl
  have c1 : w2.cell? ⟨w.heap.size, 1, none⟩ = some (.slice a' n' c') := n0.cell 1 _ rfl
  have e0 : w2.cell? ⟨w.heap.size + 1 + 1, 0, none⟩ = some (.slice none 0 0) := n2.cell 0 _ rfl
  have f2 := n2.froz
  have hz2 := b2.size
  have z2' := n2.lt
  clear hO m0 m1 m2 hb2
  go_wp2_with fail
  have b3 : Below w.heap.size w (w2.setCell ⟨w.heap.size + 1 + 1, 0, none⟩ (.slice x n cx)) := b2.setCell (p := ⟨w.heap.size + 1 + 1, 0, none⟩) (by simp; omega) _
  have k3 : Kept (fun g => g = w.heap.size + 1 + 1) w2 (w2.setCell ⟨w.heap.size + 1 + 1, 0, none⟩ (.slice x n cx)) := Kept.set _ _ _ _ rfl
  have HO3 := hide ((unhide HO).kept k3 (fun g hg hS => by have := ((unhide HO).blk g hg).1; omega))
  have o1 := n1.kept k3 (by omega)
  have o2 : Blk (w2.setCell ⟨w.heap.size + 1 + 1, 0, none⟩ (.slice x n cx)) (w.heap.size + 1 + 1) #[.slice x n cx, .slice none 0 0] 41 := n2.set 0 _
  have hz3 : (w2.setCell ⟨w.heap.size + 1 + 1, 0, none⟩ (.slice x n cx)).heap.size = w2.heap.size := by simp
  generalize (w2.setCell ⟨w.heap.size + 1 + 1, 0, none⟩ (.slice x n cx)) = V3 at b3 k3 HO3 o1 o2 hz3 ⊢
  refine (unhide T2 V3 b3).mono ?_
  rintro e w4 ⟨⟨v, rfl, hO4⟩, hb4⟩
  obtain ⟨y, cy, rfl, _⟩ := unhide HJ _ _ _ hO4
  have b4 := b3.trans (hb4.mono b3.size)
  have p1 := o1.below hb4
  have p2 := o2.below hb4
  have HO4 := hide (hO4.lower (show w.heap.size + 1 + 1 + 1 ≤ V3.heap.size by omega))
  have HO5 := hide (InOwn.below (unhide HO3) hb4)
  have d0 : w4.cell? ⟨w.heap.size + 1 + 1, 0, none⟩ = some (.slice x n cx) := p2.cell 0 _ rfl
  have d1 : w4.cell? ⟨w.heap.size + 1 + 1, 1, none⟩ = some (.slice none 0 0) := p2.cell 1 _ rfl
  have g0 : w4.cell? ⟨w.heap.size + 1, 0, none⟩ = some (.slice none 0 0) := p1.cell 0 _ rfl
  have g1 : w4.cell? ⟨w.heap.size + 1, 1, none⟩ = some (.slice none 0 0) := p1.cell 1 _ rfl
  have f4 := p1.froz
  have f5 := p2.froz
  have k9 : Kept (fun g => g = w.heap.size + 1 + 1 ∨ g = w.heap.size + 1) w4 (((w4.setCell ⟨w.heap.size + 1 + 1, 1, none⟩ (.slice y n' cy)).setCell ⟨w.heap.size + 1, 0, none⟩ (.slice x n cx)).setCell ⟨w.heap.size + 1, 1, none⟩ (.slice y n' cy)) := ((Kept.set _ _ _ _ (Or.inl rfl)).trans (Kept.set _ _ _ _ (Or.inr rfl))).trans (Kept.set _ _ _ _ (Or.inr rfl))
  have HA := hide ((unhide HO5).kept k9 (fun g hg hS => by have := ((unhide HO5).blk g hg).1; omega))
  have HBB := hide ((unhide HO4).kept k9 (fun g hg hS => by omega))
  have HN : Hid (Blk (((w4.setCell ⟨w.heap.size + 1 + 1, 1, none⟩ (.slice y n' cy)).setCell ⟨w.heap.size + 1, 0, none⟩ (.slice x n cx)).setCell ⟨w.heap.size + 1, 1, none⟩ (.slice y n' cy)) (w.heap.size + 1) #[.slice x n cx, .slice y n' cy] 41) := ((p1.set_other (by omega) _ _).set 0 _).set 1 _
  have HB9 := hide (b4.trans (k9.below b4.size (fun i hi => by omega)))
  clear o1 o2 p1 p2 n0 n1 n2 hO4 k9 k3 hb4 b4
  go_wp2_with fail
  (try simp only [Exit.inBlock, Exit.then])
  refine bodyPost_ret (results_proof Try.results22 _ _ (w.heap.size + 1) _ _ rfl (unhide HN)) rfl ?_
  exact ⟨⟨_, _, rfl, (unhide HA).lower (by omega), (unhide HBB).lower (by omega)⟩, unhide HB9⟩

theorem PrAt.of_own {w : World} {lo : Nat} {vy vg : Value} {Y : List Int} {G : List GrpI} (h1 : InOwn w lo vy Y) (h2 : GsOwn w lo vg G) (hI : PrIn Y G) : PrAt w (.agg #[vy, vg]) w.heap.size Y G := by
  obtain ⟨a, c, rfl, hY⟩ := h1.at
  obtain ⟨a', c', rfl, hG⟩ := h2.at
  exact ⟨a, _, c, a', _, c', rfl, hY, hG, hI⟩

theorem PrAt.lens {w : World} {v : Value} {B : Nat} {Y : List Int} {G : List GrpI} (h : PrAt w v B Y G) : PrIn Y G := by
  obtain ⟨_, _, _, _, _, _, _, _, _, h⟩ := h
  exact h

theorem toProof_gen (v : Value) (B : Nat) (Y : List Int) (G : List GrpI) (hn : psize Y G ≤ 1048576) (w : World) (hB : B ≤ w.heap.size) (hv : PrAt w v B Y G) :
    Calls Try.prog 22 #[v] w fun e w' => (∃ d, e = .returned d ∧ PrOwn w' w.heap.size d Y G) ∧ Below w.heap.size w w' := by
  refine (toProof_own v B Y G hn w hB hv).mono ?_
  rintro e w' ⟨⟨vy, vg, rfl, h1, h2⟩, hb⟩
  exact ⟨⟨_, rfl, PrAt.of_own h1 h2 hv.lens⟩, hb⟩

set_option maxRecDepth 100000 in
set_option maxHeartbeats 1000000 in
theorem eqProof_gen (v u : Value) (B B' : Nat) (Y : List Int) (G : List GrpI) (hn : psize Y G ≤ 1048576) (w : World) (hB : B ≤ w.heap.size) (hB' : B' ≤ w.heap.size) (hv : PrAt w v B Y G) (hu : PrAt w u B' Y G) :
    Calls Try.prog 30 #[v, u] w fun e w' => e = .returned (.bool true) ∧ Below w.heap.size w w' := by
  obtain ⟨l1, l2, l3⟩ := psize_le hn
  obtain ⟨a, n, c, a', n', c', rfl, hY, hG, _⟩ := hv.mono hB
  obtain ⟨x, m, cx, y, m', cy, rfl, hY', hG', _⟩ := hu.mono hB'
  obtain rfl := hY.1
  obtain rfl := hG.1
  obtain rfl := hY'.1
  obtain rfl := hG'.1
  have E1 := hide (fun w1 (hb : Below w.heap.size w w1) => eqInts_same a x Y.length c cx w.heap.size w.heap.size Y l1 w1 hb.size hb.size (hY.below hb (Nat.le_refl _)) (hY'.below hb (Nat.le_refl _)))
  have E2 := hide (fun w1 (hb : Below w.heap.size w w1) => eqGroups_same a' y G.length c' cy w.heap.size G l2 l3 w1 hb.size (hG.below hb (Nat.le_refl _)) (hG'.below hb (Nat.le_refl _)))
  clear hY hG hY' hG' l1 l2 l3 hn hv hu
  generalize Y.length = n at E1
  generalize G.length = n' at E2
  go_enter Try.func30, Try.ntmps30
  go_wp2_with fail
  have b1 : Below w.heap.size w ((w.alloc (Obj.cells #[Value.slice a n c, Value.slice a' n' c'] 41)).alloc (Obj.cells #[Value.slice x n cx, Value.slice y n' cy] 41)) := (below_new _ _).alloc (by simp) _
  have m0 : Blk ((w.alloc (Obj.cells #[Value.slice a n c, Value.slice a' n' c'] 41)).alloc (Obj.cells #[Value.slice x n cx, Value.slice y n' cy] 41)) w.heap.size #[Value.slice a n c, Value.slice a' n' c'] 41 := Blk.new0.alloc
  have m1 : Blk ((w.alloc (Obj.cells #[Value.slice a n c, Value.slice a' n' c'] 41)).alloc (Obj.cells #[Value.slice x n cx, Value.slice y n' cy] 41)) (w.heap.size + 1) #[Value.slice x n cx, Value.slice y n' cy] 41 := Blk.new1
  generalize ((w.alloc (Obj.cells #[Value.slice a n c, Value.slice a' n' c'] 41)).alloc (Obj.cells #[Value.slice x n cx, Value.slice y n' cy] 41)) = V at b1 m0 m1 ⊢
  refine (unhide E1 V b1).mono ?_
  rintro e w2 ⟨rfl, hb2⟩
  have b2 := b1.trans (hb2.mono b1.size)
  have c0 : w2.cell? ⟨w.heap.size, 1, none⟩ = some (.slice a' n' c') := (m0.below hb2).cell 1 _ rfl
  have c1 : w2.cell? ⟨w.heap.size + 1, 1, none⟩ = some (.slice y n' cy) := (m1.below hb2).cell 1 _ rfl
  clear m0 m1 hb2
  go_wp2_with fail
  refine (unhide E2 w2 b2).mono ?_
  rintro e w3 ⟨rfl, hb3⟩
  have b3 := b2.trans (hb3.mono b2.size)
  clear hb3 c0 c1
  go_wp2_with fail
  go_ret
  exact ⟨rfl, b3⟩

theorem cells_proof : Try.prog.cellsOf 29 = 2 := by kernel_rfl

set_option maxRecDepth 100000 in
/-- A proof that came in. -/
theorem proof_in {H : Type} {enc : TypeId × Value → H} {W : World} {r : Reach} {b0 : Nat} {v : Value} {d : DataW H} {p : List MemPlace}
    (hv : Value.okWide Try.prog W r b0 29 v) (h : DataW.Trod enc Try.prog W 0 (fun _ => true) true 29 v d p) : ∃ Y G, PrAt W v W.heap.size Y G ∧ psize Y G ≤ 9223372036854775807 := by
  obtain ⟨v0, v1, y0, y1, n, rfl, _, _, h0, h1⟩ := Joins.open_agg2 Try.underlying29 (by kernel_rfl) cells_proof hv h
  have hone : [v0] = v0.cells.toList := by
    rcases Deep.open_slice Try.underlying26 h0 with ⟨hcs, _⟩ | ⟨a, len, cap, m, n, D, Pl, hcs, _⟩
    · simp at hcs; subst hcs; rfl
    · simp at hcs; subst hcs; rfl
  rw [hone] at h0
  obtain ⟨a, k, c, Y, hcs, hY, _, hn⟩ := ints_open (fun _ => rfl) h0
  rw [← hone] at hcs
  simp at hcs
  subst hcs
  obtain ⟨a', k', c', G, rfl, hG, hG1, hG2⟩ := groups_open (fun _ => rfl) h1
  refine ⟨Y, G, ⟨a, k, c, a', k', c', rfl, hY, hG, by have := hY.1; omega, hG1, hG2⟩, ?_⟩
  unfold psize
  omega

end Gr
end Go.Proofs.Ytldbanpfhlmjmaa
