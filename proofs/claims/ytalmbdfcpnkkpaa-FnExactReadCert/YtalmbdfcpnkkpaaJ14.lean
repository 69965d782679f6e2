/-
  Texts of this claim, one behind the other: GrGroup3, GrGroup4, GrGroup5.
-/
import Derived.Test.YtalmbdfcpnkkpaaJ12
import Derived.Test.YtalmbdfcpnkkpaaJ13
import Derived.Laws.EntriesVeiled

/-
  Copies of groups and proofs.
-/
namespace Go.Proofs.Ytalmbdfcpnkkpaa
namespace Gr
open Go.RowKit

theorem infoGroup : (Try.prog.info? 46).map (fun i => (i.zero, i.size, i.bytes)) = some (some (.agg #[.slice none 0 0, .int .i64 0]), 2, 32) := by kernel_rfl

theorem results_group {fn : Func} {p : Tmp} (h : fn.results = #[.cell p 46]) (tmps : Array Value) (w : World) (g : Nat) (x y : Value) (hp : tmps.getD p undef = .pointer (some ⟨g, 0, none⟩)) (hg : Blk w g #[x, y] 46) :
    (results fn tmps).run Try.prog w = .ok (.agg #[x, y]) w := by
  have c0 := hg.cell 0 x rfl
  have c1 := hg.cell 1 y rfl
  have hp' : tmps[p]?.getD undef = .pointer (some ⟨g, 0, none⟩) := by simpa using hp
  simp [results, h, hp', go_sem, c0, c1]

theorem results_proof {fn : Func} {p : Tmp} (h : fn.results = #[.cell p 29]) (tmps : Array Value) (w : World) (g : Nat) (x y : Value) (hp : tmps.getD p undef = .pointer (some ⟨g, 0, none⟩)) (hg : Blk w g #[x, y] 29) :
    (results fn tmps).run Try.prog w = .ok (.agg #[x, y]) w := by
  have c0 := hg.cell 0 x rfl
  have c1 := hg.cell 1 y rfl
  have hp' : tmps[p]?.getD undef = .pointer (some ⟨g, 0, none⟩) := by simpa using hp
  simp [results, h, hp', go_sem, c0, c1]

end Gr
end Go.Proofs.Ytalmbdfcpnkkpaa

/-
  Copies of rows of groups, and of proofs.
-/
namespace Go.Proofs.Ytalmbdfcpnkkpaa
namespace Gr
open Go.RowKit

/-- The first k groups of a block of groups. -/
def Gs (w : World) (lo : Nat) (C : Array Value) (G : List GrpI) (k : Nat) : Prop :=
  ∀ j (h : j < G.length), j < k → ∃ v, C[j * 2]? = some v ∧ C[j * 2 + 1]? = some (.int .i64 G[j].Z) ∧ InOwn w lo v G[j].M

theorem Gs.kept {S : Nat → Prop} {w w' : World} {lo k : Nat} {C : Array Value} {G : List GrpI} (h : Gs w lo C G k) (hk : Kept S w w') (hS : ∀ g, lo ≤ g → ¬ S g) : Gs w' lo C G k := by
  intro j hj hjk
  obtain ⟨v, c0, c1, hO⟩ := h j hj hjk
  exact ⟨v, c0, c1, hO.kept hk (fun g hg => hS g (hO.blk g hg).1)⟩

theorem Gs.snoc {w : World} {lo k : Nat} {C : Array Value} {G : List GrpI} (h : Gs w lo C G k) (hk : k < G.length) (hC : C.size = G.length * 2) (v : Value) (hO : InOwn w lo v G[k].M) : Gs w lo ((C.setIfInBounds (k * 2) v).setIfInBounds (k * 2 + 1) (.int .i64 G[k].Z)) G (k + 1) := by
  intro j hj hjk
  by_cases e : j = k
  · subst e
    refine ⟨v, ?_, ?_, hO⟩
    · rw [Array.getElem?_setIfInBounds_ne (by omega), Array.getElem?_setIfInBounds_self, if_pos (by omega)]
    · rw [Array.getElem?_setIfInBounds_self, if_pos (by simp; omega)]
  · obtain ⟨v', c0, c1, hO'⟩ := h j hj (by omega)
    refine ⟨v', ?_, ?_, hO'⟩
    · rw [Array.getElem?_setIfInBounds_ne (by omega), Array.getElem?_setIfInBounds_ne (by omega)]; exact c0
    · rw [Array.getElem?_setIfInBounds_ne (by omega), Array.getElem?_setIfInBounds_ne (by omega)]; exact c1

theorem Gs.at {w : World} {lo g : Nat} {C : Array Value} {G : List GrpI} (h : Gs w lo C G G.length) (hb : Blk w g C 46) : groupsAt w (some ⟨g, 0, none⟩) G.length w.heap.size G := by
  refine ⟨rfl, fun j hj => ?_⟩
  obtain ⟨v, c0, c1, hO⟩ := h j hj hj
  obtain ⟨a', c', rfl, hI⟩ := hO.at
  refine ⟨g, 0, a', c', rfl, hb.lt, ?_, ?_, hI⟩
  · rw [Nat.zero_add]; exact hb.cell _ _ c0
  · rw [Nat.zero_add]; exact hb.cell _ _ c1

/-- A row of groups of the call's own, with the rows of its own in it. -/
def GsOwn (w : World) (lo : Nat) (v : Value) (G : List GrpI) : Prop := ∃ g C, v = .slice (some ⟨g, 0, none⟩) G.length G.length ∧ lo ≤ g ∧ Blk w g C 46 ∧ C.size = G.length * 2 ∧ Gs w lo C G G.length

theorem GsOwn.kept {S : Nat → Prop} {w w' : World} {lo : Nat} {v : Value} {G : List GrpI} (h : GsOwn w lo v G) (hk : Kept S w w') (hS : ∀ g, lo ≤ g → ¬ S g) : GsOwn w' lo v G := by
  obtain ⟨g, C, e, hg, hb, hs, h⟩ := h
  exact ⟨g, C, e, hg, hb.kept hk (hS g hg), hs, h.kept hk hS⟩

theorem Gs.lower {w : World} {lo lo' k : Nat} {C : Array Value} {G : List GrpI} (h : Gs w lo C G k) (hl : lo' ≤ lo) : Gs w lo' C G k := by
  intro j hj hjk
  obtain ⟨v, c0, c1, hO⟩ := h j hj hjk
  exact ⟨v, c0, c1, hO.lower hl⟩

theorem GsOwn.lower {w : World} {lo lo' : Nat} {v : Value} {G : List GrpI} (h : GsOwn w lo v G) (hl : lo' ≤ lo) : GsOwn w lo' v G := by
  obtain ⟨g, C, e, hg, hb, hs, h⟩ := h
  exact ⟨g, C, e, by omega, hb, hs, h.lower hl⟩

theorem GsOwn.at {w : World} {lo : Nat} {v : Value} {G : List GrpI} (h : GsOwn w lo v G) : ∃ a c, v = .slice a G.length c ∧ groupsAt w a G.length w.heap.size G := by
  obtain ⟨g, C, rfl, hg, hb, hs, h⟩ := h
  exact ⟨_, _, rfl, h.at hb⟩

set_option maxRecDepth 100000 in
set_option maxHeartbeats 1000000 in
theorem eqGroup_same (a a' : Option Addr) (c c' B : Nat) (q : GrpI) (hn : q.M.length ≤ 1048576) (w : World) (hB : B ≤ w.heap.size) (h : IntsAt w a q.M.length B q.M) (h' : IntsAt w a' q.M.length B q.M) :
    Calls Try.prog 61 #[.agg #[.slice a q.M.length c, .int .i64 q.Z], .agg #[.slice a' q.M.length c', .int .i64 q.Z]] w fun e w' => e = .returned (.bool true) ∧ Below w.heap.size w w' := by
  have EQ := hide (fun w1 (hb : Below w.heap.size w w1) => eqInts_same a a' q.M.length c c' B B q.M hn w1 (by have := hb.size; omega) (by have := hb.size; omega) (h.below hb hB) (h'.below hb hB))
  generalize q.M.length = n at EQ
  generalize q.Z = z
  clear h h'
  go_enter Try.func61, Try.ntmps61
  go_wp2_with fail
  have b1 : Below w.heap.size w ((w.alloc (Obj.cells #[Value.slice a n c, Value.int .i64 z] 46)).alloc (Obj.cells #[Value.slice a' n c', Value.int .i64 z] 46)) := (below_new _ _).alloc (by simp) _
  have m0 : Blk ((w.alloc (Obj.cells #[Value.slice a n c, Value.int .i64 z] 46)).alloc (Obj.cells #[Value.slice a' n c', Value.int .i64 z] 46)) w.heap.size #[Value.slice a n c, Value.int .i64 z] 46 := Blk.new0.alloc
  have m1 : Blk ((w.alloc (Obj.cells #[Value.slice a n c, Value.int .i64 z] 46)).alloc (Obj.cells #[Value.slice a' n c', Value.int .i64 z] 46)) (w.heap.size + 1) #[Value.slice a' n c', Value.int .i64 z] 46 := Blk.new1
  generalize ((w.alloc (Obj.cells #[Value.slice a n c, Value.int .i64 z] 46)).alloc (Obj.cells #[Value.slice a' n c', Value.int .i64 z] 46)) = V at b1 m0 m1 ⊢
  refine (unhide EQ V b1).mono ?_
  rintro e w2 ⟨rfl, hb2⟩
  have b2 := b1.trans (hb2.mono b1.size)
  have c0 : w2.cell? ⟨w.heap.size, 1, none⟩ = some (.int .i64 z) := (m0.below hb2).cell 1 _ rfl
  have c1 : w2.cell? ⟨w.heap.size + 1, 1, none⟩ = some (.int .i64 z) := (m1.below hb2).cell 1 _ rfl
  clear m0 m1 hb2
  go_wp2_with fail
  go_ret
  exact ⟨rfl, b2⟩
end Gr
end Go.Proofs.Ytalmbdfcpnkkpaa

/-
  The kind of Proof, in the form that a law's walk asks for.
-/
namespace Go.Proofs.Ytalmbdfcpnkkpaa
namespace Gr
open Go.ChangeShapes Go.WideShapes Go.ChangeAt Go.RowKit

set_option maxRecDepth 100000 in
set_option maxHeartbeats 1000000 in
theorem eqGroups_same (a a' : Option Addr) (n c c' B : Nat) (G : List GrpI) (hn : n ≤ 1048576) (hm : ∀ q ∈ G, q.M.length ≤ 1048576) (w : World) (hB : B ≤ w.heap.size) (h : groupsAt w a n B G) (h' : groupsAt w a' n B G) :
    Calls Try.prog 37 #[.slice a n c, .slice a' n c'] w fun e w' => e = .returned (.bool true) ∧ Below w.heap.size w w' := by
  obtain ⟨hL, hc⟩ := h
  obtain ⟨_, hc'⟩ := h'
  have EQ := hide (fun j (hj : j < G.length) a1 a2 c1 c2 w1 (hb : Below w.heap.size w w1) (h1 : IntsAt w a1 G[j].M.length B G[j].M) (h2 : IntsAt w a2 G[j].M.length B G[j].M) => eqGroup_same a1 a2 c1 c2 B G[j] (hm _ (List.getElem_mem hj)) w1 (by have := hb.size; omega) (h1.below hb hB) (h2.below hb hB))
  have HC := hide hc
  have HC' := hide hc'
  have HL := hide hL
  clear hc hc' hL hm
  go_enter Try.func37, Try.ntmps37
  go_wp2_with fail
  go_loopw [5] (fun i wr => ∃ k : Nat, i = .int .i64 (k : Int) ∧ k ≤ n ∧ Below w.heap.size w wr) (fun i _ => n - (intOf i).toNat)
  case atStart => exact ⟨0, rfl, Nat.zero_le _, Below.refl _ _⟩
  case round =>
    obtain ⟨k, rfl, hk, hb⟩ := hrel
    by_cases hlt : k < n
    · have hkL : k < G.length := by have := unhide HL; omega
      obtain ⟨b, off, a1, c1, rfl, hbB, d0, d1, h1⟩ := unhide HC k hkL
      obtain ⟨b', off', a2, c2, rfl, hbB', e0, e1, h2⟩ := unhide HC' k hkL
      have EK := hide (fun w1 hb => unhide EQ k hkL a1 a2 c1 c2 w1 hb h1 h2)
      generalize G[k] = q at d0 d1 e0 e1 EK
      clear h1 h2
      have hkn : (k : Int) < (n : Int) := by omega
      have hz := hb.size
      have D0 : ∀ d : Grown wr.heap.size wr, d.w.cell? ⟨b, off + k * 2, none⟩ = some (.slice a1 q.M.length c1) := fun d => d.cell (by omega) ((hb.cell (p := ⟨b, off + k * 2, none⟩) (by simp; omega)).trans d0)
      have D1 : ∀ d : Grown wr.heap.size wr, d.w.cell? ⟨b, off + k * 2 + 1, none⟩ = some (.int .i64 q.Z) := fun d => d.cell (by omega) ((hb.cell (p := ⟨b, off + k * 2 + 1, none⟩) (by simp; omega)).trans d1)
      have E0 : ∀ d : Grown wr.heap.size wr, d.w.cell? ⟨b', off' + k * 2, none⟩ = some (.slice a2 q.M.length c2) := fun d => d.cell (by omega) ((hb.cell (p := ⟨b', off' + k * 2, none⟩) (by simp; omega)).trans e0)
      have E1 : ∀ d : Grown wr.heap.size wr, d.w.cell? ⟨b', off' + k * 2 + 1, none⟩ = some (.int .i64 q.Z) := fun d => d.cell (by omega) ((hb.cell (p := ⟨b', off' + k * 2 + 1, none⟩) (by simp; omega)).trans e1)
      have EG : Hid (∀ d : Grown wr.heap.size wr, Calls Try.prog 61 #[.agg #[.slice a1 q.M.length c1, .int .i64 q.Z], .agg #[.slice a2 q.M.length c2, .int .i64 q.Z]] d.w fun e w' => e = .returned (.bool true) ∧ Below d.w.heap.size d.w w') := fun d => unhide EK d.w (hb.trans (d.below.mono hb.size))
      clear d0 d1 e0 e1 EK
      go_wp2_with fail
      refine wp_region_grown wr.heap.size (by kernel_rfl) (by kernel_rfl) ?_
      repeat (go_big_quiet_step (first | (go_at_call 61; exact Calls.grown (Nat.le_refl _) (unhide EG _))))
      refine wpQuiet_nil ?_
      rintro w5 ⟨d5, rfl⟩
      go_wp2_with fail
      exact ⟨⟨k + 1, by go_num, by omega, hb.trans (d5.below.mono hb.size)⟩, by simp [intOf]; omega⟩
    · go_wp2_with fail
      go_ret
      exact ⟨rfl, hb⟩

def PrOwn (w : World) (_B : Nat) (v : Value) (Y : List Int) (G : List GrpI) : Prop := PrAt w v w.heap.size Y G

theorem PrAt.shape {w : World} {v : Value} {B : Nat} {Y : List Int} {G : List GrpI} (h : PrAt w v B Y G) : ∃ a c a' c', v = .agg #[.slice a Y.length c, .slice a' G.length c'] := by
  obtain ⟨a, n, c, a', n', c', rfl, hY, hG, _⟩ := h
  exact ⟨a, c, a', c', by rw [hY.1, hG.1]⟩

theorem PrOwn.at {w : World} {B : Nat} {v : Value} {Y : List Int} {G : List GrpI} (h : PrOwn w B v Y G) : PrAt w v w.heap.size Y G := h

theorem PrOwn.below {w w' : World} {B : Nat} {v : Value} {Y : List Int} {G : List GrpI} (h : PrOwn w B v Y G) (hb : Below w.heap.size w w') : PrOwn w' B v Y G := (PrAt.below h hb (Nat.le_refl _)).mono hb.size

theorem psize_le {Y : List Int} {G : List GrpI} (h : psize Y G ≤ 1048576) : Y.length ≤ 1048576 ∧ G.length ≤ 1048576 ∧ ∀ q ∈ G, q.M.length ≤ 1048576 := by
  unfold psize at h
  have h1 : Y.length + (G.length + gbulk G) ≤ 1048576 := by omega
  refine ⟨by omega, by omega, fun q hq => ?_⟩
  have : ∀ (L : List GrpI), q ∈ L → q.M.length ≤ gbulk L := by
    intro L
    induction L with
    | nil => intro h; simp at h
    | cons x r ih =>
      intro h
      unfold gbulk
      rcases List.mem_cons.1 h with rfl | h
      · omega
      · have := ih h; omega
  have := this G hq
  omega

theorem PrAt.of_own {w : World} {lo : Nat} {vy vg : Value} {Y : List Int} {G : List GrpI} (h1 : InOwn w lo vy Y) (h2 : GsOwn w lo vg G) (hI : PrIn Y G) : PrAt w (.agg #[vy, vg]) w.heap.size Y G := by
  obtain ⟨a, c, rfl, hY⟩ := h1.at
  obtain ⟨a', c', rfl, hG⟩ := h2.at
  exact ⟨a, _, c, a', _, c', rfl, hY, hG, hI⟩

theorem PrAt.lens {w : World} {v : Value} {B : Nat} {Y : List Int} {G : List GrpI} (h : PrAt w v B Y G) : PrIn Y G := by
  obtain ⟨_, _, _, _, _, _, _, _, _, h⟩ := h
  exact h

set_option maxRecDepth 100000 in
set_option maxHeartbeats 1000000 in
theorem eqProof_gen (v u : Value) (B B' : Nat) (Y : List Int) (G : List GrpI) (hn : psize Y G ≤ 1048576) (w : World) (hB : B ≤ w.heap.size) (hB' : B' ≤ w.heap.size) (hv : PrAt w v B Y G) (hu : PrAt w u B' Y G) :
    Calls Try.prog 17 #[v, u] w fun e w' => e = .returned (.bool true) ∧ Below w.heap.size w w' := by
  obtain ⟨l1, l2, l3⟩ := psize_le hn
  obtain ⟨a, n, c, a', n', c', rfl, hY, hG, _⟩ := hv.mono hB
  obtain ⟨x, m, cx, y, m', cy, rfl, hY', hG', _⟩ := hu.mono hB'
  obtain rfl := hY.1
  obtain rfl := hG.1
  obtain rfl := hY'.1
  obtain rfl := hG'.1
  have E1 := hide (fun w1 (hb : Below w.heap.size w w1) => eqInts_same a x Y.length c cx w.heap.size w.heap.size Y l1 w1 hb.size hb.size (hY.below hb (Nat.le_refl _)) (hY'.below hb (Nat.le_refl _)))
  have E2 := hide (fun w1 (hb : Below w.heap.size w w1) => eqGroups_same a' y G.length c' cy w.heap.size G l2 l3 w1 hb.size (hG.below hb (Nat.le_refl _)) (hG'.below hb (Nat.le_refl _)))
  clear hY hG hY' hG' l1 l2 l3 hn hv hu
  generalize Y.length = n at E1
  generalize G.length = n' at E2
  go_enter Try.func17, Try.ntmps17
  go_wp2_with fail
  have b1 : Below w.heap.size w ((w.alloc (Obj.cells #[Value.slice a n c, Value.slice a' n' c'] 29)).alloc (Obj.cells #[Value.slice x n cx, Value.slice y n' cy] 29)) := (below_new _ _).alloc (by simp) _
  have m0 : Blk ((w.alloc (Obj.cells #[Value.slice a n c, Value.slice a' n' c'] 29)).alloc (Obj.cells #[Value.slice x n cx, Value.slice y n' cy] 29)) w.heap.size #[Value.slice a n c, Value.slice a' n' c'] 29 := Blk.new0.alloc
  have m1 : Blk ((w.alloc (Obj.cells #[Value.slice a n c, Value.slice a' n' c'] 29)).alloc (Obj.cells #[Value.slice x n cx, Value.slice y n' cy] 29)) (w.heap.size + 1) #[Value.slice x n cx, Value.slice y n' cy] 29 := Blk.new1
  generalize ((w.alloc (Obj.cells #[Value.slice a n c, Value.slice a' n' c'] 29)).alloc (Obj.cells #[Value.slice x n cx, Value.slice y n' cy] 29)) = V at b1 m0 m1 ⊢
  refine (unhide E1 V b1).mono ?_
  rintro e w2 ⟨rfl, hb2⟩
  have b2 := b1.trans (hb2.mono b1.size)
  have c0 : w2.cell? ⟨w.heap.size, 1, none⟩ = some (.slice a' n' c') := (m0.below hb2).cell 1 _ rfl
  have c1 : w2.cell? ⟨w.heap.size + 1, 1, none⟩ = some (.slice y n' cy) := (m1.below hb2).cell 1 _ rfl
  clear m0 m1 hb2
  go_wp2_with fail
  refine (unhide E2 w2 b2).mono ?_
  rintro e w3 ⟨rfl, hb3⟩
  have b3 := b2.trans (hb3.mono b2.size)
  clear hb3 c0 c1
  go_wp2_with fail
  go_ret
  exact ⟨rfl, b3⟩

end Gr
end Go.Proofs.Ytalmbdfcpnkkpaa
