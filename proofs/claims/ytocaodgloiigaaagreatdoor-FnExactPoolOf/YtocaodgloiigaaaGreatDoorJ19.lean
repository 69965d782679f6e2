/-
  Texts of this claim, one behind the other: GrGroup3, GrGroup4, GrGroup5, GrGroupM, GrGroupN.
-/
import Derived.Test.YtocaodgloiigaaaGreatDoorJ18
import Derived.Test.YtocaodgloiigaaaGreatDoorJ17
import Derived.Laws.EntriesVeiled

/-
  Copies of groups and proofs.
-/
namespace Go.Proofs.YtocaodgloiigaaaGreatDoor
namespace Gr
open Go.RowKit

theorem infoGroup : (Tryz.prog.info? 117).map (fun i => (i.zero, i.size, i.bytes)) = some (some (.agg #[.slice none 0 0, .int .i64 0]), 2, 32) := by kernel_rfl

theorem results_group {fn : Func} {p : Tmp} (h : fn.results = #[.cell p 117]) (tmps : Array Value) (w : World) (g : Nat) (x y : Value) (hp : tmps.getD p undef = .pointer (some ⟨g, 0, none⟩)) (hg : Blk w g #[x, y] 117) :
    (results fn tmps).run Tryz.prog w = .ok (.agg #[x, y]) w := by
  have c0 := hg.cell 0 x rfl
  have c1 := hg.cell 1 y rfl
  have hp' : tmps[p]?.getD undef = .pointer (some ⟨g, 0, none⟩) := by simpa using hp
  simp [results, h, hp', go_sem, c0, c1]

theorem results_proof {fn : Func} {p : Tmp} (h : fn.results = #[.cell p 44]) (tmps : Array Value) (w : World) (g : Nat) (x y : Value) (hp : tmps.getD p undef = .pointer (some ⟨g, 0, none⟩)) (hg : Blk w g #[x, y] 44) :
    (results fn tmps).run Tryz.prog w = .ok (.agg #[x, y]) w := by
  have c0 := hg.cell 0 x rfl
  have c1 := hg.cell 1 y rfl
  have hp' : tmps[p]?.getD undef = .pointer (some ⟨g, 0, none⟩) := by simpa using hp
  simp [results, h, hp', go_sem, c0, c1]

end Gr
end Go.Proofs.YtocaodgloiigaaaGreatDoor

/-
  Copies of rows of groups, and of proofs.
-/
namespace Go.Proofs.YtocaodgloiigaaaGreatDoor
namespace Gr
open Go.RowKit

/-- The first k groups of a block of groups. -/
def Gs (w : World) (lo : Nat) (C : Array Value) (G : List GrpI) (k : Nat) : Prop :=
  ∀ j (h : j < G.length), j < k → ∃ v, C[j * 2]? = some v ∧ C[j * 2 + 1]? = some (.int .i64 G[j].Z) ∧ InOwn w lo v G[j].M

theorem Gs.kept {S : Nat → Prop} {w w' : World} {lo k : Nat} {C : Array Value} {G : List GrpI} (h : Gs w lo C G k) (hk : Kept S w w') (hS : ∀ g, lo ≤ g → ¬ S g) : Gs w' lo C G k := by
  intro j hj hjk
  obtain ⟨v, c0, c1, hO⟩ := h j hj hjk
  exact ⟨v, c0, c1, hO.kept hk (fun g hg => hS g (hO.blk g hg).1)⟩

theorem Gs.snoc {w : World} {lo k : Nat} {C : Array Value} {G : List GrpI} (h : Gs w lo C G k) (hk : k < G.length) (hC : C.size = G.length * 2) (v : Value) (hO : InOwn w lo v G[k].M) : Gs w lo ((C.setIfInBounds (k * 2) v).setIfInBounds (k * 2 + 1) (.int .i64 G[k].Z)) G (k + 1) := by
  intro j hj hjk
  by_cases e : j = k
  · subst e
    refine ⟨v, ?_, ?_, hO⟩
    · rw [Array.getElem?_setIfInBounds_ne (by omega), Array.getElem?_setIfInBounds_self, if_pos (by omega)]
    · rw [Array.getElem?_setIfInBounds_self, if_pos (by simp; omega)]
  · obtain ⟨v', c0, c1, hO'⟩ := h j hj (by omega)
    refine ⟨v', ?_, ?_, hO'⟩
    · rw [Array.getElem?_setIfInBounds_ne (by omega), Array.getElem?_setIfInBounds_ne (by omega)]; exact c0
    · rw [Array.getElem?_setIfInBounds_ne (by omega), Array.getElem?_setIfInBounds_ne (by omega)]; exact c1

theorem Gs.at {w : World} {lo g : Nat} {C : Array Value} {G : List GrpI} (h : Gs w lo C G G.length) (hb : Blk w g C 117) : groupsAt w (some ⟨g, 0, none⟩) G.length w.heap.size G := by
  refine ⟨rfl, fun j hj => ?_⟩
  obtain ⟨v, c0, c1, hO⟩ := h j hj hj
  obtain ⟨a', c', rfl, hI⟩ := hO.at
  refine ⟨g, 0, a', c', rfl, hb.lt, ?_, ?_, hI⟩
  · rw [Nat.zero_add]; exact hb.cell _ _ c0
  · rw [Nat.zero_add]; exact hb.cell _ _ c1

/-- A row of groups of the call's own, with the rows of its own in it. -/
def GsOwn (w : World) (lo : Nat) (v : Value) (G : List GrpI) : Prop := ∃ g C, v = .slice (some ⟨g, 0, none⟩) G.length G.length ∧ lo ≤ g ∧ Blk w g C 117 ∧ C.size = G.length * 2 ∧ Gs w lo C G G.length

theorem GsOwn.kept {S : Nat → Prop} {w w' : World} {lo : Nat} {v : Value} {G : List GrpI} (h : GsOwn w lo v G) (hk : Kept S w w') (hS : ∀ g, lo ≤ g → ¬ S g) : GsOwn w' lo v G := by
  obtain ⟨g, C, e, hg, hb, hs, h⟩ := h
  exact ⟨g, C, e, hg, hb.kept hk (hS g hg), hs, h.kept hk hS⟩

theorem Gs.lower {w : World} {lo lo' k : Nat} {C : Array Value} {G : List GrpI} (h : Gs w lo C G k) (hl : lo' ≤ lo) : Gs w lo' C G k := by
  intro j hj hjk
  obtain ⟨v, c0, c1, hO⟩ := h j hj hjk
  exact ⟨v, c0, c1, hO.lower hl⟩

theorem GsOwn.lower {w : World} {lo lo' : Nat} {v : Value} {G : List GrpI} (h : GsOwn w lo v G) (hl : lo' ≤ lo) : GsOwn w lo' v G := by
  obtain ⟨g, C, e, hg, hb, hs, h⟩ := h
  exact ⟨g, C, e, by omega, hb, hs, h.lower hl⟩

theorem GsOwn.at {w : World} {lo : Nat} {v : Value} {G : List GrpI} (h : GsOwn w lo v G) : ∃ a c, v = .slice a G.length c ∧ groupsAt w a G.length w.heap.size G := by
  obtain ⟨g, C, rfl, hg, hb, hs, h⟩ := h
  exact ⟨_, _, rfl, h.at hb⟩

set_option maxRecDepth 100000 in
set_option maxHeartbeats 1000000 in
theorem eqGroup_same (a a' : Option Addr) (c c' B : Nat) (q : GrpI) (hn : q.M.length ≤ 1048576) (w : World) (hB : B ≤ w.heap.size) (h : IntsAt w a q.M.length B q.M) (h' : IntsAt w a' q.M.length B q.M) :
    Calls Tryz.prog 102 #[.agg #[.slice a q.M.length c, .int .i64 q.Z], .agg #[.slice a' q.M.length c', .int .i64 q.Z]] w fun e w' => e = .returned (.bool true) ∧ Below w.heap.size w w' := by
  have EQ := hide (fun w1 (hb : Below w.heap.size w w1) => eqInts_same a a' q.M.length c c' B B q.M hn w1 (by have := hb.size; omega) (by have := hb.size; omega) (h.below hb hB) (h'.below hb hB))
  generalize q.M.length = n at EQ
  generalize q.Z = z
  clear h h'
  go_enter Tryz.func102, Tryz.ntmps102
  go_wp2_with fail
  have b1 : Below w.heap.size w ((w.alloc (Obj.cells #[Value.slice a n c, Value.int .i64 z] 117)).alloc (Obj.cells #[Value.slice a' n c', Value.int .i64 z] 117)) := (below_new _ _).alloc (by simp) _
  have m0 : Blk ((w.alloc (Obj.cells #[Value.slice a n c, Value.int .i64 z] 117)).alloc (Obj.cells #[Value.slice a' n c', Value.int .i64 z] 117)) w.heap.size #[Value.slice a n c, Value.int .i64 z] 117 := Blk.new0.alloc
  have m1 : Blk ((w.alloc (Obj.cells #[Value.slice a n c, Value.int .i64 z] 117)).alloc (Obj.cells #[Value.slice a' n c', Value.int .i64 z] 117)) (w.heap.size + 1) #[Value.slice a' n c', Value.int .i64 z] 117 := Blk.new1
  generalize ((w.alloc (Obj.cells #[Value.slice a n c, Value.int .i64 z] 117)).alloc (Obj.cells #[Value.slice a' n c', Value.int .i64 z] 117)) = V at b1 m0 m1 ⊢
  refine (unhide EQ V b1).mono ?_
  rintro e w2 ⟨rfl, hb2⟩
  have b2 := b1.trans (hb2.mono b1.size)
  have c0 : w2.cell? ⟨w.heap.size, 1, none⟩ = some (.int .i64 z) := (m0.below hb2).cell 1 _ rfl
  have c1 : w2.cell? ⟨w.heap.size + 1, 1, none⟩ = some (.int .i64 z) := (m1.below hb2).cell 1 _ rfl
  clear m0 m1 hb2
  go_wp2_with fail
  go_ret
  exact ⟨rfl, b2⟩
end Gr
end Go.Proofs.YtocaodgloiigaaaGreatDoor

/-
  The kind of Proof, in the form that a law's walk asks for.
-/
namespace Go.Proofs.YtocaodgloiigaaaGreatDoor
namespace Gr
open Go.ChangeShapes Go.WideShapes Go.ChangeAt Go.RowKit

set_option maxRecDepth 100000 in
set_option maxHeartbeats 1000000 in
theorem eqGroups_same (a a' : Option Addr) (n c c' B : Nat) (G : List GrpI) (hn : n ≤ 1048576) (hm : ∀ q ∈ G, q.M.length ≤ 1048576) (w : World) (hB : B ≤ w.heap.size) (h : groupsAt w a n B G) (h' : groupsAt w a' n B G) :
    Calls Tryz.prog 80 #[.slice a n c, .slice a' n c'] w fun e w' => e = .returned (.bool true) ∧ Below w.heap.size w w' := by
  obtain ⟨hL, hc⟩ := h
  obtain ⟨_, hc'⟩ := h'
  have EQ := hide (fun j (hj : j < G.length) a1 a2 c1 c2 w1 (hb : Below w.heap.size w w1) (h1 : IntsAt w a1 G[j].M.length B G[j].M) (h2 : IntsAt w a2 G[j].M.length B G[j].M) => eqGroup_same a1 a2 c1 c2 B G[j] (hm _ (List.getElem_mem hj)) w1 (by have := hb.size; omega) (h1.below hb hB) (h2.below hb hB))
  have HC := hide hc
  have HC' := hide hc'
  have HL := hide hL
  clear hc hc' hL hm
  go_enter Tryz.func80, Tryz.ntmps80
  go_wp2_with fail
  go_loopw [5] (fun i wr => ∃ k : Nat, i = .int .i64 (k : Int) ∧ k ≤ n ∧ Below w.heap.size w wr) (fun i _ => n - (intOf i).toNat)
  case atStart => exact ⟨0, rfl, Nat.zero_le _, Below.refl _ _⟩
  case round =>
    obtain ⟨k, rfl, hk, hb⟩ := hrel
    by_cases hlt : k < n
    · have hkL : k < G.length := by have := unhide HL; omega
      obtain ⟨b, off, a1, c1, rfl, hbB, d0, d1, h1⟩ := unhide HC k hkL
      obtain ⟨b', off', a2, c2, rfl, hbB', e0, e1, h2⟩ := unhide HC' k hkL
      have EK := hide (fun w1 hb => unhide EQ k hkL a1 a2 c1 c2 w1 hb h1 h2)
      generalize G[k] = q at d0 d1 e0 e1 EK
      clear h1 h2
      have hkn : (k : Int) < (n : Int) := by omega
      have hz := hb.size
      have D0 : ∀ d : Grown wr.heap.size wr, d.w.cell? ⟨b, off + k * 2, none⟩ = some (.slice a1 q.M.length c1) := fun d => d.cell (by omega) ((hb.cell (p := ⟨b, off + k * 2, none⟩) (by simp; omega)).trans d0)
      have D1 : ∀ d : Grown wr.heap.size wr, d.w.cell? ⟨b, off + k * 2 + 1, none⟩ = some (.int .i64 q.Z) := fun d => d.cell (by omega) ((hb.cell (p := ⟨b, off + k * 2 + 1, none⟩) (by simp; omega)).trans d1)
      have E0 : ∀ d : Grown wr.heap.size wr, d.w.cell? ⟨b', off' + k * 2, none⟩ = some (.slice a2 q.M.length c2) := fun d => d.cell (by omega) ((hb.cell (p := ⟨b', off' + k * 2, none⟩) (by simp; omega)).trans e0)
      have E1 : ∀ d : Grown wr.heap.size wr, d.w.cell? ⟨b', off' + k * 2 + 1, none⟩ = some (.int .i64 q.Z) := fun d => d.cell (by omega) ((hb.cell (p := ⟨b', off' + k * 2 + 1, none⟩) (by simp; omega)).trans e1)
      have EG : Hid (∀ d : Grown wr.heap.size wr, Calls Tryz.prog 102 #[.agg #[.slice a1 q.M.length c1, .int .i64 q.Z], .agg #[.slice a2 q.M.length c2, .int .i64 q.Z]] d.w fun e w' => e = .returned (.bool true) ∧ Below d.w.heap.size d.w w') := fun d => unhide EK d.w (hb.trans (d.below.mono hb.size))
      clear d0 d1 e0 e1 EK
      go_wp2_with fail
      refine wp_region_grown wr.heap.size (by kernel_rfl) (by kernel_rfl) ?_
      repeat (go_big_quiet_step (first | (go_at_call 102; exact Calls.grown (Nat.le_refl _) (unhide EG _))))
      refine wpQuiet_nil ?_
      rintro w5 ⟨d5, rfl⟩
      go_wp2_with fail
      exact ⟨⟨k + 1, by go_num, by omega, hb.trans (d5.below.mono hb.size)⟩, by simp [intOf]; omega⟩
    · go_wp2_with fail
      go_ret
      exact ⟨rfl, hb⟩

def PrOwn (w : World) (_B : Nat) (v : Value) (Y : List Int) (G : List GrpI) : Prop := PrAt w v w.heap.size Y G

theorem PrAt.shape {w : World} {v : Value} {B : Nat} {Y : List Int} {G : List GrpI} (h : PrAt w v B Y G) : ∃ a c a' c', v = .agg #[.slice a Y.length c, .slice a' G.length c'] := by
  obtain ⟨a, n, c, a', n', c', rfl, hY, hG, _⟩ := h
  exact ⟨a, c, a', c', by rw [hY.1, hG.1]⟩

theorem PrOwn.at {w : World} {B : Nat} {v : Value} {Y : List Int} {G : List GrpI} (h : PrOwn w B v Y G) : PrAt w v w.heap.size Y G := h

theorem PrOwn.below {w w' : World} {B : Nat} {v : Value} {Y : List Int} {G : List GrpI} (h : PrOwn w B v Y G) (hb : Below w.heap.size w w') : PrOwn w' B v Y G := (PrAt.below h hb (Nat.le_refl _)).mono hb.size

theorem psize_le {Y : List Int} {G : List GrpI} (h : psize Y G ≤ 1048576) : Y.length ≤ 1048576 ∧ G.length ≤ 1048576 ∧ ∀ q ∈ G, q.M.length ≤ 1048576 := by
  unfold psize at h
  have h1 : Y.length + (G.length + gbulk G) ≤ 1048576 := by omega
  refine ⟨by omega, by omega, fun q hq => ?_⟩
  have : ∀ (L : List GrpI), q ∈ L → q.M.length ≤ gbulk L := by
    intro L
    induction L with
    | nil => intro h; simp at h
    | cons x r ih =>
      intro h
      unfold gbulk
      rcases List.mem_cons.1 h with rfl | h
      · omega
      · have := ih h; omega
  have := this G hq
  omega

theorem PrAt.of_own {w : World} {lo : Nat} {vy vg : Value} {Y : List Int} {G : List GrpI} (h1 : InOwn w lo vy Y) (h2 : GsOwn w lo vg G) (hI : PrIn Y G) : PrAt w (.agg #[vy, vg]) w.heap.size Y G := by
  obtain ⟨a, c, rfl, hY⟩ := h1.at
  obtain ⟨a', c', rfl, hG⟩ := h2.at
  exact ⟨a, _, c, a', _, c', rfl, hY, hG, hI⟩

theorem PrAt.lens {w : World} {v : Value} {B : Nat} {Y : List Int} {G : List GrpI} (h : PrAt w v B Y G) : PrIn Y G := by
  obtain ⟨_, _, _, _, _, _, _, _, _, h⟩ := h
  exact h

set_option maxRecDepth 100000 in
set_option maxHeartbeats 1000000 in
theorem eqProof_gen (v u : Value) (B B' : Nat) (Y : List Int) (G : List GrpI) (hn : psize Y G ≤ 1048576) (w : World) (hB : B ≤ w.heap.size) (hB' : B' ≤ w.heap.size) (hv : PrAt w v B Y G) (hu : PrAt w u B' Y G) :
    Calls Tryz.prog 56 #[v, u] w fun e w' => e = .returned (.bool true) ∧ Below w.heap.size w w' := by
  obtain ⟨l1, l2, l3⟩ := psize_le hn
  obtain ⟨a, n, c, a', n', c', rfl, hY, hG, _⟩ := hv.mono hB
  obtain ⟨x, m, cx, y, m', cy, rfl, hY', hG', _⟩ := hu.mono hB'
  obtain rfl := hY.1
  obtain rfl := hG.1
  obtain rfl := hY'.1
  obtain rfl := hG'.1
  have E1 := hide (fun w1 (hb : Below w.heap.size w w1) => eqInts_same a x Y.length c cx w.heap.size w.heap.size Y l1 w1 hb.size hb.size (hY.below hb (Nat.le_refl _)) (hY'.below hb (Nat.le_refl _)))
  have E2 := hide (fun w1 (hb : Below w.heap.size w w1) => eqGroups_same a' y G.length c' cy w.heap.size G l2 l3 w1 hb.size (hG.below hb (Nat.le_refl _)) (hG'.below hb (Nat.le_refl _)))
  clear hY hG hY' hG' l1 l2 l3 hn hv hu
  generalize Y.length = n at E1
  generalize G.length = n' at E2
  go_enter Tryz.func56, Tryz.ntmps56
  go_wp2_with fail
  have b1 : Below w.heap.size w ((w.alloc (Obj.cells #[Value.slice a n c, Value.slice a' n' c'] 44)).alloc (Obj.cells #[Value.slice x n cx, Value.slice y n' cy] 44)) := (below_new _ _).alloc (by simp) _
  have m0 : Blk ((w.alloc (Obj.cells #[Value.slice a n c, Value.slice a' n' c'] 44)).alloc (Obj.cells #[Value.slice x n cx, Value.slice y n' cy] 44)) w.heap.size #[Value.slice a n c, Value.slice a' n' c'] 44 := Blk.new0.alloc
  have m1 : Blk ((w.alloc (Obj.cells #[Value.slice a n c, Value.slice a' n' c'] 44)).alloc (Obj.cells #[Value.slice x n cx, Value.slice y n' cy] 44)) (w.heap.size + 1) #[Value.slice x n cx, Value.slice y n' cy] 44 := Blk.new1
  generalize ((w.alloc (Obj.cells #[Value.slice a n c, Value.slice a' n' c'] 44)).alloc (Obj.cells #[Value.slice x n cx, Value.slice y n' cy] 44)) = V at b1 m0 m1 ⊢
  refine (unhide E1 V b1).mono ?_
  rintro e w2 ⟨rfl, hb2⟩
  have b2 := b1.trans (hb2.mono b1.size)
  have c0 : w2.cell? ⟨w.heap.size, 1, none⟩ = some (.slice a' n' c') := (m0.below hb2).cell 1 _ rfl
  have c1 : w2.cell? ⟨w.heap.size + 1, 1, none⟩ = some (.slice y n' cy) := (m1.below hb2).cell 1 _ rfl
  clear m0 m1 hb2
  go_wp2_with fail
  refine (unhide E2 w2 b2).mono ?_
  rintro e w3 ⟨rfl, hb3⟩
  have b3 := b2.trans (hb3.mono b2.size)
  clear hb3 c0 c1
  go_wp2_with fail
  go_ret
  exact ⟨rfl, b3⟩

end Gr
end Go.Proofs.YtocaodgloiigaaaGreatDoor

/-
  Groups that a call has made, each with a row of its own: what is marked is held.
-/
namespace Go.Proofs.YtocaodgloiigaaaGreatDoor
namespace Gr
open Go.ChangeShapes Go.WideShapes Go.ChangeAt Go.RowKit

/-- The cells of groups: the row of the members, and the number. -/
def gC : List Value → List Int → List Value
  | m :: ms, z :: zs => m :: .int .i64 z :: gC ms zs
  | _, _ => []

theorem gC_length : ∀ (ms : List Value) (zs : List Int), ms.length = zs.length → (gC ms zs).length = zs.length * 2
  | [], [], _ => rfl
  | m :: ms, z :: zs, h => by
    have := gC_length ms zs (by simpa using h)
    simp only [gC, List.length_cons, this]
    omega
  | [], z :: zs, h => by simp at h
  | m :: ms, [], h => by simp at h

theorem gC_at : ∀ (ms : List Value) (zs : List Int) (j : Nat) (h1 : j < ms.length) (h2 : j < zs.length), (gC ms zs)[j * 2]? = some ms[j] ∧ (gC ms zs)[j * 2 + 1]? = some (.int .i64 zs[j])
  | [], _, _, h1, _ => by simp at h1
  | m :: ms, [], _, _, h2 => by simp at h2
  | m :: ms, z :: zs, 0, _, _ => ⟨rfl, rfl⟩
  | m :: ms, z :: zs, j + 1, h1, h2 => by
    have := gC_at ms zs j (by simpa using h1) (by simpa using h2)
    simp only [gC, List.getElem_cons_succ]
    rw [show (j + 1) * 2 = j * 2 + 1 + 1 by omega]
    simpa using this

theorem gC_set : ∀ (ms : List Value) (zs : List Int) (j : Nat) (z : Int), ms.length = zs.length → (gC ms zs).set (j * 2 + 1) (.int .i64 z) = gC ms (zs.set j z)
  | [], [], _, _, _ => rfl
  | m :: ms, y :: zs, 0, z, _ => rfl
  | m :: ms, y :: zs, j + 1, z, h => by
    have := gC_set ms zs j z (by simpa using h)
    simp only [gC, List.set_cons_succ]
    rw [show (j + 1) * 2 = j * 2 + 1 + 1 by omega]
    simp only [List.set_cons_succ]
    rw [this]
  | [], z :: zs, _, _, h => by simp at h
  | m :: ms, [], _, _, h => by simp at h

def zsOf (G : List GrpI) : List Int := G.map (·.Z)
theorem zsOf_length (G : List GrpI) : (zsOf G).length = G.length := by simp [zsOf]
theorem zsOf_at (G : List GrpI) (j : Nat) (h : j < (zsOf G).length) (h2 : j < G.length) : (zsOf G)[j] = G[j].Z := by simp [zsOf]

/-- No two of some rows lie in one block. -/
def DistV (vs : List Value) : Prop := ∀ i j (hi : i < vs.length) (hj : j < vs.length) g, vs[i].ownBlock = some g → vs[j].ownBlock = some g → i = j

/-- A row of groups that a call has made. -/
def GOwn (w : World) (B : Nat) (v : Value) (ms : List Value) (G : List GrpI) : Prop :=
  ms.length = G.length ∧ w.ownsRow B 117 2 v G.length (gC ms (zsOf G)) ∧ ∀ j (h1 : j < ms.length) (h2 : j < G.length), InOwn w B ms[j] G[j].M

theorem GOwn.below {w w' : World} {B : Nat} {v : Value} {ms : List Value} {G : List GrpI} (h : GOwn w B v ms G) (hb : Below w.heap.size w w') : GOwn w' B v ms G :=
  ⟨h.1, own_below h.2.1 hb, fun j h1 h2 => (h.2.2 j h1 h2).below hb⟩

theorem own_shape {w : World} {B e s n : Nat} {v : Value} {xs : List Value} (h : w.ownsRow B e s v n xs) : ∃ A c, v = .slice A n c := by
  rcases h.2 with ⟨rfl, h0⟩ | ⟨g, cap, cur, rfl, _⟩
  · exact ⟨none, 0, by rw [h0]⟩
  · exact ⟨_, _, rfl⟩

/-- How many marks the groups ahead of the j-th take. -/
def offQ (G : List GrpI) (j : Nat) : Nat := ((G.take j).map (fun q => q.M.length + 1)).sum

theorem offQ_zero (G : List GrpI) : offQ G 0 = 0 := by simp [offQ]
theorem offQ_succ (G : List GrpI) (j : Nat) (h : j < G.length) : offQ G (j + 1) = offQ G j + G[j].M.length + 1 := by
  unfold offQ
  rw [List.take_succ_eq_append_getElem h, List.map_append, List.sum_append]
  simp
  omega

theorem offQ_le (G : List GrpI) (j : Nat) : offQ G j ≤ offQ G G.length := by
  unfold offQ
  rw [List.take_length]
  conv => rhs; rw [← List.take_append_drop j G]
  rw [List.map_append, List.sum_append]
  omega

theorem offQ_ge (G : List GrpI) : G.length ≤ offQ G G.length := by
  unfold offQ
  rw [List.take_length]
  induction G with
  | nil => simp
  | cons q r ih => simp only [List.map_cons, List.sum_cons, List.length_cons]; omega

/-- The groups with the first j marked. -/
def mixQ (k : Nat) (G : List GrpI) (j : Nat) : List GrpI := G.mapIdx fun i q => if i < j then ⟨marksN (k + offQ G i) q.M.length, ((k + offQ G i + q.M.length : Nat) : Int)⟩ else q

theorem mixQ_length (k : Nat) (G : List GrpI) (j : Nat) : (mixQ k G j).length = G.length := by simp [mixQ]
theorem mixQ_at (k : Nat) (G : List GrpI) (j i : Nat) (h : i < (mixQ k G j).length) (h2 : i < G.length) : (mixQ k G j)[i] = if i < j then ⟨marksN (k + offQ G i) G[i].M.length, ((k + offQ G i + G[i].M.length : Nat) : Int)⟩ else G[i] := by simp [mixQ]
theorem mixQ_zero (k : Nat) (G : List GrpI) : mixQ k G 0 = G := by
  apply List.ext_getElem
  · simp [mixQ]
  · intro i h1 h2; rw [mixQ_at k G 0 i h1 h2, if_neg (by omega)]

theorem mixQ_zs (k : Nat) (G : List GrpI) (j : Nat) (h : j < G.length) : (zsOf (mixQ k G j)).set j ((k + offQ G j + G[j].M.length : Nat) : Int) = zsOf (mixQ k G (j + 1)) := by
  apply List.ext_getElem
  · simp [zsOf, mixQ]
  · intro i h1 h2
    have hi : i < G.length := by simp [zsOf, mixQ] at h2; exact h2
    rw [List.getElem_set, zsOf_at _ i h2 (by rw [mixQ_length]; exact hi), mixQ_at k G (j + 1) i (by rw [mixQ_length]; exact hi) hi]
    by_cases e : j = i
    · subst e
      simp
    · rw [if_neg e, zsOf_at _ i (by rw [zsOf_length, mixQ_length]; exact hi) (by rw [mixQ_length]; exact hi), mixQ_at k G j i (by rw [mixQ_length]; exact hi) hi]
      have : i < j + 1 ↔ i < j := by omega
      simp only [this]

theorem GOwn.marked {w w1 : World} {B k j g cap : Nat} {ms : List Value} {G : List GrpI} (h : GOwn w B (.slice (some ⟨g, 0, none⟩) G.length cap) ms (mixQ k G j)) (hd : DistV ms) (hj : j < G.length) (hjm : j < ms.length)
    (ho : InOwn w1 B ms[j] (marksN (k + offQ G j) G[j].M.length)) (hk : Kept (InBlk ms[j]) w w1) :
    w1.ownsRow B 117 2 (.slice (some ⟨g, 0, none⟩) G.length cap) G.length (gC ms (zsOf (mixQ k G j))) ∧
    GOwn (w1.setCell ⟨g, j * 2 + 1, none⟩ (.int .i64 ((k + offQ G j + G[j].M.length : Nat) : Int))) B (.slice (some ⟨g, 0, none⟩) G.length cap) ms (mixQ k G (j + 1)) := by
  have hl := h.1
  rw [mixQ_length] at hl
  have hrow := h.2.1
  rw [mixQ_length] at hrow
  have hjo := h.2.2 j hjm (by rw [mixQ_length]; exact hj)
  have hne : (3 : Nat) ≠ 117 := by decide
  have hrow1 : w1.ownsRow B 117 2 (.slice (some ⟨g, 0, none⟩) G.length cap) G.length (gC ms (zsOf (mixQ k G j))) := hk.own_alien hrow (fun b hb => own_alien hjo hne b hb)
  refine ⟨hrow1, by rw [mixQ_length]; exact hl, ?_, fun i h1 h2 => ?_⟩
  · rw [mixQ_length]
    have h3 := (hrow1.stored (j * 2 + 1) (.int .i64 ((k + offQ G j + G[j].M.length : Nat) : Int))).1
    rw [gC_set _ _ _ _ (by rw [zsOf_length, mixQ_length]; exact hl), mixQ_zs k G j hj] at h3
    exact h3
  · have hi : i < G.length := by rw [mixQ_length] at h2; exact h2
    have o := h.2.2 i h1 (by rw [mixQ_length]; exact hi)
    rw [mixQ_at k G j i _ hi] at o
    rw [mixQ_at k G (j + 1) i h2 hi]
    have hks : Kept (fun b => b = g) w1 (w1.setCell ⟨g, j * 2 + 1, none⟩ (.int .i64 ((k + offQ G j + G[j].M.length : Nat) : Int))) := Kept.set _ _ _ _ rfl
    have hal : ∀ b, b = g → Alien w1 b 3 := fun b hb => by
      subst hb
      exact own_alien hrow1 (Ne.symm hne) b rfl
    by_cases e : i = j
    · subst e
      rw [if_pos (by omega)]
      exact hks.own_alien ho hal
    · have o2 := hk.own o (fun b hb hb' => e (hd i j h1 hjm b hb hb'))
      by_cases e2 : i < j
      · rw [if_pos (by omega)]
        rw [if_pos e2] at o2
        exact hks.own_alien o2 hal
      · rw [if_neg (by omega)]
        rw [if_neg e2] at o2
        exact hks.own_alien o2 hal

/-- The blocks of groups. -/
def GoBlk (v : Value) (ms : List Value) (g : Nat) : Prop := v.ownBlock = some g ∨ ∃ j, ∃ h : j < ms.length, ms[j].ownBlock = some g

end Gr
end Go.Proofs.YtocaodgloiigaaaGreatDoor

/-
  The contracts of laws.markGroupS and laws.heldGroupS.
-/
namespace Go.Proofs.YtocaodgloiigaaaGreatDoor
namespace Gr
open Go.ChangeShapes Go.WideShapes Go.ChangeAt Go.RowKit

set_option maxRecDepth 100000 in
set_option maxHeartbeats 1000000 in
theorem markGroupS_any (v : Value) (ms : List Value) (B k : Nat) (G : List GrpI) (hk : k + offQ G G.length ≤ 100000000) (hd : DistV ms) (w : World) (h : GOwn w B v ms G) :
    Calls Tryz.prog 81 #[v, .int .i64 (k : Int)] w fun e w' => e = .returned (.int .i64 ((k + offQ G G.length : Nat) : Int)) ∧ GOwn w' B v ms (mixQ k G G.length) ∧ Kept (GoBlk v ms) w w' := by
  obtain ⟨A, c, rfl⟩ := own_shape h.2.1
  have hvl := h.1
  have h2 := h
  rw [← mixQ_zero k G] at h2
  have H := hide h2
  have HD := hide hd
  obtain ⟨n, hn⟩ : ∃ n, n = G.length := ⟨_, rfl⟩
  have HN := hide hn
  have HV : Hid (ms.length = n) := by show _ = _; omega
  have HLE := hide (offQ_le G)
  obtain ⟨t, ht⟩ : ∃ t, t = offQ G G.length := ⟨_, rfl⟩
  have HT := hide ht
  have hn8 : n ≤ 100000000 := by have := offQ_ge G; omega
  rw [← ht] at hk HLE ⊢
  rw [← hn] at ⊢
  clear h h2 hd hn hvl ht
  go_enter Tryz.func81, Tryz.ntmps81
  go_wp2_with fail
  go_loopw [1, 5] (fun a1 a5 wr => ∃ j y : Nat, a5 = .int .i64 j ∧ j ≤ n ∧ Hid (y = k + offQ G j) ∧ y ≤ 100000000 ∧ a1 = .int .i64 (y : Int) ∧ Hid (GOwn wr B (.slice A n c) ms (mixQ k G j)) ∧ Hid (Kept (GoBlk (.slice A n c) ms) w wr)) (fun _ a5 _ => n - (intOf a5).toNat)
  case atStart => exact ⟨0, k, rfl, Nat.zero_le _, by show _ = _; rw [offQ_zero]; rfl, by omega, rfl, (by have h := unhide H; rw [mixQ_length, ← unhide HN] at h; exact h), Kept.refl _ _⟩
  case round =>
    obtain ⟨j, y, rfl, hj, HY, hyl, rfl, HG, HKP⟩ := hrel
    by_cases hlt : j < n
    · have hjG : j < G.length := by have := unhide HN; omega
      have hjv : j < ms.length := by have := unhide HV; omega
      have hjm : j < (mixQ k G j).length := by rw [mixQ_length]; exact hjG
      have hg := unhide HG
      have hown := hg.2.1
      rw [mixQ_length, ← unhide HN] at hown
      obtain ⟨g, cap, hA, _, hgl⟩ := hown.form (by omega)
      simp at hA
      obtain ⟨rfl, rfl⟩ := hA
      have oj := hg.2.2 j hjv hjm
      have e0 : (mixQ k G j)[j] = G[j] := by rw [mixQ_at k G j j hjm hjG, if_neg (by omega)]
      rw [e0] at oj
      obtain ⟨a1, c1, e1⟩ := own_shape oj
      have hc1 := hown.cellAt (j * 2) (by omega)
      rw [(gC_at ms (zsOf (mixQ k G j)) j hjv (by rw [zsOf_length]; exact hjm)).1, e1] at hc1
      have hs := offQ_succ G j hjG
      have hle := unhide HLE (j + 1)
      have hy2 : y + G[j].M.length + 1 ≤ 100000000 := by have := unhide HY; omega
      have MK := markInts_gen ms[j] B y G[j].M (by omega) wr oj
      rw [e1] at MK
      have HMK := hide MK
      have HS : Hid (y + G[j].M.length + 1 = k + offQ G (j + 1)) := by show _ = _; rw [hs, unhide HY]; omega
      have HMG : Hid (∀ w1, InOwn w1 B (.slice a1 G[j].M.length c1) (marksN y G[j].M.length) → Kept (InBlk (.slice a1 G[j].M.length c1)) wr w1 → w1.ownsRow B 117 2 (.slice (some ⟨g, 0, none⟩) n c) n (gC ms (zsOf (mixQ k G j))) ∧ GOwn (w1.setCell ⟨g, j * 2 + 1, none⟩ (.int .i64 ((y + G[j].M.length : Nat) : Int))) B (.slice (some ⟨g, 0, none⟩) n c) ms (mixQ k G (j + 1)) ∧ Kept (GoBlk (.slice (some ⟨g, 0, none⟩) n c) ms) w w1) := fun w1 ho hk1 => by
        rw [← e1] at ho hk1
        have hn := unhide HN
        have hy := unhide HY
        have h0 := unhide HG
        rw [hn] at h0 ⊢
        rw [hy] at ho ⊢
        obtain ⟨r1, r2⟩ := h0.marked (unhide HD) hjG hjv ho hk1
        exact ⟨r1, r2, (by have h5 := unhide HKP; rw [hn] at h5; exact h5.trans (hk1.weak (fun i hi => .inr ⟨j, hjv, hi⟩)))⟩
      have HZ2 := hide (gC_at ms (zsOf (mixQ k G j)) j hjv (by rw [zsOf_length]; exact hjm)).2
      have hx0 : (0 : Int) ≤ (j : Int) := by omega
      have hx1 : (j : Int) < (n : Int) := by omega
      generalize (zsOf (mixQ k G j))[j]'(by rw [zsOf_length]; exact hjm) = z0 at HZ2
      generalize G[j].M.length = m at hc1 HMK HS hy2 HMG
      clear MK hg hown oj e0 e1 hs hle
      go_wp2_with fail
      refine (unhide HMK).mono ?_
      rintro e w1 ⟨rfl, ho1, hk1⟩
      obtain ⟨r1, r2, r3⟩ := unhide HMG w1 ho1 hk1
      have q1 := r1.cellAt (j * 2 + 1) (by omega)
      rw [unhide HZ2] at q1
      have f1 := r1.frozenAt (j * 2 + 1)
      have HG1 := hide r2
      have HKP1 := hide (r3.trans (Kept.set w1 g (j * 2 + 1) (.int .i64 ((y + m : Nat) : Int)) (.inl rfl)))
      clear ho1 hk1 r1 r2 r3 HMG
      go_wp2
      go_roundw
      case rel => exact ⟨j + 1, y + m + 1, by go_num, by omega, unhide HS, by omega, by go_num, unhide HG1, unhide HKP1⟩
      case measure => simp [intOf]; omega
    · obtain rfl : j = n := by omega
      go_wp2
      go_ret
      refine ⟨?_, unhide HG, unhide HKP⟩
      have e : (y : Int) = ((k + t : Nat) : Int) := by
        have h1 := unhide HY
        rw [unhide HN, ← unhide HT] at h1
        rw [h1]
      rw [← e]
      rfl

set_option maxRecDepth 100000 in
set_option maxHeartbeats 1000000 in
theorem heldGroupS_any (v : Value) (ms : List Value) (B k : Nat) (G : List GrpI) (hk : k + offQ G G.length ≤ 100000000) (w : World) (h : GOwn w B v ms (mixQ k G G.length)) :
    Calls Tryz.prog 82 #[v, .int .i64 (k : Int)] w fun e w' => e = .returned (.int .i64 ((k + offQ G G.length : Nat) : Int)) ∧ Below w.heap.size w w' := by
  have hown := h.2.1
  rw [mixQ_length] at hown
  obtain ⟨A, c, rfl⟩ := own_shape hown
  have hvl := h.1
  rw [mixQ_length] at hvl
  have H := hide h
  obtain ⟨n, hn⟩ : ∃ n, n = G.length := ⟨_, rfl⟩
  have HN := hide hn
  have HV : Hid (ms.length = n) := by show _ = _; omega
  have HLE := hide (offQ_le G)
  obtain ⟨t, ht⟩ : ∃ t, t = offQ G G.length := ⟨_, rfl⟩
  have HT := hide ht
  have hn8 : n ≤ 100000000 := by have := offQ_ge G; omega
  rw [← ht] at hk HLE ⊢
  rw [← hn] at ⊢
  clear h hown hn hvl ht
  go_enter Tryz.func82, Tryz.ntmps82
  go_wp2_with fail
  go_loopw [1, 5] (fun a1 a5 wr => ∃ j y : Nat, a5 = .int .i64 j ∧ j ≤ n ∧ Hid (y = k + offQ G j) ∧ y ≤ 100000000 ∧ a1 = .int .i64 (y : Int) ∧ Below w.heap.size w wr) (fun _ a5 _ => n - (intOf a5).toNat)
  case atStart => exact ⟨0, k, rfl, Nat.zero_le _, by show _ = _; rw [offQ_zero]; rfl, by omega, rfl, Below.refl _ _⟩
  case round =>
    obtain ⟨j, y, rfl, hj, HY, hyl, rfl, hb⟩ := hrel
    by_cases hlt : j < n
    · have hjG : j < G.length := by have := unhide HN; omega
      have hjv : j < ms.length := by have := unhide HV; omega
      have hjm : j < (mixQ k G G.length).length := by rw [mixQ_length]; exact hjG
      have hg := (unhide H).below hb
      have hown := hg.2.1
      rw [mixQ_length] at hown
      obtain ⟨g, cap, hA, _, hgl⟩ := hown.form (by omega)
      simp at hA
      obtain ⟨rfl, _, rfl⟩ := hA
      have oj := hg.2.2 j hjv hjm
      have e0 : (mixQ k G G.length)[j] = ⟨marksN y G[j].M.length, ((y + G[j].M.length : Nat) : Int)⟩ := by rw [mixQ_at k G _ j hjm hjG, if_pos hjG, ← unhide HY]
      rw [e0] at oj
      have oa := oj.at
      obtain ⟨a1, c1, e1⟩ := oa.shape
      rw [marksN_length] at e1
      have hgc := gC_at ms (zsOf (mixQ k G G.length)) j hjv (by rw [zsOf_length]; exact hjm)
      rw [zsOf_at _ j _ hjm, e0] at hgc
      have hc1 := hown.cellAt (j * 2) (by omega)
      rw [hgc.1, e1] at hc1
      have hc2 := hown.cellAt (j * 2 + 1) (by omega)
      rw [hgc.2] at hc2
      have hs := offQ_succ G j hjG
      have hle := unhide HLE (j + 1)
      have hy2 : y + G[j].M.length + 1 ≤ 100000000 := by have := unhide HY; omega
      have HH := heldInts_gen ms[j] wr.heap.size y G[j].M.length (by omega) wr (Nat.le_refl _) oa
      rw [e1] at HH
      have HHH := hide HH
      have HS : Hid (y + G[j].M.length + 1 = k + offQ G (j + 1)) := by show _ = _; rw [hs, unhide HY]; omega
      have hx0 : (0 : Int) ≤ (j : Int) := by omega
      have hx1 : (j : Int) < (n : Int) := by have := unhide HN; omega
      simp only at hc2
      generalize G[j].M.length = m at hc1 hc2 HHH HS hy2
      have hng : ¬ ((y + m : Nat) : Int) < 0 := by omega
      have hnq : (((y + m : Nat) : Int) != ((y + m : Nat) : Int)) = false := by simp
      have hgs : g < wr.heap.size := hgl
      clear hg hown oj e0 e1 hs hle oa HH hgc
      have hln := unhide HN
      have HX : Hid (G.length = n) := hln.symm
      clear hln
      go_wp2_with fail
      refine (unhide HHH).mono ?_
      rintro e w1 ⟨rfl, hb1⟩
      have hbe := hb.trans (hb1.mono hb.size)
      rw [← hb1.cell (p := ⟨g, j * 2 + 1, none⟩) hgs] at hc2
      clear hb1 hb hc1
      go_wp2
      go_roundw
      case rel => exact ⟨j + 1, y + m + 1, by go_num, by omega, unhide HS, by omega, by go_num, hbe⟩
      case measure => simp [intOf]; omega
    · obtain rfl : j = n := by omega
      go_wp2
      go_ret
      refine ⟨?_, hb⟩
      have e : (y : Int) = ((k + t : Nat) : Int) := by
        have h1 := unhide HY
        rw [unhide HN, ← unhide HT] at h1
        rw [h1]
      rw [← e]
      rfl
end Gr
end Go.Proofs.YtocaodgloiigaaaGreatDoor
