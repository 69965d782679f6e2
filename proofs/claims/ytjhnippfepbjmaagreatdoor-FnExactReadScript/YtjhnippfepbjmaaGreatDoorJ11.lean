/-
  Texts of this claim, one behind the other: GrBlk, GrBlkS, GrDeed.
-/
import Derived.Test.YtjhnippfepbjmaaGreatDoorJ2
import Derived.Test.YtjhnippfepbjmaaGreatDoorJ7
import Derived.Test.YtjhnippfepbjmaaGreatDoorJ10
import Derived.Deep.AppendLies
import Derived.Deep.RegionLaw
import Derived.BigQuiet

/-
  What a region that draws its order leaves alone: blocks by their numbers, worlds that have grown behind a number; an append as one step of such a region, of nothing too.
-/
namespace Go.Proofs.YtjhnippfepbjmaaGreatDoor
namespace Gr
open Go.RowKit

/-- A block that stands in memory. -/
def Blk (W : World) (g : Nat) (C : Array Value) (t : TypeId) : Prop := W.heap[g]? = some (.cells C t (0, 0))

theorem Blk.lt {W : World} {g : Nat} {C : Array Value} {t : TypeId} (h : Blk W g C t) : g < W.heap.size := by
  unfold Blk at h
  rcases Nat.lt_or_ge g W.heap.size with h1 | h1
  · exact h1
  · rw [Array.getElem?_eq_none h1] at h; cases h

theorem Blk.new {W : World} {g : Nat} {C : Array Value} {t : TypeId} (h : g = W.heap.size) : Blk (W.alloc (.cells C t)) g C t := by
  subst h
  exact heap_alloc_new W _

theorem Blk.new0 {W : World} {C : Array Value} {t : TypeId} : Blk (W.alloc (.cells C t)) W.heap.size C t := heap_alloc_new W _
theorem Blk.new1 {W : World} {o : Obj} {C : Array Value} {t : TypeId} : Blk ((W.alloc o).alloc (.cells C t)) (W.heap.size + 1) C t := Blk.new (by show _ = (W.heap.push o).size; simp)
theorem Blk.new2 {W : World} {o o' : Obj} {C : Array Value} {t : TypeId} : Blk (((W.alloc o).alloc o').alloc (.cells C t)) (W.heap.size + 1 + 1) C t := Blk.new (by show _ = ((W.heap.push o).push o').size; simp)

theorem Blk.alloc {W : World} {g : Nat} {C : Array Value} {t : TypeId} {o : Obj} (h : Blk W g C t) : Blk (W.alloc o) g C t :=
  ((below_new W o).block g h.lt).trans h

theorem alloc_size (W : World) (o : Obj) : (W.alloc o).heap.size = W.heap.size + 1 := by
  show (W.heap.push o).size = _
  simp

theorem drew_size (W : World) : W.drew.heap.size = W.heap.size := rfl

theorem Blk.drew {W : World} {g : Nat} {C : Array Value} {t : TypeId} (h : Blk W g C t) : Blk W.drew g C t := h

theorem Blk.below {W W' : World} {g : Nat} {C : Array Value} {t : TypeId} (h : Blk W g C t) (hb : Below W.heap.size W W') : Blk W' g C t := (hb.block g h.lt).trans h

theorem Blk.grown {W W' : World} {g : Nat} {C : Array Value} {t : TypeId} {row : Option Nat} (h : Blk W g C t) (hg : W.grownBy W' row) (hne : some g ≠ row) : Blk W' g C t := (hg.block g h.lt hne).trans h

theorem Blk.cell {W : World} {g : Nat} {C : Array Value} {t : TypeId} (h : Blk W g C t) (k : Nat) (v : Value) (hv : C[k]? = some v) : W.cell? ⟨g, k, none⟩ = some v := by
  rw [cell_of_row W g k C t (0, 0) h]
  exact hv

theorem Blk.froz {W : World} {g : Nat} {C : Array Value} {t : TypeId} (h : Blk W g C t) (k : Nat) : W.frozen? ⟨g, k, none⟩ = false := by
  unfold World.frozen?
  simp only []
  unfold Blk at h
  rw [h]
  simp

/-- A row of one kind is no block of another kind. -/
theorem Blk.apart {W : World} {g : Nat} {C : Array Value} {t e : TypeId} {base size n : Nat} {v : Value} {xs : List Value} (h : Blk W g C t) (ho : W.ownsRow base e size v n xs) (hne : t ≠ e) : some g ≠ v.ownBlock := by
  rcases ho.2 with ⟨rfl, _⟩ | ⟨g', cap, cur, rfl, _, hg, _⟩
  · simp [Value.ownBlock]
  · intro e'
    have e2 : g = g' := by simpa [Value.ownBlock] using e'
    subst e2
    unfold Blk at h
    rw [h] at hg
    simp at hg
    exact hne hg.2

/-- A world that has grown, nothing turned below wr's size. -/
def Fresh (wr W : World) : Prop := Below wr.heap.size wr W

theorem Fresh.refl (w : World) : Fresh w w := Below.refl _ _
theorem Fresh.drew {w W : World} (h : Fresh w W) : Fresh w W.drew := Below.drew h
theorem Fresh.alloc {w W : World} {o : Obj} (h : Fresh w W) : Fresh w (W.alloc o) := Below.alloc h h.size o
theorem Fresh.below {w W W' : World} (h : Fresh w W) (hb : Below W.heap.size W W') : Fresh w W' := Below.trans h (hb.mono h.size)
theorem Fresh.grown {w W W' : World} {row : Option Nat} (h : Fresh w W) (hg : W.grownBy W' row) (hr : ∀ k, row = some k → w.heap.size ≤ k) : Fresh w W' :=
  Below.grown h hg h.size hr

theorem Fresh.size {w W : World} (h : Fresh w W) : w.heap.size ≤ W.heap.size := Below.size h
theorem Fresh.set {w W : World} {g k : Nat} {x : Value} (h : Fresh w W) (hg : w.heap.size ≤ g) : Fresh w (W.setCell ⟨g, k, none⟩ x) := Below.setCell (p := ⟨g, k, none⟩) h hg x

theorem own_ne {g g' n c : Nat} (h : g ≠ g') : some g ≠ (Value.slice (some ⟨g', 0, none⟩) n c).ownBlock := fun e => h (Option.some.inj e)

theorem own_empty {W : World} {g base : Nat} (h : Blk W g #[] 3) (hb : base ≤ g) : W.ownsRow base 3 1 (.slice (some ⟨g, 0, none⟩) 0 0) 0 [] :=
  ⟨by simp, .inr ⟨g, 0, #[], rfl, hb, h, Nat.zero_le _, by decide, rfl, by simp⟩⟩

/-- An append onto a row of the call's own, of nothing too. -/
theorem step_append_any {P : Program} {ops : Array Oper} {o : Oper} {a : Act} {w : World} {K : Act → World → Prop} {Q : Exit → Act → World → Prop} {E : Prop} (hgd : o.guard = none) (s x : Operand) (t : TypeId)
    (ho : o.op = .call { callee := .builtin .append, args := #[s, x], argTypes := #[t, t] })
    (base : Nat) (e : TypeId) (i : TypeInfo) (z : Value) (size bytes : Nat) (ht : P.underlying t = some (.slice e)) (hi : P.info? e = some i) (hz : i.zero = some z)
    (hsize : i.size = size) (hby : i.bytes = bytes) (hzs : z.cells.size = size) (hsz : 0 < size)
    (v : Value) (n : Nat) (xs : List Value) (hs : a.eval s = v) (hown : w.ownsRow base e size v n xs)
    (ad : Addr) (m c : Nat) (news : List Value) (hx : a.eval x = .slice (some ad) m c) (hl : news.length = m * size) (hnews : ∀ j u, news[j]? = some u → w.cell? (ad.add j) = some u) (h1 : ∀ u ∈ news, u.oneCell' = true)
    (h63 : n + m ≤ maxLen) (hbytes : (n + m) * bytes ≤ 140737488355328) (hbase : base ≤ w.heap.size)
    (h : ∀ v' w', w'.ownsRow base e size v' (n + m) (xs ++ news) → w.grownBy w' v.ownBlock → K (a.put o.dst v') w') :
    if Region.wanted o (yielded ops a.tmps) = true then Oper.wp P o a w K Q else E := by
  have hw : Region.wanted o (yielded ops a.tmps) = true := by simp [Region.wanted, hgd]
  rw [if_pos hw]
  obtain ⟨v', w', hr, h2, h3, _⟩ := run_append_own (P := P) w base t o.type e i z size bytes ht hi hz hsize hby hzs hsz v n xs hown ad m c news hl hnews h1 h63 hbytes hbase
  unfold Oper.wp execOp
  simp only [ho, resolve, invoke, builtin, Sem.run_bind, Sem.run_pure, Result.andThen_ok, List.map_toArray, List.map_cons, List.map_nil, hs, hx, hr]
  exact h v' w' h2 h3

end Gr
end Go.Proofs.YtjhnippfepbjmaaGreatDoor

/-
  A block with one cell set; blocks that are kept.
-/
namespace Go.Proofs.YtjhnippfepbjmaaGreatDoor
namespace Gr
open Go.RowKit

theorem Blk.set {W : World} {g : Nat} {C : Array Value} {t : TypeId} (h : Blk W g C t) (k : Nat) (x : Value) : Blk (W.setCell ⟨g, k, none⟩ x) g (C.setIfInBounds k x) t := by
  unfold Blk at *
  exact heap_setCell_same W g k _ _ x h

theorem Blk.kept {S : Nat → Prop} {w w' : World} {g : Nat} {C : Array Value} {t : TypeId} (h : Blk w g C t) (hk : Kept S w w') (hS : ¬ S g) : Blk w' g C t := by
  unfold Blk; rw [hk.2.2.2.2 g h.lt hS]; exact h

theorem Blk.set_other {W : World} {g g' : Nat} {C : Array Value} {t : TypeId} (h : Blk W g C t) (hne : g ≠ g') (k : Nat) (x : Value) : Blk (W.setCell ⟨g', k, none⟩ x) g C t :=
  h.kept (S := fun i => i = g') (Kept.set _ _ _ _ rfl) hne

end Gr
end Go.Proofs.YtjhnippfepbjmaaGreatDoor

/-
  Deeds: the kind Deed by value (sizes, copies, equal ones, what came in), and both DeedOks.
-/
namespace Go.Proofs.YtjhnippfepbjmaaGreatDoor
namespace Gr
open Go.ChangeShapes Go.WideShapes Go.ChangeAt Go.RowKit

theorem wrap_subD {left : Int} {n : Nat} (h0 : 0 ≤ left) (h1 : left ≤ 1048576) (hn : n ≤ 9223372036854775807) : IntKind.i64.wrap (left - (n : Int)) = left - (n : Int) := by
  have e : IntKind.i64.wrap (left - (n : Int)) = if (9223372036854775808 : Int) ≤ (left - (n : Int)) % 18446744073709551616 then (left - (n : Int)) % 18446744073709551616 - 18446744073709551616 else (left - (n : Int)) % 18446744073709551616 := by
    simp [IntKind.wrap, IntKind.signed, IntKind.bits]
  rw [e]
  split <;> omega

/-- A deed but for its Keep. -/
structure DeedI where
  T : ByteArray
  c : Bool
  s : Int
  o : Int
  p : Int

def DeAt (w : World) (v : Value) (B : Nat) (x : DeedI) (K : List Int) : Prop :=
  ∃ a c, v = .agg #[.string x.T, .bool x.c, .int .i64 x.s, .slice a K.length c, .int .i64 x.o, .int .i64 x.p] ∧ InAt w (.slice a K.length c) B K ∧ x.T.size ≤ 9223372036854775807 ∧ K.length ≤ 9223372036854775807

def DeOwn (w : World) (B : Nat) (v : Value) (x : DeedI) (K : List Int) : Prop :=
  ∃ u, v = .agg #[.string x.T, .bool x.c, .int .i64 x.s, u, .int .i64 x.o, .int .i64 x.p] ∧ InOwn w B u K ∧ x.T.size ≤ 9223372036854775807 ∧ K.length ≤ 9223372036854775807

theorem DeAt.shape {w : World} {v : Value} {B : Nat} {x : DeedI} {K : List Int} (h : DeAt w v B x K) : ∃ a c, v = .agg #[.string x.T, .bool x.c, .int .i64 x.s, .slice a K.length c, .int .i64 x.o, .int .i64 x.p] := by
  obtain ⟨a, c, e, _⟩ := h
  exact ⟨a, c, e⟩

theorem DeAt.below {w w' : World} {v : Value} {B C : Nat} {x : DeedI} {K : List Int} (h : DeAt w v B x K) (hb : Below C w w') (hC : B ≤ C) : DeAt w' v B x K := by
  obtain ⟨a, c, e, hQ, hl⟩ := h
  exact ⟨a, c, e, hQ.below hb hC, hl⟩

theorem DeAt.mono {w : World} {v : Value} {B C : Nat} {x : DeedI} {K : List Int} (h : DeAt w v B x K) (hC : B ≤ C) : DeAt w v C x K := by
  obtain ⟨a, c, e, hQ, hl⟩ := h
  exact ⟨a, c, e, hQ.mono hC, hl⟩

theorem DeOwn.at {w : World} {B : Nat} {v : Value} {x : DeedI} {K : List Int} (h : DeOwn w B v x K) : DeAt w v w.heap.size x K := by
  obtain ⟨u, rfl, ho, hl⟩ := h
  have hq := ho.at
  obtain ⟨a, c, rfl⟩ := hq.shape
  exact ⟨a, c, rfl, hq, hl⟩

theorem DeOwn.below {w w' : World} {B : Nat} {v : Value} {x : DeedI} {K : List Int} (h : DeOwn w B v x K) (hb : Below w.heap.size w w') : DeOwn w' B v x K := by
  obtain ⟨u, rfl, ho, hl⟩ := h
  exact ⟨u, rfl, ho.below hb, hl⟩

def dsize (x : DeedI) (K : List Int) : Nat := min (x.T.size + K.length) 9223372036854775807

theorem dsize_le {x : DeedI} {K : List Int} (h : dsize x K ≤ 1048576) : x.T.size ≤ 1048576 ∧ K.length ≤ 1048576 := by
  unfold dsize at h
  omega

theorem results_deed {fn : Func} {p : Tmp} (h : fn.results = #[.cell p 46]) (tmps : Array Value) (w : World) (g : Nat) (x0 x1 x2 x3 x4 x5 : Value) (hp : tmps.getD p undef = .pointer (some ⟨g, 0, none⟩)) (hg : Blk w g #[x0, x1, x2, x3, x4, x5] 46) :
    (results fn tmps).run Tryz.prog w = .ok (.agg #[x0, x1, x2, x3, x4, x5]) w := by
  have c0 := hg.cell 0 x0 rfl
  have c1 := hg.cell 1 x1 rfl
  have c2 := hg.cell 2 x2 rfl
  have c3 := hg.cell 3 x3 rfl
  have c4 := hg.cell 4 x4 rfl
  have c5 := hg.cell 5 x5 rfl
  have hp' : tmps[p]?.getD undef = .pointer (some ⟨g, 0, none⟩) := by simpa using hp
  simp [results, h, hp', go_sem, c0, c1, c2, c3, c4, c5]

set_option maxRecDepth 100000 in
set_option maxHeartbeats 1000000 in
theorem eqDeed_gen (v u : Value) (B B' : Nat) (x : DeedI) (K : List Int) (hn : dsize x K ≤ 1048576) (w : World) (hB : B ≤ w.heap.size) (hB' : B' ≤ w.heap.size) (hv : DeAt w v B x K) (hu : DeAt w u B' x K) :
    Calls Tryz.prog 16 #[v, u] w fun e w' => e = .returned (.bool true) ∧ Below w.heap.size w w' := by
  obtain ⟨l1, l2⟩ := dsize_le hn
  obtain ⟨a, c, rfl, hQ, _⟩ := hv
  obtain ⟨a', c', rfl, hQ', _⟩ := hu
  have E1 := hide (fun w1 (hb : Below w.heap.size w w1) => eqInts_gen _ _ B B' K l2 w1 (by have := hb.size; omega) (by have := hb.size; omega) (hQ.below hb hB) (hQ'.below hb hB'))
  clear hQ hQ' l1 l2 hn
  generalize K.length = n at E1 ⊢
  obtain ⟨T, cc, s, o, p⟩ := x
  simp only
  have hcc : (cc != cc) = false := by simp
  go_enter Tryz.func16, Tryz.ntmps16
  go_wp2_with fail
  obtain ⟨V, hV⟩ : ∃ W, W = (w.alloc (Obj.cells #[Value.string T, Value.bool cc, Value.int .i64 s, Value.slice a n c, Value.int .i64 o, Value.int .i64 p] 46)).alloc (Obj.cells #[Value.string T, Value.bool cc, Value.int .i64 s, Value.slice a' n c', Value.int .i64 o, Value.int .i64 p] 46) := ⟨_, rfl⟩
  rw [← hV]
  have b1 : Below w.heap.size w V := by rw [hV]; exact (below_new _ _).alloc (by simp) _
  have m0 : Blk V w.heap.size #[Value.string T, Value.bool cc, Value.int .i64 s, Value.slice a n c, Value.int .i64 o, Value.int .i64 p] 46 := by rw [hV]; exact Blk.new0.alloc
  have m1 : Blk V (w.heap.size + 1) #[Value.string T, Value.bool cc, Value.int .i64 s, Value.slice a' n c', Value.int .i64 o, Value.int .i64 p] 46 := by rw [hV]; exact Blk.new1
  clear hV
  refine (unhide E1 V b1).mono ?_
  rintro e w2 ⟨rfl, hb2⟩
  have b2 := b1.trans (hb2.mono b1.size)
  have n0 := m0.below hb2
  have n1 := m1.below hb2
  have p0 : w2.cell? ⟨w.heap.size, 4, none⟩ = some (.int .i64 o) := n0.cell 4 _ rfl
  have p1 : w2.cell? ⟨w.heap.size + 1, 4, none⟩ = some (.int .i64 o) := n1.cell 4 _ rfl
  have p2 : w2.cell? ⟨w.heap.size, 5, none⟩ = some (.int .i64 p) := n0.cell 5 _ rfl
  have p3 : w2.cell? ⟨w.heap.size + 1, 5, none⟩ = some (.int .i64 p) := n1.cell 5 _ rfl
  clear m0 m1 n0 n1 hb2 b1
  go_wp2
  go_ret
  exact ⟨rfl, b2⟩

theorem six_of {cs : Array Value} (h : cs.size = 6) : ∃ v0 v1 v2 v3 v4 v5, cs = #[v0, v1, v2, v3, v4, v5] := by
  obtain ⟨l⟩ := cs
  match l, h with
  | [v0, v1, v2, v3, v4, v5], _ => exact ⟨v0, v1, v2, v3, v4, v5, rfl⟩

theorem cellsD_int : Tryz.prog.cellsOf 3 = 1 := by kernel_rfl
theorem cellsD_bool : Tryz.prog.cellsOf 4 = 1 := by kernel_rfl
theorem cellsD_string : Tryz.prog.cellsOf 9 = 1 := by kernel_rfl
theorem cellsD_ints : Tryz.prog.cellsOf 44 = 1 := by kernel_rfl

/-! ### What is a right deed -/

def deedOk (x : DeedI) (K : List Int) : Bool := decide (x.T.size ≤ 40) && (decide (0 ≤ x.s) && decide (x.s ≤ 1)) && decide (K.length ≤ 60) && (decide (0 ≤ x.p) && decide (x.p ≤ 64))

theorem l01InD_is (x y z : Int) (w : World) :
    Calls Tryz.prog 31 #[.int .i64 x, .int .i64 y, .int .i64 z] w fun e w' => e = .returned (.bool (decide (y ≤ x) && decide (x ≤ z))) ∧ w' = w := by
  go_enter Tryz.func31, Tryz.ntmps31
  go_wp2
  all_goals (go_ret; exact ⟨by simp_all <;> omega, rfl⟩)

theorem isPlaceD_is (x n : Int) (w : World) :
    Calls Tryz.prog 68 #[.int .i64 x, .int .i64 n] w fun e w' => e = .returned (.bool (decide (0 ≤ x) && decide (x < n))) ∧ w' = w := by
  go_enter Tryz.func68, Tryz.ntmps68
  go_wp2
  all_goals (go_ret; exact ⟨by simp_all <;> omega, rfl⟩)

set_option maxRecDepth 100000 in
set_option maxHeartbeats 1000000 in
theorem specDeed_gen (B : Nat) (v : Value) (x : DeedI) (K : List Int) (_h1 : dsize x K ≤ 1048576) (w : World) (_hB : B ≤ w.heap.size) (hv : DeAt w v B x K) :
    Calls Tryz.prog 25 #[v] w fun e w' => e = .returned (.bool (deedOk x K)) ∧ Below w.heap.size w w' := by
  obtain ⟨a, c, rfl, _, hT, hK⟩ := hv
  obtain ⟨T, cc, s, o, p⟩ := x
  have H1 := hide (fun w => l01InD_is s 0 1 w)
  have H2 := hide (fun w => l01InD_is p 0 64 w)
  unfold deedOk
  simp only at hT ⊢
  generalize (decide (0 ≤ s) && decide (s ≤ 1)) = t1 at H1 ⊢
  generalize (decide (0 ≤ p) && decide (p ≤ 64)) = t2 at H2 ⊢
  generalize K.length = n at hK ⊢
  by_cases c1 : T.size ≤ 40
  · have c1' : (T.size : Int) ≤ 40 := by omega
    rw [decide_eq_true c1]
    cases t1
    · go_enter Tryz.func25, Tryz.ntmps25
      go_wp2_with fail
      refine (unhide H1 _).mono ?_
      rintro e w1 ⟨rfl, rfl⟩
      go_wp2
      go_ret
      exact ⟨by simp, below_new _ _⟩
    · by_cases c3 : n ≤ 60
      · have c3' : (n : Int) ≤ 60 := by omega
        rw [decide_eq_true c3]
        go_enter Tryz.func25, Tryz.ntmps25
        go_wp2_with fail
        refine (unhide H1 _).mono ?_
        rintro e w1 ⟨rfl, rfl⟩
        go_wp2_with fail
        refine (unhide H2 _).mono ?_
        rintro e w1 ⟨rfl, rfl⟩
        go_wp2
        go_ret
        exact ⟨by simp, below_new _ _⟩
      · have c3' : ¬ (n : Int) ≤ 60 := by omega
        rw [decide_eq_false c3]
        go_enter Tryz.func25, Tryz.ntmps25
        go_wp2_with fail
        refine (unhide H1 _).mono ?_
        rintro e w1 ⟨rfl, rfl⟩
        go_wp2
        go_ret
        exact ⟨by simp, below_new _ _⟩
  · have c1' : ¬ (T.size : Int) ≤ 40 := by omega
    rw [decide_eq_false c1]
    go_enter Tryz.func25, Tryz.ntmps25
    go_wp2
    go_ret
    exact ⟨by simp, below_new _ _⟩

set_option maxRecDepth 100000 in
set_option maxHeartbeats 1000000 in
theorem implDeed_gen (B : Nat) (v : Value) (x : DeedI) (K : List Int) (_h1 : dsize x K ≤ 1048576) (w : World) (_hB : B ≤ w.heap.size) (hv : DeAt w v B x K) :
    Calls Tryz.prog 56 #[v] w fun e w' => e = .returned (.bool (deedOk x K)) ∧ Below w.heap.size w w' := by
  obtain ⟨a, c, rfl, _, hT, hK⟩ := hv
  obtain ⟨T, cc, s, o, p⟩ := x
  have H1 := hide (fun w => isPlaceD_is s 2 w)
  have H2 := hide (fun w => isPlaceD_is p 65 w)
  have hr : deedOk ⟨T, cc, s, o, p⟩ K = (decide (T.size ≤ 40) && decide (K.length ≤ 60) && (decide (0 ≤ s) && decide (s < 2)) && (decide (0 ≤ p) && decide (p < 65))) := by
    unfold deedOk
    simp only
    have e1 : decide (s ≤ 1) = decide (s < 2) := by simp; omega
    have e2 : decide (p ≤ 64) = decide (p < 65) := by simp; omega
    rw [e1, e2]
    cases decide (T.size ≤ 40) <;> cases decide (K.length ≤ 60) <;> cases (decide (0 ≤ s) && decide (s < 2)) <;> rfl
  rw [hr]
  clear hr _h1
  simp only at hT ⊢
  generalize (decide (0 ≤ s) && decide (s < 2)) = t1 at H1 ⊢
  generalize (decide (0 ≤ p) && decide (p < 65)) = t2 at H2 ⊢
  generalize K.length = n at hK ⊢
  by_cases c1 : T.size ≤ 40
  · have c1' : (T.size : Int) ≤ 40 := by omega
    rw [decide_eq_true c1]
    by_cases c3 : n ≤ 60
    · have c3' : (n : Int) ≤ 60 := by omega
      rw [decide_eq_true c3]
      cases t1
      · go_enter Tryz.func56, Tryz.ntmps56
        go_wp2_with fail
        go_region
        go_wp2_with fail
        refine (unhide H1 _).mono ?_
        rintro e w1 ⟨rfl, rfl⟩
        go_wp2
        go_ret
        exact ⟨by simp, (below_new _ _).drew⟩
      · go_enter Tryz.func56, Tryz.ntmps56
        go_wp2_with fail
        go_region
        go_wp2_with fail
        refine (unhide H1 _).mono ?_
        rintro e w1 ⟨rfl, rfl⟩
        go_wp2_with fail
        refine (unhide H2 _).mono ?_
        rintro e w1 ⟨rfl, rfl⟩
        go_wp2
        go_ret
        exact ⟨by simp, (below_new _ _).drew⟩
    · have c3' : ¬ (n : Int) ≤ 60 := by omega
      rw [decide_eq_false c3]
      go_enter Tryz.func56, Tryz.ntmps56
      go_wp2_with fail
      go_region
      go_wp2
      go_ret
      exact ⟨by simp, (below_new _ _).drew⟩
  · have c1' : ¬ (T.size : Int) ≤ 40 := by omega
    rw [decide_eq_false c1]
    go_enter Tryz.func56, Tryz.ntmps56
    go_wp2_with fail
    go_region
    go_wp2
    go_ret
    exact ⟨by simp, (below_new _ _).drew⟩

end Gr
end Go.Proofs.YtjhnippfepbjmaaGreatDoor
