/-
  The contract of impl.CutItems: the rule's groups, each in memory of its own.
-/
import Derived.Test.YteaidpeifaeckaaTrIter
import Derived.Test.YteaidpeifaeckaaTrCutSpec
namespace Go.Proofs.Yteaidpeifaeckaa
namespace Tr
open Go.RowKit Go.Shelf
open Go.Proofs.Yteaidpeifaeckaa.Pg

set_option maxHeartbeats 1000000 in
theorem groupsOf_in (n : Nat) (k : Int) (a : Option Addr) (len cap : Nat) (w : World) :
    CallsIn Fence.wide n Try.prog 13 #[.int .i64 k, .slice a len cap] w fun e w' => e = .returned (.func (.func 22) #[] #[.pointer (some ⟨w.heap.size + 1, 0, none⟩), .pointer (some ⟨w.heap.size, 0, none⟩)]) ∧ w' = (w.alloc (.cells #[.int .i64 k] 3)).alloc (.cells #[.slice a len cap] 24) := by
  have hmf : ∀ (fn : Fn) (first cap : Array Value) (w : World), (Instr.makeFunc fn first cap).run Try.prog w = .ok (.func fn first cap) w := fun _ _ _ _ => rfl
  refine callsIn_of_wp Try.func13 rfl trivial ?_ rfl
  simp only [Try.ntmps13, List.size_toArray, List.length_cons, List.length_nil, Nat.reduceAdd, Nat.reduceSub, Array.replicate_succ, Array.replicate_zero, List.push_toArray, List.append_toArray, List.nil_append, List.cons_append]
  gi_wp2
  go_ret
  exact ⟨rfl, rfl⟩

theorem own_cells {w : World} {B e s n g : Nat} {v : Value} {xs : List Value} (h : w.ownsRow B e s v n xs) (hg : v.ownBlock = some g) : ∃ c fr, w.heap[g]? = some (.cells c e fr) := by
  rcases h.2 with ⟨rfl, _⟩ | ⟨g1, cap, cur, rfl, _, hh, _⟩
  · cases hg
  · have e1 : g1 = g := Option.some.inj hg
    subst e1
    exact ⟨_, _, hh⟩

/-- Where the loop over the groups stands. -/
def CutI (w : World) (k : Int) (pre : List (GrpA w w.heap.size)) (W : World) : Prop :=
  ∃ v vs, Boxed W w.heap.size 27 v ∧ Boxed W (w.heap.size + 1) 3 (.int .i64 k) ∧ Grps W w.heap.size W.heap.size v vs (pre.map fun x => x.1.2) ∧ Dist vs ∧ Below w.heap.size w W

theorem cutI_own (w : World) (k : Int) (B : Nat) (hB : w.heap.size ≤ B) : OwnFrom B (CutI w k) := by
  rintro pre X Y row ⟨v, vs, hv, hk, hg, hd, hb⟩ hgr hrow
  have hno : ∀ b c t fr, X.heap[b]? = some (.cells c t fr) → row ≠ some b := fun b c t fr h e => by
    obtain ⟨_, o, ho, hc⟩ := hrow b e
    rw [h] at ho
    cases ho
    cases hc
  have hkp := Kept.of_grown hgr
  refine ⟨v, vs, hv.kept hgr (fun e => hno _ _ _ _ hv e.symm), hk.kept hgr (fun e => hno _ _ _ _ hk e.symm), ?_, hd, hb.grown hgr hb.size (fun r e => Nat.le_trans hB (hrow r e).1)⟩
  refine (hg.kept hkp (fun g e h => ?_) (fun j h1 g e h => ?_)).mono hgr.size
  · obtain ⟨c, fr, hc⟩ := own_cells hg.2.1 e
    exact hno _ _ _ _ hc h
  · obtain ⟨c, fr, hc⟩ := own_cells (hg.2.2 j h1 (by rw [← hg.1]; exact h1)).1 e
    exact hno _ _ _ _ hc h

theorem step_append_in {ops : Array Oper} {l m0 : Nat} {o : Oper} {a : Act} {w : World} {K : Act → World → Prop} {Q : Exit → Act → World → Prop} {E : Prop} (hgd : o.guard = none) (s x : Operand) (t : TypeId)
    (ho : o.op = .call { callee := .builtin .append, args := #[s, x], argTypes := #[t, t] })
    (base : Nat) (e : TypeId) (i : TypeInfo) (z : Value) (size bytes : Nat) (ht : Try.prog.underlying t = some (.slice e)) (hi : Try.prog.info? e = some i) (hz : i.zero = some z)
    (hsize : i.size = size) (hby : i.bytes = bytes) (hzs : z.cells.size = size) (hsz : 0 < size)
    (v : Value) (n : Nat) (xs : List Value) (hs : a.eval s = v) (hown : w.ownsRow base e size v n xs)
    (ad : Addr) (m c : Nat) (news : List Value) (hx : a.eval x = .slice (some ad) m c) (hl : news.length = m * size) (hnews : ∀ j u, news[j]? = some u → w.cell? (ad.add j) = some u) (h1 : ∀ u ∈ news, u.oneCell' = true)
    (h63 : n + m ≤ maxLen) (hbytes : (n + m) * bytes ≤ 140737488355328) (hbase : base ≤ w.heap.size)
    (h : ∀ v' w', w'.ownsRow base e size v' (n + m) (xs ++ news) → w.grownBy w' v.ownBlock → K (a.put o.dst v') w') : if Region.wanted o (yielded ops a.tmps) = true then Oper.wpIn (Fence.wide.inRound l) m0 Try.prog o a w K Q else E := by
  have hw : Region.wanted o (yielded ops a.tmps) = true := by simp [Region.wanted, hgd]
  rw [if_pos hw]
  obtain ⟨v', w', hr, h2, h3, _⟩ := run_append_own (P := Try.prog) w base t o.type e i z size bytes ht hi hz hsize hby hzs hsz v n xs hown ad m c news hl hnews h1 h63 hbytes hbase
  refine ⟨fun _ _ => trivial, ?_⟩
  rw [Fence.inRound_round, Oper.semAt_some _ _ _ (by intro c hc; rw [ho] at hc; cases hc)]
  unfold execOp
  simp only [ho, resolve, invoke, builtin, Sem.run_bind, Sem.run_pure, Result.andThen_ok, List.map_toArray, List.map_cons, List.map_nil, hs, hx, hr]
  exact h v' w' h2 h3

theorem step_call_in {ops : Array Oper} {l m0 : Nat} {o : Oper} {a : Act} {w : World} {K : Act → World → Prop} {Q : Exit → Act → World → Prop} {E : Prop} (hgd : o.guard = none) (f : FuncId) (args : Array Operand) (tys : Array TypeId)
    (ho : o.op = .call { callee := .value (.func f), args := args, argTypes := tys }) (vs : Array Value) (hvs : args.map a.eval = vs) (hf : ∀ vs w, (callFunc f vs).run Try.prog w = .ok (.enter f vs) w) (R : Ending → World → Prop) (hc : Calls Try.prog f vs w R)
    (hK : ∀ e w', R e w' → ∃ v, e = .returned v ∧ K (a.put o.dst v) w') : if Region.wanted o (yielded ops a.tmps) = true then Oper.wpIn (Fence.wide.inRound l) m0 Try.prog o a w K Q else E := by
  have hw : Region.wanted o (yielded ops a.tmps) = true := by simp [Region.wanted, hgd]
  rw [if_pos hw]
  refine ⟨fun _ _ => trivial, ?_⟩
  rw [Fence.inRound_round, Oper.semAt_some _ _ _ (by intro c hc; rw [ho] at hc; cases hc)]
  have e1 : (execOp a.eval o).run Try.prog w = .ok (.enter f vs) w := by
    have h0 : a.eval (.func f) = .func (.func f) #[] #[] := rfl
    simp [execOp, ho, resolve, invoke, h0, hvs, Deferred.ofValue, hf]
  rw [e1, Oper.uponIn_enter]
  refine ⟨fun h => (by cases h), CallsIn.inRound l (callsIn_wide.2 ?_)⟩
  refine hc.mono fun e w' h => ?_
  obtain ⟨v, rfl, hk⟩ := hK e w' h
  exact hk

theorem enterCopyItems (vs : Array Value) (w : World) : (callFunc 14 vs).run Try.prog w = .ok (.enter 14 vs) w := by kernel_rfl

theorem cut_round {w W w1 w2 : World} {k : Int} {B0 n : Nat} {pre : List (GrpA w w.heap.size)} {x : GrpA w w.heap.size} {v v' u : Value} {vs : List Value} {o : Obj} (hv : Boxed W w.heap.size 27 v) (hk : Boxed W (w.heap.size + 1) 3 (.int .i64 k))
    (hg : Grps W w.heap.size W.heap.size v vs (pre.map fun x => x.1.2)) (hd : Dist vs) (hb : Below w.heap.size w W) (hu : w1.ownsRow W.heap.size 30 3 u x.1.2.length (itsV x.1.2)) (hb1 : Below W.heap.size W w1)
    (hn : n = (pre.map fun x => x.1.2).length) (hown : w2.ownsRow w.heap.size 24 1 v' (n + 1) (vs ++ [u])) (hgrow : (w1.alloc o).grownBy w2 v.ownBlock) :
    KeepsFrom B0 W (w2.setCell ⟨w.heap.size, 0, none⟩ v') ∧ KpG w.heap.size (w.heap.size + 1) k W (w2.setCell ⟨w.heap.size, 0, none⟩ v') ∧ CutI w k (pre ++ [x]) (w2.setCell ⟨w.heap.size, 0, none⟩ v') := by
  subst hn
  have hgr1 := grown_of_below hb1
  have hv1 : Boxed w1 w.heap.size 27 v := hv.kept hgr1 (by simp)
  have hk1 : Boxed w1 (w.heap.size + 1) 3 (.int .i64 k) := hk.kept hgr1 (by simp)
  have hg1 := hg.below hb1
  have hbw1 := hb.trans (hb1.mono hb.size)
  obtain ⟨a1, a2, a3, a4, a5⟩ := hv1.appended (by decide) hg1.2.1 hbw1.size (Nat.le_refl _) hown hgrow
  have hk2 : Boxed w2 (w.heap.size + 1) 3 (.int .i64 k) := (hk1.alloc o).kept hgrow ((hk1.alloc o).not_row (by decide) (hg1.2.1.alloc o))
  have hk3 : Boxed (w2.setCell ⟨w.heap.size, 0, none⟩ v') (w.heap.size + 1) 3 (.int .i64 k) := hk2.other (by omega) _
  have hs2 := hgrow.size
  simp at hs2
  have hg2 := (hg1.below (below_new w1 o)).snoc (q := x.1.2) (C' := w2.heap.size) (own_lower hb.size (hu.alloc o)) (fun g e => by have := (hu.lt g e).2; omega) (by have := hb1.size; omega) hown (Kept.of_grown hgrow)
  have hg3 := hg2.kept (Kept.set (S := fun g => g = w.heap.size) w2 w.heap.size 0 v' rfl) (fun g e h => by subst h; exact a1.not_row (by decide) hown e.symm) (fun j h1 g e h => by subst h; exact a1.not_row (by decide) (hg2.2.2 j h1 (by rw [← hg2.1]; exact h1)).1 e.symm)
  refine ⟨((KeepsOthers.of_grownBy hgr1 (by simp)).trans a4).from _, ⟨(hb1.mono hb.size).trans a5, fun _ => hk3.cell⟩, v', vs ++ [u], a2, hk3, ?_, ?_, hbw1.trans a5⟩
  · have e : (pre ++ [x]).map (fun x => x.1.2) = pre.map (fun x => x.1.2) ++ [x.1.2] := by simp
    rw [e]
    exact hg3.mono (by simp [World.setCell])
  · exact hd.snoc (C := W.heap.size) (fun j h1 g e => (hg.2.2 j h1 (by rw [← hg.1]; exact h1)).2 g e) (fun g e => (hu.lt g e).1)

set_option maxRecDepth 100000 in
set_option maxHeartbeats 2000000 in
theorem implCut_any (k : Int) (a : Option Addr) (len cap B : Nat) (Q : List It) (hlen : len ≤ 1048576) (hcap : len ≤ cap) (hsm : ∀ x ∈ Q, x.key.size ≤ 1048576 ∧ x.val.size ≤ 1048576) (w : World) (hB : B ≤ w.heap.size) (hs : ItemsAt w a len B Q) :
    Calls Try.prog 6 #[.int .i64 k, .slice a len cap] w fun e w' => (∃ v vs, e = .returned v ∧ Grps w' w.heap.size w'.heap.size v vs (cutG k Q) ∧ Dist vs) ∧ Below w.heap.size w w' := by
  obtain ⟨i0, hi0, hz0, hz1, hz2⟩ := info_parts infoRow
  have hat : ItemsAt w a len w.heap.size Q := hs.mono hB
  refine (callsIn_wide (n := 5)).1 ?_
  refine callsIn_of_wp_marks Try.func6 rfl trivial ?_ rfl
  simp only [Try.ntmps6, List.size_toArray, List.length_cons, List.length_nil, Nat.reduceAdd, Nat.reduceSub, Array.replicate_succ, Array.replicate_zero, List.push_toArray, List.append_toArray, List.nil_append, List.cons_append]
  have HAT := hide hat
  have HSM := hide hsm
  clear hat hsm hs
  gi_wp2_with (first | (refine ⟨trivial, ?_⟩; gi_at_call 13; refine (groupsOf_in _ _ _ _ _ _).mono ?_; rintro e w' ⟨rfl, rfl⟩) | (gi_at_call 13; refine (groupsOf_in _ _ _ _ _ _).mono ?_; rintro e w' ⟨rfl, rfl⟩))
  obtain ⟨W0, hW0⟩ : ∃ W0, W0 = ((w.alloc (Obj.cells #[Value.slice none 0 0] 27)).alloc (Obj.cells #[Value.int .i64 k] 3)).alloc (Obj.cells #[Value.slice a len cap] 24) := ⟨_, rfl⟩
  have bO : Boxed W0 w.heap.size 27 (.slice none 0 0) := by rw [hW0]; exact ((Boxed.new w _ _).alloc _).alloc _
  have bK : Boxed W0 (w.heap.size + 1) 3 (.int .i64 k) := by
    rw [hW0]
    have h := Boxed.new (w.alloc (Obj.cells #[Value.slice none 0 0] 27)) 3 (.int .i64 k)
    rw [World.size_alloc] at h
    exact h.alloc _
  have bL : Boxed W0 (w.heap.size + 1 + 1) 24 (.slice a len cap) := by
    rw [hW0]
    have h := Boxed.new ((w.alloc (Obj.cells #[Value.slice none 0 0] 27)).alloc (Obj.cells #[Value.int .i64 k] 3)) 24 (.slice a len cap)
    rw [World.size_alloc, World.size_alloc] at h
    exact h
  have hB0 : Below w.heap.size w W0 := by rw [hW0]; exact (((Below.refl _ w).alloc (Nat.le_refl _) _).alloc (by simp) _).alloc (by simp; omega) _
  have hs0 : W0.heap.size = w.heap.size + 3 := by rw [hW0]; simp
  rw [← hW0]
  clear hW0
  refine wpIn_rangeFunc_ownG (F := Fence.wide) (n := 5) rfl (by omega) (gf := 22) (lb := #[.pointer (some ⟨w.heap.size + 1 + 1, 0, none⟩), .pointer (some ⟨w.heap.size + 1, 0, none⟩)]) rfl trivial (enters_of Try.func22 (by kernel_rfl) rfl)
    (encs := fun x : GrpA w w.heap.size => #[Value.slice x.1.1 x.1.2.length x.1.2.length]) (Kp := KpG w.heap.size (w.heap.size + 1) k) (S := fun ys => ys.map (fun x => x.1.2) = cutG k Q) (Sp := fun _ => True) (N := len) (w0 := W0)
    (fun l J Jx W hW hJ _ hY h0 => groups1_in 4 (by omega) l (w.heap.size + 1 + 1) (w.heap.size + 1) w.heap.size k a len cap Q w hlen hcap (unhide HSM) (unhide HAT) J Jx W hJ hY (Nat.le_trans hB0.size hW.size) (hB0.trans (hW.mono hB0.size)) ((hW.cell (p := ⟨w.heap.size + 1 + 1, 0, none⟩) (by simp; omega)).trans bL.cell) ((hW.cell (p := ⟨w.heap.size + 1, 0, none⟩) (by simp; omega)).trans bK.cell) h0)
    (fun h h' => ⟨h.1.trans h'.1, fun e => h'.2 (h.2 e)⟩)
    (fun W l o o' hl h1 h2 h3 => ⟨belowK_b (w := W0) hB0.size W l o o' hl h1 h2 h3, fun e => (World.cell?_of_block ((grownBy_putObj' W l o').block _ (World.block_lt_of_cell? _ _ e) (by simp; omega))).trans e⟩)
    (Below.refl _ _) (fun _ => rfl)
    (CutI w k) (fun _ _ _ => False) (cutI_own w k W0.heap.size hB0.size) (fun _ _ _ _ _ hs _ _ => hs)
    ⟨_, [], bO, bK, ⟨rfl, World.ownsRow_nil _ _ _ _, fun j h => by simp at h⟩, Dist.nil, hB0⟩
    (fun x => { tmps := #[.int .i64 k, .slice a len cap, undef, undef, .slice none 0 0, .pointer (some ⟨w.heap.size, 0, none⟩), .slice x.1.1 x.1.2.length x.1.2.length, .int .i64 k, .slice a len cap, .func (.func 22) #[] #[.pointer (some ⟨w.heap.size + 1 + 1, 0, none⟩), .pointer (some ⟨w.heap.size + 1, 0, none⟩)], .slice x.1.1 x.1.2.length x.1.2.length, undef, undef, undef, undef, undef, undef], defers := [] }) ?assign ?body ?done ?stop
  case assign =>
    intro l x W K hK
    have hsa : ∀ (l : Nat) (ρ : Operand → Value) (o : Oper), (∀ c, o.op ≠ .defer c) → Oper.semAt (some l) ρ o = execOp ρ o := fun l ρ o h => Oper.semAt_some l ρ o h
    gi_wp2
    exact hK
  case body =>
    rintro l pre x W ⟨v, vs, hv, hk, hg, hd, hb⟩ hlt
    obtain ⟨⟨xa, xq⟩, hxat, hxl, hxs⟩ := x
    obtain ⟨n, hn⟩ : ∃ n, n = (pre.map fun x => x.1.2).length := ⟨_, rfl⟩
    have hown := hg.2.1
    rw [← hn] at hown
    have hnl : n ≤ pre.length := by rw [hn]; simp
    have HCP := hide (fun w2 (hb2 : Below W.heap.size W w2) => copyItems_any xa xq.length xq.length w.heap.size xq hxl hxs w2 (Nat.le_trans hb.size hb2.size) (hxat.below (hb.trans (hb2.mono hb.size)) (Nat.le_refl _)))
    have HEND := hide (fun (u v' : Value) (w1 w2 : World) (o : Obj) (hu : w1.ownsRow W.heap.size 30 3 u xq.length (itsV xq)) (hb1 : Below W.heap.size W w1) (hown2 : w2.ownsRow w.heap.size 24 1 v' (n + 1) (vs ++ [u])) (hgrow : (w1.alloc o).grownBy w2 v.ownBlock) => cut_round (B0 := W0.heap.size) (x := ⟨(xa, xq), hxat, hxl, hxs⟩) hv hk hg hd hb hu hb1 hn hown2 hgrow)
    have hcv := hv.cell
    have hvl := hv.lt
    obtain ⟨AO, CO, rfl⟩ := row_shape hown
    have HOWN := hide hown
    have HV := hide hv
    have hbz := hb.size
    have hmx : Try.prog.follows .mixedOrders = true := by kernel_rfl
    have hsa : ∀ (l : Nat) (ρ : Operand → Value) (o : Oper), (∀ c, o.op ≠ .defer c) → Oper.semAt (some l) ρ o = execOp ρ o := fun l ρ o h => Oper.semAt_some l ρ o h
    clear hown hg hd hn hk hb hv
    simp only []
    gi_wp2
    refine wpIn_region_any hmx ?_
    change wpAnyIn _ _ _ _ _ _ _ _ _ (World.drew _)
    refine wpAnyIn_ready (rs := [0, 1]) (by kernel_rfl) (by simp) ?_
    refine AllReadyIn.cons rfl (fun K hK => ?_) ?_
    · go_simp
      refine hK _ _ ?_
      clear hK K
      refine wpAnyIn_ready (rs := [1]) (by kernel_rfl) (by simp) ?_
      refine AllReadyIn.cons rfl (fun K hK => ?_) ?_
      · go_simp
        refine hK _ _ ?_
        clear hK K
        refine wpAnyIn_ready (rs := [2]) (by kernel_rfl) (by simp) ?_
        refine AllReadyIn.cons rfl (fun K hK => ?_) ?_
        · refine step_call_in (by rfl) 14 _ _ (by rfl) #[.slice xa xq.length xq.length] (by first | rfl | (simp [Act.eval]; done)) enterCopyItems _ (unhide HCP _ (Below.refl _ _).drew) ?_
          rintro e w1 ⟨⟨u, rfl, hu⟩, hb1d⟩
          refine ⟨_, rfl, hK _ _ ?_⟩
          clear hK K
          have hb1 : Below W.heap.size W w1 := (Below.refl W.heap.size W).drew.trans hb1d
          obtain ⟨UA, UC, rfl⟩ := own_shape hu
          have hcv : w1.cell? ⟨w.heap.size, 0, none⟩ = some (.slice AO n CO) := (hb1.cell (p := ⟨w.heap.size, 0, none⟩) hvl).trans hcv
          have hvl1 : w.heap.size < w1.heap.size := Nat.lt_of_lt_of_le hvl hb1.size
          refine wpAnyIn_ready (rs := [3]) (by kernel_rfl) (by simp) ?_
          refine AllReadyIn.cons rfl (fun K hK => ?_) ?_
          · have hcv : (w1.alloc (Obj.cells #[.slice UA xq.length UC] 24)).cell? ⟨w.heap.size, 0, none⟩ = some (.slice AO n CO) := ((below_new w1 _).cell (p := ⟨w.heap.size, 0, none⟩) hvl1).trans hcv
            go_simp
            refine hK _ _ ?_
            clear hK K
            refine wpAnyIn_ready (rs := [4]) (by kernel_rfl) (by simp) ?_
            refine AllReadyIn.cons rfl (fun K hK => ?_) ?_
            · have hown1 := own_below (unhide HOWN) hb1
              refine step_append_in (by rfl) _ _ 27 (by rfl) w.heap.size 24 i0 (.slice none 0 0) 1 24 Try.underlying27 hi0 hz0 hz1 hz2 rfl (by decide) (.slice AO n CO) n vs (by first | rfl | (simp [Act.eval]; done)) (hown1.alloc _) ⟨w1.heap.size, 0, none⟩ 1 1 [.slice UA xq.length UC] (by first | rfl | (simp [Act.eval]; done)) rfl (cell_one_new _ _ _) (slice_one _ _ _) ?_ ?_ ?_ ?_
              · unfold maxLen; omega
              · omega
              · simp; omega
              intro v2 w2 hown2 hgrow2
              refine hK _ _ ?_
              clear hK K
              have hv1 := (unhide HV).kept (grown_of_below hb1) (by simp)
              have hv2 := (hv1.alloc (Obj.cells #[.slice UA xq.length UC] 24)).kept hgrow2 ((hv1.alloc (Obj.cells #[.slice UA xq.length UC] 24)).not_row (by decide) (hown1.alloc (Obj.cells #[.slice UA xq.length UC] 24)))
              have hc2 := hv2.cell
              have hf2 := hv2.frozen
              obtain ⟨A2, C2, rfl⟩ := row_shape hown2
              clear hcv
              refine wpAnyIn_ready (rs := [5]) (by kernel_rfl) (by simp) ?_
              refine AllReadyIn.cons rfl (fun K hK => ?_) ?_
              · go_simp
                refine hK _ _ ?_
                clear hK K
                refine wpAnyIn_done (by kernel_rfl) ?_ _
                exact unhide HEND _ _ w1 w2 _ hu hb1 hown2 hgrow2
              exact AllReadyIn.nil
            exact AllReadyIn.nil
          exact AllReadyIn.nil
        exact AllReadyIn.nil
      exact AllReadyIn.nil
    refine AllReadyIn.cons rfl (fun K hK => ?_) ?_
    · go_simp
      refine hK _ _ ?_
      clear hK K
      refine wpAnyIn_ready (rs := [0, 2]) (by kernel_rfl) (by simp) ?_
      refine AllReadyIn.cons rfl (fun K hK => ?_) ?_
      · go_simp
        refine hK _ _ ?_
        clear hK K
        refine wpAnyIn_ready (rs := [2]) (by kernel_rfl) (by simp) ?_
        refine AllReadyIn.cons rfl (fun K hK => ?_) ?_
        · refine step_call_in (by rfl) 14 _ _ (by rfl) #[.slice xa xq.length xq.length] (by first | rfl | (simp [Act.eval]; done)) enterCopyItems _ (unhide HCP _ (Below.refl _ _).drew) ?_
          rintro e w1 ⟨⟨u, rfl, hu⟩, hb1d⟩
          refine ⟨_, rfl, hK _ _ ?_⟩
          clear hK K
          have hb1 : Below W.heap.size W w1 := (Below.refl W.heap.size W).drew.trans hb1d
          obtain ⟨UA, UC, rfl⟩ := own_shape hu
          have hcv : w1.cell? ⟨w.heap.size, 0, none⟩ = some (.slice AO n CO) := (hb1.cell (p := ⟨w.heap.size, 0, none⟩) hvl).trans hcv
          have hvl1 : w.heap.size < w1.heap.size := Nat.lt_of_lt_of_le hvl hb1.size
          refine wpAnyIn_ready (rs := [3]) (by kernel_rfl) (by simp) ?_
          refine AllReadyIn.cons rfl (fun K hK => ?_) ?_
          · have hcv : (w1.alloc (Obj.cells #[.slice UA xq.length UC] 24)).cell? ⟨w.heap.size, 0, none⟩ = some (.slice AO n CO) := ((below_new w1 _).cell (p := ⟨w.heap.size, 0, none⟩) hvl1).trans hcv
            go_simp
            refine hK _ _ ?_
            clear hK K
            refine wpAnyIn_ready (rs := [4]) (by kernel_rfl) (by simp) ?_
            refine AllReadyIn.cons rfl (fun K hK => ?_) ?_
            · have hown1 := own_below (unhide HOWN) hb1
              refine step_append_in (by rfl) _ _ 27 (by rfl) w.heap.size 24 i0 (.slice none 0 0) 1 24 Try.underlying27 hi0 hz0 hz1 hz2 rfl (by decide) (.slice AO n CO) n vs (by first | rfl | (simp [Act.eval]; done)) (hown1.alloc _) ⟨w1.heap.size, 0, none⟩ 1 1 [.slice UA xq.length UC] (by first | rfl | (simp [Act.eval]; done)) rfl (cell_one_new _ _ _) (slice_one _ _ _) ?_ ?_ ?_ ?_
              · unfold maxLen; omega
              · omega
              · simp; omega
              intro v2 w2 hown2 hgrow2
              refine hK _ _ ?_
              clear hK K
              have hv1 := (unhide HV).kept (grown_of_below hb1) (by simp)
              have hv2 := (hv1.alloc (Obj.cells #[.slice UA xq.length UC] 24)).kept hgrow2 ((hv1.alloc (Obj.cells #[.slice UA xq.length UC] 24)).not_row (by decide) (hown1.alloc (Obj.cells #[.slice UA xq.length UC] 24)))
              have hc2 := hv2.cell
              have hf2 := hv2.frozen
              obtain ⟨A2, C2, rfl⟩ := row_shape hown2
              clear hcv
              refine wpAnyIn_ready (rs := [5]) (by kernel_rfl) (by simp) ?_
              refine AllReadyIn.cons rfl (fun K hK => ?_) ?_
              · go_simp
                refine hK _ _ ?_
                clear hK K
                refine wpAnyIn_done (by kernel_rfl) ?_ _
                exact unhide HEND _ _ w1 w2 _ hu hb1 hown2 hgrow2
              exact AllReadyIn.nil
            exact AllReadyIn.nil
          exact AllReadyIn.nil
        exact AllReadyIn.nil
      refine AllReadyIn.cons rfl (fun K hK => ?_) ?_
      · refine step_call_in (by rfl) 14 _ _ (by rfl) #[.slice xa xq.length xq.length] (by first | rfl | (simp [Act.eval]; done)) enterCopyItems _ (unhide HCP _ (Below.refl _ _).drew) ?_
        rintro e w1 ⟨⟨u, rfl, hu⟩, hb1d⟩
        refine ⟨_, rfl, hK _ _ ?_⟩
        clear hK K
        have hb1 : Below W.heap.size W w1 := (Below.refl W.heap.size W).drew.trans hb1d
        obtain ⟨UA, UC, rfl⟩ := own_shape hu
        have hcv : w1.cell? ⟨w.heap.size, 0, none⟩ = some (.slice AO n CO) := (hb1.cell (p := ⟨w.heap.size, 0, none⟩) hvl).trans hcv
        have hvl1 : w.heap.size < w1.heap.size := Nat.lt_of_lt_of_le hvl hb1.size
        refine wpAnyIn_ready (rs := [0, 3]) (by kernel_rfl) (by simp) ?_
        refine AllReadyIn.cons rfl (fun K hK => ?_) ?_
        · go_simp
          refine hK _ _ ?_
          clear hK K
          refine wpAnyIn_ready (rs := [3]) (by kernel_rfl) (by simp) ?_
          refine AllReadyIn.cons rfl (fun K hK => ?_) ?_
          · have hcv : (w1.alloc (Obj.cells #[.slice UA xq.length UC] 24)).cell? ⟨w.heap.size, 0, none⟩ = some (.slice AO n CO) := ((below_new w1 _).cell (p := ⟨w.heap.size, 0, none⟩) hvl1).trans hcv
            go_simp
            refine hK _ _ ?_
            clear hK K
            refine wpAnyIn_ready (rs := [4]) (by kernel_rfl) (by simp) ?_
            refine AllReadyIn.cons rfl (fun K hK => ?_) ?_
            · have hown1 := own_below (unhide HOWN) hb1
              refine step_append_in (by rfl) _ _ 27 (by rfl) w.heap.size 24 i0 (.slice none 0 0) 1 24 Try.underlying27 hi0 hz0 hz1 hz2 rfl (by decide) (.slice AO n CO) n vs (by first | rfl | (simp [Act.eval]; done)) (hown1.alloc _) ⟨w1.heap.size, 0, none⟩ 1 1 [.slice UA xq.length UC] (by first | rfl | (simp [Act.eval]; done)) rfl (cell_one_new _ _ _) (slice_one _ _ _) ?_ ?_ ?_ ?_
              · unfold maxLen; omega
              · omega
              · simp; omega
              intro v2 w2 hown2 hgrow2
              refine hK _ _ ?_
              clear hK K
              have hv1 := (unhide HV).kept (grown_of_below hb1) (by simp)
              have hv2 := (hv1.alloc (Obj.cells #[.slice UA xq.length UC] 24)).kept hgrow2 ((hv1.alloc (Obj.cells #[.slice UA xq.length UC] 24)).not_row (by decide) (hown1.alloc (Obj.cells #[.slice UA xq.length UC] 24)))
              have hc2 := hv2.cell
              have hf2 := hv2.frozen
              obtain ⟨A2, C2, rfl⟩ := row_shape hown2
              clear hcv
              refine wpAnyIn_ready (rs := [5]) (by kernel_rfl) (by simp) ?_
              refine AllReadyIn.cons rfl (fun K hK => ?_) ?_
              · go_simp
                refine hK _ _ ?_
                clear hK K
                refine wpAnyIn_done (by kernel_rfl) ?_ _
                exact unhide HEND _ _ w1 w2 _ hu hb1 hown2 hgrow2
              exact AllReadyIn.nil
            exact AllReadyIn.nil
          exact AllReadyIn.nil
        refine AllReadyIn.cons rfl (fun K hK => ?_) ?_
        · have hcv : (w1.alloc (Obj.cells #[.slice UA xq.length UC] 24)).cell? ⟨w.heap.size, 0, none⟩ = some (.slice AO n CO) := ((below_new w1 _).cell (p := ⟨w.heap.size, 0, none⟩) hvl1).trans hcv
          go_simp
          refine hK _ _ ?_
          clear hK K
          refine wpAnyIn_ready (rs := [0]) (by kernel_rfl) (by simp) ?_
          refine AllReadyIn.cons rfl (fun K hK => ?_) ?_
          · go_simp
            refine hK _ _ ?_
            clear hK K
            refine wpAnyIn_ready (rs := [4]) (by kernel_rfl) (by simp) ?_
            refine AllReadyIn.cons rfl (fun K hK => ?_) ?_
            · have hown1 := own_below (unhide HOWN) hb1
              refine step_append_in (by rfl) _ _ 27 (by rfl) w.heap.size 24 i0 (.slice none 0 0) 1 24 Try.underlying27 hi0 hz0 hz1 hz2 rfl (by decide) (.slice AO n CO) n vs (by first | rfl | (simp [Act.eval]; done)) (hown1.alloc _) ⟨w1.heap.size, 0, none⟩ 1 1 [.slice UA xq.length UC] (by first | rfl | (simp [Act.eval]; done)) rfl (cell_one_new _ _ _) (slice_one _ _ _) ?_ ?_ ?_ ?_
              · unfold maxLen; omega
              · omega
              · simp; omega
              intro v2 w2 hown2 hgrow2
              refine hK _ _ ?_
              clear hK K
              have hv1 := (unhide HV).kept (grown_of_below hb1) (by simp)
              have hv2 := (hv1.alloc (Obj.cells #[.slice UA xq.length UC] 24)).kept hgrow2 ((hv1.alloc (Obj.cells #[.slice UA xq.length UC] 24)).not_row (by decide) (hown1.alloc (Obj.cells #[.slice UA xq.length UC] 24)))
              have hc2 := hv2.cell
              have hf2 := hv2.frozen
              obtain ⟨A2, C2, rfl⟩ := row_shape hown2
              clear hcv
              refine wpAnyIn_ready (rs := [5]) (by kernel_rfl) (by simp) ?_
              refine AllReadyIn.cons rfl (fun K hK => ?_) ?_
              · go_simp
                refine hK _ _ ?_
                clear hK K
                refine wpAnyIn_done (by kernel_rfl) ?_ _
                exact unhide HEND _ _ w1 w2 _ hu hb1 hown2 hgrow2
              exact AllReadyIn.nil
            exact AllReadyIn.nil
          exact AllReadyIn.nil
        exact AllReadyIn.nil
      exact AllReadyIn.nil
    exact AllReadyIn.nil
  case done =>
    rintro D ys W hD hys ⟨v, vs, hv, hk, hg, hd, hb⟩ hK
    have hc := hv.cell
    have HG := hide hg
    have HD := hide hd
    have HY := hide hys
    have hs1 : w.heap.size < D := by omega
    clear hg hd hys
    gi_wp2
    refine ⟨by simp, .inl ⟨_, _, rfl, run_takeDeferred hK, ?_⟩⟩
    have hgr := grownBy_putObj' W D (.deferred none)
    have hno : ∀ b c t fr, W.heap[b]? = some (.cells c t fr) → some D ≠ some b := fun b c t fr h e => by
      cases e
      rw [h] at hK
      cases hK
    refine ⟨_, results_tmp rfl _ _ _, ⟨_, vs, rfl, ?_, unhide HD⟩, hb.trans (belowK_b (w := w) (Nat.le_refl _) W D _ _ (by omega) hK rfl rfl)⟩
    have hg := unhide HG
    rw [unhide HY] at hg
    refine (hg.kept (Kept.of_grown hgr) (fun g e h => ?_) (fun j h1 g e h => ?_)).mono hgr.size
    · obtain ⟨c, fr, hc⟩ := own_cells hg.2.1 e
      exact hno _ _ _ _ hc h
    · obtain ⟨c, fr, hc⟩ := own_cells (hg.2.2 j h1 (by rw [← hg.1]; exact h1)).1 e
      exact hno _ _ _ _ hc h
  case stop =>
    rintro D c pre W _ _ h _
    exact h.elim
end Tr
end Go.Proofs.Yteaidpeifaeckaa
