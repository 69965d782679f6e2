/-
 SvO1, SvO2, SvA0, SvA1, SvM1, SvU0, SvX0.
-/
import Derived.Test.YtkjclkelnheheaaJ20
import Derived.Deep.AppendLies
import Derived.Deep.RegionLaw
import Derived.Deep.CutBlock
import Derived.Test.YtkjclkelnheheaaJ10
namespace Go.Proofs.Ytkjclkelnheheaa
namespace Sv
open Go.RowKit Gr
theorem run_types : (78 : Nat) ≠ 3 ∧ (78 : Nat) ≠ 102 ∧ (78 : Nat) ≠ 83 ∧ (102 : Nat) ≠ 3 ∧ (102 : Nat) ≠ 83 ∧ (83 : Nat) ≠ 3 := by decide
theorem nodup_few : ∀ (n : Nat) (L : List Nat), L.Nodup → (∀ x ∈ L, x < n) → L.length ≤ n
  | 0, L, _, h => by
    cases L with
    | nil => exact Nat.le_refl _
    | cons x r => have := h x (by simp); omega
  | n + 1, L, hn, h => by
    by_cases hm : n ∈ L
    · have h1 := nodup_few n (L.erase n) (hn.erase n) (fun x hx => by
        have h2 := h x (List.mem_of_mem_erase hx)
        have h3 : x ≠ n := fun e => by subst e; exact hn.not_mem_erase hx
        omega)
      rw [List.length_erase_of_mem hm] at h1
      omega
    · have := nodup_few n L hn (fun x hx => by
        have h2 := h x hx
        have h3 : x ≠ n := fun e => by subst e; exact hm hx
        omega)
      omega
section
variable {w : World} {b lo : Nat} {aQ : Option Addr} {cQ s : Nat} {Q : List EdgeI} {y : List Int} {N : List Nd} {M : List Lk} {k : Int} {d : Bool} {vv : Vs}
theorem RunAt.setNode {N' : List Nd} {i g c : Nat} {u : Value} (h : RunAt w b lo aQ cQ s Q y N M k d vv) (hlo : lo ≤ w.heap.size) (hv : vv.n = .slice (some ⟨g, 0, none⟩) N.length c) (hs : (ndsV vv.rs vv.ls N).set i u = ndsV vv.rs vv.ls N') (hl : N'.length = N.length) (hr : ∀ j (h1 : j < N.length) (h2 : j < N'.length), N'[j].ring = N[j].ring ∧ N'[j].links = N[j].links) :
    RunAt (w.setCell ⟨g, i, none⟩ u) b lo aQ cQ s Q y N' M k d vv ∧ Kept (fun k => k = g) w (w.setCell ⟨g, i, none⟩ u) := by
  obtain ⟨t1, t2, t3, t4, t5, t6⟩ := run_types
  have hns := h.ns
  rw [hv] at hns
  have kk : Kept (fun k => k = g) w (w.setCell ⟨g, i, none⟩ u) := Kept.set _ _ _ _ rfl
  have al : ∀ e : TypeId, (102 : Nat) ≠ e → ∀ k, k = g → Alien w k e := fun e he k hk => by subst hk; exact own_alien hns he k rfl
  have hg := (hns.lt g rfl).1
  have hst := (hns.stored i u).1
  rw [hs] at hst
  refine ⟨⟨h.box.kept_alien kk (al _ t2.symm), h.edges.below (kk.below (B := lo) hlo (fun i hi => by omega)) (Nat.le_refl _), kk.own_alien h.ys (al _ t4), ?_, kk.own_alien h.ms (al _ t5), by rw [h.rl, hl], by rw [h.ll, hl], fun j h1 h2 => ?_, fun j h1 h2 => ?_, h.d1, h.d2, h.blo⟩, kk⟩
  · rw [hv, hl]; exact hst
  · rw [(hr j (by omega) h1).1]; exact kk.own_alien (h.rings j (by omega) h2) (al _ t4)
  · rw [(hr j (by omega) h1).2]; exact kk.own_alien (h.lnks j (by omega) h2) (al _ t5)
theorem set_same {N : List Nd} {j : Nat} {x : Nd} (hj : j < N.length) (h1 : x.ring = (nd N j).ring) (h2 : x.links = (nd N j).links) : ∀ i (a : i < N.length) (b : i < (N.set j x).length), (N.set j x)[i].ring = N[i].ring ∧ (N.set j x)[i].links = N[i].links := by
  intro i a b
  have e : nd N j = N[j] := getD_at _ _ _ hj
  rw [List.getElem_set]
  split
  · rename_i hij; subst hij; rw [h1, h2, e]; exact ⟨rfl, rfl⟩
  · exact ⟨rfl, rfl⟩
theorem RunAt.setUp {g c j : Nat} (h : RunAt w b lo aQ cQ s Q y N M k d vv) (hlo : lo ≤ w.heap.size) (hv : vv.n = .slice (some ⟨g, 0, none⟩) N.length c) (hj : j < N.length) (u : Int) :
    RunAt (w.setCell ⟨g, j * 6 + 4, none⟩ (.int .i64 u)) b lo aQ cQ s Q y (Sv.setUp N j u) M k d vv ∧ Kept (fun k => k = g) w (w.setCell ⟨g, j * 6 + 4, none⟩ (.int .i64 u)) :=
  h.setNode hlo hv ((ndsV_set vv.rs vv.ls N j h.rl h.ll hj).1 u) (setUp_length _ _ _) (set_same hj rfl rfl)
theorem RunAt.setGone {g c j : Nat} (h : RunAt w b lo aQ cQ s Q y N M k d vv) (hlo : lo ≤ w.heap.size) (hv : vv.n = .slice (some ⟨g, 0, none⟩) N.length c) (hj : j < N.length) :
    RunAt (w.setCell ⟨g, j * 6 + 5, none⟩ (.bool true)) b lo aQ cQ s Q y (Sv.setGone N j) M k d vv ∧ Kept (fun k => k = g) w (w.setCell ⟨g, j * 6 + 5, none⟩ (.bool true)) :=
  h.setNode hlo hv ((ndsV_set vv.rs vv.ls N j h.rl h.ll hj).2.2 true) (by simp [Sv.setGone]) (set_same hj rfl rfl)
theorem RunAt.appM {w1 w3 : World} {x : Lk} {v' : Value} (h : RunAt w b lo aQ cQ s Q y N M k d vv) (hlo : lo ≤ w.heap.size) (hb : Below w.heap.size w w1) (hg : w1.grownBy w3 vv.m.ownBlock) (hv : w3.ownsRow lo 83 2 v' (M.length + 1) (lksV M ++ [.int .i64 (x.f : Int), .int .i64 (x.t : Int)])) (hat : ∀ g, v'.ownBlock = some g → vv.m.ownBlock = some g ∨ w.heap.size ≤ g) :
    RunAt (w3.setCell ⟨b, 4, none⟩ v') b lo aQ cQ s Q y N (M ++ [x]) k d { vv with m := v' } ∧ Kept (fun i => i = b ∨ vv.m.ownBlock = some i) w (w3.setCell ⟨b, 4, none⟩ v') := by
  obtain ⟨t1, t2, t3, t4, t5, t6⟩ := run_types
  have h1 := h.below hb hlo
  have kg : Kept (fun i => vv.m.ownBlock = some i) w1 w3 := Kept.of_grown hg
  have kk : Kept (fun i => i = b) w3 (w3.setCell ⟨b, 4, none⟩ v') := Kept.set _ _ _ _ rfl
  have al := fun (e : TypeId) (he : (83 : Nat) ≠ e) => own_alien h1.ms he
  have box3 := h1.box.kept_alien kg (al _ t3.symm)
  have al2 : ∀ e : TypeId, (78 : Nat) ≠ e → ∀ i, i = b → Alien w3 i e := fun e he i hi => by subst hi; exact box3.alien he
  have ka : Kept (fun i => i = b ∨ vv.m.ownBlock = some i) w (w3.setCell ⟨b, 4, none⟩ v') := ((Kept.of_below hb).trans (kg.weak (fun i hi => .inr hi))).trans (kk.weak (fun i hi => .inl hi))
  refine ⟨⟨box3.set 4 v', ?_, kk.own_alien (kg.own_alien h1.ys (al _ t6)) (al2 _ t1), kk.own_alien (kg.own_alien h1.ns (al _ t5.symm)) (al2 _ t2), ?_, h1.rl, h1.ll, fun j h2 h3 => kk.own_alien (kg.own_alien (h1.rings j h2 h3) (al _ t6)) (al2 _ t1), fun j h2 h3 => ?_, h1.d1, fun u hu g hg he => ?_, h1.blo⟩, ka⟩
  · refine h.edges.below (ka.below (B := lo) hlo (fun i hi => ?_)) (Nat.le_refl _)
    rcases hi with rfl | hi
    · exact h.blo
    · exact (World.ownsRow.lt h.ms i hi).1
  · show World.ownsRow _ _ _ _ _ _ _
    rw [lksV_snoc, List.length_append]
    exact kk.own_alien hv (al2 _ t3)
  · refine kk.own_alien (kg.own (h1.lnks j h2 h3) (fun g hg => h1.d2 _ (List.getElem_mem h3) g hg)) (al2 _ t3)
  · rcases hat g he with h2 | h2
    · exact h.d2 u hu g hg h2
    · obtain ⟨j, hj, rfl⟩ := List.getElem_of_mem hu
      have a1 := (World.ownsRow.lt (h.lnks j (by rw [← h.ll]; exact hj) hj) g hg).2
      omega
end
theorem lastAt_step (P : Nat → Bool) (L : List Nat) (j a : Nat) (h : j < L.length) : lastAt P (L.drop j) j a = lastAt P (L.drop (j + 1)) (j + 1) (if P L[j] = true then j else a) := by
  rw [drop_cons L j h]; rfl
theorem setUps_snoc (N : List Nd) (L : List Nat) (j : Nat) (u : Int) (h : j < L.length) : setUps N (L.take (j + 1)) u = setUp (setUps N (L.take j) u) L[j] u := by
  unfold setUps
  rw [List.take_succ_eq_append_getElem h, List.foldl_append]
  rfl
def innerTo (N : List Nd) (M : List Lk) (j p : Nat) : List Lk := (List.range p).map fun k => (nd N j).links.getD ((atOf N M j + (2 * k + 1)) % (nd N j).ring.length) ⟨0, 0⟩
theorem innerTo_succ (N : List Nd) (M : List Lk) (j p : Nat) : M ++ innerTo N M j (p + 1) = (M ++ innerTo N M j p) ++ [(nd N j).links.getD ((atOf N M j + (2 * p + 1)) % (nd N j).ring.length) ⟨0, 0⟩] := by
  unfold innerTo
  rw [List.range_succ, List.map_append, List.append_assoc]
  rfl
theorem rows_ne {w : World} {B B' e e' size size' n n' : Nat} {v v' : Value} {xs xs' : List Value} (h : w.ownsRow B e size v n xs) (h' : w.ownsRow B' e' size' v' n' xs') (he : e ≠ e') {g g' : Nat} (hg : v.ownBlock = some g) (hg' : v'.ownBlock = some g') : g ≠ g' := by
  intro eq
  subst eq
  rcases h.2 with ⟨rfl, _⟩ | ⟨a, _, _, rfl, _, ha, _⟩
  · simp [Value.ownBlock] at hg
  · rcases h'.2 with ⟨rfl, _⟩ | ⟨a', _, _, rfl, _, ha', _⟩
    · simp [Value.ownBlock] at hg'
    · simp [Value.ownBlock] at hg hg'
      subst hg hg'
      rw [ha] at ha'
      simp at ha'
      exact he ha'.2
theorem kept_cell {S : Nat → Prop} {w w' : World} (hk : Kept S w w') {g i : Nat} (hg : g < w.heap.size) (hS : ¬ S g) : w'.cell? ⟨g, i, none⟩ = w.cell? ⟨g, i, none⟩ := by
  unfold World.cell?
  simp only []
  rw [hk.2.2.2.2 g hg hS]
theorem RunAt.froz {w : World} {b lo : Nat} {aQ : Option Addr} {cQ s : Nat} {Q : List EdgeI} {y : List Int} {N : List Nd} {M : List Lk} {k : Int} {d : Bool} {vv : Vs} (h : RunAt w b lo aQ cQ s Q y N M k d vv) {g c : Nat} (hv : vv.n = .slice (some ⟨g, 0, none⟩) N.length c) (i : Nat) : w.frozen? ⟨g, i, none⟩ = false := by
  have := h.ns
  rw [hv] at this
  exact this.frozenAt i
section
variable {w : World} {b lo : Nat} {aQ : Option Addr} {cQ s : Nat} {Q : List EdgeI} {y : List Int} {N : List Nd} {M : List Lk} {k : Int} {d : Bool} {vv : Vs}
set_option maxRecDepth 100000 in
set_option maxHeartbeats 8000000 in
theorem open_any (h : RunAt w b lo aQ cQ s Q y N M k d vv) (hlo : lo ≤ w.heap.size) (I : Inv s N M) (hn : N.length ≤ 1000000) (hM : M.length ≤ 1000000) (j : Nat) (hs : s ≤ j) (hj : j < N.length) (ha : (nd N j).gone = false) :
    Calls Try.prog 38 #[.pointer (some ⟨b, 0, none⟩), .int .i64 (j : Int)] w fun u w' => u = .returned (.tuple #[]) ∧ (∃ v', RunAt w' b lo aQ cQ s Q y (openN N j) (openM N M j) k d { vv with m := v' } ∧ (∀ g, v'.ownBlock = some g → vv.m.ownBlock = some g ∨ w.heap.size ≤ g)) ∧ Kept (Foot b vv) w w' := by
  have R := I.rings j hs hj ha
  have hge := I.ge
  have hE : ∀ v ∈ ends M, v < N.length := fun v hv => by have := I.fin v hv; omega
  have BA := hide (base_any h hlo I.ups hn hM hE j hj)
  have hbl : baseOf N M j < N.length := by
    unfold baseOf
    cases hm : mateOf N M j with
    | none => have := I.bas j hj; show (nd N j).base < _; omega
    | some m => have := I.fin _ (mem_ends.2 ((mate_some hm).2.elim (fun h => ⟨_, h, .inl rfl⟩) (fun h => ⟨_, h, .inr rfl⟩))); show m.f < _; omega
  have HAT : Hid (atOf N M j = lastAt (fun x => win N (baseOf N M j) x) ((nd N j).ring.drop 0) 0 0) := rfl
  generalize hbs : baseOf N M j = bs at BA hbl HAT
  clear hbs
  have hrl : (nd N j).ring.length ≤ j := nodup_few j _ R.nodup (fun x hx => (R.mem x hx).1)
  have hpos : 0 < (nd N j).ring.length := by have := R.odd; omega
  have hlen := R.len
  have hj1 : j < vv.rs.length := by rw [h.rl]; exact hj
  have hj2 : j < vv.ls.length := by rw [h.ll]; exact hj
  have eN : nd N j = N[j] := getD_at _ _ _ hj
  have hring := h.rings j hj hj1
  have hlink := h.lnks j hj hj2
  rw [← eN] at hring hlink
  obtain ⟨gr, cr, er, hgr, hcr⟩ := na_cells hring hpos
  obtain ⟨gl, cl, el, hgl, hcl⟩ := lk_cellsD hlink (by rw [hlen]; exact hpos)
  obtain ⟨g, cn, env, hglo, hg, q3, hc⟩ := h.node (by omega)
  obtain ⟨c0, c1, c2, c3, c4, c5⟩ := hc j hj
  have e0 : vv.rs.getD j undef = .slice (some ⟨gr, 0, none⟩) (nd N j).ring.length cr := by rw [getD_at _ _ _ hj1]; exact er
  have e1 : vv.ls.getD j undef = .slice (some ⟨gl, 0, none⟩) (nd N j).ring.length cl := by rw [getD_at _ _ _ hj2, el, hlen]
  rw [e0] at c0
  rw [e1] at c1
  have hblt := h.box.lt
  have hx0 : (0 : Int) ≤ (j : Int) := by omega
  have hx1 : (j : Int) < (N.length : Int) := by omega
  have HRLT : Hid (∀ x ∈ (nd N j).ring, x < N.length) := fun x hx => by have := (R.mem x hx).1; omega
  obtain ⟨RL, hRL⟩ : ∃ RL, RL = (nd N j).ring.length := ⟨_, rfl⟩
  rw [← hRL] at c0 c1
  have HRL := hide hRL
  have HI := hide I
  have HLEN := hide hlen
  have HRI := hide R
  have hRLj : RL ≤ j := by omega
  have hRL0 : 0 < RL := by omega
  have HCR0 : Hid (∀ i, i < RL → w.cell? ⟨gr, i, none⟩ = some (.int .i64 (((nd N j).ring.getD i 0 : Nat) : Int))) := fun i hi => hcr i (by omega)
  have HCL0 : Hid (∀ i, i < RL → w.cell? ⟨gl, i * 2, none⟩ = some (.int .i64 (((nd N j).links.getD i ⟨0, 0⟩).f : Int)) ∧ w.cell? ⟨gl, i * 2 + 1, none⟩ = some (.int .i64 (((nd N j).links.getD i ⟨0, 0⟩).t : Int))) := fun i hi => hcl i (by omega)
  have HENV := hide env
  have HLV : Hid (vv.ls[j] = .slice (some ⟨gl, 0, none⟩) RL cl) := by show _ = _; rw [hRL, el, hlen]
  have HJ2 := hide hj2
  obtain ⟨i0, hi0, hz0, hz1, hz2⟩ := info_parts info_link
  have hgrg : gr ≠ g := rows_ne hring h.ns (run_types.2.2.2.1).symm (by rw [er]; rfl) (by rw [env]; rfl)
  have hglg : gl ≠ g := rows_ne hlink h.ns (run_types.2.2.2.2.1).symm (by rw [el]; rfl) (by rw [env]; rfl)
  clear eN e0 e1 hRL hring hlink er el hcr hcl hc env hlen hrl hpos R
  obtain ⟨n, hN⟩ : ∃ n, n = N.length := ⟨_, rfl⟩
  rw [← hN] at q3 hx1
  have HN := hide hN
  clear hN
  go_enter Try.func38, Try.ntmps38
  go_wp2_with fail
  refine (unhide BA).mono ?_
  rintro u w1 ⟨rfl, b1⟩
  have h1 := h.below b1 hlo
  have p3 : w1.cell? ⟨b, 3, none⟩ = some (.slice (some ⟨g, 0, none⟩) n cn) := (b1.cell (p := ⟨b, 3, none⟩) hblt).trans q3
  rw [← b1.cell (p := ⟨g, j * 6, none⟩) hg] at c0
  rw [← b1.cell (p := ⟨g, j * 6 + 1, none⟩) hg] at c1
  rw [← b1.cell (p := ⟨g, j * 6 + 2, none⟩) hg] at c2
  rw [← b1.cell (p := ⟨g, j * 6 + 3, none⟩) hg] at c3
  rw [← b1.cell (p := ⟨g, j * 6 + 4, none⟩) hg] at c4
  rw [← b1.cell (p := ⟨g, j * 6 + 5, none⟩) hg] at c5
  generalize ((nd N j).base : Int) = nb at c2
  generalize (nd N j).z = nz' at c3
  generalize upA N j = nu at c4
  generalize (nd N j).gone = ng at c5
  have zb1 := b1.size
  have hbl1 : b < w1.heap.size := by omega
  have hgl1 : g < w1.heap.size := by omega
  obtain ⟨V, hV⟩ : ∃ W, W = w1.alloc (Obj.cells #[.slice (some ⟨gr, 0, none⟩) RL cr, .slice (some ⟨gl, 0, none⟩) RL cl, .int .i64 nb, .int .i64 nz', .int .i64 nu, .bool ng] 102) := ⟨_, rfl⟩
  have bV : Below w1.heap.size w1 V := by rw [hV]; exact below_new _ _
  have mV : Blk V w1.heap.size #[.slice (some ⟨gr, 0, none⟩) RL cr, .slice (some ⟨gl, 0, none⟩) RL cl, .int .i64 nb, .int .i64 nz', .int .i64 nu, .bool ng] 102 := by rw [hV]; exact Blk.new0
  have s0 : V.cell? ⟨w1.heap.size, 0, none⟩ = some (.slice (some ⟨gr, 0, none⟩) RL cr) := mV.cell 0 _ rfl
  have s0' := s0
  rw [hV] at s0'
  go_wp2_with fail
  rw [← hV]
  clear hV s0'
  have BV : Below w.heap.size w V := b1.trans (bV.mono b1.size)
  have hV1 := h.below BV hlo
  have HCR : Hid (∀ i, i < RL → V.cell? ⟨gr, i, none⟩ = some (.int .i64 (((nd N j).ring.getD i 0 : Nat) : Int))) := fun i hi => (BV.cell (p := ⟨gr, i, none⟩) hgr).trans (unhide HCR0 i hi)
  have WI := hide (fun x => win_any hV1 (unhide HI).ups hn bs x hbl)
  have HST : Hid (∀ i a, i < RL → lastAt (fun x => win N bs x) ((nd N j).ring.drop i) i a = lastAt (fun x => win N bs x) ((nd N j).ring.drop (i + 1)) (i + 1) (if win N bs ((nd N j).ring.getD i 0) = true then i else a)) := fun i a hi => by
    have hi' : i < (nd N j).ring.length := by have := unhide HRL; omega
    rw [getD_at _ _ _ hi']
    exact lastAt_step _ _ i a hi'
  have HEND : Hid (∀ a, lastAt (fun x => win N bs x) ((nd N j).ring.drop RL) RL a = a) := fun a => by rw [unhide HRL, List.drop_length]; rfl
  obtain ⟨AT, hAT⟩ : ∃ AT, AT = atOf N M j := ⟨_, rfl⟩
  have HATE := hide hAT
  rw [← hAT] at HAT
  clear hAT
  go_loop [7, 8] (fun a7 a8 => ∃ (i a : Nat), a8 = .int .i64 (i : Int) ∧ a7 = .int .i64 (a : Int) ∧ i ≤ RL ∧ a < RL ∧ Hid (AT = lastAt (fun x => win N bs x) ((nd N j).ring.drop i) i a)) (fun _ a8 => RL - (intOf a8).toNat)
  case atStart => exact ⟨0, 0, rfl, rfl, Nat.zero_le _, hRL0, HAT⟩
  case round =>
    obtain ⟨i, a, rfl, rfl, hi, haR, HA⟩ := hrel
    by_cases hlt : i < RL
    · have hi0 : (0 : Int) ≤ (i : Int) := by omega
      have hi1 : (i : Int) < (RL : Int) := by omega
      have cr := unhide HCR i hlt
      have HA2 := hide ((unhide HA).trans (unhide HST i a hlt))
      have WX := hide (unhide WI ((nd N j).ring.getD i 0))
      generalize (nd N j).ring.getD i 0 = x at cr HA2 WX
      generalize win N bs x = wx at HA2 WX
      go_wp2_with fail
      refine (unhide WX).mono ?_
      rintro u w6 ⟨rfl, rfl⟩
      cases wx with
      | true =>
        simp only [if_true] at HA2
        go_wp2
        go_round
        case rel => exact ⟨i + 1, i, by go_num, rfl, by omega, hlt, HA2⟩
        case measure => simp [intOf]; omega
      | false =>
        simp only [Bool.false_eq_true, if_false] at HA2
        go_wp2
        go_round
        case rel => exact ⟨i + 1, a, by go_num, rfl, by omega, haR, HA2⟩
        case measure => simp [intOf]; omega
    · obtain rfl : i = RL := by omega
      have hi1 : ¬ (i : Int) < (i : Int) := by omega
      have hAa : a = AT := by rw [unhide HA, unhide HEND]
      subst hAa
      clear HA HST HEND WI
      have HNP : Hid (∀ p, p < i → setUps N ((nd N j).ring.take (p + 1)) (-1) = setUp (setUps N ((nd N j).ring.take p) (-1)) ((nd N j).ring.getD p 0) (-1)) := fun p hp => by
        have hp' : p < (nd N j).ring.length := by have := unhide HRL; omega
        rw [getD_at _ _ _ hp']
        exact setUps_snoc N _ p (-1) hp'
      have HNL : Hid (∀ p, (setUps N ((nd N j).ring.take p) (-1)).length = n) := fun p => by rw [setUps_length]; exact (unhide HN).symm
      have HRX : Hid (∀ p, p < i → (nd N j).ring.getD p 0 < n) := fun p hp => by
        have hp' : p < (nd N j).ring.length := by have := unhide HRL; omega
        have h9 := unhide HRLT _ (List.getElem_mem hp')
        rw [getD_at _ _ _ hp']
        have := unhide HN
        omega
      have HR0 : Hid (RunAt V b lo aQ cQ s Q y (setUps N ((nd N j).ring.take 0) (-1)) M k d vv) := hV1
      have hloV : lo ≤ V.heap.size := Nat.le_trans hlo BV.size
      have hgV : g < V.heap.size := by have := BV.size; omega
      have hgrV : gr < V.heap.size := by have := BV.size; omega
      have hbV2 : b < V.heap.size := by have := BV.size; omega
      have hxg : w1.heap.size ≠ g := by omega
      have HMV := hide mV
      clear hV1 s0 mV h h1
      go_wp2_with fail
      go_loopw [9] (fun a9 wr => ∃ p : Nat, a9 = .int .i64 (p : Int) ∧ p ≤ i ∧ Hid (RunAt wr b lo aQ cQ s Q y (setUps N ((nd N j).ring.take p) (-1)) M k d vv) ∧ Kept (fun k => k = g) V wr) (fun a9 _ => i - (intOf a9).toNat)
      case atStart => exact ⟨0, rfl, Nat.zero_le _, HR0, Kept.refl _ _⟩
      case round =>
        obtain ⟨p, rfl, hp, HR, hk⟩ := hrel
        have zr : V.heap.size ≤ wr.heap.size := hk.2.2.2.1
        have mr := (unhide HMV).kept hk hxg
        have x0 : wr.cell? ⟨w1.heap.size, 0, none⟩ = some (.slice (some ⟨gr, 0, none⟩) i cr) := mr.cell 0 _ rfl
        have r3 : wr.cell? ⟨b, 3, none⟩ = some (.slice (some ⟨g, 0, none⟩) n cn) := by
          have := (unhide HR).box.cell 3 _ rfl
          rw [unhide HENV, ← unhide HN] at this
          exact this
        by_cases hlt2 : p < i
        · have hp0 : (0 : Int) ≤ (p : Int) := by omega
          have hp1 : (p : Int) < (i : Int) := by omega
          have cx : wr.cell? ⟨gr, p, none⟩ = some (.int .i64 (((nd N j).ring.getD p 0 : Nat) : Int)) := (kept_cell hk hgrV hgrg).trans (unhide HCR p hlt2)
          have hxl := unhide HRX p hlt2
          have HN2 := hide (unhide HNP p hlt2)
          have hnl := unhide HNL p
          generalize setUps N ((nd N j).ring.take p) (-1) = N2 at HR HN2 hnl
          generalize (nd N j).ring.getD p 0 = x at cx hxl HN2
          have hv2 : vv.n = .slice (some ⟨g, 0, none⟩) N2.length cn := by rw [unhide HENV, ← unhide HN, hnl]
          have hx0' : (0 : Int) ≤ (x : Int) := by omega
          have hx1' : (x : Int) < (n : Int) := by omega
          have hfz := (unhide HR).froz hv2 (x * 6 + 4)
          obtain ⟨g', _, e', _, _, _, hc'⟩ := (unhide HR).node (by omega)
          rw [hv2] at e'
          simp at e'
          have cu := (hc' x (by omega)).2.2.2.2.1
          rw [← e'.1] at cu
          generalize upA N2 x = ux at cu
          obtain ⟨s1, s2⟩ := (unhide HR).setUp (Nat.le_trans hloV zr) hv2 (show x < N2.length by omega) (-1)
          have HS1 := hide s1
          have HS2 := hide s2
          clear s1 s2 hc' e' hv2
          go_wp2_with fail
          go_big_region
          all_goals
            go_wp2_with fail
            refine ⟨⟨p + 1, by go_num, by omega, ?_, hk.trans (unhide HS2)⟩, by simp [intOf]; omega⟩
            show RunAt _ _ _ _ _ _ _ _ _ _ _ _ _
            rw [unhide HN2]
            exact (unhide HS1).below (Below.refl _ _).drew (by simp [World.setCell]; omega)
        · obtain rfl : p = i := by omega
          have hp1 : ¬ (p : Int) < (p : Int) := by omega
          have hnl := unhide HNL p
          have HOP : Hid (openN N j = setGone (setUps N ((nd N j).ring.take p) (-1)) j) := by
            show _ = _
            unfold openN
            rw [List.take_of_length_le (by have := unhide HRL; omega)]
          generalize setUps N ((nd N j).ring.take p) (-1) = N2 at HR HOP hnl
          have hv2 : vv.n = .slice (some ⟨g, 0, none⟩) N2.length cn := by rw [unhide HENV, ← unhide HN, hnl]
          have hfz := (unhide HR).froz hv2 (j * 6 + 5)
          obtain ⟨g', _, e', _, _, _, hc'⟩ := (unhide HR).node (by omega)
          rw [hv2] at e'
          simp at e'
          have cu := (hc' j (by omega)).2.2.2.2.2
          rw [← e'.1] at cu
          generalize (nd N2 j).gone = gj at cu
          obtain ⟨s1, s2⟩ := (unhide HR).setGone (Nat.le_trans hloV zr) hv2 (show j < N2.length by omega)
          rw [← unhide HOP] at s1
          obtain ⟨W8, hW8⟩ : ∃ W, W = wr.setCell ⟨g, j * 6 + 5, none⟩ (.bool true) := ⟨_, rfl⟩
          rw [← hW8] at s1 s2
          have zW8 : V.heap.size ≤ W8.heap.size := Nat.le_trans zr s2.2.2.2.1
          have KG : Kept (fun k => k = g) V W8 := hk.trans s2
          have M8 := hide ((unhide HMV).kept KG hxg)
          have K8 : Hid (Kept (Foot b vv) w W8) := ((Kept.of_below BV).trans (KG.weak (fun i hi => .inr (.inr (.inl (by rw [unhide HENV, hi]; rfl))))))
          have HS8 : Hid (RunAt W8 b lo aQ cQ s Q y (openN N j) (M ++ innerTo N M j 0) k d { vv with m := vv.m }) := by
            show RunAt _ _ _ _ _ _ _ _ _ _ _ _ _
            have e0 : M ++ innerTo N M j 0 = M := by simp [innerTo]
            rw [e0]; exact s1
          have hzw8 : w.heap.size ≤ W8.heap.size := by have := BV.size; omega
          clear s1 s2 hc' e' hv2 HR hk mr
          go_wp2_with fail
          rw [← hW8]
          clear hW8 x0 r3 hfz cu
          have HOL : Hid (∀ (h : j < (openN N j).length), (openN N j)[j].links = (nd N j).links) := fun h => by
            have e1 : (openN N j)[j] = nd (openN N j) j := (getD_at _ _ _ h).symm
            rw [e1, open_nd hj (fun v hv => ((unhide HRI).mem v hv).1), if_pos rfl]
          have HIS : Hid (∀ q, M ++ innerTo N M j (q + 1) = (M ++ innerTo N M j q) ++ [(nd N j).links.getD ((a + (2 * q + 1)) % p) ⟨0, 0⟩]) := fun q => by
            rw [unhide HRL, unhide HATE]; exact innerTo_succ N M j q
          have HIL : Hid (∀ q, (M ++ innerTo N M j q).length = M.length + q) := fun q => by simp [innerTo]
          go_loopw [10] (fun a10 wr => ∃ (q : Nat) (v' : Value), a10 = .int .i64 ((2 * q + 1 : Nat) : Int) ∧ q ≤ p / 2 ∧ Hid (RunAt wr b lo aQ cQ s Q y (openN N j) (M ++ innerTo N M j q) k d { vv with m := v' }) ∧ Hid (∀ g, v'.ownBlock = some g → vv.m.ownBlock = some g ∨ w.heap.size ≤ g) ∧ Hid (Blk wr w1.heap.size #[.slice (some ⟨gr, 0, none⟩) p cr, .slice (some ⟨gl, 0, none⟩) p cl, .int .i64 nb, .int .i64 nz', .int .i64 nu, .bool ng] 102) ∧ Hid (Kept (Foot b vv) w wr) ∧ w.heap.size ≤ wr.heap.size) (fun a10 _ => p + 2 - (intOf a10).toNat)
          case atStart => exact ⟨0, vv.m, rfl, Nat.zero_le _, HS8, fun g hg => .inl hg, M8, K8, hzw8⟩
          case round =>
            obtain ⟨q, v', rfl, hq, HR, HAT2, HX, HK, hzr⟩ := hrel
            by_cases hlt3 : 2 * q + 1 < p
            · have hq1 : ((2 * q + 1 : Nat) : Int) < (p : Int) := by omega
              have x1 : wr.cell? ⟨w1.heap.size, 1, none⟩ = some (.slice (some ⟨gl, 0, none⟩) p cl) := (unhide HX).cell 1 _ rfl
              have hIS := unhide HIS q
              have hIL := unhide HIL q
              obtain ⟨gl2, cl2, el2, hgl2, hcl2⟩ := lk_cellsD ((unhide HR).lnks j (by rw [open_length]; have := unhide HN; omega) (unhide HJ2)) (by rw [unhide HOL]; have := unhide HLEN; have := unhide HRL; omega)
              rw [unhide HOL] at hcl2
              rw [unhide HLV] at el2
              simp at el2
              have hmod : (a + (2 * q + 1)) % p < p := Nat.mod_lt _ hRL0
              obtain ⟨d0, d1⟩ := hcl2 ((a + (2 * q + 1)) % p) (by have := unhide HLEN; have := unhide HRL; omega)
              rw [← el2.1] at d0 d1 hgl2
              have hrem : ((a : Int) + ((2 * q + 1 : Nat) : Int)) % (p : Int) = (((a + (2 * q + 1)) % p : Nat) : Int) := by rw [Int.natCast_emod]; rfl
              have hrem2 : ((a : Int) + (2 * (q : Int) + 1)) % (p : Int) = (((a + (2 * q + 1)) % p : Nat) : Int) := by rw [← hrem]; rfl
              have hremT : ((a : Int) + (2 * (q : Int) + 1)).tmod (p : Int) = (((a + (2 * q + 1)) % p : Nat) : Int) := by rw [Int.tmod_eq_emod_of_nonneg (by omega)]; exact hrem2
              have hww : IntKind.i64.wrap ((a : Int) + (2 * (q : Int) + 1)) = (a : Int) + (2 * (q : Int) + 1) := IntWalk.i64_in _ ⟨by omega, by omega⟩
              have hpne : ¬ p = 0 := by omega
              clear hrem hrem2
              have hm0 : (0 : Int) ≤ (((a + (2 * q + 1)) % p : Nat) : Int) := by omega
              have hm1 : (((a + (2 * q + 1)) % p : Nat) : Int) < (p : Int) := by omega
              generalize (nd N j).links.getD ((a + (2 * q + 1)) % p) ⟨0, 0⟩ = x at d0 d1 hIS
              generalize (a + (2 * q + 1)) % p = tt at d0 d1 hmod hremT hm0 hm1
              have HIS2 := hide hIS
              have hLn : (M ++ innerTo N M j q).length ≤ 2000000 := by omega
              clear hIS hcl2 el2 hIL
              generalize M ++ innerTo N M j q = LM at HR HIS2 hLn
              obtain ⟨xf, xt⟩ := x
              simp only at d0 d1 HIS2
              obtain ⟨aM, cM, eM⟩ := lk_slice (unhide HR).ms
              simp only at eM
              subst eM
              have r4 : wr.cell? ⟨b, 4, none⟩ = some (.slice aM LM.length cM) := (unhide HR).box.cell 4 _ rfl
              have hbr := (unhide HR).box.lt
              have hlor : lo ≤ wr.heap.size := Nat.le_trans hlo hzr
              have HOD : wr.drew.ownsRow lo 83 2 (.slice aM LM.length cM) LM.length (lksV LM) := (World.ownsRow.drew (unhide HR).ms)
              have HAP := hide (fun w1 w3 v' hb hg hv hat => (unhide HR).appM (w1 := w1) (w3 := w3) (x := ⟨xf, xt⟩) (v' := v') hlor hb hg hv hat)
              have HBX := hide (unhide HR).box
              have HOW := hide (unhide HR).ms
              have hne : (Value.slice aM LM.length cM).ownBlock ≠ some b := fun e => (unhide HBX).apart (unhide HOW) run_types.2.2.1 e.symm
              have hxlt := (unhide HX).lt
              have hglr : gl < wr.heap.size := hgl2
              have r5 := ((below_new wr.drew (Obj.cells #[.int .i64 (xf : Int), .int .i64 (xt : Int)] 83)).cell (p := ⟨b, 4, none⟩) hbr).trans r4
              have r6 := ((below_new wr (Obj.cells #[.int .i64 (xf : Int), .int .i64 (xt : Int)] 83)).cell (p := ⟨b, 4, none⟩) hbr).trans r4
              go_wp2_with fail
              go_region_law
                (first
                  | (refine step_append_lies _ (by rfl) _ _ _ (by rfl) lo 83 i0 _ 2 16 Try.underlying76 hi0 hz0 hz1 hz2 rfl (by omega) (.slice aM LM.length cM) LM.length (lksV LM) (by show _ = _; kernel_rfl) (by first | exact HOD.alloc _ | exact (HOD.alloc _).drew) ⟨wr.heap.size, 0, none⟩ 1 1 [.int .i64 (xf : Int), .int .i64 (xt : Int)] (by show _ = _; kernel_rfl) (by rfl) (World.news_of_block (heap_alloc_new wr.drew _)) (by intro u hu; simp at hu; rcases hu with rfl | rfl <;> rfl) (by omega) (by unfold maxLen; omega) (by omega) (by simp; omega) (wr.heap.size + 1) (by simp) ?_; intro g14 cap14 w14 hown14 hgrow14 hat14 hlt14; have U14 := ((unhide HBX).below ((Below.refl wr.heap.size wr).drew.alloc (Nat.le_refl _) (Obj.cells #[.int .i64 (xf : Int), .int .i64 (xt : Int)] 83))).kept (Kept.of_grown hgrow14) (fun e => hne e); have t0 := U14.cell 4 _ rfl; have tf := U14.froz 4))
              all_goals
                obtain ⟨s1, s2⟩ := unhide HAP _ w14 (.slice (some ⟨g14, 0, none⟩) (LM.length + 1) cap14) ((Below.refl wr.heap.size wr).drew.alloc (Nat.le_refl _) _) hgrow14 hown14 (fun g hg => by
                  have e : g14 = g := by simpa [Value.ownBlock] using hg
                  subst e
                  rcases hat14 with h | h
                  · exact .inl h
                  · exact .inr (by omega))
                have HS1 : Hid (RunAt (w14.setCell ⟨b, 4, none⟩ (.slice (some ⟨g14, 0, none⟩) (LM.length + 1) cap14)) b lo aQ cQ s Q y (openN N j) (M ++ innerTo N M j (q + 1)) k d { vv with m := .slice (some ⟨g14, 0, none⟩) (LM.length + 1) cap14 }) := by
                  show RunAt _ _ _ _ _ _ _ _ _ _ _ _ _
                  rw [unhide HIS2]; exact s1
                have HA3 : Hid (∀ g, (Value.slice (some ⟨g14, 0, none⟩) (LM.length + 1) cap14).ownBlock = some g → vv.m.ownBlock = some g ∨ w.heap.size ≤ g) := fun g hg => by
                  have e : g14 = g := by simpa [Value.ownBlock] using hg
                  subst e
                  rcases hat14 with h | h
                  · exact unhide HAT2 _ h
                  · exact .inr (by omega)
                have HX3 := hide ((unhide HX).kept_alien s2 (fun i hi => by
                  rcases hi with rfl | hi
                  · exact (unhide HBX).alien run_types.2.1
                  · exact own_alien (unhide HOW) (run_types.2.2.2.2.1).symm i hi))
                have HK3 : Hid (Kept (Foot b vv) w (w14.setCell ⟨b, 4, none⟩ (.slice (some ⟨g14, 0, none⟩) (LM.length + 1) cap14))) := ⟨s2.1.trans (unhide HK).1, s2.2.1.trans (unhide HK).2.1, s2.2.2.1.trans (unhide HK).2.2.1, Nat.le_trans (unhide HK).2.2.2.1 s2.2.2.2.1, fun i hi hnf => (s2.2.2.2.2 i (Nat.lt_of_lt_of_le hi hzr) (fun hh => by
                  rcases hh with rfl | hh
                  · exact hnf (.inl rfl)
                  · rcases unhide HAT2 i hh with h2 | h2
                    · exact hnf (.inr (.inr (.inr h2)))
                    · omega)).trans ((unhide HK).2.2.2.2 i hi hnf)⟩
                have hz3 : w.heap.size ≤ (w14.setCell ⟨b, 4, none⟩ (.slice (some ⟨g14, 0, none⟩) (LM.length + 1) cap14)).heap.size := Nat.le_trans hzr s2.2.2.2.1
                clear s1 s2 U14 t0 tf hown14 hgrow14
                go_wp2_with fail
                exact ⟨⟨q + 1, _, by go_num, by omega, HS1, HA3, HX3, HK3, hz3⟩, by simp [intOf]; omega⟩
            · have hqq : q = p / 2 := by omega
              have hq1 : ¬ ((2 * q + 1 : Nat) : Int) < (p : Int) := by omega
              have HFIN : Hid (RunAt wr b lo aQ cQ s Q y (openN N j) (openM N M j) k d { vv with m := v' }) := by
                show RunAt _ _ _ _ _ _ _ _ _ _ _ _ _
                have e : openM N M j = M ++ innerTo N M j q := by
                  unfold openM innerOf innerTo
                  rw [hqq, unhide HRL]
                rw [e]; exact unhide HR
              clear hqq
              go_wp2
              go_end0
              exact ⟨rfl, ⟨v', unhide HFIN, unhide HAT2⟩, unhide HK⟩
end
theorem top_eq (N : List Nd) (v : Nat) : top N v = if (v : Int) < upA N v ∧ upA N v < (N.length : Int) then top N (upA N v).toNat else v := by
  by_cases h : (v : Int) < upA N v ∧ upA N v < (N.length : Int)
  · rw [top, dif_pos h, if_pos h]
  · rw [top, dif_neg h, if_neg h]
theorem win_eq (N : List Nd) (v x : Nat) : win N v x = if v = x then true else if (v : Int) < upA N v ∧ upA N v < (N.length : Int) then win N (upA N v).toNat x else false := by
  by_cases hx : v = x
  · rw [win, if_pos hx, if_pos hx]
  · by_cases h : (v : Int) < upA N v ∧ upA N v < (N.length : Int)
    · rw [win, if_neg hx, dif_pos h, if_neg hx, if_pos h]
    · rw [win, if_neg hx, dif_neg h, if_neg hx, if_neg h]
theorem top_same {N N' : List Nd} (hl : N'.length = N.length) (hu : ∀ i, upA N' i = upA N i) : ∀ v, top N' v = top N v := by
  have key : ∀ k v, N.length - v ≤ k → top N' v = top N v := by
    intro k
    induction k with
    | zero =>
      intro v hk
      rw [top_eq N' v, top_eq N v, hu, hl, if_neg (by omega), if_neg (by omega)]
    | succ k ih =>
      intro v hk
      rw [top_eq N' v, top_eq N v, hu, hl]
      by_cases h : (v : Int) < upA N v ∧ upA N v < (N.length : Int)
      · rw [if_pos h, if_pos h]; exact ih _ (by omega)
      · rw [if_neg h, if_neg h]
  exact fun v => key _ v (Nat.le_refl _)
theorem win_same {N N' : List Nd} (hl : N'.length = N.length) (hu : ∀ i, upA N' i = upA N i) (x : Nat) : ∀ v, win N' v x = win N v x := by
  have key : ∀ k v, N.length - v ≤ k → win N' v x = win N v x := by
    intro k
    induction k with
    | zero =>
      intro v hk
      rw [win_eq N' v, win_eq N v, hu, hl]
      by_cases hx : v = x
      · rw [if_pos hx, if_pos hx]
      · rw [if_neg hx, if_neg hx, if_neg (by omega), if_neg (by omega)]
    | succ k ih =>
      intro v hk
      rw [win_eq N' v, win_eq N v, hu, hl]
      by_cases hx : v = x
      · rw [if_pos hx, if_pos hx]
      · rw [if_neg hx, if_neg hx]
        by_cases h : (v : Int) < upA N v ∧ upA N v < (N.length : Int)
        · rw [if_pos h, if_pos h]; exact ih _ (by omega)
        · rw [if_neg h, if_neg h]
  exact fun v => key _ v (Nat.le_refl _)
def Alike (N N' : List Nd) : Prop := N'.length = N.length ∧ ∀ i, (nd N' i).ring = (nd N i).ring ∧ (nd N' i).links = (nd N i).links ∧ (nd N' i).base = (nd N i).base ∧ (nd N' i).up = (nd N i).up ∧ (nd N' i).gone = (nd N i).gone
theorem Alike.up {N N' : List Nd} (h : Alike N N') : ∀ i, upA N' i = upA N i := fun i => (h.2 i).2.2.2.1
theorem Alike.top {N N' : List Nd} (h : Alike N N') : ∀ v, Sv.top N' v = Sv.top N v := top_same h.1 h.up
theorem Alike.refl (N : List Nd) : Alike N N := ⟨rfl, fun _ => ⟨rfl, rfl, rfl, rfl, rfl⟩⟩
theorem Alike.trans {A B C : List Nd} (h : Alike A B) (k : Alike B C) : Alike A C :=
  ⟨k.1.trans h.1, fun i => ⟨(k.2 i).1.trans (h.2 i).1, (k.2 i).2.1.trans (h.2 i).2.1, (k.2 i).2.2.1.trans (h.2 i).2.2.1, (k.2 i).2.2.2.1.trans (h.2 i).2.2.2.1, (k.2 i).2.2.2.2.trans (h.2 i).2.2.2.2⟩⟩
def setZ (N : List Nd) (j : Nat) (u : Int) : List Nd := N.set j { nd N j with z := u }
theorem alike_z (N : List Nd) (j : Nat) (u : Int) (hj : j < N.length) : Alike N (setZ N j u) := by
  refine ⟨by simp [setZ], fun i => ?_⟩
  unfold setZ
  rw [nd_set hj]
  by_cases h : i = j
  · subst h; rw [if_pos rfl]; exact ⟨rfl, rfl, rfl, rfl, rfl⟩
  · rw [if_neg h]; exact ⟨rfl, rfl, rfl, rfl, rfl⟩
theorem Inv.alike {s : Nat} {N N' : List Nd} {M : List Lk} (h : Inv s N M) (a : Alike N N') : Inv s N' M := by
  have hl := a.1
  have hu := a.up
  have ht := a.top
  have hw := win_same hl hu
  refine ⟨by rw [hl]; exact h.ge, fun v hv => by rw [hu, hl]; exact h.ups v (by omega), fun v hv h0 => ?_, fun v hv h0 => ?_, fun v hv h0 => ?_, fun v hv => by rw [(a.2 v).2.2.2.2]; exact h.ver v hv, fun v hv => by rw [(a.2 v).2.2.1]; exact h.bas v (by omega), fun q h1 h2 h3 => ?_, h.fin, ?_⟩
  · rw [hu] at h0 ⊢
    rw [(a.2 _).1]; exact h.inr v (by omega) h0
  · rw [hu] at h0 ⊢
    rw [(a.2 _).2.2.2.2]; exact h.ali v (by omega) h0
  · rw [hu]
    rw [(a.2 v).2.2.2.2] at h0
    exact h.gon v (by omega) h0
  · rw [(a.2 q).2.2.2.2] at h3
    have K := h.rings q h1 (by omega) h3
    have er := (a.2 q).1
    have el := (a.2 q).2.1
    refine ⟨fun x hx => ?_, by rw [er]; exact K.nodup, by rw [er]; exact K.odd, by rw [er, el]; exact K.len, ?_⟩
    · rw [er] at hx
      rw [hu]; exact K.mem x hx
    · simp only [er, el]
      intro i i0 i1 i2
      obtain ⟨w1, w2, f1, f2⟩ := K.lk i i0 i1 i2
      exact ⟨by rw [hw]; exact w1, by rw [hw]; exact w2, f1, f2⟩
  · have e : tops N' M = tops N M := by
      unfold tops
      exact List.map_congr_left (fun v _ => ht v)
    rw [e]; exact h.mat
section
variable {w : World} {b lo : Nat} {aQ : Option Addr} {cQ s : Nat} {Q : List EdgeI} {y : List Int} {N : List Nd} {M : List Lk} {k : Int} {d : Bool} {vv : Vs}
theorem RunAt.setZ {g c j : Nat} (h : RunAt w b lo aQ cQ s Q y N M k d vv) (hlo : lo ≤ w.heap.size) (hv : vv.n = .slice (some ⟨g, 0, none⟩) N.length c) (hj : j < N.length) (u : Int) :
    RunAt (w.setCell ⟨g, j * 6 + 3, none⟩ (.int .i64 u)) b lo aQ cQ s Q y (Sv.setZ N j u) M k d vv ∧ Kept (fun k => k = g) w (w.setCell ⟨g, j * 6 + 3, none⟩ (.int .i64 u)) :=
  h.setNode hlo hv ((ndsV_set vv.rs vv.ls N j h.rl h.ll hj).2.1 u) (by simp [Sv.setZ]) (set_same hj rfl rfl)
theorem RunAt.setY {g c j : Nat} (h : RunAt w b lo aQ cQ s Q y N M k d vv) (hlo : lo ≤ w.heap.size) (hv : vv.y = .slice (some ⟨g, 0, none⟩) y.length c) (u : Int) :
    RunAt (w.setCell ⟨g, j, none⟩ (.int .i64 u)) b lo aQ cQ s Q (y.set j u) N M k d vv ∧ Kept (fun k => k = g) w (w.setCell ⟨g, j, none⟩ (.int .i64 u)) := by
  obtain ⟨t1, t2, t3, t4, t5, t6⟩ := run_types
  have hys := h.ys
  rw [hv] at hys
  have kk : Kept (fun k => k = g) w (w.setCell ⟨g, j, none⟩ (.int .i64 u)) := Kept.set _ _ _ _ rfl
  have al : ∀ e : TypeId, (3 : Nat) ≠ e → ∀ k, k = g → Alien w k e := fun e he k hk => by subst hk; exact own_alien hys he k rfl
  have hg := (hys.lt g rfl).1
  have hst := (hys.stored j (.int .i64 u)).1
  rw [intsV_set] at hst
  refine ⟨⟨h.box.kept_alien kk (al _ t1.symm), h.edges.below (kk.below (B := lo) hlo (fun i hi => by omega)) (Nat.le_refl _), ?_, kk.own_alien h.ns (al _ t4.symm), kk.own_alien h.ms (al _ t6.symm), h.rl, h.ll, fun i h1 h2 => kk.own (h.rings i h1 h2) (fun g' hg' e => ?_), fun i h1 h2 => kk.own_alien (h.lnks i h1 h2) (al _ t6.symm), h.d1, h.d2, h.blo⟩, kk⟩
  · rw [hv, List.length_set]; exact hst
  · have := h.d1 _ (List.getElem_mem h2) g' hg'
    rw [hv] at this
    exact this (by rw [e]; rfl)
theorem RunAt.setDone (h : RunAt w b lo aQ cQ s Q y N M k d vv) (hlo : lo ≤ w.heap.size) (u : Bool) :
    RunAt (w.setCell ⟨b, 6, none⟩ (.bool u)) b lo aQ cQ s Q y N M k u vv ∧ Kept (fun i => i = b) w (w.setCell ⟨b, 6, none⟩ (.bool u)) := by
  obtain ⟨t1, t2, t3, t4, t5, t6⟩ := run_types
  have kk : Kept (fun i => i = b) w (w.setCell ⟨b, 6, none⟩ (.bool u)) := Kept.set _ _ _ _ rfl
  have al : ∀ e : TypeId, (78 : Nat) ≠ e → ∀ i, i = b → Alien w i e := fun e he i hi => by subst hi; exact h.box.alien he
  exact ⟨⟨h.box.set 6 _, h.edges.below (kk.below (B := lo) hlo (fun i hi => by have := h.blo; omega)) (Nat.le_refl _), kk.own_alien h.ys (al _ t1), kk.own_alien h.ns (al _ t2), kk.own_alien h.ms (al _ t3), h.rl, h.ll, fun j h1 h2 => kk.own_alien (h.rings j h1 h2) (al _ t1), fun j h1 h2 => kk.own_alien (h.lnks j h1 h2) (al _ t3), h.d1, h.d2, h.blo⟩, kk⟩
theorem RunAt.setRounds (h : RunAt w b lo aQ cQ s Q y N M k d vv) (hlo : lo ≤ w.heap.size) (u : Int) :
    RunAt (w.setCell ⟨b, 5, none⟩ (.int .i64 u)) b lo aQ cQ s Q y N M u d vv ∧ Kept (fun i => i = b) w (w.setCell ⟨b, 5, none⟩ (.int .i64 u)) := by
  obtain ⟨t1, t2, t3, t4, t5, t6⟩ := run_types
  have kk : Kept (fun i => i = b) w (w.setCell ⟨b, 5, none⟩ (.int .i64 u)) := Kept.set _ _ _ _ rfl
  have al : ∀ e : TypeId, (78 : Nat) ≠ e → ∀ i, i = b → Alien w i e := fun e he i hi => by subst hi; exact h.box.alien he
  exact ⟨⟨h.box.set 5 _, h.edges.below (kk.below (B := lo) hlo (fun i hi => by have := h.blo; omega)) (Nat.le_refl _), kk.own_alien h.ys (al _ t1), kk.own_alien h.ns (al _ t2), kk.own_alien h.ms (al _ t3), h.rl, h.ll, fun j h1 h2 => kk.own_alien (h.rings j h1 h2) (al _ t1), fun j h1 h2 => kk.own_alien (h.lnks j h1 h2) (al _ t3), h.d1, h.d2, h.blo⟩, kk⟩
end
def adjY1 (N : List Nd) (t : Tp) (d : Int) (v : Nat) (y : List Int) : List Int :=
  if (lab t (top N v) == 1) = true then y.set v (wrap64 (y.getD v 0 - d)) else if (lab t (top N v) == 2) = true then y.set v (wrap64 (y.getD v 0 + d)) else y
def adjY (N : List Nd) (t : Tp) (d : Int) : List Nat → List Int → List Int
  | [], y => y
  | v :: r, y => adjY N t d r (adjY1 N t d v y)
theorem adjY1_length (N : List Nd) (t : Tp) (d : Int) (v : Nat) (y : List Int) : (adjY1 N t d v y).length = y.length := by
  unfold adjY1
  split
  · simp
  · split <;> simp
theorem adjY_step (N : List Nd) (t : Tp) (d : Int) (s j : Nat) (y : List Int) (h : j < s) : adjY N t d (List.range' j (s - j)) y = adjY N t d (List.range' (j + 1) (s - (j + 1))) (adjY1 N t d j y) := by
  rw [range_step j _ h]; rfl
def adjZ1 (t : Tp) (d : Int) (i : Nat) (N : List Nd) : List Nd :=
  if (!(nd N i).gone && decide (upA N i < 0)) = true then (if (lab t i == 1) = true then setZ N i (wrap64 ((nd N i).z + wrap64 (2 * d))) else if (lab t i == 2) = true then setZ N i (wrap64 ((nd N i).z - wrap64 (2 * d))) else N) else N
def adjZ (t : Tp) (d : Int) : List Nat → List Nd → List Nd
  | [], N => N
  | i :: r, N => adjZ t d r (adjZ1 t d i N)
theorem adjZ_step (t : Tp) (d : Int) (n j : Nat) (N : List Nd) (h : j < n) : adjZ t d (List.range' j (n - j)) N = adjZ t d (List.range' (j + 1) (n - (j + 1))) (adjZ1 t d j N) := by
  rw [range_step j _ h]; rfl
theorem adjZ1_alike (t : Tp) (d : Int) (i : Nat) (N : List Nd) (hi : i < N.length) : Alike N (adjZ1 t d i N) := by
  unfold adjZ1
  split
  · split
    · exact alike_z N i _ hi
    · split
      · exact alike_z N i _ hi
      · exact Alike.refl N
  · exact Alike.refl N
theorem first_spec (N : List Nd) (lb : List Nat) : ∀ (L : List Nat) (v : Int), firstF N lb L = v → 0 ≤ v → ∃ i ∈ L, v = (i : Int) ∧ (nd N i).gone = false ∧ upA N i < 0
  | [], v, h, h0 => by
    have : v = -1 := h.symm
    omega
  | i :: r, v, h, h0 => by
    rw [firstF] at h
    split at h
    · rename_i hc
      simp only [Bool.and_eq_true, Bool.not_eq_true', decide_eq_true_eq] at hc
      exact ⟨i, by simp, h.symm, hc.1.1.1, hc.1.1.2⟩
    · obtain ⟨j, hj, e⟩ := first_spec N lb r v h h0
      exact ⟨j, by simp [hj], e⟩
def adjusted (s : Nat) (Q : List EdgeI) (y : List Int) (N : List Nd) (M : List Lk) (t : Tp) (dn : Bool) : List Int × List Nd × List Lk × Bool :=
  if stepD s Q y N t < 0 then (y, N, M, true)
  else if (stepV s y N t == stepD s Q y N t) = true then (adjY N t (stepD s Q y N t) (List.range' 0 (s - 0)) y, adjZ t (stepD s Q y N t) (List.range' s (N.length - s)) N, M, true)
  else if 0 ≤ firstOf s (adjZ t (stepD s Q y N t) (List.range' s (N.length - s)) N) t.label then (adjY N t (stepD s Q y N t) (List.range' 0 (s - 0)) y, openN (adjZ t (stepD s Q y N t) (List.range' s (N.length - s)) N) (firstOf s (adjZ t (stepD s Q y N t) (List.range' s (N.length - s)) N) t.label).toNat, openM (adjZ t (stepD s Q y N t) (List.range' s (N.length - s)) N) M (firstOf s (adjZ t (stepD s Q y N t) (List.range' s (N.length - s)) N) t.label).toNat, dn)
  else (adjY N t (stepD s Q y N t) (List.range' 0 (s - 0)) y, adjZ t (stepD s Q y N t) (List.range' s (N.length - s)) N, M, dn)
theorem na_intsAt {w : World} {B : Nat} {v : Value} {L : List Nat} {a : Option Addr} {c : Nat} (h : NaOwn w B v L) (e : v = .slice a L.length c) : IntsAt w a L.length w.heap.size (natI L) := by
  refine ⟨by simp [natI], fun j hj => ?_⟩
  have hj' : j < L.length := by simpa [natI] using hj
  obtain ⟨g, c', e', hg, hc⟩ := na_cells h (by omega)
  rw [e] at e'
  simp at e'
  refine ⟨g, 0, e'.1, hg, ?_⟩
  rw [Nat.zero_add, hc j hj', getD_at _ _ _ hj']
  simp [natI]
def Apart (b : Nat) (vv : Vs) (bt : Nat) (vl va vr : Value) : Prop := ∀ i, Foot b vv i → i ≠ bt ∧ vl.ownBlock ≠ some i ∧ va.ownBlock ≠ some i ∧ vr.ownBlock ≠ some i
theorem TpAt.kept {S : Nat → Prop} {w w' : World} {bt lt : Nat} {t : Tp} {vl va vr : Value} (h : TpAt w bt lt t vl va vr) (hk : Kept S w w') (hS : ∀ i, S i → i ≠ bt ∧ vl.ownBlock ≠ some i ∧ va.ownBlock ≠ some i ∧ vr.ownBlock ≠ some i) : TpAt w' bt lt t vl va vr :=
  ⟨h.box.kept hk (fun hs => (hS _ hs).1 rfl), hk.own h.lab (fun g hg hs => (hS g hs).2.1 hg), hk.own h.ahd (fun g hg hs => (hS g hs).2.2.1 hg), hk.own h.rot (fun g hg hs => (hS g hs).2.2.2 hg)⟩
section
variable {w : World} {b lo : Nat} {aQ : Option Addr} {cQ s : Nat} {Q : List EdgeI} {y : List Int} {N : List Nd} {M : List Lk} {k : Int} {d : Bool} {vv : Vs}
set_option maxRecDepth 100000 in
set_option maxHeartbeats 8000000 in
theorem adjust_any (h : RunAt w b lo aQ cQ s Q y N M k d vv) (hlo : lo ≤ w.heap.size) (I : Inv s N M) (hn : N.length ≤ 1000000) (hs9 : s ≤ 1000000) (hM : M.length ≤ 1000000) (hy : y.length = s) (hQn : Q.length ≤ 1000000) (hQ : ∀ e ∈ Q, (0 ≤ e.A ∧ e.A < (s : Int)) ∧ 0 ≤ e.B ∧ e.B < (s : Int)) {bt lt : Nat} {t : Tp} {vl va vr : Value} (hT : TpAt w bt lt t vl va vr) (hl : t.label.length = N.length) (hap : Apart b vv bt vl va vr) :
    Calls Try.prog 72 #[.pointer (some ⟨b, 0, none⟩), .pointer (some ⟨bt, 0, none⟩)] w fun u w' => u = .returned (.tuple #[]) ∧ (∃ v', RunAt w' b lo aQ cQ s Q (adjusted s Q y N M t d).1 (adjusted s Q y N M t d).2.1 (adjusted s Q y N M t d).2.2.1 k (adjusted s Q y N M t d).2.2.2 { vv with m := v' } ∧ (∀ g, v'.ownBlock = some g → vv.m.ownBlock = some g ∨ w.heap.size ≤ g)) ∧ Kept (Foot b vv) w w' := by
  obtain ⟨AD, hAD⟩ : ∃ AD, AD = adjusted s Q y N M t d := ⟨_, rfl⟩
  rw [← hAD]
  unfold adjusted at hAD
  have HAD := hide hAD
  clear hAD
  have SA := hide (step_any h hlo I.ups hn I.ge hs9 hy hQn hQ hT hl)
  generalize stepD s Q y N t = D at SA HAD
  generalize stepV s y N t = VV at SA HAD
  have HSY : Hid (∀ j y, j < s → adjY N t D (List.range' j (s - j)) y = adjY N t D (List.range' (j + 1) (s - (j + 1))) (adjY1 N t D j y)) := fun j y hj => adjY_step N t D s j y hj
  obtain ⟨Y1, hY1⟩ : ∃ Y1, Y1 = adjY N t D (List.range' 0 (s - 0)) y := ⟨_, rfl⟩
  have HY1 := hide hY1
  obtain ⟨NZ, hNZ⟩ : ∃ NZ, NZ = adjZ t D (List.range' s (N.length - s)) N := ⟨_, rfl⟩
  have HNZ := hide hNZ
  rw [← hY1, ← hNZ] at HAD
  clear hY1 hNZ
  have HSZ : Hid (∀ j N1, j < N.length → adjZ t D (List.range' j (N.length - j)) N1 = adjZ t D (List.range' (j + 1) (N.length - (j + 1))) (adjZ1 t D j N1)) := fun j N1 hj => adjZ_step t D N.length j N1 hj
  have HEZ : Hid (∀ N1, adjZ t D (List.range' N.length (N.length - N.length)) N1 = N1) := fun N1 => by rw [Nat.sub_self]; rfl
  have HEYY : Hid (∀ y1, adjY N t D (List.range' s (s - s)) y1 = y1) := fun y1 => by rw [Nat.sub_self]; rfl
  have HR0 := hide (fun w1 (hb : Below w.heap.size w w1) => h.below hb hlo)
  have HT0 := hide (fun w1 (hb : Below w.heap.size w w1) => hT.below hb)
  have HTA := hide (fun w1 y1 (h1 : RunAt w1 b lo aQ cQ s Q y1 N M k d vv) v hv => top_any h1 I.ups hn v hv)
  have HTL : Hid (∀ v, v < N.length → top N v < N.length) := fun v hv => (top_spec I.ups v hv).1
  obtain ⟨al, cl, el⟩ := na_slice hT.lab
  obtain ⟨ay, cy, ey⟩ : ∃ a c, vv.y = .slice a s c := by
    rcases h.ys.2 with ⟨e, h0⟩ | ⟨g, cap, cur, e, _⟩
    · exact ⟨none, 0, by rw [e, ← hy, h0]⟩
    · exact ⟨_, _, by rw [e, hy]⟩
  have hblt := h.box.lt
  have hbt := hT.box.lt
  have hge := I.ge
  have HEY := hide ey
  have HEL := hide el
  have HI := hide I
  have HAP := hide hap
  have HLL := hide hl
  have HYL := hide hy
  clear h hT I ey el hap hl hQ hy
  go_enter Try.func72, Try.ntmps72
  go_wp2_with fail
  refine (unhide SA).mono ?_
  rintro u w1 ⟨rfl, b1⟩
  by_cases hneg : D < 0
  · have hAD : Hid (AD = (y, N, M, true)) := by show _ = _; rw [unhide HAD, if_pos hneg]
    obtain ⟨s1, s2⟩ := (unhide HR0 w1 b1).setDone (Nat.le_trans hlo b1.size) true
    have c6 : w1.cell? ⟨b, 6, none⟩ = some (.bool d) := (unhide HR0 w1 b1).box.cell 6 _ rfl
    have f6 := (unhide HR0 w1 b1).box.froz 6
    have HS1 : Hid (RunAt (w1.setCell ⟨b, 6, none⟩ (.bool true)) b lo aQ cQ s Q AD.1 AD.2.1 AD.2.2.1 k AD.2.2.2 { vv with m := vv.m }) := by
      show RunAt _ _ _ _ _ _ _ _ _ _ _ _ _
      rw [unhide hAD]; exact s1
    have HS2 : Hid (Kept (Foot b vv) w (w1.setCell ⟨b, 6, none⟩ (.bool true))) := (Kept.of_below b1).trans (s2.weak (fun i hi => .inl hi))
    clear s1 s2
    go_wp2_with fail
    go_returns
    exact ⟨rfl, ⟨vv.m, unhide HS1, fun g hg => .inl hg⟩, unhide HS2⟩
  · rw [if_neg hneg] at HAD
    have r1 := unhide HR0 w1 b1
    have t1 := unhide HT0 w1 b1
    have HR1 := hide r1
    have HT1 := hide t1
    have K1 : Kept (Foot b vv) w w1 := Kept.of_below b1
    clear r1 t1
    go_wp2_with fail
    go_loopw [6] (fun a6 wr => ∃ (j : Nat) (y1 : List Int), a6 = .int .i64 (j : Int) ∧ j ≤ s ∧ Hid (y1.length = s) ∧ Hid (Y1 = adjY N t D (List.range' j (s - j)) y1) ∧ Hid (RunAt wr b lo aQ cQ s Q y1 N M k d vv) ∧ Hid (TpAt wr bt lt t vl va vr) ∧ Kept (Foot b vv) w wr) (fun a6 _ => s - (intOf a6).toNat)
    case atStart => exact ⟨0, y, rfl, Nat.zero_le _, HYL, HY1, HR1, HT1, K1⟩
    case round =>
      obtain ⟨j, y1, rfl, hj, HL1, HA, HR, HT, hk⟩ := hrel
      have p0 : wr.cell? ⟨b, 0, none⟩ = some (.int .i64 (s : Int)) := (unhide HR).box.cell 0 _ rfl
      by_cases hlt : j < s
      · have hjN : j < N.length := by omega
        have hj0 : (0 : Int) ≤ (j : Int) := by omega
        have hj1 : (j : Int) < (s : Int) := by omega
        have HA2 := hide ((unhide HA).trans (unhide HSY j y1 hlt))
        have HE1 : Hid (adjY1 N t D j y1 = if (lab t (top N j) == 1) = true then y1.set j (wrap64 (y1.getD j 0 - D)) else if (lab t (top N j) == 2) = true then y1.set j (wrap64 (y1.getD j 0 + D)) else y1) := rfl
        have HLE := hide ((adjY1_length N t D j y1).trans (unhide HL1))
        have TJ := hide (fun w1 (hb1 : Below wr.heap.size wr w1) => unhide HTA w1 y1 ((unhide HR).below hb1 (Nat.le_trans hlo hk.2.2.2.1)) j hjN)
        have htl := unhide HTL j hjN
        generalize adjY1 N t D j y1 = y2 at HA2 HE1 HLE
        generalize top N j = tj at TJ htl HE1
        obtain ⟨gl, cl', e', hgl, hcl⟩ := na_cells (unhide HT).lab (by rw [unhide HLL]; omega)
        rw [unhide HEL] at e'
        simp at e'
        obtain ⟨rfl, rfl⟩ := e'
        have cl0 := hcl tj (by rw [unhide HLL]; exact htl)
        have l0 := (unhide HT).box.cell 0 _ rfl
        rw [unhide HEL, unhide HLL] at l0
        obtain ⟨gy, cy', e', hgy, q2, hcy⟩ := (unhide HR).ycells (by rw [unhide HL1]; omega)
        rw [unhide HEY] at e'
        simp at e'
        obtain ⟨rfl, _, rfl⟩ := e'
        rw [unhide HL1] at q2
        have cy0 := hcy j (by rw [unhide HL1]; exact hlt)
        have hblr := (unhide HR).box.lt
        have hbtr := (unhide HT).box.lt
        have hgne : lab t tj = t.label.getD tj 0 := rfl
        rw [← hgne] at cl0
        clear hcl hcy hgne
        generalize y1.getD j 0 = yj at cy0 HE1
        have hl1 : ((lab t tj : Int) == 1) = (lab t tj == 1) := nat_beq (lab t tj) 1
        have hl2 : ((lab t tj : Int) == 2) = (lab t tj == 2) := nat_beq (lab t tj) 2
        generalize lab t tj = lj at cl0 HE1 hl1 hl2
        have ht0 : (0 : Int) ≤ (tj : Int) := by omega
        obtain ⟨n, hN⟩ : ∃ n, n = N.length := ⟨_, rfl⟩
        rw [← hN] at l0 htl
        clear hN
        have ht1 : (tj : Int) < (n : Int) := by omega
        have k0 : ∀ d : Grown wr.heap.size wr, d.w.cell? ⟨bt, 0, none⟩ = some (.slice (some ⟨gl, 0, none⟩) n cl) := fun d => d.cell hbtr l0
        have k1 : ∀ d : Grown wr.heap.size wr, d.w.cell? ⟨gl, tj, none⟩ = some (.int .i64 (lj : Int)) := fun d => d.cell hgl cl0
        go_wp2_with fail
        refine wp_region_grown wr.heap.size (by kernel_rfl) (by kernel_rfl) ?_
        repeat (go_big_quiet_step (first
          | (go_at_call 73; exact Calls.grown_same (unhide TJ _ (Grown.below _)))))
        refine wpQuiet_nil ?_
        rintro w5 ⟨d5, rfl⟩
        obtain ⟨W5, hb5⟩ := d5
        dsimp only
        clear k0 k1
        have hzr : lo ≤ wr.heap.size := Nat.le_trans hlo hk.2.2.2.1
        have z5 := hb5.size
        have R5 := hide ((unhide HR).below hb5 hzr)
        have T5 := hide ((unhide HT).below hb5)
        have K5 : Kept (Foot b vv) w W5 := hk.trans (Kept.of_below hb5)
        have q5 : W5.cell? ⟨b, 2, none⟩ = some (.slice (some ⟨gy, 0, none⟩) s cy) := (hb5.cell (p := ⟨b, 2, none⟩) hblr).trans q2
        have y5 : W5.cell? ⟨gy, j, none⟩ = some (.int .i64 yj) := (hb5.cell (p := ⟨gy, j, none⟩) hgy).trans cy0
        have hvy : vv.y = .slice (some ⟨gy, 0, none⟩) y1.length cy := by rw [unhide HEY, unhide HL1]
        have f5 : W5.frozen? ⟨gy, j, none⟩ = false := by
          have := (unhide R5).ys
          rw [hvy] at this
          exact this.frozenAt j
        have SY := hide (fun u => (unhide R5).setY (j := j) (Nat.le_trans hzr z5) hvy u)
        have HFT : Hid (Foot b vv gy) := .inr (.inl (by rw [hvy]; rfl))
        clear hvy cy0 q2 l0 cl0 p0
        have HWS : Hid (∀ u : Int, RunAt (W5.setCell ⟨gy, j, none⟩ (.int .i64 u)).drew b lo aQ cQ s Q (y1.set j u) N M k d vv ∧ TpAt (W5.setCell ⟨gy, j, none⟩ (.int .i64 u)).drew bt lt t vl va vr ∧ Kept (Foot b vv) w (W5.setCell ⟨gy, j, none⟩ (.int .i64 u)).drew) := fun u => by
          obtain ⟨s1, s2⟩ := unhide SY u
          have s3 : Kept (Foot b vv) W5 (W5.setCell ⟨gy, j, none⟩ (.int .i64 u)) := s2.weak (fun i hi => by rw [hi]; exact unhide HFT)
          exact ⟨s1.below (Below.refl _ _).drew (by simp [World.setCell]; omega), (((unhide T5).kept s3 (unhide HAP)).below (Below.refl _ _).drew), K5.trans s3⟩
        generalize (lj == 1) = b1' at hl1 HE1
        generalize (lj == 2) = b2' at hl2 HE1
        cases b1' with
        | true =>
          have e2 : Hid (y2 = y1.set j (wrap64 (yj - D))) := unhide HE1
          have W1 := hide (unhide HWS (wrap64 (yj - D)))
          rw [← unhide e2] at W1
          go_wp2_with fail
          go_big_region
          all_goals
            go_wp2_with fail
            exact ⟨⟨j + 1, y2, by go_num, by omega, HLE, HA2, (unhide W1).1, (unhide W1).2.1, (unhide W1).2.2⟩, by simp [intOf]; omega⟩
        | false =>
          cases b2' with
          | true =>
            have e2 : Hid (y2 = y1.set j (wrap64 (yj + D))) := unhide HE1
            have W1 := hide (unhide HWS (wrap64 (yj + D)))
            rw [← unhide e2] at W1
            go_wp2_with fail
            go_big_region
            all_goals
              go_wp2_with fail
              exact ⟨⟨j + 1, y2, by go_num, by omega, HLE, HA2, (unhide W1).1, (unhide W1).2.1, (unhide W1).2.2⟩, by simp [intOf]; omega⟩
          | false =>
            have e2 : y2 = y1 := unhide HE1
            subst e2
            go_wp2_with fail
            exact ⟨⟨j + 1, y2, by go_num, by omega, HLE, HA2, R5, T5, K5⟩, by simp [intOf]; omega⟩
      · obtain rfl : j = s := by omega
        have hj1 : ¬ (j : Int) < (j : Int) := by omega
        have hyy : Y1 = y1 := (unhide HA).trans (unhide HEYY y1)
        subst hyy
        clear HA HSY HEYY HY1
        obtain ⟨wq, hwq⟩ : ∃ W, W = wr := ⟨_, rfl⟩
        subst hwq
        obtain ⟨n, hN⟩ : ∃ n, n = N.length := ⟨_, rfl⟩
        rw [← hN] at HNZ HSZ HEZ HLL
        have HNN := hide hN
        have hnn : n ≤ 1000000 := by omega
        have hjn : j ≤ n := by omega
        clear hN
        go_wp2_with fail
        go_loopw [7] (fun a7 wr => ∃ (i : Nat) (N1 : List Nd), a7 = .int .i64 (i : Int) ∧ i ≤ n ∧ Hid (Alike N N1) ∧ Hid (NZ = adjZ t D (List.range' i (n - i)) N1) ∧ Hid (RunAt wr b lo aQ cQ j Q Y1 N1 M k d vv) ∧ Hid (TpAt wr bt lt t vl va vr) ∧ Kept (Foot b vv) w wr) (fun a7 _ => n - (intOf a7).toNat)
        case atStart => exact ⟨j, N, rfl, hjn, Alike.refl N, HNZ, HR, HT, hk⟩
        case round =>
          obtain ⟨i, N1, rfl, hi, HAL, HA, HR, HT, hk⟩ := hrel
          have hzr : lo ≤ wr.heap.size := Nat.le_trans hlo hk.2.2.2.1
          have hn1 : N1.length = n := (unhide HAL).1.trans (unhide HNN).symm
          obtain ⟨an, cn, en⟩ : ∃ a c, vv.n = .slice a n c := by
            rcases (unhide HR).ns.2 with ⟨e, h0⟩ | ⟨g, cap, cur, e, _⟩
            · exact ⟨none, 0, by rw [e, ← hn1, h0]⟩
            · exact ⟨_, _, by rw [e, hn1]⟩
          have p3 := (unhide HR).box.cell 3 _ rfl
          rw [en] at p3
          by_cases hlt : i < n
          · have hi0 : (0 : Int) ≤ (i : Int) := by omega
            have hi1 : (i : Int) < (n : Int) := by omega
            have HA2 := hide ((unhide HA).trans (unhide HSZ i N1 hlt))
            have HAL2 := hide ((unhide HAL).trans (adjZ1_alike t D i N1 (by omega)))
            have HE1 : Hid (adjZ1 t D i N1 = if (!(nd N1 i).gone && decide (upA N1 i < 0)) = true then (if (lab t i == 1) = true then setZ N1 i (wrap64 ((nd N1 i).z + wrap64 (2 * D))) else if (lab t i == 2) = true then setZ N1 i (wrap64 ((nd N1 i).z - wrap64 (2 * D))) else N1) else N1) := rfl
            generalize adjZ1 t D i N1 = N2 at HA2 HAL2 HE1
            have IT := hide (isTop_any (unhide HR) (by omega) i (by omega))
            obtain ⟨gn, cn', e', _, hgn, _, hcn⟩ := (unhide HR).node (by omega)
            have hvn : vv.n = .slice (some ⟨gn, 0, none⟩) N1.length cn' := e'
            rw [en] at e'
            simp at e'
            obtain ⟨rfl, _, rfl⟩ := e'
            have cz := (hcn i (by omega)).2.2.2.1
            have fz := (unhide HR).froz hvn (i * 6 + 3)
            have SZ := hide (fun u => (unhide HR).setZ hzr hvn (show i < N1.length by omega) u)
            have HFT : Hid (Foot b vv gn) := .inr (.inr (.inl (by rw [en]; rfl)))
            have HWS : Hid (∀ u : Int, RunAt (wr.setCell ⟨gn, i * 6 + 3, none⟩ (.int .i64 u)).drew b lo aQ cQ j Q Y1 (setZ N1 i u) M k d vv ∧ TpAt (wr.setCell ⟨gn, i * 6 + 3, none⟩ (.int .i64 u)).drew bt lt t vl va vr ∧ Kept (Foot b vv) w (wr.setCell ⟨gn, i * 6 + 3, none⟩ (.int .i64 u)).drew) := fun u => by
              obtain ⟨s1, s2⟩ := unhide SZ u
              have s3 : Kept (Foot b vv) wr (wr.setCell ⟨gn, i * 6 + 3, none⟩ (.int .i64 u)) := s2.weak (fun i hi => by rw [hi]; exact unhide HFT)
              exact ⟨s1.below (Below.refl _ _).drew (by simp [World.setCell]; omega), (((unhide HT).kept s3 (unhide HAP)).below (Below.refl _ _).drew), hk.trans s3⟩
            obtain ⟨gl, cl', e', hgl, hcl⟩ := na_cells (unhide HT).lab (by rw [unhide HLL]; omega)
            rw [unhide HEL] at e'
            simp at e'
            obtain ⟨rfl, rfl⟩ := e'
            have cl0 : wr.cell? ⟨gl, i, none⟩ = some (.int .i64 (lab t i : Int)) := hcl i (by rw [unhide HLL]; exact hlt)
            have l0 := (unhide HT).box.cell 0 _ rfl
            rw [unhide HEL, unhide HLL] at l0
            have hl1 : ((lab t i : Int) == 1) = (lab t i == 1) := nat_beq (lab t i) 1
            have hl2 : ((lab t i : Int) == 2) = (lab t i == 2) := nat_beq (lab t i) 2
            generalize lab t i = lj at cl0 HE1 hl1 hl2
            generalize (lj == 1) = b1' at hl1 HE1
            generalize (lj == 2) = b2' at hl2 HE1
            generalize (nd N1 i).z = z at cz HE1
            generalize (!(nd N1 i).gone && decide (upA N1 i < 0)) = it at IT HE1
            clear hcl hcn hvn en hn1
            go_wp2_with fail
            refine (unhide IT).mono ?_
            rintro u w6 ⟨rfl, rfl⟩
            cases it with
            | false =>
              have e2 : N2 = N1 := unhide HE1
              subst e2
              go_wp2_with fail
              exact ⟨⟨i + 1, N2, by go_num, by omega, HAL2, HA2, HR, HT, hk⟩, by simp [intOf]; omega⟩
            | true =>
              cases b1' with
              | true =>
                have e2 : Hid (N2 = setZ N1 i (wrap64 (z + wrap64 (2 * D)))) := unhide HE1
                have W1 := hide (unhide HWS (wrap64 (z + wrap64 (2 * D))))
                rw [← unhide e2] at W1
                go_wp2_with fail
                go_big_region
                all_goals
                  go_wp2_with fail
                  exact ⟨⟨i + 1, N2, by go_num, by omega, HAL2, HA2, (unhide W1).1, (unhide W1).2.1, (unhide W1).2.2⟩, by simp [intOf]; omega⟩
              | false =>
                cases b2' with
                | true =>
                  have e2 : Hid (N2 = setZ N1 i (wrap64 (z - wrap64 (2 * D)))) := unhide HE1
                  have W1 := hide (unhide HWS (wrap64 (z - wrap64 (2 * D))))
                  rw [← unhide e2] at W1
                  go_wp2_with fail
                  go_big_region
                  all_goals
                    go_wp2_with fail
                    exact ⟨⟨i + 1, N2, by go_num, by omega, HAL2, HA2, (unhide W1).1, (unhide W1).2.1, (unhide W1).2.2⟩, by simp [intOf]; omega⟩
                | false =>
                  have e2 : N2 = N1 := unhide HE1
                  subst e2
                  go_wp2_with fail
                  exact ⟨⟨i + 1, N2, by go_num, by omega, HAL2, HA2, HR, HT, hk⟩, by simp [intOf]; omega⟩
          · obtain rfl : i = n := by omega
            have hi1 : ¬ (i : Int) < (i : Int) := by omega
            have hzz : NZ = N1 := (unhide HA).trans (unhide HEZ N1)
            subst hzz
            clear HA HSZ HEZ HNZ en
            cases hq : (VV == D) with
            | true =>
              rw [hq, if_pos rfl] at HAD
              have hAD : Hid (AD = (Y1, NZ, M, true)) := HAD
              obtain ⟨s1, s2⟩ := (unhide HR).setDone hzr true
              have c6 : wr.cell? ⟨b, 6, none⟩ = some (.bool d) := (unhide HR).box.cell 6 _ rfl
              have f6 := (unhide HR).box.froz 6
              have HS1 : Hid (RunAt (wr.setCell ⟨b, 6, none⟩ (.bool true)) b lo aQ cQ j Q AD.1 AD.2.1 AD.2.2.1 k AD.2.2.2 { vv with m := vv.m }) := by
                show RunAt _ _ _ _ _ _ _ _ _ _ _ _ _
                rw [unhide hAD]; exact s1
              have HS2 : Hid (Kept (Foot b vv) w (wr.setCell ⟨b, 6, none⟩ (.bool true))) := hk.trans (s2.weak (fun i hi => .inl hi))
              clear s1 s2
              go_wp2_with fail
              go_returns
              exact ⟨rfl, ⟨vv.m, unhide HS1, fun g hg => .inl hg⟩, unhide HS2⟩
            | false =>
              rw [hq, if_neg (by simp)] at HAD
              have l0 := (unhide HT).box.cell 0 _ rfl
              rw [unhide HEL] at l0
              have hlen : t.label.length = i := unhide HLL
              have FA := hide (first_any (unhide HR) (by omega) (by omega) t.label al cl wr.heap.size (.inr (by omega)) (na_intsAt (unhide HT).lab (unhide HEL)))
              have IZ := hide ((unhide HI).alike (unhide HAL))
              have HFS := hide (fun v e h0 => first_spec NZ t.label (List.range' j (NZ.length - j)) v e h0)
              have HFE : Hid (firstF NZ t.label (List.range' j (NZ.length - j)) = firstOf j NZ t.label) := rfl
              generalize firstOf j NZ t.label = KK at FA HAD HFE
              rw [hlen] at l0 FA
              clear hlen
              go_wp2_with fail
              refine (unhide FA).mono ?_
              rintro u w6 ⟨rfl, rfl⟩
              by_cases hK : 0 ≤ KK
              · rw [if_pos hK] at HAD
                obtain ⟨q, hqm, e, ga, gt⟩ := unhide HFS KK (unhide HFE) hK
                subst e
                rw [Int.toNat_natCast] at HAD
                rw [List.mem_range'_1] at hqm
                have OA := hide (open_any (unhide HR) hzr (unhide IZ) (by omega) hM q hqm.1 (by omega) ga)
                go_wp2_with fail
                refine (unhide OA).mono ?_
                rintro u w7 ⟨rfl, ⟨v', r7, a7⟩, k7⟩
                have HR7 : Hid (RunAt w7 b lo aQ cQ j Q AD.1 AD.2.1 AD.2.2.1 k AD.2.2.2 { vv with m := v' }) := by
                  show RunAt _ _ _ _ _ _ _ _ _ _ _ _ _
                  rw [unhide HAD]; exact r7
                have HA7 : Hid (∀ g, v'.ownBlock = some g → vv.m.ownBlock = some g ∨ w.heap.size ≤ g) := fun g hg => (a7 g hg).imp id (fun h => Nat.le_trans hk.2.2.2.1 h)
                have HK7 := hide (hk.trans k7)
                clear r7 a7 k7
                go_wp2_with fail
                go_end0
                exact ⟨rfl, ⟨v', unhide HR7, unhide HA7⟩, unhide HK7⟩
              · rw [if_neg hK] at HAD
                have HR7 : Hid (RunAt w6 b lo aQ cQ j Q AD.1 AD.2.1 AD.2.2.1 k AD.2.2.2 { vv with m := vv.m }) := by
                  show RunAt _ _ _ _ _ _ _ _ _ _ _ _ _
                  rw [unhide HAD]; exact unhide HR
                go_wp2_with fail
                go_end0
                exact ⟨rfl, ⟨vv.m, unhide HR7, fun g hg => .inl hg⟩, hk⟩
end
end Sv
end Go.Proofs.Ytkjclkelnheheaa
namespace Go.Proofs.Ytkjclkelnheheaa
namespace Sv
open Gr
theorem Inv.few {s : Nat} {N : List Nd} {M : List Lk} (h : Inv s N M) : 2 * M.length ≤ N.length := by
  have h1 := nodup_few N.length (tops N M) h.mat (fun x hx => by
    obtain ⟨v, hv, rfl⟩ := List.mem_map.1 hx
    have := h.fin v hv
    have := h.ge
    exact (top_spec h.ups v (by omega)).1)
  have h2 : (tops N M).length = 2 * M.length := by
    unfold tops
    rw [List.length_map]
    have : ∀ M : List Lk, (ends M).length = 2 * M.length := by
      intro M
      induction M with
      | nil => rfl
      | cons x r ih => rw [ends_cons]; simp only [List.length_cons, ih]; omega
    exact this M
  omega
def openAll (s : Nat) : Nat → List Nd → List Lk → List Nd × List Lk
  | 0, N, M => (N, M)
  | f + 1, N, M => if 0 ≤ firstOf s N [] then openAll s f (openN N (firstOf s N []).toNat) (openM N M (firstOf s N []).toNat) else (N, M)
def alive (N : List Nd) : Nat := N.countP fun x => !x.gone
theorem alive_setUp (N : List Nd) (v : Nat) (u : Int) : alive (setUp N v u) = alive N := by
  unfold alive setUp
  by_cases hv : v < N.length
  · rw [List.countP_set hv]
    have e : nd N v = N[v] := getD_at _ _ _ hv
    rw [e]
    have h1 : N[v].gone = false → 0 < N.countP (fun x => !x.gone) := fun h => List.countP_pos_iff.2 ⟨N[v], List.getElem_mem hv, by simp [h]⟩
    cases hg : N[v].gone with
    | true => simp
    | false => have := h1 hg; simp; omega
  · rw [List.set_eq_of_length_le (by omega)]
theorem alive_setUps : ∀ (L : List Nat) (N : List Nd) (u : Int), alive (setUps N L u) = alive N
  | [], _, _ => rfl
  | v :: r, N, u => by
    show alive (setUps (setUp N v u) r u) = _
    rw [alive_setUps r, alive_setUp]
theorem alive_open {N : List Nd} {j : Nat} (hj : j < N.length) (hL : ∀ v ∈ (nd N j).ring, v < j) (hg : (nd N j).gone = false) : alive (openN N j) + 1 = alive N := by
  have hjr : j ∉ (nd N j).ring := fun h => by have := hL j h; omega
  have e0 := alive_setUps (nd N j).ring N (-1)
  have hl := setUps_length (nd N j).ring N (-1)
  have e1 : nd (setUps N (nd N j).ring (-1)) j = nd N j := by
    rw [setUps_nd _ _ _ (fun v hv => by have := hL v hv; omega), if_neg hjr]
  unfold openN setGone
  generalize setUps N (nd N j).ring (-1) = N2 at *
  have hj2 : j < N2.length := by omega
  rw [e1]
  unfold alive at *
  rw [List.countP_set hj2]
  have e2 : N2[j] = nd N2 j := (getD_at _ _ _ hj2).symm
  have hp : 0 < N2.countP (fun x => !x.gone) := List.countP_pos_iff.2 ⟨N2[j], List.getElem_mem hj2, by rw [e2, e1]; simp [hg]⟩
  rw [e2, e1]
  simp [hg]
  omega
theorem first_ring {s : Nat} {N : List Nd} {lb : List Nat} (h0 : 0 ≤ firstOf s N lb) : ∃ j : Nat, firstOf s N lb = (j : Int) ∧ s ≤ j ∧ j < N.length ∧ (nd N j).gone = false ∧ upA N j < 0 := by
  obtain ⟨j, hj, e, hg, hu⟩ := first_spec N lb _ _ rfl h0
  rw [List.mem_range'_1] at hj
  exact ⟨j, e, hj.1, by omega, hg, hu⟩
theorem openAll_inv {s : Nat} : ∀ (f : Nat) (N : List Nd) (M : List Lk), Inv s N M → Inv s (openAll s f N M).1 (openAll s f N M).2 ∧ (openAll s f N M).1.length = N.length
  | 0, N, M, h => ⟨h, rfl⟩
  | f + 1, N, M, h => by
    rw [openAll]
    by_cases h0 : 0 ≤ firstOf s N []
    · rw [if_pos h0]
      obtain ⟨j, e, h1, h2, h3, h4⟩ := first_ring h0
      rw [e, Int.toNat_natCast]
      have := openAll_inv f _ _ (open_inv h h1 h2 h3 h4)
      exact ⟨this.1, by rw [this.2, open_length]⟩
    · rw [if_neg h0]; exact ⟨h, rfl⟩
def fstIn (B : List Nat) : List Nat → Nat
  | [] => 0
  | x :: r => if x ∈ B then 0 else fstIn B r + 1
theorem fstIn_spec (B : List Nat) : ∀ (A : List Nat), (∃ x ∈ A, x ∈ B) → ∃ h : fstIn B A < A.length, A[fstIn B A] ∈ B ∧ ∀ j (hj : j < fstIn B A), A[j]'(by omega) ∉ B
  | [], h => by obtain ⟨x, hx, _⟩ := h; cases hx
  | x :: r, h => by
    by_cases hx : x ∈ B
    · have e : fstIn B (x :: r) = 0 := by rw [fstIn.eq_def]; simp only [if_pos hx]
      simp only [e]
      exact ⟨by simp, by simpa using hx, fun j hj => by omega⟩
    · have e : fstIn B (x :: r) = fstIn B r + 1 := by rw [fstIn.eq_def]; simp only [if_neg hx]
      simp only [e]
      have h' : ∃ y ∈ r, y ∈ B := by
        obtain ⟨y, hy, hb⟩ := h
        rcases List.mem_cons.1 hy with rfl | hy
        · exact absurd hb hx
        · exact ⟨y, hy, hb⟩
      obtain ⟨h1, h2, h3⟩ := fstIn_spec B r h'
      refine ⟨by simp; omega, by simpa using h2, fun j hj => ?_⟩
      cases j with
      | zero => simpa using hx
      | succ j => simpa using h3 j (by omega)
def plcOf (x : Nat) : List Nat → Nat
  | [] => 0
  | y :: r => if y = x then 0 else plcOf x r + 1
theorem plcOf_spec (x : Nat) : ∀ (B : List Nat), x ∈ B → ∃ h : plcOf x B < B.length, B[plcOf x B] = x
  | [], h => by cases h
  | y :: r, h => by
    by_cases hy : y = x
    · have e : plcOf x (y :: r) = 0 := by rw [plcOf.eq_def]; simp only [if_pos hy]
      simp only [e]; exact ⟨by simp, by simpa using hy⟩
    · have e : plcOf x (y :: r) = plcOf x r + 1 := by rw [plcOf.eq_def]; simp only [if_neg hy]
      simp only [e]
      have hr : x ∈ r := by
        rcases List.mem_cons.1 h with h | h
        · exact absurd h.symm hy
        · exact h
      obtain ⟨h1, h2⟩ := plcOf_spec x r hr
      exact ⟨by simp; omega, by simpa using h2⟩
def wayOf (N : List Nd) (t : Tp) (x : Nat) : List Nat := wayF N t N.length x
def shrunk (N : List Nd) (M : List Lk) (t : Tp) (eA eB : Nat) : List Nd × List Lk :=
  let A := wayOf N t (top N eA)
  let B := wayOf N t (top N eB)
  let i := fstIn B A
  let k := plcOf (A.getD i 0) B
  (shrinkN N (ringOf A B i k) (newRing N M t ⟨eA, eB⟩ A B i k (A.getD i 0)), keepM N (ringOf A B i k) M)
def augmented (s : Nat) (N : List Nd) (M : List Lk) (t : Tp) (eA eB : Nat) : List Nd × List Lk :=
  openAll s N.length N (augM N M t ⟨eA, eB⟩ (wayOf N t (top N eA)) (wayOf N t (top N eB)))
def rounded (s : Nat) (Q : List EdgeI) (y : List Int) (N : List Nd) (M : List Lk) (dn : Bool) : List Int × List Nd × List Lk × Bool :=
  match (labels s Q y N M).2 with
  | none => adjusted s Q y N M (labels s Q y N M).1 dn
  | some (_, e) => if rt (labels s Q y N M).1 (top N e.A.toNat) = rt (labels s Q y N M).1 (top N e.B.toNat) then (y, (shrunk N M (labels s Q y N M).1 e.A.toNat e.B.toNat).1, (shrunk N M (labels s Q y N M).1 e.A.toNat e.B.toNat).2, dn)
    else (y, (augmented s N M (labels s Q y N M).1 e.A.toNat e.B.toNat).1, (augmented s N M (labels s Q y N M).1 e.A.toNat e.B.toNat).2, dn)
section
variable {s : Nat} {N : List Nd} {M : List Lk} {t : Tp} {rk : Nat → Nat} {eA eB : Nat}
theorem way_of (F : For s N M t rk) {x : Nat} (hx : lab t x ≠ 0) : IsWay N t rk x (wayOf N t x) := by
  refine way_is F _ _ hx ?_
  have h1 := F.rkb x hx
  have h2 := nz_le t
  rw [F.l1] at h2
  omega
theorem shrunk_inv (I : Inv s N M) (F : For s N M t rk) (hA : eA < s) (hB : eB < s) (la : lab t (top N eA) = 1) (lb : lab t (top N eB) = 1) (hr : rt t (top N eA) = rt t (top N eB)) : Inv s (shrunk N M t eA eB).1 (shrunk N M t eA eB).2 ∧ (shrunk N M t eA eB).1.length = N.length + 1 := by
  have wA := way_of F (show lab t (top N eA) ≠ 0 by omega)
  have wB := way_of F (show lab t (top N eB) ≠ 0 by omega)
  unfold shrunk
  dsimp only
  generalize wayOf N t (top N eA) = A at wA
  generalize wayOf N t (top N eB) = B at wB
  obtain ⟨hi, hm, hf⟩ := fstIn_spec B A (ways_meet wA wB hr)
  have e1 : A.getD (fstIn B A) 0 = A[fstIn B A] := getD_at _ _ _ hi
  rw [e1]
  obtain ⟨hk, hk2⟩ := plcOf_spec _ B hm
  exact ⟨shrink_inv (e := ⟨eA, eB⟩) I F wA wB la lb hi hk hk2.symm hf rfl rfl hA hB, shrink_length _ _ _⟩
theorem augmented_inv (I : Inv s N M) (F : For s N M t rk) (hA : eA < s) (hB : eB < s) (la : lab t (top N eA) = 1) (lb : lab t (top N eB) = 1) (hr : rt t (top N eA) ≠ rt t (top N eB)) : Inv s (augmented s N M t eA eB).1 (augmented s N M t eA eB).2 ∧ (augmented s N M t eA eB).1.length = N.length := by
  have wA := way_of F (show lab t (top N eA) ≠ 0 by omega)
  have wB := way_of F (show lab t (top N eB) ≠ 0 by omega)
  exact openAll_inv _ _ _ (augment_inv (e := ⟨eA, eB⟩) I F wA wB la lb hr rfl rfl hA hB)
theorem adjZ_alike (t : Tp) (d : Int) : ∀ (L : List Nat) (N : List Nd), (∀ i ∈ L, i < N.length) → Alike N (adjZ t d L N)
  | [], N, _ => Alike.refl N
  | i :: r, N, h => by
    have h1 := adjZ1_alike t d i N (h i (by simp))
    exact h1.trans (adjZ_alike t d r _ (fun j hj => by rw [h1.1]; exact h j (by simp [hj])))
theorem adjY_length (N : List Nd) (t : Tp) (d : Int) : ∀ (L : List Nat) (y : List Int), (adjY N t d L y).length = y.length
  | [], y => rfl
  | v :: r, y => by
    show (adjY N t d r (adjY1 N t d v y)).length = _
    rw [adjY_length N t d r, adjY1_length]
theorem adjusted_inv {Q : List EdgeI} {y : List Int} {dn : Bool} (I : Inv s N M) : Inv s (adjusted s Q y N M t dn).2.1 (adjusted s Q y N M t dn).2.2.1 ∧ (adjusted s Q y N M t dn).2.1.length = N.length ∧ (adjusted s Q y N M t dn).1.length = y.length := by
  unfold adjusted
  have hz : Alike N (adjZ t (stepD s Q y N t) (List.range' s (N.length - s)) N) := adjZ_alike _ _ _ _ (fun i hi => by rw [List.mem_range'_1] at hi; have := I.ge; omega)
  have hy := adjY_length N t (stepD s Q y N t) (List.range' 0 (s - 0)) y
  have I' := I.alike hz
  split
  · exact ⟨I, rfl, rfl⟩
  · split
    · exact ⟨I', hz.1, hy⟩
    · split
      · rename_i h0
        obtain ⟨j, e, h1, h2, h3, h4⟩ := first_ring h0
        rw [e, Int.toNat_natCast]
        exact ⟨open_inv I' h1 h2 h3 h4, by rw [open_length]; exact hz.1, hy⟩
      · exact ⟨I', hz.1, hy⟩
theorem rounded_inv {Q : List EdgeI} {y : List Int} {dn : Bool} (I : Inv s N M) (hQ : ∀ e ∈ Q, e.A.toNat < s ∧ e.B.toNat < s) : Inv s (rounded s Q y N M dn).2.1 (rounded s Q y N M dn).2.2.1 ∧ (rounded s Q y N M dn).2.1.length ≤ N.length + 1 ∧ (rounded s Q y N M dn).1.length = y.length := by
  obtain ⟨⟨rk, F⟩, _, h2⟩ := labels_spec (y := y) I hQ
  unfold rounded
  generalize labels s Q y N M = L at F h2
  obtain ⟨t, at'⟩ := L
  cases at' with
  | none =>
    have := adjusted_inv (Q := Q) (y := y) (dn := dn) (t := t) I
    exact ⟨this.1, by have := this.2.1; simp only at this ⊢; omega, this.2.2⟩
  | some x =>
    obtain ⟨i, e⟩ := x
    obtain ⟨⟨hi, he⟩, _, hb⟩ := h2 i e rfl
    have hm : e ∈ Q := by rw [← he]; exact List.getElem_mem _
    unfold both at hb
    simp only [Bool.and_eq_true, beq_iff_eq] at hb F
    simp only
    split
    · rename_i hr
      have := shrunk_inv I F (hQ e hm).1 (hQ e hm).2 hb.1 hb.2 hr
      exact ⟨this.1, by have := this.2; simp only; omega, rfl⟩
    · rename_i hr
      have := augmented_inv I F (hQ e hm).1 (hQ e hm).2 hb.1 hb.2 hr
      exact ⟨this.1, by have := this.2; simp only; omega, rfl⟩
def nodes0 (s : Nat) : List Nd := (List.range s).map fun v => ⟨[], [], v, 0, -1, false⟩
theorem nodes0_nd (s i : Nat) : nd (nodes0 s) i = if i < s then ⟨[], [], i, 0, -1, false⟩ else nd0 := by
  unfold nd nodes0
  exact getD_map_range _ _ _ _
theorem inv0 (s : Nat) : Inv s (nodes0 s) [] := by
  have hu : ∀ i, upA (nodes0 s) i = -1 := fun i => by unfold upA; rw [nodes0_nd]; split <;> rfl
  have hl : (nodes0 s).length = s := by simp [nodes0]
  refine ⟨by omega, fun v _ => .inl (hu v), fun v _ h => ?_, fun v _ h => ?_, fun v _ _ => by rw [hu]; decide, fun v hv => by rw [nodes0_nd, if_pos hv], fun v hv => ?_, fun k h1 h2 _ => by omega, fun v hv => by simp [ends] at hv, by simp [tops, ends]⟩
  · rw [hu] at h; omega
  · rw [hu] at h; omega
  · rw [hl] at hv
    rw [nodes0_nd, if_pos hv]; exact hv
end
end Sv
end Go.Proofs.Ytkjclkelnheheaa
namespace Go.Proofs.Ytkjclkelnheheaa
namespace Sv
open Go.RowKit Gr
/-- What does not change while two ways are turned. -/
structure AC where
  w0 : World
  b : Nat
  lo : Nat
  aQ : Option Addr
  cQ : Nat
  s : Nat
  Q : List EdgeI
  y : List Int
  N : List Nd
  k : Int
  d : Bool
  vv : Vs
  bt : Nat
  lt : Nat
  t : Tp
  vl : Value
  va : Value
  vr : Value
  gW : Nat
  vA : Value
  vB : Value
  A : List Nat
  B : List Nat
  gE : Nat
  eV : Array Value
/-- The run with other mate edges, the labels, the two ways. -/
structure AU (c : AC) (W : World) (M' : List Lk) (v' : Value) : Prop where
  run : RunAt W c.b c.lo c.aQ c.cQ c.s c.Q c.y c.N M' c.k c.d { c.vv with m := v' }
  fr : ∀ g, v'.ownBlock = some g → c.vv.m.ownBlock = some g ∨ c.w0.heap.size ≤ g
  tp : TpAt W c.bt c.lt c.t c.vl c.va c.vr
  ways : Blk W c.gW #[c.vA, c.vB] 27
  wa : NaOwn W c.w0.heap.size c.vA c.A
  wb : NaOwn W c.w0.heap.size c.vB c.B
  edge : Blk W c.gE c.eV 68
  kp : Kept (Foot c.b c.vv) c.w0 W
theorem aug_types : (78 : Nat) ≠ 122 ∧ (78 : Nat) ≠ 27 ∧ (83 : Nat) ≠ 122 ∧ (83 : Nat) ≠ 27 ∧ (78 : Nat) ≠ 68 ∧ (83 : Nat) ≠ 68 := by decide
theorem AU.below {c : AC} {W W' : World} {M' : List Lk} {v' : Value} (h : AU c W M' v') (hlo : c.lo ≤ c.w0.heap.size) (hb : Below W.heap.size W W') : AU c W' M' v' :=
  ⟨h.run.below hb (Nat.le_trans hlo h.kp.2.2.2.1), h.fr, h.tp.below hb, h.ways.below hb, own_below h.wa hb, own_below h.wb hb, h.edge.below hb, h.kp.trans (Kept.of_below hb)⟩
theorem AU.without {c : AC} {W W' : World} {M' M'' : List Lk} {v' v'' : Value} (h : AU c W M' v') (hr : RunAt W' c.b c.lo c.aQ c.cQ c.s c.Q c.y c.N M'' c.k c.d { c.vv with m := v'' }) (hf : ∀ g, v''.ownBlock = some g → W.heap.size ≤ g) (hk : Kept (fun i => i = c.b) W W') : AU c W' M'' v'' := by
  obtain ⟨t1, t2, t3, t4, t5, t6⟩ := run_types
  obtain ⟨a1, a2, a3, a4, a5, a6⟩ := aug_types
  have al : ∀ e : TypeId, (78 : Nat) ≠ e → ∀ i, i = c.b → Alien W i e := fun e he i hi => by subst hi; exact h.run.box.alien he
  exact ⟨hr, fun g hg => .inr (Nat.le_trans h.kp.2.2.2.1 (hf g hg)), ⟨h.tp.box.kept_alien hk (al _ a1), hk.own_alien h.tp.lab (al _ t1), hk.own_alien h.tp.ahd (al _ t3), hk.own_alien h.tp.rot (al _ t1)⟩, h.ways.kept_alien hk (al _ a2), hk.own_alien h.wa (al _ t1), hk.own_alien h.wb (al _ t1), h.edge.kept_alien hk (al _ a5), h.kp.trans (hk.weak (fun i hi => .inl hi))⟩
theorem AU.app {c : AC} {W W' : World} {M' M'' : List Lk} {v' v'' : Value} (h : AU c W M' v') (hva : ∀ g, c.va.ownBlock = some g → c.vv.m.ownBlock ≠ some g ∧ g < c.w0.heap.size) (hr : RunAt W' c.b c.lo c.aQ c.cQ c.s c.Q c.y c.N M'' c.k c.d { c.vv with m := v'' }) (hf : ∀ g, v''.ownBlock = some g → v'.ownBlock = some g ∨ W.heap.size ≤ g) (hk : Kept (fun i => i = c.b ∨ v'.ownBlock = some i) W W') : AU c W' M'' v'' := by
  obtain ⟨t1, t2, t3, t4, t5, t6⟩ := run_types
  obtain ⟨a1, a2, a3, a4, a5, a6⟩ := aug_types
  have hms : LkOwn W c.lo v' M' := h.run.ms
  have al : ∀ e : TypeId, (78 : Nat) ≠ e → (83 : Nat) ≠ e → ∀ i, (i = c.b ∨ v'.ownBlock = some i) → Alien W i e := fun e he he2 i hi => by
    rcases hi with hi | hi
    · subst hi; exact h.run.box.alien he
    · exact own_alien hms he2 i hi
  have kz := h.kp.2.2.2.1
  refine ⟨hr, fun g hg => ?_, ⟨h.tp.box.kept_alien hk (al _ a1 a3), hk.own_alien h.tp.lab (al _ t1 t6), hk.own h.tp.ahd (fun g hg hs => ?_), hk.own_alien h.tp.rot (al _ t1 t6)⟩, h.ways.kept_alien hk (al _ a2 a4), hk.own_alien h.wa (al _ t1 t6), hk.own_alien h.wb (al _ t1 t6), h.edge.kept_alien hk (al _ a5 a6), ⟨hk.1.trans h.kp.1, hk.2.1.trans h.kp.2.1, hk.2.2.1.trans h.kp.2.2.1, Nat.le_trans kz hk.2.2.2.1, fun i hi hS => ?_⟩⟩
  · rcases hf g hg with h1 | h1
    · exact h.fr g h1
    · exact .inr (Nat.le_trans kz h1)
  · rcases hs with hs | hs
    · subst hs
      obtain ⟨C, t', f', hC, hne⟩ := own_alien h.tp.ahd (e' := 78) t3.symm _ hg
      have := h.run.box
      unfold Blk at this
      rw [this] at hC
      simp at hC
      exact hne hC.2.1.symm
    · obtain ⟨h1, h2⟩ := hva g hg
      rcases h.fr g hs with h3 | h3
      · exact h1 h3
      · omega
  · refine (hk.2.2.2.2 i (by omega) (fun hs => ?_)).trans (h.kp.2.2.2.2 i hi hS)
    rcases hs with hs | hs
    · exact hS (.inl hs)
    · rcases h.fr i hs with h3 | h3
      · exact hS (.inr (.inr (.inr h3)))
      · omega
theorem withoutAll_snoc (N : List Nd) (M : List Lk) (L : List Nat) (i : Nat) (h : i < L.length) : withoutAll N M (L.take (i + 1)) = without N (withoutAll N M (L.take i)) (L.getD i 0) := by
  unfold withoutAll
  rw [List.take_succ_eq_append_getElem h, List.foldl_append, getD_at _ _ _ h]
  rfl
theorem withoutAll_sub (N : List Nd) (M : List Lk) (L : List Nat) : (withoutAll N M L).length ≤ M.length ∧ ∀ x ∈ withoutAll N M L, x ∈ M := by
  rw [without_all]
  exact ⟨List.length_filter_le _ _, fun x hx => (List.mem_filter.1 hx).1⟩
theorem oddLinks_snoc (t : Tp) (L : List Nat) (i : Nat) (h : i < L.length) : oddLinks t (L.take (i + 1)) = oddLinks t (L.take i) ++ (if lab t (L.getD i 0) = 2 then [ahd t (L.getD i 0)] else []) := by
  unfold oddLinks
  rw [List.take_succ_eq_append_getElem h, List.filter_append, List.map_append, getD_at _ _ _ h]
  congr 1
  by_cases h2 : lab t L[i] = 2 <;> simp [h2]
def tk (N : List Nd) (M : List Lk) (A B : List Nat) : Nat → Nat → List Lk
  | 0, i => withoutAll N M (A.take i)
  | 1, i => withoutAll N (withoutAll N M A) (B.take i)
  | _, _ => withoutAll N (withoutAll N M A) B
def pt (t : Tp) (M : List Lk) (A B : List Nat) : Nat → Nat → List Lk
  | 0, i => M ++ oddLinks t (A.take i)
  | 1, i => (M ++ oddLinks t A) ++ oddLinks t (B.take i)
  | _, _ => (M ++ oddLinks t A) ++ oddLinks t B
def way2 (A B : List Nat) (k : Nat) : List Nat := if k = 0 then A else B
theorem tk_step (N : List Nd) (M : List Lk) (A B : List Nat) (k i : Nat) (hk : k < 2) (h : i < (way2 A B k).length) : tk N M A B k (i + 1) = without N (tk N M A B k i) ((way2 A B k).getD i 0) := by
  match k, hk with
  | 0, _ => exact withoutAll_snoc N M A i h
  | 1, _ => exact withoutAll_snoc N _ B i h
theorem tk_end (N : List Nd) (M : List Lk) (A B : List Nat) (k : Nat) (hk : k < 2) : tk N M A B k (way2 A B k).length = tk N M A B (k + 1) 0 := by
  match k, hk with
  | 0, _ =>
    show withoutAll N M (A.take A.length) = withoutAll N (withoutAll N M A) (B.take 0)
    rw [List.take_length, List.take_zero]
    rfl
  | 1, _ =>
    show withoutAll N (withoutAll N M A) (B.take B.length) = _
    rw [List.take_length]
    rfl
theorem tk_sub (N : List Nd) (M : List Lk) (A B : List Nat) (k i : Nat) : (tk N M A B k i).length ≤ M.length ∧ ∀ x ∈ tk N M A B k i, x ∈ M := by
  match k with
  | 0 => exact withoutAll_sub N M _
  | 1 =>
    have h1 := withoutAll_sub N M A
    have h2 := withoutAll_sub N (withoutAll N M A) (B.take i)
    exact ⟨Nat.le_trans h2.1 h1.1, fun x hx => h1.2 x (h2.2 x hx)⟩
  | _ + 2 =>
    have h1 := withoutAll_sub N M A
    have h2 := withoutAll_sub N (withoutAll N M A) B
    exact ⟨Nat.le_trans h2.1 h1.1, fun x hx => h1.2 x (h2.2 x hx)⟩
theorem pt_step (t : Tp) (M : List Lk) (A B : List Nat) (k i : Nat) (hk : k < 2) (h : i < (way2 A B k).length) : pt t M A B k (i + 1) = pt t M A B k i ++ (if lab t ((way2 A B k).getD i 0) = 2 then [ahd t ((way2 A B k).getD i 0)] else []) := by
  match k, hk with
  | 0, _ =>
    show M ++ oddLinks t (A.take (i + 1)) = (M ++ oddLinks t (A.take i)) ++ _
    rw [oddLinks_snoc t A i h, List.append_assoc]
    rfl
  | 1, _ =>
    show (M ++ oddLinks t A) ++ oddLinks t (B.take (i + 1)) = ((M ++ oddLinks t A) ++ oddLinks t (B.take i)) ++ _
    rw [oddLinks_snoc t B i h, List.append_assoc (M ++ oddLinks t A)]
    rfl
theorem pt_end (t : Tp) (M : List Lk) (A B : List Nat) (k : Nat) (hk : k < 2) : pt t M A B k (way2 A B k).length = pt t M A B (k + 1) 0 := by
  match k, hk with
  | 0, _ =>
    show M ++ oddLinks t (A.take A.length) = (M ++ oddLinks t A) ++ oddLinks t (B.take 0)
    rw [List.take_length, List.take_zero]
    simp [oddLinks]
  | 1, _ =>
    show (M ++ oddLinks t A) ++ oddLinks t (B.take B.length) = _
    rw [List.take_length]
    rfl
theorem pt_len (t : Tp) (M : List Lk) (A B : List Nat) (k i : Nat) : (pt t M A B k i).length ≤ M.length + A.length + B.length := by
  have ho : ∀ L : List Nat, (oddLinks t L).length ≤ L.length := fun L => by
    unfold oddLinks
    rw [List.length_map]
    exact List.length_filter_le _ _
  match k with
  | 0 =>
    have := ho (A.take i)
    simp only [pt, List.length_append, List.length_take] at *
    omega
  | 1 =>
    have h1 := ho A
    have h2 := ho (B.take i)
    simp only [pt, List.length_append, List.length_take] at *
    omega
  | _ + 2 =>
    have h1 := ho A
    have h2 := ho B
    simp only [pt, List.length_append] at *
    omega
theorem aug_is (N : List Nd) (M : List Lk) (t : Tp) (e : Lk) (A B : List Nat) : augM N M t e A B = pt t (tk N M A B 2 0 ++ [e]) A B 2 0 := by
  show withoutAll N (withoutAll N M A) B ++ (e :: (oddLinks t A ++ oddLinks t B)) = ((withoutAll N (withoutAll N M A) B ++ [e]) ++ oddLinks t A) ++ oddLinks t B
  simp
def OS (w0 : World) (b lo : Nat) (aQ : Option Addr) (cQ s : Nat) (Q : List EdgeI) (y : List Int) (k : Int) (d : Bool) (vv : Vs) (n : Nat) (W : World) (N' : List Nd) (M' : List Lk) (v' : Value) : Prop :=
  RunAt W b lo aQ cQ s Q y N' M' k d { vv with m := v' } ∧ (∀ g, v'.ownBlock = some g → vv.m.ownBlock = some g ∨ w0.heap.size ≤ g) ∧ Kept (Foot b vv) w0 W ∧ Inv s N' M' ∧ N'.length = n
section
variable {w0 : World} {b lo : Nat} {aQ : Option Addr} {cQ s : Nat} {Q : List EdgeI} {y : List Int} {k : Int} {d : Bool} {vv : Vs} {n : Nat} {W : World} {N' : List Nd} {M' : List Lk} {v' : Value}
theorem OS.alloc (hlo : lo ≤ w0.heap.size) (o : Obj) (h : OS w0 b lo aQ cQ s Q y k d vv n W N' M' v') : OS w0 b lo aQ cQ s Q y k d vv n (W.alloc o) N' M' v' :=
  ⟨h.1.below (below_new _ _) (Nat.le_trans hlo h.2.2.1.2.2.2.1), h.2.1, h.2.2.1.trans (Kept.of_below (below_new _ _)), h.2.2.2.1, h.2.2.2.2⟩
theorem OS.first (ad : Option Addr) (hn : n ≤ 1000000) (h : OS w0 b lo aQ cQ s Q y k d vv n W N' M' v') :
    Calls Try.prog 79 #[.pointer (some ⟨b, 0, none⟩), .slice ad 0 0] W fun u w' => u = .returned (.int .i64 (firstOf s N' [])) ∧ w' = W :=
  first_any h.1 (by rw [h.2.2.2.2]; exact hn) h.2.2.2.1.ge [] ad 0 0 (.inl rfl) ⟨rfl, fun j hj => by simp [natI] at hj⟩
theorem OS.alive (h : OS w0 b lo aQ cQ s Q y k d vv n W N' M' v') (h0 : 0 ≤ firstOf s N' []) : ∀ j : Nat, firstOf s N' [] = (j : Int) → Sv.alive (openN N' j) + 1 = Sv.alive N' := fun j hj => by
  obtain ⟨j', e, h1, h2, h3, h4⟩ := first_ring h0
  have : j' = j := by omega
  subst this
  have R := h.2.2.2.1.rings j' h1 h2 h3
  exact alive_open h2 (fun v hv => (R.mem v hv).1) h3
theorem OS.open_ (j : Nat) (hlo : lo ≤ w0.heap.size) (hn : n ≤ 1000000) (h : OS w0 b lo aQ cQ s Q y k d vv n W N' M' v') (hf : firstOf s N' [] = (j : Int)) :
    Calls Try.prog 38 #[.pointer (some ⟨b, 0, none⟩), .int .i64 (j : Int)] W fun u w' => u = .returned (.tuple #[]) ∧ ∃ v'', OS w0 b lo aQ cQ s Q y k d vv n w' (openN N' j) (openM N' M' j) v'' := by
  obtain ⟨h1, h2, h3, h4, h5⟩ := h
  obtain ⟨j', e, g1, g2, g3, g4⟩ := first_ring (s := s) (N := N') (lb := []) (by omega)
  have : j' = j := by omega
  subst this
  have hfew := h4.few
  refine (open_any h1 (Nat.le_trans hlo h3.2.2.2.1) h4 (by omega) (by omega) j' g1 g2 g3).mono ?_
  rintro u w' ⟨rfl, ⟨v'', r1, r2⟩, r3⟩
  have hz := h3.2.2.2.1
  refine ⟨rfl, v'', r1, fun g hg => ?_, ⟨r3.1.trans h3.1, r3.2.1.trans h3.2.1, r3.2.2.1.trans h3.2.2.1, Nat.le_trans hz r3.2.2.2.1, fun i hi hS => (r3.2.2.2.2 i (by omega) (fun hh => ?_)).trans (h3.2.2.2.2 i hi hS)⟩, open_inv h4 g1 g2 g3 g4, by rw [open_length]; exact h5⟩
  · rcases r2 g hg with h | h
    · exact h2 g h
    · exact .inr (by omega)
  · rcases hh with hh | hh | hh | hh
    · exact hS (.inl hh)
    · exact hS (.inr (.inl hh))
    · exact hS (.inr (.inr (.inl hh)))
    · rcases h2 i hh with h | h
      · exact hS (.inr (.inr (.inr h)))
      · omega
end
theorem ndsV_snoc : ∀ (rs ls : List Value) (N : List Nd) (r l : Value) (x : Nd), rs.length = N.length → ls.length = N.length → ndsV (rs ++ [r]) (ls ++ [l]) (N ++ [x]) = ndsV rs ls N ++ [r, l, .int .i64 (x.base : Int), .int .i64 x.z, .int .i64 x.up, .bool x.gone]
  | [], [], [], r, l, x, _, _ => rfl
  | r0 :: rs, l0 :: ls, y :: N, r, l, x, h1, h2 => by
    have ih := ndsV_snoc rs ls N r l x (by simpa using h1) (by simpa using h2)
    show r0 :: l0 :: _ :: _ :: _ :: _ :: ndsV (rs ++ [r]) (ls ++ [l]) (N ++ [x]) = _
    rw [ih]
    rfl
  | [], _, _ :: _, _, _, _, h1, _ => by simp at h1
  | _ :: _, _, [], _, _, _, h1, _ => by simp at h1
  | _, [], _ :: _, _, _, _, _, h2 => by simp at h2
  | _, _ :: _, [], _, _, _, _, h2 => by simp at h2
theorem natsV_ints (L : List Nat) : natsV L = intsV (natI L) := by simp [natsV, intsV, natI]
theorem na_ints {w : World} {B : Nat} {a : Option Addr} {n c : Nat} {L : List Nat} (h : NaOwn w B (.slice a n c) L) (hn : n = L.length) : IntsAt w a n w.heap.size (natI L) := by
  unfold NaOwn at h
  rw [natsV_ints] at h
  have hl : (natI L).length = L.length := by simp [natI]
  rw [← hl] at h
  obtain ⟨a', c', e, hI⟩ := intsAt_of_own h
  simp at e
  obtain ⟨rfl, _, rfl⟩ := e
  rw [hn, ← hl]
  exact hI
theorem inK_nat (L : List Nat) (x : Nat) : inK (natI L) (x : Int) = decide (x ∈ L) := by
  have key : inK (natI L) (x : Int) = true ↔ x ∈ L := by
    unfold inK natI
    simp
    constructor
    · rintro ⟨a, ha, e⟩
      have : a = x := by omega
      rw [← this]; exact ha
    · intro h
      exact ⟨x, h, rfl⟩
  cases h : inK (natI L) (x : Int) with
  | true => rw [decide_eq_true (key.1 h)]
  | false => rw [decide_eq_false (fun hm => by rw [key.2 hm] at h; cases h)]
theorem place_nat (L : List Nat) (x : Nat) : x ∈ L → placeOf (natI L) (x : Int) = (plcOf x L : Int) := by
  have key : ∀ (L : List Nat) (k : Nat), x ∈ L → placeFrom (x : Int) k (natI L) = ((k + plcOf x L : Nat) : Int) := by
    intro L
    induction L with
    | nil => intro k h; cases h
    | cons y r ih =>
      intro k h
      show placeFrom (x : Int) k ((y : Int) :: natI r) = _
      rw [placeFrom]
      by_cases hy : y = x
      · subst hy
        have : plcOf y (y :: r) = 0 := by rw [plcOf.eq_def]; simp only [if_pos]
        simp [this]
      · have e : plcOf x (y :: r) = plcOf x r + 1 := by rw [plcOf.eq_def]; simp only [if_neg hy]
        have hne : ((y : Int) == (x : Int)) = false := by rw [beq_eq_false_iff_ne]; omega
        rw [hne, e]
        simp only [Bool.false_eq_true, if_false]
        rw [ih (k + 1) (by rcases List.mem_cons.1 h with h | h; exact absurd h.symm hy; exact h)]
        omega
  intro h
  have := key L 0 h
  rw [Nat.zero_add] at this
  exact this
section
variable {w : World} {b lo : Nat} {aQ : Option Addr} {cQ s : Nat} {Q : List EdgeI} {y : List Int} {N : List Nd} {M : List Lk} {k : Int} {d : Bool} {vv : Vs}
theorem RunAt.appN {w1 w3 : World} {x : Nd} {v' vR vL : Value} (h : RunAt w b lo aQ cQ s Q y N M k d vv) (hlo : lo ≤ w.heap.size) (hb : Below w.heap.size w w1) (hg : w1.grownBy w3 vv.n.ownBlock) (hv : w3.ownsRow lo 102 6 v' (N.length + 1) (ndsV vv.rs vv.ls N ++ [vR, vL, .int .i64 (x.base : Int), .int .i64 x.z, .int .i64 x.up, .bool x.gone])) (hR : NaOwn w1 lo vR x.ring) (hL : LkOwn w1 lo vL x.links) (dR : ∀ g, vR.ownBlock = some g → vv.y.ownBlock ≠ some g) (dL : ∀ g, vL.ownBlock = some g → vv.m.ownBlock ≠ some g) :
    RunAt (w3.setCell ⟨b, 3, none⟩ v') b lo aQ cQ s Q y (N ++ [x]) M k d { vv with n := v', rs := vv.rs ++ [vR], ls := vv.ls ++ [vL] } ∧ Kept (fun i => i = b ∨ vv.n.ownBlock = some i) w (w3.setCell ⟨b, 3, none⟩ v') := by
  obtain ⟨t1, t2, t3, t4, t5, t6⟩ := run_types
  have h1 := h.below hb hlo
  have kg : Kept (fun i => vv.n.ownBlock = some i) w1 w3 := Kept.of_grown hg
  have kk : Kept (fun i => i = b) w3 (w3.setCell ⟨b, 3, none⟩ v') := Kept.set _ _ _ _ rfl
  have al := fun (e : TypeId) (he : (102 : Nat) ≠ e) => own_alien h1.ns he
  have box3 := h1.box.kept_alien kg (al _ t2.symm)
  have al2 : ∀ e : TypeId, (78 : Nat) ≠ e → ∀ i, i = b → Alien w3 i e := fun e he i hi => by subst hi; exact box3.alien he
  have ka : Kept (fun i => i = b ∨ vv.n.ownBlock = some i) w (w3.setCell ⟨b, 3, none⟩ v') := ((Kept.of_below hb).trans (kg.weak (fun i hi => .inr hi))).trans (kk.weak (fun i hi => .inl hi))
  have mvI : ∀ {u : Value} {L : List Nat}, NaOwn w1 lo u L → NaOwn (w3.setCell ⟨b, 3, none⟩ v') lo u L := fun ho => kk.own_alien (kg.own_alien ho (al _ t4)) (al2 _ t1)
  have mvL : ∀ {u : Value} {L : List Lk}, LkOwn w1 lo u L → LkOwn (w3.setCell ⟨b, 3, none⟩ v') lo u L := fun ho => kk.own_alien (kg.own_alien ho (al _ t5)) (al2 _ t3)
  refine ⟨⟨box3.set 3 v', ?_, kk.own_alien (kg.own_alien h1.ys (al _ t4)) (al2 _ t1), ?_, kk.own_alien (kg.own_alien h1.ms (al _ t5)) (al2 _ t3), by simp [h1.rl], by simp [h1.ll], fun j h2 h3 => ?_, fun j h2 h3 => ?_, fun u hu g hg he => ?_, fun u hu g hg he => ?_, h1.blo⟩, ka⟩
  · refine h.edges.below (ka.below (B := lo) hlo (fun i hi => ?_)) (Nat.le_refl _)
    rcases hi with rfl | hi
    · exact h.blo
    · exact (World.ownsRow.lt h.ns i hi).1
  · show World.ownsRow _ _ _ _ _ _ _
    rw [ndsV_snoc _ _ _ _ _ _ h1.rl h1.ll, List.length_append]
    exact kk.own_alien hv (al2 _ t2)
  · simp only at h3 ⊢
    by_cases hj : j < N.length
    · rw [List.getElem_append_left hj, List.getElem_append_left (by rw [h1.rl]; exact hj)]
      exact mvI (h1.rings j hj (by rw [h1.rl]; exact hj))
    · have e : j = N.length := by simp at h2; omega
      subst e
      rw [List.getElem_append_right (Nat.le_refl _), List.getElem_append_right (by rw [h1.rl]; exact Nat.le_refl _)]
      simp [h1.rl]
      exact mvI hR
  · simp only at h3 ⊢
    by_cases hj : j < N.length
    · rw [List.getElem_append_left hj, List.getElem_append_left (by rw [h1.ll]; exact hj)]
      exact mvL (h1.lnks j hj (by rw [h1.ll]; exact hj))
    · have e : j = N.length := by simp at h2; omega
      subst e
      rw [List.getElem_append_right (Nat.le_refl _), List.getElem_append_right (by rw [h1.ll]; exact Nat.le_refl _)]
      simp [h1.ll]
      exact mvL hL
  · rcases List.mem_append.1 hu with hu | hu
    · exact h1.d1 u hu g hg he
    · simp at hu; subst hu; exact dR g hg he
  · rcases List.mem_append.1 hu with hu | hu
    · exact h1.d2 u hu g hg he
    · simp at hu; subst hu; exact dL g hg he
end
theorem rev_step (L : List Nat) (m : Nat) (h : m < L.length) : (L.drop m).reverse = (L.drop (m + 1)).reverse ++ [L.getD m 0] := by
  rw [List.drop_eq_getElem_cons h, List.reverse_cons, getD_at _ _ _ h]
theorem setUps_next (N : List Nd) (L : List Nat) (u : Int) (j : Nat) (h : j < L.length) : setUps N (L.take (j + 1)) u = setUp (setUps N (L.take j) u) (L.getD j 0) u := by
  unfold setUps
  rw [List.take_succ_eq_append_getElem h, List.foldl_append, getD_at _ _ _ h]
  rfl
theorem keepM_snoc (N : List Nd) (L : List Nat) (M : List Lk) (j : Nat) (h : j < M.length) : keepM N L (M.take (j + 1)) = keepM N L (M.take j) ++ (if (decide (top N (M.getD j ⟨0, 0⟩).f ∈ L) && decide (top N (M.getD j ⟨0, 0⟩).t ∈ L)) = true then [] else [M.getD j ⟨0, 0⟩]) := by
  unfold keepM
  rw [List.take_succ_eq_append_getElem h, List.filter_append, getD_at _ _ _ h]
  congr 1
  rw [List.filter_cons]
  cases decide (top N M[j].f ∈ L) && decide (top N M[j].t ∈ L) <;> simp
theorem keepM_len (N : List Nd) (L : List Nat) (M : List Lk) (j : Nat) : (keepM N L (M.take j)).length ≤ j := by
  unfold keepM
  have := List.length_filter_le (fun x : Lk => !(decide (top N x.f ∈ L) && decide (top N x.t ∈ L))) (M.take j)
  rw [List.length_take] at this
  omega
def RL (W1 W : World) (vr vl : Value) (R : List Nat) (L : List Lk) : Prop := NaOwn W W1.heap.size vr R ∧ LkOwn W W1.heap.size vl L ∧ Below W1.heap.size W1 W
theorem RL.ring {W1 W w3 : World} {vr vl v' : Value} {R : List Nat} {L : List Lk} {x : Nat} {o : Obj} (h : RL W1 W vr vl R L) (hg : (W.alloc o).grownBy w3 vr.ownBlock) (hv : w3.ownsRow W1.heap.size 3 1 v' (R.length + 1) (natsV R ++ [.int .i64 (x : Int)])) : RL W1 w3 v' vl (R ++ [x]) L := by
  obtain ⟨h1, h2, h3⟩ := h
  have kg : Kept (fun i => vr.ownBlock = some i) (W.alloc o) w3 := Kept.of_grown hg
  have h1a := own_below h1 (below_new W o)
  refine ⟨?_, kg.own_alien (own_below h2 (below_new W o)) (own_alien h1a (run_types.2.2.2.2.2).symm), (h3.alloc h3.size o).grown hg (Nat.le_trans h3.size (below_new W o).size) (fun k hk => (World.ownsRow.lt h1 k hk).1)⟩
  show World.ownsRow _ _ _ _ _ _ _
  rw [natsV_snoc, List.length_append]
  exact hv
theorem RL.link {W1 W w1 w3 : World} {vr vl v' : Value} {R : List Nat} {L : List Lk} {x : Lk} (h : RL W1 W vr vl R L) (hb : Below W.heap.size W w1) (hg : w1.grownBy w3 vl.ownBlock) (hv : w3.ownsRow W1.heap.size 83 2 v' (L.length + 1) (lksV L ++ [.int .i64 (x.f : Int), .int .i64 (x.t : Int)])) : RL W1 w3 vr v' R (L ++ [x]) := by
  obtain ⟨h1, h2, h3⟩ := h
  have kg : Kept (fun i => vl.ownBlock = some i) w1 w3 := Kept.of_grown hg
  have h2a := own_below h2 hb
  have hb1 : Below W1.heap.size W1 w1 := h3.trans (hb.mono h3.size)
  refine ⟨kg.own_alien (own_below h1 hb) (own_alien h2a run_types.2.2.2.2.2), ?_, hb1.grown hg hb1.size (fun k hk => (World.ownsRow.lt h2 k hk).1)⟩
  show World.ownsRow _ _ _ _ _ _ _
  rw [lksV_snoc, List.length_append]
  exact hv
theorem RL.below {W1 W W' : World} {vr vl : Value} {R : List Nat} {L : List Lk} (h : RL W1 W vr vl R L) (hb : Below W.heap.size W W') : RL W1 W' vr vl R L := ⟨own_below h.1 hb, own_below h.2.1 hb, h.2.2.trans (hb.mono h.2.2.size)⟩
end Sv
end Go.Proofs.Ytkjclkelnheheaa
