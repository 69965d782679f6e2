/-
 SvL2, SvL3, SvL4, SvG1.
-/
import Derived.Test.YtnihoabminnbcaaJ33
import Derived.BigQuiet
import Derived.BigRegion
namespace Go.Proofs.Ytnihoabminnbcaa
namespace Sv
open Go.RowKit Gr
def tp0 (n : Nat) : Tp := ⟨List.replicate n 0, List.replicate n ⟨0, 0⟩, List.replicate n 0⟩
theorem made_nats (n : Nat) (A : Array Value) (hA : A = madeCells (Value.int .i64 0).cells (n * 1)) : A.toList = natsV (List.replicate n 0) ∧ A.size = n * 1 := by
  constructor
  · rw [hA]
    simp [madeCells, natsV, Value.cells]
    refine List.eq_replicate_iff.2 ⟨by simp, fun b hb => ?_⟩
    obtain ⟨x, _, rfl⟩ := List.mem_map.1 hb
    simp [Nat.mod_one]
  · rw [hA, size_madeCells]
theorem lksV_zero (n : Nat) : lksV (List.replicate n ⟨0, 0⟩) = List.replicate (n * 2) (.int .i64 0) := by
  induction n with
  | zero => rfl
  | succ n ih =>
    rw [List.replicate_succ]
    have e : lksV (⟨0, 0⟩ :: List.replicate n ⟨0, 0⟩) = .int .i64 ((0 : Nat) : Int) :: .int .i64 ((0 : Nat) : Int) :: lksV (List.replicate n ⟨0, 0⟩) := rfl
    rw [e, ih, show (n + 1) * 2 = n * 2 + 1 + 1 by omega, List.replicate_succ, List.replicate_succ]
    rfl
theorem made_links (n : Nat) (A : Array Value) (hA : A = madeCells (Value.agg #[.int .i64 0, .int .i64 0]).cells (n * 2)) : A.toList = lksV (List.replicate n ⟨0, 0⟩) ∧ A.size = n * 2 := by
  have e : (Value.agg #[.int .i64 0, .int .i64 0]).cells = #[.int .i64 0, .int .i64 0] := by kernel_rfl
  constructor
  · rw [hA, lksV_zero, e]
    refine List.eq_replicate_iff.2 ⟨by simp [madeCells], fun b hb => ?_⟩
    simp [madeCells] at hb
    obtain ⟨x, _, rfl⟩ := hb
    rcases Nat.mod_two_eq_zero_or_one x with h | h <;> rw [h] <;> rfl
  · rw [hA, size_madeCells]
theorem heap4 (w : World) (o1 o2 o3 o4 : Obj) : ((((w.alloc o1).alloc o2).alloc o3).alloc o4).drew.heap[w.heap.size]? = some o1 ∧ ((((w.alloc o1).alloc o2).alloc o3).alloc o4).drew.heap[w.heap.size + 1]? = some o2 ∧ ((((w.alloc o1).alloc o2).alloc o3).alloc o4).drew.heap[w.heap.size + 1 + 1]? = some o3 ∧ ((((w.alloc o1).alloc o2).alloc o3).alloc o4).drew.heap[w.heap.size + 1 + 1 + 1]? = some o4 := by
  have e : ((((w.alloc o1).alloc o2).alloc o3).alloc o4).drew.heap = (((w.heap.push o1).push o2).push o3).push o4 := rfl
  rw [e]
  refine ⟨?_, ?_, ?_, ?_⟩ <;> simp only [Array.getElem?_push, Array.size_push] <;> (repeat rw [if_neg (by omega)]) <;> exact if_pos trivial
theorem below4 (w : World) (o1 o2 o3 o4 : Obj) : Below w.heap.size w ((((w.alloc o1).alloc o2).alloc o3).alloc o4).drew :=
  (((((Below.refl w.heap.size w).alloc (Nat.le_refl _) o1).alloc (by simp) o2).alloc (by simp; omega) o3).alloc (by simp; omega) o4).drew
/-- Four blocks that are labels without any. -/
theorem tpw_new {W : World} {n bt gl ga gr lo : Nat} {A B : Array Value} (hn : n ≤ 1000000) (hA : A.toList = natsV (List.replicate n 0) ∧ A.size = n * 1) (hB : B.toList = lksV (List.replicate n ⟨0, 0⟩) ∧ B.size = n * 2)
    (h1 : W.heap[gl]? = some (.cells A 3)) (h2 : W.heap[ga]? = some (.cells B 56)) (h3 : W.heap[gr]? = some (.cells A 3)) (h4 : Blk W bt #[.slice (some ⟨gl, 0, none⟩) n n, .slice (some ⟨ga, 0, none⟩) n n, .slice (some ⟨gr, 0, none⟩) n n] 104) (l1 : lo ≤ gl) (l2 : lo ≤ ga) (l3 : lo ≤ gr) (l4 : lo ≤ bt) (hne : gl ≠ gr) :
    TpW W bt lo (tp0 n) (.slice (some ⟨gl, 0, none⟩) n n) (.slice (some ⟨ga, 0, none⟩) n n) (.slice (some ⟨gr, 0, none⟩) n n) := by
  have na : ∀ g, lo ≤ g → W.heap[g]? = some (.cells A 3) → NaOwn W lo (.slice (some ⟨g, 0, none⟩) n n) (List.replicate n 0) := fun g hl hg => by
    show World.ownsRow _ _ _ _ _ _ _
    rw [List.length_replicate]
    exact ⟨by simp [natsV], .inr ⟨g, n, A, rfl, hl, hg, Nat.le_refl _, by unfold maxLen; omega, hA.2, by rw [hA.1, Nat.mul_one, List.take_of_length_le (by simp [natsV])]⟩⟩
  refine ⟨⟨h4, na gl l1 h1, ?_, na gr l3 h3⟩, fun g h5 h6 => ?_, l4⟩
  · show World.ownsRow _ _ _ _ _ _ _
    show World.ownsRow W lo 56 2 _ (List.replicate n (⟨0, 0⟩ : Lk)).length (lksV (List.replicate n ⟨0, 0⟩))
    rw [List.length_replicate]
    exact ⟨by rw [lksV_length]; simp, .inr ⟨ga, n, B, rfl, l2, h2, Nat.le_refl _, by unfold maxLen; omega, hB.2, by rw [hB.1, List.take_of_length_le (by rw [lksV_length]; simp)]⟩⟩
  · simp [Value.ownBlock] at h5 h6
    omega
/-- The first labels of the tops ahead of a place. -/
def tpTo (N : List Nd) (M : List Lk) (i : Nat) : Tp :=
  ⟨(List.range N.length).map fun j => if j < i ∧ ((nd N j).gone = false ∧ upA N j < 0 ∧ mateOf N M j = none) then 1 else 0, (List.range N.length).map fun _ => ⟨0, 0⟩, (List.range N.length).map fun j => if j < i ∧ ((nd N j).gone = false ∧ upA N j < 0 ∧ mateOf N M j = none) then j else 0⟩
theorem tpTo_zero (N : List Nd) (M : List Lk) : tpTo N M 0 = tp0 N.length := by
  unfold tpTo tp0
  congr 1
  all_goals
    refine List.eq_replicate_iff.2 ⟨by simp, fun b hb => ?_⟩
    obtain ⟨x, _, rfl⟩ := List.mem_map.1 hb
    simp
theorem tpTo_end (N : List Nd) (M : List Lk) : tpTo N M N.length = label0 N M := by
  unfold tpTo label0
  congr 1
  all_goals
    refine List.map_congr_left (fun j hj => ?_)
    have hj' : j < N.length := List.mem_range.1 hj
    simp [hj']
theorem tpTo_no (N : List Nd) (M : List Lk) (i : Nat) (h : ¬ ((nd N i).gone = false ∧ upA N i < 0 ∧ mateOf N M i = none)) : tpTo N M (i + 1) = tpTo N M i := by
  unfold tpTo
  congr 1
  all_goals
    refine List.map_congr_left (fun j _ => ?_)
    by_cases e : j = i
    · subst e
      rw [if_neg (fun g => h g.2), if_neg (fun g => h g.2)]
    · by_cases l : j < i
      · simp only [l, show j < i + 1 by omega]
      · simp only [l, show ¬ j < i + 1 by omega]
theorem map_set_range {n i : Nat} {f g : Nat → Nat} {v : Nat} (h1 : ∀ j, j ≠ i → f j = g j) (h2 : f i = v) : (List.range n).map f = ((List.range n).map g).set i v := by
  apply List.ext_getElem
  · simp
  · intro j a b
    rw [List.getElem_set]
    by_cases e : i = j
    · subst e; simp [h2]
    · rw [if_neg e]; simp; exact h1 j (fun h => e h.symm)
theorem tpTo_yes (N : List Nd) (M : List Lk) (i : Nat) (h : (nd N i).gone = false ∧ upA N i < 0 ∧ mateOf N M i = none) : tpTo N M (i + 1) = { { tpTo N M i with label := (tpTo N M i).label.set i 1 } with root := (tpTo N M i).root.set i i } := by
  unfold tpTo
  simp only
  congr 1
  · refine map_set_range (fun j hj => ?_) (by rw [if_pos ⟨by omega, h⟩])
    by_cases l : j < i
    · simp only [l, show j < i + 1 by omega]
    · simp only [l, show ¬ j < i + 1 by omega]
  · refine map_set_range (fun j hj => ?_) (by rw [if_pos ⟨by omega, h⟩])
    by_cases l : j < i
    · simp only [l, show j < i + 1 by omega]
    · simp only [l, show ¬ j < i + 1 by omega]
theorem tpTo_len (N : List Nd) (M : List Lk) (i : Nat) : (tpTo N M i).label.length = N.length ∧ (tpTo N M i).ahead.length = N.length ∧ (tpTo N M i).root.length = N.length := by
  simp [tpTo]
section
variable {w : World} {bt lo : Nat} {t : Tp} {vl va vr : Value} {g n c : Nat}
theorem TpW.lc (h : TpW w bt lo t vl va vr) (e : vl = .slice (some ⟨g, 0, none⟩) n c) (hl : t.label.length = n) : g < w.heap.size ∧ ∀ j, j < n → w.cell? ⟨g, j, none⟩ = some (.int .i64 (lab t j : Int)) ∧ w.frozen? ⟨g, j, none⟩ = false := by
  have h1 := h.at_.lab
  have h2 : World.ownsRow _ _ _ _ _ _ _ := h.at_.lab
  rw [e] at h1 h2
  refine ⟨(World.ownsRow.lt h2 g rfl).2, fun j hj => ⟨?_, ?_⟩⟩
  · obtain ⟨g', c', e', _, hc⟩ := na_cells h1 (by omega)
    simp at e'
    rw [e'.1]; exact hc j (by omega)
  · rw [hl] at h2
    exact h2.frozenAt j
theorem TpW.rc (h : TpW w bt lo t vl va vr) (e : vr = .slice (some ⟨g, 0, none⟩) n c) (hl : t.root.length = n) : g < w.heap.size ∧ ∀ j, j < n → w.cell? ⟨g, j, none⟩ = some (.int .i64 (rt t j : Int)) ∧ w.frozen? ⟨g, j, none⟩ = false := by
  have h1 := h.at_.rot
  have h2 : World.ownsRow _ _ _ _ _ _ _ := h.at_.rot
  rw [e] at h1 h2
  refine ⟨(World.ownsRow.lt h2 g rfl).2, fun j hj => ⟨?_, ?_⟩⟩
  · obtain ⟨g', c', e', _, hc⟩ := na_cells h1 (by omega)
    simp at e'
    rw [e'.1]; exact hc j (by omega)
  · rw [hl] at h2
    exact h2.frozenAt j
theorem TpW.ac (h : TpW w bt lo t vl va vr) (e : va = .slice (some ⟨g, 0, none⟩) n c) (hl : t.ahead.length = n) : g < w.heap.size ∧ (∀ j, j < n → w.cell? ⟨g, j * 2, none⟩ = some (.int .i64 ((ahd t j).f : Int)) ∧ w.cell? ⟨g, j * 2 + 1, none⟩ = some (.int .i64 ((ahd t j).t : Int))) ∧ ∀ i, w.frozen? ⟨g, i, none⟩ = false := by
  have h1 := h.at_.ahd
  have h2 : World.ownsRow _ _ _ _ _ _ _ := h.at_.ahd
  rw [e] at h1 h2
  refine ⟨(World.ownsRow.lt h2 g rfl).2, fun j hj => ?_, fun i => ?_⟩
  · obtain ⟨g', c', e', _, hc⟩ := lk_cellsD h1 (by omega)
    simp at e'
    rw [e'.1]; exact hc j (by omega)
  · rw [hl] at h2
    exact h2.frozenAt i
end
end Sv
end Go.Proofs.Ytnihoabminnbcaa
namespace Go.Proofs.Ytnihoabminnbcaa
namespace Sv
open Gr
section
variable {s : Nat} {y : List Int} {N : List Nd} {M : List Lk}
theorem pick_step (t : Tp) (Q : List EdgeI) (i : Nat) (h : i < Q.length) : pick s y N t (Q.drop i) i = if good s y N t Q[i] = true then some (i, Q[i]) else pick s y N t (Q.drop (i + 1)) (i + 1) := by
  rw [List.drop_eq_getElem_cons h]; rfl
theorem pick_end (t : Tp) (Q : List EdgeI) : pick s y N t (Q.drop Q.length) Q.length = none := by
  rw [List.drop_length]; rfl
/-- At the head of the outer loop: labels grow on, or have ended. -/
def labSt (s : Nat) (Q : List EdgeI) (y : List Int) (N : List Nd) (M : List Lk) (L : Tp × Option (Nat × EdgeI)) : Bool → Nat → Tp → Prop
  | true, f, t => (∃ rk, For s N M t rk) ∧ N.length < nz t + 2 * f ∧ L = labF s Q y N M f t
  | false, _, t => L = (t, none)
/-- At the head of the inner loop: no edge so far was good, or one was, and the labels have grown. -/
def inSt (s : Nat) (Q : List EdgeI) (y : List Int) (N : List Nd) (M : List Lk) (L : Tp × Option (Nat × EdgeI)) (f : Nat) (t : Tp) : Bool → Tp → Nat → Prop
  | true, T, _ => labSt s Q y N M L true f T
  | false, T, j => T = t ∧ pick s y N t Q 0 = pick s y N t (Q.drop j) j
theorem labSt0 (s : Nat) (Q : List EdgeI) (y : List Int) (N : List Nd) (M : List Lk) : labSt s Q y N M (labels s Q y N M) true (N.length + 1) (label0 N M) :=
  ⟨⟨_, for0 s N M⟩, by omega, rfl⟩
/-- Labels that grow on have something left to burn. -/
theorem labSt_fuel {Q : List EdgeI} {L : Tp × Option (Nat × EdgeI)} {f : Nat} {t : Tp} (h : labSt s Q y N M L true f t) : ∃ f', f = f' + 1 := by
  obtain ⟨⟨rk, F⟩, h2, _⟩ := h
  have := nz_le t
  rw [F.l1] at this
  exact ⟨f - 1, by omega⟩
theorem labSt_none {Q : List EdgeI} {L : Tp × Option (Nat × EdgeI)} {f : Nat} {t : Tp} (h : labSt s Q y N M L true (f + 1) t) (hp : pick s y N t Q 0 = none) : L = (t, none) := by
  obtain ⟨_, _, h3⟩ := h
  rw [h3, labF, hp]
theorem labSt_both {Q : List EdgeI} {L : Tp × Option (Nat × EdgeI)} {f i : Nat} {t : Tp} {e : EdgeI} (h : labSt s Q y N M L true (f + 1) t) (hp : pick s y N t Q 0 = some (i, e)) (hb : both N t e = true) : L = (t, some (i, e)) := by
  obtain ⟨_, _, h3⟩ := h
  rw [h3, labF, hp]
  simp [hb]
theorem labSt_grow {Q : List EdgeI} {L : Tp × Option (Nat × EdgeI)} {f i : Nat} {t : Tp} {e : EdgeI} (I : Inv s N M) (hA : e.A.toNat < s) (hB : e.B.toNat < s) (h : labSt s Q y N M L true (f + 1) t) (hp : pick s y N t Q 0 = some (i, e)) (hg : good s y N t e = true) (hb : both N t e = false) : labSt s Q y N M L true f (growE N M t e) := by
  obtain ⟨⟨rk, F⟩, h2, h3⟩ := h
  obtain ⟨g1, g2⟩ := growE_for (y := y) I F hA hB hg hb
  refine ⟨g1, by omega, ?_⟩
  rw [h3, labF, hp]
  simp [hb]
/-- What a growth asks: the other top has no label, and a mate edge that leads to a vertex. -/
theorem grow_mate {t : Tp} {rk : Nat → Nat} (I : Inv s N M) (F : For s N M t rk) {v : Nat} (hv : v < s) (h0 : lab t (top N v) = 0) : ∃ m, mateOf N M (top N v) = some m ∧ mateD N M (top N v) = m := by
  obtain ⟨m, hm⟩ := bare_mate F (top_is I hv) h0
  exact ⟨m, hm, by unfold mateD; rw [hm]; rfl⟩
theorem mateOf_ends : ∀ {M : List Lk} {p : Nat} {m : Lk}, mateOf N M p = some m → m.f ∈ ends M ∧ m.t ∈ ends M
  | [], p, m, h => by simp [mateOf] at h
  | x :: r, p, m, h => by
    rw [mateOf] at h
    simp only [ends_cons, List.mem_cons]
    split at h
    · simp at h; subst h; exact ⟨.inl rfl, .inr (.inl rfl)⟩
    · split at h
      · simp at h; subst h; exact ⟨.inr (.inl rfl), .inl rfl⟩
      · obtain ⟨h1, h2⟩ := mateOf_ends h
        exact ⟨.inr (.inr h1), .inr (.inr h2)⟩
end
end Sv
end Go.Proofs.Ytnihoabminnbcaa
namespace Go.Proofs.Ytnihoabminnbcaa
namespace Sv
open Go.RowKit Gr
structure GS (w0 W : World) (bt gl ga gr n : Nat) (t : Tp) (gk gm : Nat) (link mate : Lk) : Prop where
  tp : TpW W bt w0.heap.size t (.slice (some ⟨gl, 0, none⟩) n n) (.slice (some ⟨ga, 0, none⟩) n n) (.slice (some ⟨gr, 0, none⟩) n n)
  lk : Blk W gk #[.int .i64 (link.f : Int), .int .i64 (link.t : Int)] 56
  mt : Blk W gm #[.int .i64 (mate.f : Int), .int .i64 (mate.t : Int)] 56
  nk : gk ≠ gl ∧ gk ≠ ga ∧ gk ≠ gr
  nm : gm ≠ gl ∧ gm ≠ ga ∧ gm ≠ gr
  l1 : t.label.length = n
  l2 : t.ahead.length = n
  l3 : t.root.length = n
  bw : Below w0.heap.size w0 W
section
variable {w0 W : World} {bt gl ga gr n : Nat} {t : Tp} {gk gm : Nat} {link mate : Lk}
theorem GS.lab (h : GS w0 W bt gl ga gr n t gk gm link mate) (j u : Nat) : GS w0 (W.setCell ⟨gl, j, none⟩ (.int .i64 (u : Int))) bt gl ga gr n { t with label := t.label.set j u } gk gm link mate := by
  obtain ⟨s1, k1, q1⟩ := h.tp.setLab (j := j) rfl h.l1 u
  exact ⟨s1, h.lk.kept k1 h.nk.1, h.mt.kept k1 h.nm.1, h.nk, h.nm, by simpa using h.l1, h.l2, h.l3, h.bw.trans (k1.below (B := w0.heap.size) h.bw.size (fun i hi => by subst hi; exact q1))⟩
theorem GS.rot (h : GS w0 W bt gl ga gr n t gk gm link mate) (j u : Nat) : GS w0 (W.setCell ⟨gr, j, none⟩ (.int .i64 (u : Int))) bt gl ga gr n { t with root := t.root.set j u } gk gm link mate := by
  obtain ⟨s1, k1, q1⟩ := h.tp.setRot (j := j) rfl h.l3 u
  exact ⟨s1, h.lk.kept k1 h.nk.2.2, h.mt.kept k1 h.nm.2.2, h.nk, h.nm, h.l1, h.l2, by simpa using h.l3, h.bw.trans (k1.below (B := w0.heap.size) h.bw.size (fun i hi => by subst hi; exact q1))⟩
theorem GS.ahd (h : GS w0 W bt gl ga gr n t gk gm link mate) (j : Nat) (x : Lk) : GS w0 ((W.setCell ⟨ga, j * 2, none⟩ (.int .i64 (x.f : Int))).setCell ⟨ga, j * 2 + 1, none⟩ (.int .i64 (x.t : Int))) bt gl ga gr n { t with ahead := t.ahead.set j x } gk gm link mate := by
  obtain ⟨s1, k1, q1⟩ := h.tp.setAhd (j := j) rfl h.l2 x
  exact ⟨s1, h.lk.kept k1 h.nk.2.1, h.mt.kept k1 h.nm.2.1, h.nk, h.nm, h.l1, by simpa using h.l2, h.l3, h.bw.trans (k1.below (B := w0.heap.size) h.bw.size (fun i hi => by subst hi; exact q1))⟩
theorem GS.drew (h : GS w0 W bt gl ga gr n t gk gm link mate) : GS w0 W.drew bt gl ga gr n t gk gm link mate :=
  ⟨h.tp.below (Below.refl _ _).drew, h.lk.drew, h.mt.drew, h.nk, h.nm, h.l1, h.l2, h.l3, h.bw.drew⟩
theorem GS.lc (h : GS w0 W bt gl ga gr n t gk gm link mate) {j : Nat} (hj : j < n) : W.cell? ⟨bt, 0, none⟩ = some (.slice (some ⟨gl, 0, none⟩) n n) ∧ W.cell? ⟨gl, j, none⟩ = some (.int .i64 (Sv.lab t j : Int)) ∧ W.frozen? ⟨gl, j, none⟩ = false :=
  ⟨h.tp.at_.box.cell 0 _ rfl, (h.tp.lc rfl h.l1).2 j hj⟩
theorem GS.rc (h : GS w0 W bt gl ga gr n t gk gm link mate) {j : Nat} (hj : j < n) : W.cell? ⟨bt, 2, none⟩ = some (.slice (some ⟨gr, 0, none⟩) n n) ∧ W.cell? ⟨gr, j, none⟩ = some (.int .i64 (rt t j : Int)) ∧ W.frozen? ⟨gr, j, none⟩ = false :=
  ⟨h.tp.at_.box.cell 2 _ rfl, (h.tp.rc rfl h.l3).2 j hj⟩
theorem GS.ac (h : GS w0 W bt gl ga gr n t gk gm link mate) {j : Nat} (hj : j < n) : W.cell? ⟨bt, 1, none⟩ = some (.slice (some ⟨ga, 0, none⟩) n n) ∧ (W.cell? ⟨ga, j * 2, none⟩ = some (.int .i64 ((Sv.ahd t j).f : Int)) ∧ W.cell? ⟨ga, j * 2 + 1, none⟩ = some (.int .i64 ((Sv.ahd t j).t : Int))) ∧ W.frozen? ⟨ga, j * 2, none⟩ = false ∧ W.frozen? ⟨ga, j * 2 + 1, none⟩ = false :=
  ⟨h.tp.at_.box.cell 1 _ rfl, (h.tp.ac rfl h.l2).2.1 j hj, (h.tp.ac rfl h.l2).2.2 _, (h.tp.ac rfl h.l2).2.2 _⟩
theorem rt_other (t : Tp) {a b : Nat} (u : Nat) (h : a ≠ b) : rt { t with root := t.root.set b u } a = rt t a := by
  unfold rt
  simp only [List.getD_eq_getElem?_getD]
  rw [List.getElem?_set_ne (Ne.symm h)]
end
end Sv
end Go.Proofs.Ytnihoabminnbcaa
