/-
 LkD0, LkE.
-/
import Derived.Test.YtnihoabminnbcaaJ26
import Derived.Test.YtnihoabminnbcaaJ20
import Derived.Test.YtnihoabminnbcaaJ19
namespace Go.Proofs.Ytnihoabminnbcaa
namespace Lk
open Gr (EdgeI CoupleI hit atFrom graphOk graph_sound graph_of edgeOk_iff ahead ahead_iff at_some at_none matchOk match_sound match_pm)
/-- Is a couple one of a list? -/
def hasC (M : List CoupleI) (x : CoupleI) : Bool := M.any fun y => decide (y = x)
theorem hasC_iff (M : List CoupleI) (x : CoupleI) : hasC M x = true ↔ x ∈ M := by
  unfold hasC
  simp
/-- The edges that are a couple of one of two lists alone. -/
def swapQ (Q : List EdgeI) (M N : List CoupleI) : List EdgeI := Q.filter fun e => hasC M ⟨e.A, e.B⟩ != hasC N ⟨e.A, e.B⟩
theorem swap_ok {s : Int} {Q : List EdgeI} (h : graphOk s Q = true) (M N : List CoupleI) : graphOk s (swapQ Q M N) = true := by
  obtain ⟨h0, h9, he, hp⟩ := graph_sound h
  refine graph_of h0 h9 (fun e hm => he e (List.mem_filter.1 hm).1) (hp.sublist (List.filter_sublist))
/-- The table turned by the first couples of a list. -/
def cpl (F0 : Nat → Nat → Bool) (M : List CoupleI) (k : Nat) : Nat → Nat → Bool := (M.take k).foldl (fun F x => turnF F x.A.toNat x.B.toNat) F0
theorem cpl_zero (F0 : Nat → Nat → Bool) (M : List CoupleI) : cpl F0 M 0 = F0 := by unfold cpl; rw [List.take_zero]; rfl
theorem cpl_next (F0 : Nat → Nat → Bool) (M : List CoupleI) (k : Nat) (h : k < M.length) : cpl F0 M (k + 1) = turnF (cpl F0 M k) M[k].A.toNat M[k].B.toNat := by
  unfold cpl
  rw [List.take_succ_eq_append_getElem h, List.foldl_append]
  rfl
/-- A couple between two vertices, whichever is named first. -/
def hitC (a b : Int) (x : CoupleI) : Bool := ((x.A == a) && (x.B == b)) || ((x.A == b) && (x.B == a))
/-- Couples of which no two are between the same vertices. -/
def ApartC (M : List CoupleI) : Prop := (∀ x ∈ M, 0 ≤ x.A ∧ x.A < x.B ∧ x.B < 9) ∧ ∀ i j (hi : i < M.length) (hj : j < M.length), i < j → M[i].A < M[j].A
theorem apartC_of {s : Int} {Q : List EdgeI} {M : List CoupleI} (h : matchOk s Q M = true) : ApartC M := by
  obtain ⟨hg, _, hm⟩ := match_sound h
  obtain ⟨s0, s9⟩ := ok_size hg
  obtain ⟨h1, h2, _⟩ := match_pm hg M none [] hm
  refine ⟨fun x hx => ?_, fun i j hi hj hij => ?_⟩
  · have := h1 x hx
    exact ⟨this.1, this.2.1, by have := this.2.2.1; omega⟩
  · exact (List.pairwise_iff_getElem.1 h2 i j hi hj hij).1
theorem cpl_any {M : List CoupleI} (hM : ApartC M) (F0 : Nat → Nat → Bool) (a b : Nat) : ∀ k, k ≤ M.length → cpl F0 M k a b = (F0 a b != (M.take k).any (hitC (a : Int) (b : Int)))
  | 0, _ => by rw [cpl_zero]; simp
  | k + 1, h => by
    have hk : k < M.length := by omega
    have ih := cpl_any hM F0 a b k (by omega)
    rw [cpl_next F0 M k hk, List.take_succ_eq_append_getElem hk, List.any_append]
    have hr := hM.1 _ (List.getElem_mem hk)
    unfold turnF
    by_cases hh : hitC (a : Int) (b : Int) M[k] = true
    · have h2 := hh
      unfold hitC at h2
      simp only [Bool.or_eq_true, Bool.and_eq_true, beq_iff_eq] at h2
      have hno : (M.take k).any (hitC (a : Int) (b : Int)) = false := by
        rw [List.any_eq_false]
        intro x hx h3
        obtain ⟨i, hi, rfl⟩ := List.mem_iff_getElem.1 hx
        have hil : i < k := by simp at hi; omega
        rw [List.getElem_take] at h3
        have hr2 := hM.1 _ (List.getElem_mem (show i < M.length by omega))
        unfold hitC at h3
        simp only [Bool.or_eq_true, Bool.and_eq_true, beq_iff_eq] at h3
        have := hM.2 i k (by omega) hk hil
        omega
      rw [if_pos (by omega), ih, hno]
      simp [hh]
    · have h2 := hh
      unfold hitC at h2
      simp only [Bool.or_eq_true, Bool.and_eq_true, beq_iff_eq] at h2
      rw [if_neg (by omega), ih]
      simp [hh]
/-- The table of both. -/
def swpF (M N : List CoupleI) : Nat → Nat → Bool := cpl (cpl (fun _ _ => false) M M.length) N N.length
theorem swp_is {s : Int} {Q : List EdgeI} {M N : List CoupleI} (hM : matchOk s Q M = true) (hN : matchOk s Q N = true) : swpF M N = lnkF (swapQ Q M N) := by
  funext a b
  have hg := (match_sound hM).1
  have aM := apartC_of hM
  have aN := apartC_of hN
  unfold swpF
  rw [cpl_any aN _ a b _ (Nat.le_refl _), cpl_any aM _ a b _ (Nat.le_refl _), List.take_length, List.take_length, lnkF_any (apart_of (swap_ok hg M N))]
  obtain ⟨_, _, he, _⟩ := graph_sound hg
  have key : ∀ (L : List CoupleI), ApartC L → ∀ e : EdgeI, e.A < e.B → hit (a : Int) (b : Int) e = true → L.any (hitC (a : Int) (b : Int)) = hasC L ⟨e.A, e.B⟩ := fun L aL e hAB hh => by
    rw [Bool.eq_iff_iff, hasC_iff, List.any_eq_true]
    unfold hit at hh
    simp only [Bool.or_eq_true, Bool.and_eq_true, beq_iff_eq] at hh
    constructor
    · rintro ⟨x, hx, h3⟩
      have hr := aL.1 x hx
      unfold hitC at h3
      simp only [Bool.or_eq_true, Bool.and_eq_true, beq_iff_eq] at h3
      have ex : x = ⟨e.A, e.B⟩ := by
        cases x
        simp only [CoupleI.mk.injEq] at h3 hr ⊢
        omega
      rw [← ex]
      exact hx
    · intro hx
      exact ⟨_, hx, by unfold hitC; simp only [Bool.or_eq_true, Bool.and_eq_true, beq_iff_eq]; exact hh⟩
  cases hs : (swapQ Q M N).any (hit (a : Int) (b : Int))
  · -- no swapped edge
    rw [List.any_eq_false] at hs
    have none_of : ∀ (L L' : List CoupleI), matchOk s Q L = true → (L.any (hitC (a : Int) (b : Int)) = true) → ∃ e ∈ Q, e.A < e.B ∧ hit (a : Int) (b : Int) e = true := fun L _ hL h => by
      obtain ⟨x, hx, h3⟩ := List.any_eq_true.1 h
      obtain ⟨hg', _, hm⟩ := match_sound hL
      have h1 := (match_pm hg' L none [] hm).1 x hx
      have h2 := at_iff x.A x.B Q
      rw [decide_eq_true h1.2.2.2.1] at h2
      obtain ⟨e, hem, heh⟩ := List.any_eq_true.1 h2.symm
      have hAB := ((edgeOk_iff s e).1 (he e hem)).2.1
      refine ⟨e, hem, hAB, ?_⟩
      unfold hit at heh ⊢
      unfold hitC at h3
      simp only [Bool.or_eq_true, Bool.and_eq_true, beq_iff_eq] at heh h3 ⊢
      omega
    have same : ∀ e ∈ Q, hit (a : Int) (b : Int) e = true → e.A < e.B → (M.any (hitC (a : Int) (b : Int)) = N.any (hitC (a : Int) (b : Int))) := fun e hem hh hAB => by
      rw [key M aM e hAB hh, key N aN e hAB hh]
      have h4 : ¬ (hasC M ⟨e.A, e.B⟩ != hasC N ⟨e.A, e.B⟩) = true := fun h5 => hs e (List.mem_filter.2 ⟨hem, h5⟩) hh
      simpa using h4
    cases hm : M.any (hitC (a : Int) (b : Int)) <;> cases hn : N.any (hitC (a : Int) (b : Int))
    · rfl
    · obtain ⟨e, hem, hAB, hh⟩ := none_of N M hN hn
      have := same e hem hh hAB
      rw [hm, hn] at this
      cases this
    · obtain ⟨e, hem, hAB, hh⟩ := none_of M N hM hm
      have := same e hem hh hAB
      rw [hm, hn] at this
      cases this
    · rfl
  · obtain ⟨e, hem, hh⟩ := List.any_eq_true.1 hs
    obtain ⟨heq, hx⟩ := List.mem_filter.1 hem
    have hAB := ((edgeOk_iff s e).1 (he e heq)).2.1
    rw [key M aM e hAB hh, key N aN e hAB hh]
    cases h1 : hasC M ⟨e.A, e.B⟩ <;> cases h2 : hasC N ⟨e.A, e.B⟩ <;> rw [h1, h2] at hx <;> first | rfl | cases hx
/-- Who has an edge. -/
def endF (F : Nat → Nat → Bool) : Nat → Bool := fun v => (List.range 9).any fun u => F v u
theorem endF_iff (F : Nat → Nat → Bool) (v : Nat) : endF F v = true ↔ ∃ u, u < 9 ∧ F v u = true := by
  unfold endF
  simp
/-- What is reached is reached through ends alone. -/
theorem rch_ends {F : Nat → Nat → Bool} (hs : ∀ u w, F u w = F w u) (f : Nat → Bool) {v : Nat} (hv : v < 9) : rch F (fun j => f j && endF F j) v = rch F f v := by
  funext x
  have h1 : rch F (fun j => f j && endF F j) v x = true → rch F f v x = true := fun h => (rch_iff hv x).2 (((rch_iff hv x).1 h).mono (fun j hj => by simp at hj; exact hj.1))
  have h2 : rch F f v x = true → rch F (fun j => f j && endF F j) v x = true := fun h => by
    have h3 := (rch_iff hv x).1 h
    refine (rch_iff hv x).2 ?_
    clear h h1
    induction h3 with
    | here => exact .here
    | @step u w _ hu hw hF hf ih =>
      refine ih.step hu hw hF ?_
      have : endF F w = true := (endF_iff F w).2 ⟨u, hu, by rw [hs]; exact hF⟩
      simp [hf, this]
  cases h : rch F f v x
  · cases h' : rch F (fun j => f j && endF F j) v x
    · rfl
    · rw [h1 h'] at h; cases h
  · exact h2 h
theorem rch_alone {F : Nat → Nat → Bool} (f : Nat → Bool) {v : Nat} (hv : v < 9) (h : endF F v = false) : rch F f v = fun j => j == v := by
  funext x
  have hno : ∀ u, u < 9 → F v u = false := fun u hu => by
    cases hq : F v u
    · rfl
    · rw [(endF_iff F v).2 ⟨u, hu, hq⟩] at h; cases h
  cases hx : (x == v)
  · cases hr : rch F f v x
    · rfl
    · have h1 := (rch_iff hv x).1 hr
      have h2 : x = v := by
        clear hr hx
        induction h1 with
        | here => rfl
        | @step u w _ hu hw hF hf ih =>
          subst ih
          rw [hno w hw] at hF
          cases hF
      rw [h2] at hx
      simp at hx
  · have : x = v := by simpa using hx
    subst this
    exact rch_here F f x
theorem setTo_alone {v : Nat} (hv : v < 9) : (setTo (fun j => j == v) 9).length = 1 := by
  have h : ∀ n, (setTo (fun j => j == v) n).length = if v < n then 1 else 0 := fun n => by
    induction n with
    | zero => rfl
    | succ n ih =>
      by_cases e : n = v
      · rw [setTo_in (by simp [e]), List.length_append, ih]
        subst e
        simp
      · rw [setTo_out (by simp [e]), ih]
        by_cases h1 : v < n
        · rw [if_pos h1, if_pos (by omega)]
        · rw [if_neg h1, if_neg (by omega)]
  rw [h 9, if_pos hv]
theorem setTo_two {p : Nat → Bool} {a b : Nat} (ha : a < 9) (hb : b < 9) (hne : a ≠ b) (h1 : p a = true) (h2 : p b = true) : 1 < (setTo p 9).length := by
  have m1 : (a : Int) ∈ setTo p 9 := by unfold setTo; exact List.mem_map.2 ⟨a, List.mem_filter.2 ⟨List.mem_range.2 ha, h1⟩, rfl⟩
  have m2 : (b : Int) ∈ setTo p 9 := by unfold setTo; exact List.mem_map.2 ⟨b, List.mem_filter.2 ⟨List.mem_range.2 hb, h2⟩, rfl⟩
  match hs : setTo p 9 with
  | [] => rw [hs] at m1; cases m1
  | [x] =>
    rw [hs] at m1 m2
    have e1 : (a : Int) = x := by simpa using m1
    have e2 : (b : Int) = x := by simpa using m2
    omega
  | x :: y :: r => simp
/-- The parts of more than one vertex are the parts of the ends. -/
theorem prts_ends {F : Nat → Nat → Bool} (hs : ∀ u w, F u w = F w u) (hir : ∀ u, F u u = false) (h9 : ∀ u w, F u w = true → u < 9) : ∀ (L : List Nat) (f : Nat → Bool), (∀ v ∈ L, v < 9) → (∀ u w, F u w = true → f u = true → w < 9 → f w = true) →
    ((prts F L f).map fun p => setTo p 9).filter (fun r => decide (1 < r.length)) = (prts F L (fun j => f j && endF F j)).map fun p => setTo p 9
  | [], _, _, _ => rfl
  | v :: r, f, hL, hf => by
    have hr := fun x hx => hL x (List.mem_cons_of_mem v hx)
    have hv := hL v List.mem_cons_self
    cases hfv : f v
    · rw [prts_out hfv, prts_out (by simp [hfv])]
      exact prts_ends hs hir h9 r f hr hf
    · have hcl : ∀ u w, F u w = true → (f u && !rch F f v u) = true → w < 9 → (f w && !rch F f v w) = true := fun u w hF hu hw => by
        simp at hu
        have hw2 := hf u w hF hu.1 hw
        cases hq : rch F f v w
        · simp [hw2]
        · have := rch_step hv hq hw (h9 u w hF) (by rw [hs]; exact hF) hu.1
          rw [hu.2] at this
          cases this
      rw [prts_in hfv, List.map_cons, List.filter_cons]
      cases he : endF F v
      · rw [rch_alone f hv he, prts_out (by simp [he]), if_neg (by rw [setTo_alone hv]; simp)]
        rw [rch_alone f hv he] at hcl
        rw [prts_ends hs hir h9 r _ hr hcl]
        congr 2
        funext j
        show (f j && !(j == v) && endF F j) = (f j && endF F j)
        by_cases e : j = v
        · subst e; rw [he]; simp
        · have e2 : (j == v) = false := by simpa using e
          rw [e2]; simp
      · obtain ⟨u, hu, hF⟩ := (endF_iff F v).1 he
        have hfu := hf v u hF hfv hu
        have huv : v ≠ u := fun e => by subst e; rw [hir] at hF; cases hF
        have hru : rch F f v u = true := rch_step hv (rch_here F f v) hv hu hF hfu
        rw [prts_in (by simp [hfv, he]), List.map_cons, rch_ends hs f hv, if_pos (by simpa using setTo_two hv hu huv (rch_here F f v) hru)]
        congr 1
        rw [prts_ends hs hir h9 r _ hr hcl]
        congr 2
        funext j
        cases f j <;> cases endF F j <;> cases rch F f v j <;> rfl
end Lk
end Go.Proofs.Ytnihoabminnbcaa
namespace Go.Proofs.Ytnihoabminnbcaa
namespace Lk
open Go.RowKit
open Gr (Blk Kept below_new setMany setMany_all below_setCells results_cell1)
theorem cells_boolL : Try.prog.cellsOf 4 = 1 := by kernel_rfl
theorem infoBL : ∃ i, Try.prog.info? 4 = some i := by
  cases h : Try.prog.info? 4 with
  | some i => exact ⟨i, rfl⟩
  | none =>
    have e : (Try.prog.info? 4).isSome = true := by kernel_rfl
    rw [h] at e
    cases e
theorem part_flL (f : Nat → Bool) (W : World) : ∀ j, j < 9 → (Go.part 4 (fl f) (j * 1)).run Try.prog W = .ok (.bool (f j)) W
  | 0, _ => by kernel_rfl
  | 1, _ => by kernel_rfl
  | 2, _ => by kernel_rfl
  | 3, _ => by kernel_rfl
  | 4, _ => by kernel_rfl
  | 5, _ => by kernel_rfl
  | 6, _ => by kernel_rfl
  | 7, _ => by kernel_rfl
  | 8, _ => by kernel_rfl
  | n + 9, h => absurd h (by omega)
theorem items_flL (f g : Nat → Bool) (d : Nat) (W : World) : ∀ (L : List Nat), (∀ j ∈ L, j < 9) → (Op.eqItems (d + 1) 4 1 (fl f) (fl g) L).run Try.prog W = .ok (L.all fun j => f j == g j) W
  | [], _ => by simp [Op.eqItems]
  | j :: r, h => by
    have h1 := part_flL f W j (h j List.mem_cons_self)
    have h2 := part_flL g W j (h j List.mem_cons_self)
    have h3 := items_flL f g d W r (fun x hx => h x (List.mem_cons_of_mem _ hx))
    simp only [Op.eqItems, Sem.run_bind, h1, h2, Result.andThen_ok, run_equalIn_bool W d 4 (f j) (g j) Try.underlying4, List.all_cons]
    cases (f j == g j)
    · simp
    · simp [h3]
theorem eq_flL (f g : Nat → Bool) (W : World) : (Op.equalIn 10000 60 (.agg (fl f)) (.agg (fl g))).run Try.prog W = .ok ((List.range 9).all fun j => f j == g j) W := by
  obtain ⟨i, hi⟩ := infoBL
  have h := run_equalIn_array W 9999 (fl f) (fl g) Try.underlying60 hi
  rw [show (10000 : Nat) = 9999 + 1 from rfl, h, cells_boolL]
  exact items_flL f g 9998 W (List.range 9) (fun j hj => List.mem_range.1 hj)
/-- No flag is set. -/
def none9 (f : Nat → Bool) : Bool := (List.range 9).all fun j => f j == false
theorem none_end (F : Nat → Nat → Bool) (v : Nat) : endF F v = !none9 (F v) := by
  unfold endF none9
  rw [List.not_all_eq_any_not]
  congr 1
  funext u
  cases F v u <;> rfl
theorem zero_nine : fl (fun _ => false) = #[.bool false, .bool false, .bool false, .bool false, .bool false, .bool false, .bool false, .bool false, .bool false] := rfl
/-- The first k ends. -/
def endTo (F : Nat → Nat → Bool) (k : Nat) : Nat → Bool := fun v => decide (v < k) && endF F v
theorem end_next (F : Nat → Nat → Bool) (k : Nat) : (fl (endTo F k)).setIfInBounds k (.bool (endF F k)) = fl (endTo F (k + 1)) := by
  rw [fl_set]
  refine fl_congr (fun v _ => ?_)
  unfold endTo
  by_cases h : v = k
  · subst h; simp
  · have : v < k + 1 ↔ v < k := by omega
    simp [h, this]
set_option maxRecDepth 100000 in
set_option maxHeartbeats 4000000 in
theorem ends_any (F : Nat → Nat → Bool) (T : Nat) (w : World) (hT : Blk w T (tb F) 62) :
    Calls Try.prog 24 #[.pointer (some ⟨T, 0, none⟩)] w fun e w' => e = .returned (.agg (fl (endF F))) ∧ Below w.heap.size w w' := by
  have HN := hide (fun k => end_next F k)
  have HEQ := hide (fun k W => eq_flL (F k) (fun _ => false) W)
  have HNE := hide (fun k => none_end F k)
  have HTB := hide (fun k (hk : k < 9) j (hj : j < 9) => tb_in F k j hk hj)
  have HAT : Hid (∀ (j k : Nat), k < 9 → (fl (endTo F j))[k]? = some (.bool (endTo F j k))) := fun j k h => fl_at _ k h
  have HEND : Hid (fl (endTo F 9) = fl (endF F)) := fl_congr (fun v hv => by unfold endTo; simp [hv])
  have H0 : Hid (fl (fun _ => false) = fl (endTo F 0)) := fl_congr (fun v _ => by unfold endTo; simp)
  have hiR := hide (infoVF (endF F))
  have hiRL := hide (infoVL (endF F))
  have h1R := hide (fl_one (endF F))
  have HRS := hide (fl_size (endF F))
  have HLR := hide (fun W b (h : Blk W b (fl (endF F)) 60) => load_fl h)
  generalize fl (endF F) = R at HEND hiR hiRL h1R HRS HLR ⊢
  have hTl := hT.lt
  have HT := hide hT
  rw [zero_nine] at H0
  clear hT
  go_enter Try.func24, Try.ntmps24
  go_wp2_with fail
  obtain ⟨Z, hZ⟩ : ∃ Z : Array Value, Z = #[.bool false, .bool false, .bool false, .bool false, .bool false, .bool false, .bool false, .bool false, .bool false] := ⟨_, rfl⟩
  obtain ⟨V1, hV1⟩ : ∃ W, W = w.alloc (Obj.cells #[.bool false, .bool false, .bool false, .bool false, .bool false, .bool false, .bool false, .bool false, .bool false] 60) := ⟨_, rfl⟩
  obtain ⟨V2, hV2⟩ : ∃ W, W = V1.alloc (Obj.cells #[.bool false, .bool false, .bool false, .bool false, .bool false, .bool false, .bool false, .bool false, .bool false] 60) := ⟨_, rfl⟩
  rw [← hV1, ← hV2]
  have b2 : Below w.heap.size w V2 := by rw [hV2, hV1]; exact (below_new _ _).alloc (by simp) _
  have HR2 : Hid (Blk V2 w.heap.size Z 60) := by show Blk _ _ _ _; rw [hZ, hV2, hV1]; exact Gr.Blk.new0.alloc
  have HE2 : Hid (Blk V2 (w.heap.size + 1) (fl (endTo F 0)) 60) := by show Blk _ _ _ _; rw [← unhide H0, hV2, hV1]; exact Gr.Blk.new1
  have HT2 : Hid (Blk V2 T (tb F) 62) := by show Blk _ _ _ _; rw [hV2, hV1]; exact (unhide HT).alloc.alloc
  have HZ9 : Hid (Z.size = 9) := by show _ = _; rw [hZ]; rfl
  have HZE := hide hZ
  clear hV1 hV2 H0 HT hZ
  go_loopw [8] (fun i wr => ∃ k : Nat, i = .int .i64 (k : Int) ∧ k ≤ 9 ∧ Hid (Blk wr (w.heap.size + 1) (fl (endTo F k)) 60) ∧ Hid (Blk wr w.heap.size Z 60) ∧ Hid (Blk wr T (tb F) 62) ∧ Below w.heap.size w wr) (fun i _ => 9 - (intOf i).toNat)
  case atStart => exact ⟨0, rfl, Nat.zero_le _, HE2, HR2, HT2, b2⟩
  case round =>
    clear HE2 HR2 HT2 b2
    obtain ⟨k, rfl, hk, HE, HR, HT, hb⟩ := hrel
    have hTl := (unhide HT).lt
    have hEl := (unhide HE).lt
    have hzb := hb.size
    by_cases hlt : k < 9
    · have hx1 : (k : Int) < 9 := by omega
      have hx0 : (0 : Int) ≤ (k : Int) := by omega
      have c0 : wr.cell? ⟨T, k * 9, none⟩ = some (.bool (F k 0)) := (unhide HT).cell (k * 9) _ (unhide HTB k hlt 0 (by omega))
      have c1 : wr.cell? ⟨T, k * 9 + 1, none⟩ = some (.bool (F k 1)) := (unhide HT).cell (k * 9 + 1) _ (unhide HTB k hlt 1 (by omega))
      have c2 : wr.cell? ⟨T, k * 9 + 2, none⟩ = some (.bool (F k 2)) := (unhide HT).cell (k * 9 + 2) _ (unhide HTB k hlt 2 (by omega))
      have c3 : wr.cell? ⟨T, k * 9 + 3, none⟩ = some (.bool (F k 3)) := (unhide HT).cell (k * 9 + 3) _ (unhide HTB k hlt 3 (by omega))
      have c4 : wr.cell? ⟨T, k * 9 + 4, none⟩ = some (.bool (F k 4)) := (unhide HT).cell (k * 9 + 4) _ (unhide HTB k hlt 4 (by omega))
      have c5 : wr.cell? ⟨T, k * 9 + 5, none⟩ = some (.bool (F k 5)) := (unhide HT).cell (k * 9 + 5) _ (unhide HTB k hlt 5 (by omega))
      have c6 : wr.cell? ⟨T, k * 9 + 6, none⟩ = some (.bool (F k 6)) := (unhide HT).cell (k * 9 + 6) _ (unhide HTB k hlt 6 (by omega))
      have c7 : wr.cell? ⟨T, k * 9 + 7, none⟩ = some (.bool (F k 7)) := (unhide HT).cell (k * 9 + 7) _ (unhide HTB k hlt 7 (by omega))
      have c8 : wr.cell? ⟨T, k * 9 + 8, none⟩ = some (.bool (F k 8)) := (unhide HT).cell (k * 9 + 8) _ (unhide HTB k hlt 8 (by omega))
      have HQ := hide (unhide HEQ k)
      have HNK := hide (unhide HNE k)
      have HS := hide (unhide HN k)
      have e9 : fl (F k) = #[.bool (F k 0), .bool (F k 1), .bool (F k 2), .bool (F k 3), .bool (F k 4), .bool (F k 5), .bool (F k 6), .bool (F k 7), .bool (F k 8)] := rfl
      have HQ2 : Hid (∀ W, (Op.equalIn 10000 60 (.agg (fl (F k))) (.agg (fl fun _ => false))).run Try.prog W = .ok (none9 (F k)) W) := unhide HQ
      rw [e9, zero_nine] at HQ2
      rw [unhide HNK] at HS
      generalize none9 (F k) = nk at HQ2 HS
      generalize F k 0 = f0 at c0 HQ2
      generalize F k 1 = f1 at c1 HQ2
      generalize F k 2 = f2 at c2 HQ2
      generalize F k 3 = f3 at c3 HQ2
      generalize F k 4 = f4 at c4 HQ2
      generalize F k 5 = f5 at c5 HQ2
      generalize F k 6 = f6 at c6 HQ2
      generalize F k 7 = f7 at c7 HQ2
      generalize F k 8 = f8 at c8 HQ2
      clear e9 HQ HNK
      go_wp2_with fail
      go_region
      obtain ⟨V5, hV5⟩ : ∃ W, W = (wr.alloc (Obj.cells #[Value.bool f0, Value.bool f1, Value.bool f2, Value.bool f3, Value.bool f4, Value.bool f5, Value.bool f6, Value.bool f7, Value.bool f8] 60)).drew := ⟨_, rfl⟩
      rw [← hV5]
      have n5 : Below wr.heap.size wr V5 := by rw [hV5]; exact (below_new _ _).drew
      have u5 : Blk V5 wr.heap.size #[Value.bool f0, Value.bool f1, Value.bool f2, Value.bool f3, Value.bool f4, Value.bool f5, Value.bool f6, Value.bool f7, Value.bool f8] 60 := by rw [hV5]; exact Gr.Blk.new0.drew
      have hE5 := (unhide HE).below n5
      have hR5 := (unhide HR).below n5
      have hT5 := (unhide HT).below n5
      have b5 := hb.trans (n5.mono hb.size)
      have r5 := hide u5.range
      have q0 := hE5.cell k _ (unhide HAT k k hlt)
      have fz := hE5.froz k
      generalize endTo F k k = old at q0
      have HE6 : Hid (Blk (V5.setCell ⟨w.heap.size + 1, k, none⟩ (.bool (!nk))) (w.heap.size + 1) (fl (endTo F (k + 1))) 60) := by
        show Blk _ _ _ _
        rw [← unhide HS]
        exact hE5.set k _
      have HR6 : Hid (Blk (V5.setCell ⟨w.heap.size + 1, k, none⟩ (.bool (!nk))) w.heap.size Z 60) := hR5.set_other (by omega) k _
      have HT6 : Hid (Blk (V5.setCell ⟨w.heap.size + 1, k, none⟩ (.bool (!nk))) T (tb F) 62) := hT5.set_other (tbl_ne hT5 hE5) k _
      have b6 : Below w.heap.size w (V5.setCell ⟨w.heap.size + 1, k, none⟩ (.bool (!nk))) := b5.setCell (p := ⟨w.heap.size + 1, k, none⟩) (by simp) _
      have hq := unhide HQ2
      have iN : (Try.prog.info? 60).map (·.size) = some 9 := infoV
      clear hV5 n5 u5 hE5 hR5 hT5 b5 c0 c1 c2 c3 c4 c5 c6 c7 c8 HE HR HT HQ2 HS hb
      go_wp2_with (first
        | refine wpList_load_mid rfl 60 _ rfl wr.heap.size 0 rfl [Value.bool f0, Value.bool f1, Value.bool f2, Value.bool f3, Value.bool f4, Value.bool f5, Value.bool f6, Value.bool f7, Value.bool f8] _ (unhide r5) Try.underlying60 rfl iN ?_)
      exact ⟨⟨k + 1, by go_num, by omega, HE6, HR6, HT6, b6⟩, by simp [intOf]; omega⟩
    · obtain rfl : k = 9 := by omega
      have HT' : Hid (Blk wr (w.heap.size + 1) R 60) := by show Blk _ _ _ _; rw [← unhide HEND]; exact unhide HE
      have HR1 := hide (unhide HT').range
      have HR5 : Hid (wr.there w.heap.size 0 R.size) := (unhide HR).there 0 _ (by rw [unhide HZ9, unhide HRS]; omega)
      have HB : Hid (Blk (wr.setCells w.heap.size 0 R.toList) w.heap.size R 60) := by
        have h := Gr.Blk.many R.toList 0 (unhide HR)
        rwa [setMany_all _ _ (by rw [unhide HZ9, unhide HRS])] at h
      have HLD := hide (unhide HLR _ _ (unhide HB))
      clear HB HT'
      go_wp2_with (first
        | refine wpList_load_mid rfl 60 _ rfl (w.heap.size + 1) 0 rfl R.toList _ (unhide HR1) Try.underlying60 rfl (unhide hiRL) ?_
        | refine wpList_store_mid rfl 60 _ _ rfl w.heap.size 0 R rfl rfl (unhide HR5) (unhide hiR) (unhide h1R) ?_)
      refine bodyPost_ret (v := .agg R) ?_ rfl ⟨rfl, below_setCells _ _ (Nat.le_refl _) _ _ _ _ hb⟩
      have hld := unhide HLD
      rw [results_cell1 rfl]
      show ((asAddr (Value.pointer (some ⟨w.heap.size, 0, none⟩))).run Try.prog _).andThen _ = _
      simp [asAddr, Result.andThen, hld]
end Lk
end Go.Proofs.Ytnihoabminnbcaa
