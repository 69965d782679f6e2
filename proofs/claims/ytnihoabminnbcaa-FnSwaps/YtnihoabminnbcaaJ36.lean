/-
 SvX0, SvH1, SvP0.
-/
import Derived.Test.YtnihoabminnbcaaJ33
import Derived.Test.YtnihoabminnbcaaJ13
import Derived.BigQuiet
import Derived.Test.YtnihoabminnbcaaJ21
import Derived.Test.YtnihoabminnbcaaJ8
namespace Go.Proofs.Ytnihoabminnbcaa
namespace Sv
open Go.RowKit Gr
theorem ndsV_snoc : ∀ (rs ls : List Value) (N : List Nd) (r l : Value) (x : Nd), rs.length = N.length → ls.length = N.length → ndsV (rs ++ [r]) (ls ++ [l]) (N ++ [x]) = ndsV rs ls N ++ [r, l, .int .i64 (x.base : Int), .int .i64 x.z, .int .i64 x.up, .bool x.gone]
  | [], [], [], r, l, x, _, _ => rfl
  | r0 :: rs, l0 :: ls, y :: N, r, l, x, h1, h2 => by
    have ih := ndsV_snoc rs ls N r l x (by simpa using h1) (by simpa using h2)
    show r0 :: l0 :: _ :: _ :: _ :: _ :: ndsV (rs ++ [r]) (ls ++ [l]) (N ++ [x]) = _
    rw [ih]
    rfl
  | [], _, _ :: _, _, _, _, h1, _ => by simp at h1
  | _ :: _, _, [], _, _, _, h1, _ => by simp at h1
  | _, [], _ :: _, _, _, _, _, h2 => by simp at h2
  | _, _ :: _, [], _, _, _, _, h2 => by simp at h2
theorem natsV_ints (L : List Nat) : natsV L = intsV (natI L) := by simp [natsV, intsV, natI]
/-- A row of numbers, as the specification's small questions ask for it. -/
theorem na_ints {w : World} {B : Nat} {a : Option Addr} {n c : Nat} {L : List Nat} (h : NaOwn w B (.slice a n c) L) (hn : n = L.length) : IntsAt w a n w.heap.size (natI L) := by
  unfold NaOwn at h
  rw [natsV_ints] at h
  have hl : (natI L).length = L.length := by simp [natI]
  rw [← hl] at h
  obtain ⟨a', c', e, hI⟩ := intsAt_of_own h
  simp at e
  obtain ⟨rfl, _, rfl⟩ := e
  rw [hn, ← hl]
  exact hI
theorem inK_nat (L : List Nat) (x : Nat) : inK (natI L) (x : Int) = decide (x ∈ L) := by
  have key : inK (natI L) (x : Int) = true ↔ x ∈ L := by
    unfold inK natI
    simp
    constructor
    · rintro ⟨a, ha, e⟩
      have : a = x := by omega
      rw [← this]; exact ha
    · intro h
      exact ⟨x, h, rfl⟩
  cases h : inK (natI L) (x : Int) with
  | true => rw [decide_eq_true (key.1 h)]
  | false => rw [decide_eq_false (fun hm => by rw [key.2 hm] at h; cases h)]
theorem place_nat (L : List Nat) (x : Nat) : x ∈ L → placeOf (natI L) (x : Int) = (plcOf x L : Int) := by
  have key : ∀ (L : List Nat) (k : Nat), x ∈ L → placeFrom (x : Int) k (natI L) = ((k + plcOf x L : Nat) : Int) := by
    intro L
    induction L with
    | nil => intro k h; cases h
    | cons y r ih =>
      intro k h
      show placeFrom (x : Int) k ((y : Int) :: natI r) = _
      rw [placeFrom]
      by_cases hy : y = x
      · subst hy
        have : plcOf y (y :: r) = 0 := by rw [plcOf.eq_def]; simp only [if_pos]
        simp [this]
      · have e : plcOf x (y :: r) = plcOf x r + 1 := by rw [plcOf.eq_def]; simp only [if_neg hy]
        have hne : ((y : Int) == (x : Int)) = false := by rw [beq_eq_false_iff_ne]; omega
        rw [hne, e]
        simp only [Bool.false_eq_true, if_false]
        rw [ih (k + 1) (by rcases List.mem_cons.1 h with h | h; exact absurd h.symm hy; exact h)]
        omega
  intro h
  have := key L 0 h
  rw [Nat.zero_add] at this
  exact this
section
variable {w : World} {b lo : Nat} {aQ : Option Addr} {cQ s : Nat} {Q : List EdgeI} {y : List Int} {N : List Nd} {M : List Lk} {k : Int} {d : Bool} {vv : Vs}
/-- A node is put behind the others. -/
theorem RunAt.appN {w1 w3 : World} {x : Nd} {v' vR vL : Value} (h : RunAt w b lo aQ cQ s Q y N M k d vv) (hlo : lo ≤ w.heap.size) (hb : Below w.heap.size w w1) (hg : w1.grownBy w3 vv.n.ownBlock) (hv : w3.ownsRow lo 86 6 v' (N.length + 1) (ndsV vv.rs vv.ls N ++ [vR, vL, .int .i64 (x.base : Int), .int .i64 x.z, .int .i64 x.up, .bool x.gone])) (hR : NaOwn w1 lo vR x.ring) (hL : LkOwn w1 lo vL x.links) (dR : ∀ g, vR.ownBlock = some g → vv.y.ownBlock ≠ some g) (dL : ∀ g, vL.ownBlock = some g → vv.m.ownBlock ≠ some g) :
    RunAt (w3.setCell ⟨b, 3, none⟩ v') b lo aQ cQ s Q y (N ++ [x]) M k d { vv with n := v', rs := vv.rs ++ [vR], ls := vv.ls ++ [vL] } ∧ Kept (fun i => i = b ∨ vv.n.ownBlock = some i) w (w3.setCell ⟨b, 3, none⟩ v') := by
  obtain ⟨t1, t2, t3, t4, t5, t6⟩ := run_types
  have h1 := h.below hb hlo
  have kg : Kept (fun i => vv.n.ownBlock = some i) w1 w3 := Kept.of_grown hg
  have kk : Kept (fun i => i = b) w3 (w3.setCell ⟨b, 3, none⟩ v') := Kept.set _ _ _ _ rfl
  have al := fun (e : TypeId) (he : (86 : Nat) ≠ e) => own_alien h1.ns he
  have box3 := h1.box.kept_alien kg (al _ t2.symm)
  have al2 : ∀ e : TypeId, (51 : Nat) ≠ e → ∀ i, i = b → Alien w3 i e := fun e he i hi => by subst hi; exact box3.alien he
  have ka : Kept (fun i => i = b ∨ vv.n.ownBlock = some i) w (w3.setCell ⟨b, 3, none⟩ v') := ((Kept.of_below hb).trans (kg.weak (fun i hi => .inr hi))).trans (kk.weak (fun i hi => .inl hi))
  have mvI : ∀ {u : Value} {L : List Nat}, NaOwn w1 lo u L → NaOwn (w3.setCell ⟨b, 3, none⟩ v') lo u L := fun ho => kk.own_alien (kg.own_alien ho (al _ t4)) (al2 _ t1)
  have mvL : ∀ {u : Value} {L : List Lk}, LkOwn w1 lo u L → LkOwn (w3.setCell ⟨b, 3, none⟩ v') lo u L := fun ho => kk.own_alien (kg.own_alien ho (al _ t5)) (al2 _ t3)
  refine ⟨⟨box3.set 3 v', ?_, kk.own_alien (kg.own_alien h1.ys (al _ t4)) (al2 _ t1), ?_, kk.own_alien (kg.own_alien h1.ms (al _ t5)) (al2 _ t3), by simp [h1.rl], by simp [h1.ll], fun j h2 h3 => ?_, fun j h2 h3 => ?_, fun u hu g hg he => ?_, fun u hu g hg he => ?_, h1.blo⟩, ka⟩
  · refine h.edges.below (ka.below (B := lo) hlo (fun i hi => ?_)) (Nat.le_refl _)
    rcases hi with rfl | hi
    · exact h.blo
    · exact (World.ownsRow.lt h.ns i hi).1
  · show World.ownsRow _ _ _ _ _ _ _
    rw [ndsV_snoc _ _ _ _ _ _ h1.rl h1.ll, List.length_append]
    exact kk.own_alien hv (al2 _ t2)
  · simp only at h3 ⊢
    by_cases hj : j < N.length
    · rw [List.getElem_append_left hj, List.getElem_append_left (by rw [h1.rl]; exact hj)]
      exact mvI (h1.rings j hj (by rw [h1.rl]; exact hj))
    · have e : j = N.length := by simp at h2; omega
      subst e
      rw [List.getElem_append_right (Nat.le_refl _), List.getElem_append_right (by rw [h1.rl]; exact Nat.le_refl _)]
      simp [h1.rl]
      exact mvI hR
  · simp only at h3 ⊢
    by_cases hj : j < N.length
    · rw [List.getElem_append_left hj, List.getElem_append_left (by rw [h1.ll]; exact hj)]
      exact mvL (h1.lnks j hj (by rw [h1.ll]; exact hj))
    · have e : j = N.length := by simp at h2; omega
      subst e
      rw [List.getElem_append_right (Nat.le_refl _), List.getElem_append_right (by rw [h1.ll]; exact Nat.le_refl _)]
      simp [h1.ll]
      exact mvL hL
  · rcases List.mem_append.1 hu with hu | hu
    · exact h1.d1 u hu g hg he
    · simp at hu; subst hu; exact dR g hg he
  · rcases List.mem_append.1 hu with hu | hu
    · exact h1.d2 u hu g hg he
    · simp at hu; subst hu; exact dL g hg he
end
/-! ### Rows that grow -/
theorem rev_step (L : List Nat) (m : Nat) (h : m < L.length) : (L.drop m).reverse = (L.drop (m + 1)).reverse ++ [L.getD m 0] := by
  rw [List.drop_eq_getElem_cons h, List.reverse_cons, getD_at _ _ _ h]
theorem setUps_next (N : List Nd) (L : List Nat) (u : Int) (j : Nat) (h : j < L.length) : setUps N (L.take (j + 1)) u = setUp (setUps N (L.take j) u) (L.getD j 0) u := by
  unfold setUps
  rw [List.take_succ_eq_append_getElem h, List.foldl_append, getD_at _ _ _ h]
  rfl
theorem keepM_snoc (N : List Nd) (L : List Nat) (M : List Lk) (j : Nat) (h : j < M.length) : keepM N L (M.take (j + 1)) = keepM N L (M.take j) ++ (if (decide (top N (M.getD j ⟨0, 0⟩).f ∈ L) && decide (top N (M.getD j ⟨0, 0⟩).t ∈ L)) = true then [] else [M.getD j ⟨0, 0⟩]) := by
  unfold keepM
  rw [List.take_succ_eq_append_getElem h, List.filter_append, getD_at _ _ _ h]
  congr 1
  rw [List.filter_cons]
  cases decide (top N M[j].f ∈ L) && decide (top N M[j].t ∈ L) <;> simp
theorem keepM_len (N : List Nd) (L : List Nat) (M : List Lk) (j : Nat) : (keepM N L (M.take j)).length ≤ j := by
  unfold keepM
  have := List.length_filter_le (fun x : Lk => !(decide (top N x.f ∈ L) && decide (top N x.t ∈ L))) (M.take j)
  rw [List.length_take] at this
  omega
/-- A ring and its links that are made, above what stood in W1. -/
def RL (W1 W : World) (vr vl : Value) (R : List Nat) (L : List Lk) : Prop := NaOwn W W1.heap.size vr R ∧ LkOwn W W1.heap.size vl L ∧ Below W1.heap.size W1 W
theorem RL.ring {W1 W w3 : World} {vr vl v' : Value} {R : List Nat} {L : List Lk} {x : Nat} {o : Obj} (h : RL W1 W vr vl R L) (hg : (W.alloc o).grownBy w3 vr.ownBlock) (hv : w3.ownsRow W1.heap.size 3 1 v' (R.length + 1) (natsV R ++ [.int .i64 (x : Int)])) : RL W1 w3 v' vl (R ++ [x]) L := by
  obtain ⟨h1, h2, h3⟩ := h
  have kg : Kept (fun i => vr.ownBlock = some i) (W.alloc o) w3 := Kept.of_grown hg
  have h1a := own_below h1 (below_new W o)
  refine ⟨?_, kg.own_alien (own_below h2 (below_new W o)) (own_alien h1a (run_types.2.2.2.2.2).symm), (h3.alloc h3.size o).grown hg (Nat.le_trans h3.size (below_new W o).size) (fun k hk => (World.ownsRow.lt h1 k hk).1)⟩
  show World.ownsRow _ _ _ _ _ _ _
  rw [natsV_snoc, List.length_append]
  exact hv
theorem RL.link {W1 W w1 w3 : World} {vr vl v' : Value} {R : List Nat} {L : List Lk} {x : Lk} (h : RL W1 W vr vl R L) (hb : Below W.heap.size W w1) (hg : w1.grownBy w3 vl.ownBlock) (hv : w3.ownsRow W1.heap.size 56 2 v' (L.length + 1) (lksV L ++ [.int .i64 (x.f : Int), .int .i64 (x.t : Int)])) : RL W1 w3 vr v' R (L ++ [x]) := by
  obtain ⟨h1, h2, h3⟩ := h
  have kg : Kept (fun i => vl.ownBlock = some i) w1 w3 := Kept.of_grown hg
  have h2a := own_below h2 hb
  have hb1 : Below W1.heap.size W1 w1 := h3.trans (hb.mono h3.size)
  refine ⟨kg.own_alien (own_below h1 hb) (own_alien h2a run_types.2.2.2.2.2), ?_, hb1.grown hg hb1.size (fun k hk => (World.ownsRow.lt h2 k hk).1)⟩
  show World.ownsRow _ _ _ _ _ _ _
  rw [lksV_snoc, List.length_append]
  exact hv
theorem RL.below {W1 W W' : World} {vr vl : Value} {R : List Nat} {L : List Lk} (h : RL W1 W vr vl R L) (hb : Below W.heap.size W W') : RL W1 W' vr vl R L := ⟨own_below h.1 hb, own_below h.2.1 hb, h.2.2.trans (hb.mono h.2.2.size)⟩
def aheadF : List Int → List Int → Bool
  | x :: a, y :: b => if x ≠ y then decide (x < y) else aheadF a b
  | [], b => decide (0 < b.length)
  | _ :: _, [] => false
theorem ahead_step (A B : List Int) (j : Nat) (ha : j < A.length) (hb : j < B.length) : aheadF (A.drop j) (B.drop j) = if A[j] ≠ B[j] then decide (A[j] < B[j]) else aheadF (A.drop (j + 1)) (B.drop (j + 1)) := by
  rw [List.drop_eq_getElem_cons ha, List.drop_eq_getElem_cons hb]
  rfl
theorem ahead_end (A B : List Int) (j : Nat) (hj : j ≤ A.length) (hj2 : j ≤ B.length) (h : ¬ (j < A.length ∧ j < B.length)) : aheadF (A.drop j) (B.drop j) = decide (A.length < B.length) := by
  by_cases ha : j < A.length
  · have hb : j = B.length := by omega
    rw [List.drop_eq_getElem_cons ha, List.drop_of_length_le (l := B) (by omega)]
    show false = _
    symm
    simp; omega
  · rw [List.drop_of_length_le (l := A) (by omega)]
    show decide (0 < (B.drop j).length) = _
    rw [List.length_drop]
    congr 1
    simp; omega
set_option maxRecDepth 100000 in
set_option maxHeartbeats 1000000 in
theorem ahead_any (w : World) (A B : List Int) (aA aB : Option Addr) (cA cB la lb BA BB : Nat) (hla : la ≤ 1048576) (hlb : lb ≤ 1048576) (hBA : BA ≤ w.heap.size) (hBB : BB ≤ w.heap.size) (hA : IntsAt w aA la BA A) (hB : IntsAt w aB lb BB B) :
    Calls Try.prog 39 #[.slice aA la cA, .slice aB lb cB] w fun u w' => u = .returned (.bool (aheadF A B)) ∧ Below w.heap.size w w' := by
  obtain ⟨lA, hcA⟩ := hA
  obtain ⟨lB, hcB⟩ := hB
  have HCA := hide hcA
  have HCB := hide hcB
  have HLA := hide lA
  have HLB := hide lB
  have HST := hide (ahead_step A B)
  have HEND := hide (ahead_end A B)
  have HT0 : Hid (aheadF A B = aheadF (A.drop 0) (B.drop 0)) := rfl
  generalize aheadF A B = T at HT0
  clear hcA hcB lA lB
  go_enter Try.func39, Try.ntmps39
  go_wp2_with fail
  go_loopw [5] (fun i wr => ∃ k : Nat, i = .int .i64 (k : Int) ∧ k ≤ la ∧ k ≤ lb ∧ Hid (T = aheadF (A.drop k) (B.drop k)) ∧ Below w.heap.size w wr) (fun i _ => la - (intOf i).toNat)
  case atStart => exact ⟨0, rfl, Nat.zero_le _, Nat.zero_le _, HT0, Below.refl _ _⟩
  case round =>
    obtain ⟨k, rfl, hka, hkb, HT, hb⟩ := hrel
    by_cases h1 : k < la
    · have hx0 : (0 : Int) ≤ (k : Int) := by omega
      have hx1 : (k : Int) < (la : Int) := by omega
      by_cases h2 : k < lb
      · have hx2 : (k : Int) < (lb : Int) := by omega
        have kA : k < A.length := by have := unhide HLA; omega
        have kB : k < B.length := by have := unhide HLB; omega
        obtain ⟨b1, o1, rfl, hb1, c1⟩ := unhide HCA k kA
        obtain ⟨b2, o2, rfl, hb2, c2⟩ := unhide HCB k kB
        rw [← hb.cell (p := ⟨b1, o1 + k, none⟩) (by simp; omega)] at c1
        rw [← hb.cell (p := ⟨b2, o2 + k, none⟩) (by simp; omega)] at c2
        have HT2 := hide ((unhide HT).trans (unhide HST k kA kB))
        generalize A[k] = x at c1 HT2
        generalize B[k] = y at c2 HT2
        by_cases hxy : x = y
        · subst hxy
          have HT3 : Hid (T = aheadF (A.drop (k + 1)) (B.drop (k + 1))) := (unhide HT2).trans (if_neg (fun h => h rfl))
          clear HT2 HT
          go_wp2_with fail
          go_quiet (fail)
          go_wp2
          go_roundw
          case rel => exact ⟨k + 1, by go_num, by omega, by omega, HT3, below_drewN hb _⟩
          case measure => simp [intOf]; omega
        · have hT : T = decide (x < y) := (unhide HT2).trans (if_pos hxy)
          subst hT
          have hne : (x == y) = false := by simp [hxy]
          clear HT2 HT
          go_wp2_with fail
          go_quiet (fail)
          go_wp2_with fail
          go_quiet (fail)
          go_wp2
          go_ret
          exact ⟨rfl, below_drewN (below_drewN hb _) _⟩
      · obtain rfl : k = lb := by omega
        have hx2 : ¬ (k : Int) < (k : Int) := by omega
        have hT : T = decide (la < k) := by
          rw [unhide HT, unhide HEND k (by have := unhide HLA; omega) (by have := unhide HLB; omega) (by have := unhide HLB; omega), unhide HLA, unhide HLB]
        have hf : T = false := by rw [hT]; simp; omega
        subst hf
        have hx3 : ¬ (la : Int) < (k : Int) := by omega
        clear hT HT
        go_wp2
        go_ret
        exact ⟨rfl, hb⟩
    · obtain rfl : k = la := by omega
      have hx1 : ¬ (k : Int) < (k : Int) := by omega
      have hT : T = decide (k < lb) := by
        rw [unhide HT, unhide HEND k (by have := unhide HLA; omega) (by have := unhide HLB; omega) (by have := unhide HLA; omega), unhide HLA, unhide HLB]
      have hT2 : T = decide ((k : Int) < (lb : Int)) := by rw [hT]; congr 1; simp
      subst hT2
      clear hT HT
      by_cases h3 : (k : Int) < (lb : Int)
      · go_wp2
        go_ret
        exact ⟨by first | rfl | (congr 2; simp; omega) | (congr 2; simpa using h3), hb⟩
      · go_wp2
        go_ret
        exact ⟨by first | rfl | (congr 2; simp; omega) | (congr 2; simpa using h3), hb⟩
/-- Where a group comes to stand among the first k. -/
def posF (m : List Int) (G : List GrpI) : Nat → Nat
  | 0 => 0
  | k + 1 => if aheadF m (G.getD k ⟨[], 0⟩).M = true then posF m G k else k + 1
theorem posF_le (m : List Int) (G : List GrpI) : ∀ k, posF m G k ≤ k
  | 0 => Nat.le_refl _
  | k + 1 => by
    rw [posF]
    split
    · have := posF_le m G k; omega
    · omega
def insG (x : GrpI) (G : List GrpI) : List GrpI := G.take (posF x.M G G.length) ++ [x] ++ G.drop (posF x.M G G.length)
def memTo (N : List Nd) (i v : Nat) : List Int := ((List.range v).filter fun u => win N u i).map fun (u : Nat) => (u : Int)
theorem memTo_zero (N : List Nd) (i : Nat) : memTo N i 0 = [] := rfl
theorem memTo_yes (N : List Nd) (i v : Nat) (h : win N v i = true) : memTo N i (v + 1) = memTo N i v ++ [(v : Int)] := by
  unfold memTo
  rw [List.range_succ, List.filter_append, List.map_append]
  simp [h]
theorem memTo_no (N : List Nd) (i v : Nat) (h : win N v i = false) : memTo N i (v + 1) = memTo N i v := by
  unfold memTo
  rw [List.range_succ, List.filter_append, List.map_append]
  simp [h]
theorem memTo_len (N : List Nd) (i v : Nat) : (memTo N i v).length ≤ v := by
  unfold memTo
  rw [List.length_map]
  exact Nat.le_trans (List.length_filter_le _ _) (by simp)
def grF (s : Nat) (N : List Nd) : List Nat → List GrpI → List GrpI
  | [], G => G
  | i :: r, G => grF s N r (if ((nd N i).gone || decide ((nd N i).z ≤ 0)) = true then G else insG ⟨memTo N i s, (nd N i).z⟩ G)
def groupsF (s : Nat) (N : List Nd) : List GrpI := grF s N (List.range' s (N.length - s)) []
theorem grF_step (s : Nat) (N : List Nd) (i : Nat) (G : List GrpI) (hi : i < N.length) : grF s N (List.range' i (N.length - i)) G = grF s N (List.range' (i + 1) (N.length - (i + 1))) (if ((nd N i).gone || decide ((nd N i).z ≤ 0)) = true then G else insG ⟨memTo N i s, (nd N i).z⟩ G) := by
  rw [show N.length - i = (N.length - (i + 1)) + 1 by omega, List.range'_succ]
  rfl
theorem insG_len (x : GrpI) (G : List GrpI) : (insG x G).length = G.length + 1 := by
  have := posF_le x.M G G.length
  unfold insG
  simp only [List.length_append, List.length_take, List.length_drop, List.length_cons, List.length_nil]
  omega
theorem gC_append : ∀ (a b : List Value) (c d : List Int), a.length = c.length → gC (a ++ b) (c ++ d) = gC a c ++ gC b d
  | [], b, [], d, _ => rfl
  | x :: a, b, z :: c, d, h => by
    have := gC_append a b c d (by simpa using h)
    simp [gC, this]
  | [], _, _ :: _, _, h => by simp at h
  | _ :: _, _, [], _, h => by simp at h
theorem gC_split (ms : List Value) (zs : List Int) (k : Nat) (h : ms.length = zs.length) : gC ms zs = gC (ms.take k) (zs.take k) ++ gC (ms.drop k) (zs.drop k) := by
  rw [← gC_append _ _ _ _ (by simp [h]), List.take_append_drop, List.take_append_drop]
theorem gC_one : ∀ (ms : List Value) (zs : List Int), (∀ u ∈ ms, u.oneCell' = true) → ∀ u ∈ gC ms zs, u.oneCell' = true
  | [], _, _, u, hu => by simp [gC] at hu
  | _ :: _, [], _, u, hu => by simp [gC] at hu
  | m :: ms, z :: zs, h, u, hu => by
    simp only [gC, List.mem_cons] at hu
    rcases hu with rfl | rfl | hu
    · exact h _ (by simp)
    · rfl
    · exact gC_one ms zs (fun u hu => h u (by simp [hu])) u hu
theorem own_one {w : World} {B e s n : Nat} {v : Value} {xs : List Value} (h : w.ownsRow B e s v n xs) : v.oneCell' = true := by
  rcases h.2 with ⟨rfl, h0⟩ | ⟨g, cap, cur, rfl, _⟩ <;> rfl
/-- The cells of what comes out of the three appends. -/
theorem gown_ins {W : World} {B : Nat} {v vm : Value} {ms : List Value} {G : List GrpI} {x : GrpI} {k : Nat} (hl : ms.length = G.length) (hk : k ≤ G.length)
    (ho : W.ownsRow B 89 2 v (k + 1 + (G.length - k)) ((gC (ms.take k) ((zsOf G).take k) ++ [vm, .int .i64 x.Z]) ++ gC (ms.drop k) ((zsOf G).drop k)))
    (hm : ∀ j (h1 : j < ms.length) (h2 : j < G.length), InOwn W B ms[j] G[j].M) (hx : InOwn W B vm x.M) :
    GOwn W B v (ms.take k ++ [vm] ++ ms.drop k) (G.take k ++ [x] ++ G.drop k) := by
  have hz : (zsOf G).length = G.length := zsOf_length G
  refine ⟨by simp [hl], ?_, fun j h1 h2 => ?_⟩
  · have e1 : (G.take k ++ [x] ++ G.drop k).length = k + 1 + (G.length - k) := by simp; omega
    have e2 : gC (ms.take k ++ [vm] ++ ms.drop k) (zsOf (G.take k ++ [x] ++ G.drop k)) = (gC (ms.take k) ((zsOf G).take k) ++ [vm, .int .i64 x.Z]) ++ gC (ms.drop k) ((zsOf G).drop k) := by
      have e3 : zsOf (G.take k ++ [x] ++ G.drop k) = (zsOf G).take k ++ [x.Z] ++ (zsOf G).drop k := by simp [zsOf, List.map_take, List.map_drop]
      rw [e3, gC_append _ _ _ _ (by simp [hl, hz]), gC_append _ _ _ _ (by simp [hl, hz])]
      rfl
    rw [e1, e2]
    exact ho
  · simp only [List.append_assoc, List.length_append, List.length_take, List.length_cons, List.length_nil, List.length_drop] at h1 h2
    by_cases hj : j < k
    · have a1 : (ms.take k ++ [vm] ++ ms.drop k)[j]'(by simp; omega) = ms[j]'(by omega) := by
        rw [List.getElem_append_left (by simp; omega), List.getElem_append_left (by simp; omega), List.getElem_take]
      have a2 : (G.take k ++ [x] ++ G.drop k)[j]'(by simp; omega) = G[j]'(by omega) := by
        rw [List.getElem_append_left (by simp; omega), List.getElem_append_left (by simp; omega), List.getElem_take]
      rw [a1, a2]
      exact hm j (by omega) (by omega)
    · by_cases hj2 : j = k
      · subst hj2
        have a1 : (ms.take j ++ [vm] ++ ms.drop j)[j]'(by simp; omega) = vm := by
          rw [List.getElem_append_left (by simp; omega), List.getElem_append_right (by rw [List.length_take]; omega)]
          simp
        have a2 : (G.take j ++ [x] ++ G.drop j)[j]'(by simp; omega) = x := by
          rw [List.getElem_append_left (by simp; omega), List.getElem_append_right (by rw [List.length_take]; omega)]
          simp
        rw [a1, a2]
        exact hx
      · have a1 : (ms.take k ++ [vm] ++ ms.drop k)[j]'(by simp; omega) = ms[j - 1]'(by omega) := by
          rw [List.getElem_append_right (by simp; omega), List.getElem_drop]
          congr 1
          simp; omega
        have a2 : (G.take k ++ [x] ++ G.drop k)[j]'(by simp; omega) = G[j - 1]'(by omega) := by
          rw [List.getElem_append_right (by simp; omega), List.getElem_drop]
          congr 1
          simp; omega
        rw [a1, a2]
        exact hm _ (by omega) (by omega)
end Sv
end Go.Proofs.Ytnihoabminnbcaa
