/-
 SvL1, SvH1, SvP0.
-/
import Derived.Test.YtkjclkelnheheaaJ20
import Derived.Test.YtkjclkelnheheaaJ21
import Derived.BigQuiet
import Derived.Test.YtkjclkelnheheaaJ13
import Derived.Test.YtkjclkelnheheaaJ7
namespace Go.Proofs.Ytkjclkelnheheaa
namespace Sv
open Go.RowKit Gr
theorem top_types : (122 : Nat) ≠ 3 ∧ (122 : Nat) ≠ 83 ∧ (83 : Nat) ≠ 3 := by decide
/-- Labels in memory that may be written. -/
structure TpW (w : World) (bt lo : Nat) (t : Tp) (vl va vr : Value) : Prop where
  at_ : TpAt w bt lo t vl va vr
  lr : ∀ g, vl.ownBlock = some g → vr.ownBlock ≠ some g
  blo : lo ≤ bt
theorem TpW.below {w w' : World} {bt lo : Nat} {t : Tp} {vl va vr : Value} (h : TpW w bt lo t vl va vr) (hb : Below w.heap.size w w') : TpW w' bt lo t vl va vr := ⟨h.at_.below hb, h.lr, h.blo⟩
theorem natsV_set (L : List Nat) (j u : Nat) : (natsV L).set j (.int .i64 (u : Int)) = natsV (L.set j u) := by
  simp only [natsV, List.map_set]
theorem lksV_set : ∀ (M : List Lk) (j : Nat) (x : Lk), ((lksV M).set (j * 2) (.int .i64 (x.f : Int))).set (j * 2 + 1) (.int .i64 (x.t : Int)) = lksV (M.set j x)
  | [], _, _ => rfl
  | z :: r, 0, x => rfl
  | z :: r, j + 1, x => by
    have e : lksV (z :: r) = .int .i64 (z.f : Int) :: .int .i64 (z.t : Int) :: lksV r := rfl
    have ih := lksV_set r j x
    rw [e, show (j + 1) * 2 = j * 2 + 1 + 1 by omega]
    show _ :: _ :: ((lksV r).set (j * 2) _).set (j * 2 + 1) _ = _
    rw [ih]; rfl
section
variable {w : World} {bt lo : Nat} {t : Tp} {vl va vr : Value}
theorem TpW.setLab {g n c j : Nat} (h : TpW w bt lo t vl va vr) (hv : vl = .slice (some ⟨g, 0, none⟩) n c) (hn : t.label.length = n) (u : Nat) :
    TpW (w.setCell ⟨g, j, none⟩ (.int .i64 (u : Int))) bt lo { t with label := t.label.set j u } vl va vr ∧ Kept (fun k => k = g) w (w.setCell ⟨g, j, none⟩ (.int .i64 (u : Int))) ∧ lo ≤ g := by
  obtain ⟨t1, t2, t3⟩ := top_types
  subst hn
  have hl := h.at_.lab
  unfold NaOwn at hl
  rw [hv] at hl
  have kk : Kept (fun k => k = g) w (w.setCell ⟨g, j, none⟩ (.int .i64 (u : Int))) := Kept.set _ _ _ _ rfl
  have al : ∀ e : TypeId, (3 : Nat) ≠ e → ∀ k, k = g → Alien w k e := fun e he k hk => by subst hk; exact own_alien hl he k rfl
  have hst := (hl.stored j (.int .i64 (u : Int))).1
  rw [natsV_set] at hst
  refine ⟨⟨⟨h.at_.box.kept_alien kk (al _ t1.symm), ?_, kk.own_alien h.at_.ahd (al _ t3.symm), kk.own h.at_.rot (fun g' hg' e => ?_)⟩, h.lr, h.blo⟩, kk, (hl.lt g rfl).1⟩
  · show World.ownsRow _ _ _ _ _ _ _
    rw [hv, List.length_set]; exact hst
  · exact h.lr g (by rw [hv]; rfl) (by rw [← e]; exact hg')
theorem TpW.setRot {g n c j : Nat} (h : TpW w bt lo t vl va vr) (hv : vr = .slice (some ⟨g, 0, none⟩) n c) (hn : t.root.length = n) (u : Nat) :
    TpW (w.setCell ⟨g, j, none⟩ (.int .i64 (u : Int))) bt lo { t with root := t.root.set j u } vl va vr ∧ Kept (fun k => k = g) w (w.setCell ⟨g, j, none⟩ (.int .i64 (u : Int))) ∧ lo ≤ g := by
  obtain ⟨t1, t2, t3⟩ := top_types
  subst hn
  have hl := h.at_.rot
  unfold NaOwn at hl
  rw [hv] at hl
  have kk : Kept (fun k => k = g) w (w.setCell ⟨g, j, none⟩ (.int .i64 (u : Int))) := Kept.set _ _ _ _ rfl
  have al : ∀ e : TypeId, (3 : Nat) ≠ e → ∀ k, k = g → Alien w k e := fun e he k hk => by subst hk; exact own_alien hl he k rfl
  have hst := (hl.stored j (.int .i64 (u : Int))).1
  rw [natsV_set] at hst
  refine ⟨⟨⟨h.at_.box.kept_alien kk (al _ t1.symm), kk.own h.at_.lab (fun g' hg' e => ?_), kk.own_alien h.at_.ahd (al _ t3.symm), ?_⟩, h.lr, h.blo⟩, kk, (hl.lt g rfl).1⟩
  · exact h.lr g' hg' (by rw [hv, e]; rfl)
  · show World.ownsRow _ _ _ _ _ _ _
    rw [hv, List.length_set]; exact hst
theorem TpW.setAhd {g n c j : Nat} (h : TpW w bt lo t vl va vr) (hv : va = .slice (some ⟨g, 0, none⟩) n c) (hn : t.ahead.length = n) (x : Lk) :
    TpW ((w.setCell ⟨g, j * 2, none⟩ (.int .i64 (x.f : Int))).setCell ⟨g, j * 2 + 1, none⟩ (.int .i64 (x.t : Int))) bt lo { t with ahead := t.ahead.set j x } vl va vr ∧ Kept (fun k => k = g) w ((w.setCell ⟨g, j * 2, none⟩ (.int .i64 (x.f : Int))).setCell ⟨g, j * 2 + 1, none⟩ (.int .i64 (x.t : Int))) ∧ lo ≤ g := by
  obtain ⟨t1, t2, t3⟩ := top_types
  subst hn
  have hl := h.at_.ahd
  unfold LkOwn at hl
  rw [hv] at hl
  have kk : Kept (fun k => k = g) w ((w.setCell ⟨g, j * 2, none⟩ (.int .i64 (x.f : Int))).setCell ⟨g, j * 2 + 1, none⟩ (.int .i64 (x.t : Int))) := Kept.trans (S := fun k => k = g) (Kept.set _ _ _ _ rfl) (Kept.set _ _ _ _ rfl)
  have al : ∀ e : TypeId, (83 : Nat) ≠ e → ∀ k, k = g → Alien w k e := fun e he k hk => by subst hk; exact own_alien hl he k rfl
  have hst := ((hl.stored (j * 2) (.int .i64 (x.f : Int))).1.stored (j * 2 + 1) (.int .i64 (x.t : Int))).1
  rw [lksV_set] at hst
  refine ⟨⟨⟨h.at_.box.kept_alien kk (al _ t2.symm), kk.own_alien h.at_.lab (al _ t3), ?_, kk.own_alien h.at_.rot (al _ t3)⟩, h.lr, h.blo⟩, kk, (hl.lt g rfl).1⟩
  · show World.ownsRow _ _ _ _ _ _ _
    rw [hv, List.length_set]; exact hst
end
def aheadF : List Int → List Int → Bool
  | x :: a, y :: b => if x ≠ y then decide (x < y) else aheadF a b
  | [], b => decide (0 < b.length)
  | _ :: _, [] => false
theorem ahead_step (A B : List Int) (j : Nat) (ha : j < A.length) (hb : j < B.length) : aheadF (A.drop j) (B.drop j) = if A[j] ≠ B[j] then decide (A[j] < B[j]) else aheadF (A.drop (j + 1)) (B.drop (j + 1)) := by
  rw [List.drop_eq_getElem_cons ha, List.drop_eq_getElem_cons hb]
  rfl
theorem ahead_end (A B : List Int) (j : Nat) (hj : j ≤ A.length) (hj2 : j ≤ B.length) (h : ¬ (j < A.length ∧ j < B.length)) : aheadF (A.drop j) (B.drop j) = decide (A.length < B.length) := by
  by_cases ha : j < A.length
  · have hb : j = B.length := by omega
    rw [List.drop_eq_getElem_cons ha, List.drop_of_length_le (l := B) (by omega)]
    show false = _
    symm
    simp; omega
  · rw [List.drop_of_length_le (l := A) (by omega)]
    show decide (0 < (B.drop j).length) = _
    rw [List.length_drop]
    congr 1
    simp; omega
set_option maxRecDepth 100000 in
set_option maxHeartbeats 1000000 in
theorem ahead_any (w : World) (A B : List Int) (aA aB : Option Addr) (cA cB la lb BA BB : Nat) (hla : la ≤ 1048576) (hlb : lb ≤ 1048576) (hBA : BA ≤ w.heap.size) (hBB : BB ≤ w.heap.size) (hA : IntsAt w aA la BA A) (hB : IntsAt w aB lb BB B) :
    Calls Try.prog 59 #[.slice aA la cA, .slice aB lb cB] w fun u w' => u = .returned (.bool (aheadF A B)) ∧ Below w.heap.size w w' := by
  obtain ⟨lA, hcA⟩ := hA
  obtain ⟨lB, hcB⟩ := hB
  have HCA := hide hcA
  have HCB := hide hcB
  have HLA := hide lA
  have HLB := hide lB
  have HST := hide (ahead_step A B)
  have HEND := hide (ahead_end A B)
  have HT0 : Hid (aheadF A B = aheadF (A.drop 0) (B.drop 0)) := rfl
  generalize aheadF A B = T at HT0
  clear hcA hcB lA lB
  go_enter Try.func59, Try.ntmps59
  go_wp2_with fail
  go_loopw [5] (fun i wr => ∃ k : Nat, i = .int .i64 (k : Int) ∧ k ≤ la ∧ k ≤ lb ∧ Hid (T = aheadF (A.drop k) (B.drop k)) ∧ Below w.heap.size w wr) (fun i _ => la - (intOf i).toNat)
  case atStart => exact ⟨0, rfl, Nat.zero_le _, Nat.zero_le _, HT0, Below.refl _ _⟩
  case round =>
    obtain ⟨k, rfl, hka, hkb, HT, hb⟩ := hrel
    by_cases h1 : k < la
    · have hx0 : (0 : Int) ≤ (k : Int) := by omega
      have hx1 : (k : Int) < (la : Int) := by omega
      by_cases h2 : k < lb
      · have hx2 : (k : Int) < (lb : Int) := by omega
        have kA : k < A.length := by have := unhide HLA; omega
        have kB : k < B.length := by have := unhide HLB; omega
        obtain ⟨b1, o1, rfl, hb1, c1⟩ := unhide HCA k kA
        obtain ⟨b2, o2, rfl, hb2, c2⟩ := unhide HCB k kB
        rw [← hb.cell (p := ⟨b1, o1 + k, none⟩) (by simp; omega)] at c1
        rw [← hb.cell (p := ⟨b2, o2 + k, none⟩) (by simp; omega)] at c2
        have HT2 := hide ((unhide HT).trans (unhide HST k kA kB))
        generalize A[k] = x at c1 HT2
        generalize B[k] = y at c2 HT2
        by_cases hxy : x = y
        · subst hxy
          have HT3 : Hid (T = aheadF (A.drop (k + 1)) (B.drop (k + 1))) := (unhide HT2).trans (if_neg (fun h => h rfl))
          clear HT2 HT
          go_wp2_with fail
          go_quiet (fail)
          go_wp2
          go_roundw
          case rel => exact ⟨k + 1, by go_num, by omega, by omega, HT3, below_drewN hb _⟩
          case measure => simp [intOf]; omega
        · have hT : T = decide (x < y) := (unhide HT2).trans (if_pos hxy)
          subst hT
          have hne : (x == y) = false := by simp [hxy]
          clear HT2 HT
          go_wp2_with fail
          go_quiet (fail)
          go_wp2_with fail
          go_quiet (fail)
          go_wp2
          go_ret
          exact ⟨rfl, below_drewN (below_drewN hb _) _⟩
      · obtain rfl : k = lb := by omega
        have hx2 : ¬ (k : Int) < (k : Int) := by omega
        have hT : T = decide (la < k) := by
          rw [unhide HT, unhide HEND k (by have := unhide HLA; omega) (by have := unhide HLB; omega) (by have := unhide HLB; omega), unhide HLA, unhide HLB]
        have hf : T = false := by rw [hT]; simp; omega
        subst hf
        have hx3 : ¬ (la : Int) < (k : Int) := by omega
        clear hT HT
        go_wp2
        go_ret
        exact ⟨rfl, hb⟩
    · obtain rfl : k = la := by omega
      have hx1 : ¬ (k : Int) < (k : Int) := by omega
      have hT : T = decide (k < lb) := by
        rw [unhide HT, unhide HEND k (by have := unhide HLA; omega) (by have := unhide HLB; omega) (by have := unhide HLA; omega), unhide HLA, unhide HLB]
      have hT2 : T = decide ((k : Int) < (lb : Int)) := by rw [hT]; congr 1; simp
      subst hT2
      clear hT HT
      by_cases h3 : (k : Int) < (lb : Int)
      · go_wp2
        go_ret
        exact ⟨by first | rfl | (congr 2; simp; omega) | (congr 2; simpa using h3), hb⟩
      · go_wp2
        go_ret
        exact ⟨by first | rfl | (congr 2; simp; omega) | (congr 2; simpa using h3), hb⟩
def posF (m : List Int) (G : List GrpI) : Nat → Nat
  | 0 => 0
  | k + 1 => if aheadF m (G.getD k ⟨[], 0⟩).M = true then posF m G k else k + 1
theorem posF_le (m : List Int) (G : List GrpI) : ∀ k, posF m G k ≤ k
  | 0 => Nat.le_refl _
  | k + 1 => by
    rw [posF]
    split
    · have := posF_le m G k; omega
    · omega
def insG (x : GrpI) (G : List GrpI) : List GrpI := G.take (posF x.M G G.length) ++ [x] ++ G.drop (posF x.M G G.length)
def memTo (N : List Nd) (i v : Nat) : List Int := ((List.range v).filter fun u => win N u i).map fun (u : Nat) => (u : Int)
theorem memTo_yes (N : List Nd) (i v : Nat) (h : win N v i = true) : memTo N i (v + 1) = memTo N i v ++ [(v : Int)] := by
  unfold memTo
  rw [List.range_succ, List.filter_append, List.map_append]
  simp [h]
theorem memTo_no (N : List Nd) (i v : Nat) (h : win N v i = false) : memTo N i (v + 1) = memTo N i v := by
  unfold memTo
  rw [List.range_succ, List.filter_append, List.map_append]
  simp [h]
theorem memTo_len (N : List Nd) (i v : Nat) : (memTo N i v).length ≤ v := by
  unfold memTo
  rw [List.length_map]
  exact Nat.le_trans (List.length_filter_le _ _) (by simp)
def grF (s : Nat) (N : List Nd) : List Nat → List GrpI → List GrpI
  | [], G => G
  | i :: r, G => grF s N r (if ((nd N i).gone || decide ((nd N i).z ≤ 0)) = true then G else insG ⟨memTo N i s, (nd N i).z⟩ G)
def groupsF (s : Nat) (N : List Nd) : List GrpI := grF s N (List.range' s (N.length - s)) []
theorem grF_step (s : Nat) (N : List Nd) (i : Nat) (G : List GrpI) (hi : i < N.length) : grF s N (List.range' i (N.length - i)) G = grF s N (List.range' (i + 1) (N.length - (i + 1))) (if ((nd N i).gone || decide ((nd N i).z ≤ 0)) = true then G else insG ⟨memTo N i s, (nd N i).z⟩ G) := by
  rw [show N.length - i = (N.length - (i + 1)) + 1 by omega, List.range'_succ]
  rfl
theorem insG_len (x : GrpI) (G : List GrpI) : (insG x G).length = G.length + 1 := by
  have := posF_le x.M G G.length
  unfold insG
  simp only [List.length_append, List.length_take, List.length_drop, List.length_cons, List.length_nil]
  omega
theorem gC_append : ∀ (a b : List Value) (c d : List Int), a.length = c.length → gC (a ++ b) (c ++ d) = gC a c ++ gC b d
  | [], b, [], d, _ => rfl
  | x :: a, b, z :: c, d, h => by
    have := gC_append a b c d (by simpa using h)
    simp [gC, this]
  | [], _, _ :: _, _, h => by simp at h
  | _ :: _, _, [], _, h => by simp at h
theorem gC_split (ms : List Value) (zs : List Int) (k : Nat) (h : ms.length = zs.length) : gC ms zs = gC (ms.take k) (zs.take k) ++ gC (ms.drop k) (zs.drop k) := by
  rw [← gC_append _ _ _ _ (by simp [h]), List.take_append_drop, List.take_append_drop]
theorem gC_one : ∀ (ms : List Value) (zs : List Int), (∀ u ∈ ms, u.oneCell' = true) → ∀ u ∈ gC ms zs, u.oneCell' = true
  | [], _, _, u, hu => by simp [gC] at hu
  | _ :: _, [], _, u, hu => by simp [gC] at hu
  | m :: ms, z :: zs, h, u, hu => by
    simp only [gC, List.mem_cons] at hu
    rcases hu with rfl | rfl | hu
    · exact h _ (by simp)
    · rfl
    · exact gC_one ms zs (fun u hu => h u (by simp [hu])) u hu
theorem own_one {w : World} {B e s n : Nat} {v : Value} {xs : List Value} (h : w.ownsRow B e s v n xs) : v.oneCell' = true := by
  rcases h.2 with ⟨rfl, h0⟩ | ⟨g, cap, cur, rfl, _⟩ <;> rfl
theorem gown_ins {W : World} {B : Nat} {v vm : Value} {ms : List Value} {G : List GrpI} {x : GrpI} {k : Nat} (hl : ms.length = G.length) (hk : k ≤ G.length)
    (ho : W.ownsRow B 54 2 v (k + 1 + (G.length - k)) ((gC (ms.take k) ((zsOf G).take k) ++ [vm, .int .i64 x.Z]) ++ gC (ms.drop k) ((zsOf G).drop k)))
    (hm : ∀ j (h1 : j < ms.length) (h2 : j < G.length), InOwn W B ms[j] G[j].M) (hx : InOwn W B vm x.M) :
    GOwn W B v (ms.take k ++ [vm] ++ ms.drop k) (G.take k ++ [x] ++ G.drop k) := by
  have hz : (zsOf G).length = G.length := zsOf_length G
  refine ⟨by simp [hl], ?_, fun j h1 h2 => ?_⟩
  · have e1 : (G.take k ++ [x] ++ G.drop k).length = k + 1 + (G.length - k) := by simp; omega
    have e2 : gC (ms.take k ++ [vm] ++ ms.drop k) (zsOf (G.take k ++ [x] ++ G.drop k)) = (gC (ms.take k) ((zsOf G).take k) ++ [vm, .int .i64 x.Z]) ++ gC (ms.drop k) ((zsOf G).drop k) := by
      have e3 : zsOf (G.take k ++ [x] ++ G.drop k) = (zsOf G).take k ++ [x.Z] ++ (zsOf G).drop k := by simp [zsOf, List.map_take, List.map_drop]
      rw [e3, gC_append _ _ _ _ (by simp [hl, hz]), gC_append _ _ _ _ (by simp [hl, hz])]
      rfl
    rw [e1, e2]
    exact ho
  · simp only [List.append_assoc, List.length_append, List.length_take, List.length_cons, List.length_nil, List.length_drop] at h1 h2
    by_cases hj : j < k
    · have a1 : (ms.take k ++ [vm] ++ ms.drop k)[j]'(by simp; omega) = ms[j]'(by omega) := by
        rw [List.getElem_append_left (by simp; omega), List.getElem_append_left (by simp; omega), List.getElem_take]
      have a2 : (G.take k ++ [x] ++ G.drop k)[j]'(by simp; omega) = G[j]'(by omega) := by
        rw [List.getElem_append_left (by simp; omega), List.getElem_append_left (by simp; omega), List.getElem_take]
      rw [a1, a2]
      exact hm j (by omega) (by omega)
    · by_cases hj2 : j = k
      · subst hj2
        have a1 : (ms.take j ++ [vm] ++ ms.drop j)[j]'(by simp; omega) = vm := by
          rw [List.getElem_append_left (by simp; omega), List.getElem_append_right (by rw [List.length_take]; omega)]
          simp
        have a2 : (G.take j ++ [x] ++ G.drop j)[j]'(by simp; omega) = x := by
          rw [List.getElem_append_left (by simp; omega), List.getElem_append_right (by rw [List.length_take]; omega)]
          simp
        rw [a1, a2]
        exact hx
      · have a1 : (ms.take k ++ [vm] ++ ms.drop k)[j]'(by simp; omega) = ms[j - 1]'(by omega) := by
          rw [List.getElem_append_right (by simp; omega), List.getElem_drop]
          congr 1
          simp; omega
        have a2 : (G.take k ++ [x] ++ G.drop k)[j]'(by simp; omega) = G[j - 1]'(by omega) := by
          rw [List.getElem_append_right (by simp; omega), List.getElem_drop]
          congr 1
          simp; omega
        rw [a1, a2]
        exact hm _ (by omega) (by omega)
end Sv
end Go.Proofs.Ytkjclkelnheheaa
