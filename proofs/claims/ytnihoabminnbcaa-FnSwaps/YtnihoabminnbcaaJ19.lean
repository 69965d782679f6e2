/-
 LkG, LkH, LkP, LkQ, LkN, LkI, LkR, LkS.
-/
import Derived.Test.YtnihoabminnbcaaJ10
import Derived.Test.YtnihoabminnbcaaJ17
import Derived.Test.YtnihoabminnbcaaJ12
import Derived.Test.YtnihoabminnbcaaJ18
namespace Go.Proofs.Ytnihoabminnbcaa
namespace Lk
open Go.RowKit
open Gr (Blk Kept EdgeI GrAt GBox below_new below_setCells results_cell1 setMany setMany_all)
set_option maxRecDepth 100000 in
set_option maxHeartbeats 2000000 in
theorem turn_any (T a b : Nat) (F : Nat → Nat → Bool) (ha : a < 9) (hb : b < 9) (hne : a ≠ b) (w : World) (h : Blk w T (tb F) 62) :
    Calls Try.prog 21 #[.pointer (some ⟨T, 0, none⟩), .int .i64 (a : Int), .int .i64 (b : Int)] w fun e w' => e = .returned (.tuple #[]) ∧ Blk w' T (tb (turnF F a b)) 62 ∧ Kept (fun g => g = T) w w' := by
  have hl := h.lt
  have c0 := h.cell (a * 9 + b) _ (tb_in F a b ha hb)
  have f0 := h.froz (a * 9 + b)
  have h2 := h.set (a * 9 + b) (.bool (!F a b))
  have c1 : (w.setCell ⟨T, a * 9 + b, none⟩ (.bool (!F a b))).cell? ⟨T, b * 9 + a, none⟩ = some (.bool (F b a)) := h2.cell (b * 9 + a) _ (by rw [Array.getElem?_setIfInBounds_ne (by omega)]; exact tb_in F b a hb ha)
  have f1 := h2.froz (b * 9 + a)
  have HE : Hid (Blk ((w.setCell ⟨T, a * 9 + b, none⟩ (.bool (!F a b))).setCell ⟨T, b * 9 + a, none⟩ (.bool (!F b a))) T (tb (turnF F a b)) 62) := by
    show Blk _ _ _ _
    rw [← tb_turn F a b ha hb hne]
    exact h2.set _ _
  have HK : Hid (Kept (fun g => g = T) w ((w.setCell ⟨T, a * 9 + b, none⟩ (.bool (!F a b))).setCell ⟨T, b * 9 + a, none⟩ (.bool (!F b a)))) := Gr.Kept.trans (Gr.Kept.set _ _ _ _ rfl) (Gr.Kept.set _ _ _ _ rfl)
  have hx0 : (0 : Int) ≤ (a : Int) := by omega
  have hx1 : (a : Int) < 9 := by omega
  have hy0 : (0 : Int) ≤ (b : Int) := by omega
  have hy1 : (b : Int) < 9 := by omega
  clear h h2 hne
  generalize F a b = x at c0 c1 f1 HE HK
  generalize F b a = y at c1 HE HK
  go_enter Try.func21, Try.ntmps21
  go_wp2_with fail
  go_region
  go_wp2_with fail
  go_region
  go_wp2_with fail
  go_returns
  exact ⟨rfl, unhide HE, unhide HK⟩
/-- The table of the first edges. -/
def lnk (Q : List EdgeI) (k : Nat) : Nat → Nat → Bool := (Q.take k).foldl (fun F e => turnF F e.A.toNat e.B.toNat) (fun _ _ => false)
theorem lnk_next (Q : List EdgeI) (k : Nat) (h : k < Q.length) : lnk Q (k + 1) = turnF (lnk Q k) Q[k].A.toNat Q[k].B.toNat := by
  unfold lnk
  rw [List.take_succ_eq_append_getElem h, List.foldl_append]
  rfl
theorem lnk_zero (Q : List EdgeI) : (tb fun _ _ => false) = tb (lnk Q 0) := by
  refine tb_congr (fun i j _ _ => ?_)
  unfold lnk
  rw [List.take_zero, List.foldl_nil]
/-- The table of the edges. -/
def lnkF (Q : List EdgeI) : Nat → Nat → Bool := lnk Q Q.length
end Lk
end Go.Proofs.Ytnihoabminnbcaa
namespace Go.Proofs.Ytnihoabminnbcaa
namespace Lk
open Go.RowKit
open Gr (Blk Kept below_new below_setCells results_cell1 setMany setMany_all InOwn InAt intsV intsAt_of_own info3 isPlace_is)
theorem own_nil (w : World) (B : Nat) : InOwn w B (.slice none 0 0) [] := ⟨by simp [intsV], .inl ⟨rfl, rfl⟩⟩
set_option maxRecDepth 100000 in
set_option maxHeartbeats 2000000 in
theorem list_any (f : Nat → Bool) (w : World) :
    Calls Try.prog 28 #[.agg (fl f)] w fun e w' => (∃ d, e = .returned d ∧ InOwn w' w.heap.size d (setTo f 9)) ∧ Below w.heap.size w w' := by
  obtain ⟨i0, hi, hz0, hz1, hz2⟩ := info_parts info3
  have HIX := hide (index_fl f)
  have hiL := hide (infoVL f)
  have HS1 := hide (fun k h => setTo_in (f := f) (k := k) h)
  have HS0 := hide (fun k h => setTo_out (f := f) (k := k) h)
  have HNIL : Hid ([] = setTo f 0) := rfl
  have HSL := hide (setTo_length f)
  generalize fl f = C at HIX hiL ⊢
  go_enter Try.func28, Try.ntmps28
  obtain ⟨V1, hV1⟩ : ∃ W, W = w.alloc (Obj.cells C 60) := ⟨_, rfl⟩
  have HB1 : Hid (Blk V1 w.heap.size C 60) := by show Blk _ _ _ _; rw [hV1]; exact Gr.Blk.new0
  have hr1 := hide (unhide HB1).range
  rw [hV1] at hr1
  have b1 : Below w.heap.size w V1 := by rw [hV1]; exact below_new _ _
  go_wp2_with (first
    | refine wpList_load_mid rfl 60 _ rfl w.heap.size 0 rfl C.toList _ (unhide hr1) Try.underlying60 rfl (unhide hiL) ?_)
  rw [← hV1]
  clear hV1 hr1 HB1
  go_loopw [3, 7] (fun out i wr => ∃ k : Nat, i = .int .i64 (k : Int) ∧ k ≤ 9 ∧ Hid (InOwn wr V1.heap.size out (setTo f k)) ∧ Below V1.heap.size V1 wr) (fun _ i _ => 9 - (intOf i).toNat)
  case atStart => exact ⟨0, rfl, Nat.zero_le _, own_nil _ _, Below.refl _ _⟩
  case round =>
    obtain ⟨k, rfl, hk, HO, hb⟩ := hrel
    obtain ⟨A, cp, rfl, _⟩ := intsAt_of_own (unhide HO)
    by_cases hlt : k < 9
    · have hx1 : (k : Int) < 9 := by omega
      have hx0 : (0 : Int) ≤ (k : Int) := by omega
      have hix := unhide HIX wr k hlt
      cases hq : f k
      · have HF := hide (unhide HS0 k hq)
        rw [hq] at hix
        clear hq
        go_wp2_with fail
        exact ⟨⟨k + 1, by go_num, by omega, (by rw [unhide HF]; exact unhide HO), hb⟩, by simp [intOf]; omega⟩
      · have HF := hide (unhide HS1 k hq)
        rw [hq] at hix
        have hfl := unhide HSL k
        have hown := unhide HO
        unfold InOwn at hown
        clear hq HO
        go_wp2_with (at_builtin; refine wpList_append_own _ rfl _ _ 30 rfl V1.heap.size 3 i0 (.int .i64 0) 1 8 Try.underlying30 hi hz0 hz1 hz2 rfl (by decide) _ _ _ rfl (hown.alloc _) ⟨wr.heap.size, 0, none⟩ 1 1 [.int .i64 (k : Int)] rfl rfl (cell_one_new _ _ _) (one_intL _) ?_ ?_ ?_ ?_)
        · unfold maxLen; omega
        · omega
        · have := hb.size; first | omega | (simp; omega)
        intro v' w4 hown' hgrow _
        have hb4 := below_append hb (Nat.le_refl _) hown hgrow
        rw [← intsV_snocL, ← unhide HF] at hown'
        have hfe : (setTo f k).length + 1 = (setTo f (k + 1)).length := by rw [unhide HF]; simp
        rw [hfe] at hown'
        have HO4 : Hid (InOwn w4 V1.heap.size v' (setTo f (k + 1))) := hown'
        clear hown' hgrow hown HF hfe hfl
        go_wp2_with fail
        exact ⟨⟨k + 1, by go_num, by omega, unhide HO4, hb4⟩, by simp [intOf]; omega⟩
    · obtain rfl : k = 9 := by omega
      go_wp2
      go_ret
      exact ⟨⟨_, rfl, (unhide HO).lower b1.size⟩, b1.trans (hb.mono b1.size)⟩
/-- The first k vertices. -/
def allF (k : Nat) : Nat → Bool := fun j => decide (j < k)
theorem all_next (k : Nat) : (fl (allF k)).setIfInBounds k (.bool true) = fl (allF (k + 1)) := by
  rw [fl_set]
  refine fl_congr (fun j _ => ?_)
  unfold allF
  by_cases h : j = k
  · subst h; simp
  · have : j < k + 1 ↔ j < k := by omega
    simp [h, this]
set_option maxRecDepth 100000 in
set_option maxHeartbeats 2000000 in
theorem allV_any (n : Nat) (hn : n ≤ 9) (w : World) :
    Calls Try.prog 27 #[.int .i64 (n : Int)] w fun e w' => e = .returned (.agg (fl (allF n))) ∧ Below w.heap.size w w' := by
  have HN := hide all_next
  have hzv := zero_fl
  have HZ : Hid (Array.size (fl fun _ => false) = 9) := fl_size _
  have H0 : Hid ((fl fun _ => false) = fl (allF 0)) := fl_congr (fun j _ => by simp [allF])
  have HAT : Hid (∀ (j k : Nat), k < 9 → (fl (allF j))[k]? = some (.bool (allF j k))) := fun j k h => fl_at _ k h
  generalize (fl fun _ => false) = Z at hzv HZ H0
  go_enter Try.func27, Try.ntmps27
  go_wp2_with fail
  obtain ⟨V1, hV1⟩ : ∃ W, W = w.alloc (Obj.cells Z 60) := ⟨_, rfl⟩
  obtain ⟨V2, hV2⟩ : ∃ W, W = V1.alloc (Obj.cells Z 60) := ⟨_, rfl⟩
  rw [← hV1, ← hV2]
  have b2 : Below w.heap.size w V2 := by rw [hV2, hV1]; exact (below_new _ _).alloc (by simp) _
  have HR2 : Hid (Blk V2 w.heap.size Z 60) := by show Blk _ _ _ _; rw [hV2, hV1]; exact Gr.Blk.new0.alloc
  have HT2 : Hid (Blk V2 (w.heap.size + 1) (fl (allF 0)) 60) := by show Blk _ _ _ _; rw [← unhide H0, hV2, hV1]; exact Gr.Blk.new1
  clear hV1 hV2 H0
  go_loopw [6] (fun i wr => ∃ j : Nat, i = .int .i64 (j : Int) ∧ j ≤ n ∧ Hid (Blk wr (w.heap.size + 1) (fl (allF j)) 60) ∧ Hid (Blk wr w.heap.size Z 60) ∧ Below w.heap.size w wr) (fun i _ => n - (intOf i).toNat)
  case atStart => exact ⟨0, rfl, Nat.zero_le _, HT2, HR2, b2⟩
  case round =>
    obtain ⟨j, rfl, hj, HT, HR, hb⟩ := hrel
    by_cases hlt : j < n
    · have hx2 : (j : Int) < (n : Int) := by omega
      have hx1 : (j : Int) < 9 := by omega
      have hx0 : (0 : Int) ≤ (j : Int) := by omega
      have q0 := (unhide HT).cell j _ (unhide HAT j j (by omega))
      have f0 := (unhide HT).froz j
      generalize allF j j = bb at q0
      have HT3 : Hid (Blk (wr.setCell ⟨w.heap.size + 1, j, none⟩ (.bool true)) (w.heap.size + 1) (fl (allF (j + 1))) 60) := by
        show Blk _ _ _ _
        rw [← unhide HN j]
        exact (unhide HT).set j _
      have HR3 : Hid (Blk (wr.setCell ⟨w.heap.size + 1, j, none⟩ (.bool true)) w.heap.size Z 60) := (unhide HR).set_other (by omega) j _
      have hb3 : Below w.heap.size w (wr.setCell ⟨w.heap.size + 1, j, none⟩ (.bool true)) := hb.setCell (p := ⟨w.heap.size + 1, j, none⟩) (by simp) _
      go_wp2_with fail
      exact ⟨⟨j + 1, by go_num, by omega, HT3, HR3, hb3⟩, by simp [intOf]; omega⟩
    · obtain rfl : j = n := by omega
      have HR1 := hide (unhide HT).range
      have HR5 : Hid (wr.there w.heap.size 0 (fl (allF j)).size) := (unhide HR).there 0 _ (by rw [fl_size, unhide HZ]; omega)
      have hi1 := hide (infoVL (allF j))
      have hi2 := hide (infoVF (allF j))
      have h1 := hide (fl_one (allF j))
      have HB : Hid (Blk (wr.setCells w.heap.size 0 (fl (allF j)).toList) w.heap.size (fl (allF j)) 60) := by
        have h := Gr.Blk.many (fl (allF j)).toList 0 (unhide HR)
        rwa [setMany_all _ _ (by rw [fl_size, unhide HZ])] at h
      have HLD := hide (load_fl (unhide HB))
      generalize hC : fl (allF j) = C at HR1 HR5 hi1 hi2 h1 HLD
      have HCE := hide hC
      clear hC HB
      go_wp2_with (first
        | refine wpList_load_mid rfl 60 _ rfl (w.heap.size + 1) 0 rfl C.toList _ (unhide HR1) Try.underlying60 rfl (unhide hi1) ?_
        | refine wpList_store_mid rfl 60 _ _ rfl w.heap.size 0 C rfl rfl (unhide HR5) (unhide hi2) (unhide h1) ?_)
      refine bodyPost_ret (v := .agg C) ?_ rfl ⟨(by rw [unhide HCE]), below_setCells _ _ (Nat.le_refl _) _ _ _ _ hb⟩
      have hld := unhide HLD
      rw [results_cell1 rfl]
      show ((asAddr (Value.pointer (some ⟨w.heap.size, 0, none⟩))).run Try.prog _).andThen _ = _
      simp [asAddr, Result.andThen, hld]
end Lk
end Go.Proofs.Ytnihoabminnbcaa
namespace Go.Proofs.Ytnihoabminnbcaa
namespace Lk
open Go.RowKit
open Gr (Blk Kept below_new)
theorem cnt_pos {f : Nat → Bool} {v : Nat} (hv : v < 9) (h : f v = true) : 0 < cnt f := by
  have h0 := cnt_lt (p := fun _ => false) (q := f) (fun j _ h => by simp at h) hv h rfl
  omega
/-- What is left, what has been gathered set aside. -/
def lessF (f D : Nat → Bool) : Nat → Bool := fun j => f j && !D j
def moreF (g D : Nat → Bool) : Nat → Bool := fun j => g j || D j
theorem less_set (f : Nat → Bool) (v : Nat) : (fl f).setIfInBounds v (.bool false) = fl (lessF f (fun j => j == v)) := by
  rw [fl_set]
  refine fl_congr (fun j _ => ?_)
  unfold lessF
  by_cases h : j = v
  · subst h; simp
  · simp [h]
theorem more_set (g : Nat → Bool) (v : Nat) : (fl g).setIfInBounds v (.bool true) = fl (moreF g (fun j => j == v)) := by
  rw [fl_set]
  refine fl_congr (fun j _ => ?_)
  unfold moreF
  by_cases h : j = v
  · subst h; simp
  · simp [h]
theorem less_two (f D R : Nat → Bool) : lessF (lessF f D) R = lessF f (fun j => D j || R j) := by
  funext j
  unfold lessF
  show (_ && !_ && !_) = (_ && !(_ || _))
  cases f j <;> cases D j <;> cases R j <;> rfl
theorem more_two (g D R : Nat → Bool) : moreF (moreF g D) R = moreF g (fun j => D j || R j) := by
  funext j
  unfold moreF
  show (_ || _ || _) = (_ || (_ || _))
  cases g j <;> cases D j <;> cases R j <;> rfl
/-- What a call of gather does, where fewer than n are left. -/
def GatherC (n : Nat) : Prop := ∀ (F : Nat → Nat → Bool) (f g : Nat → Bool) (v T L P : Nat) (w : World), cnt f < n → v < 9 → f v = true → L ≠ P → Blk w T (tb F) 62 → Blk w L (fl f) 60 → Blk w P (fl g) 60 →
  Calls Try.prog 43 #[.pointer (some ⟨T, 0, none⟩), .int .i64 (v : Int), .pointer (some ⟨L, 0, none⟩), .pointer (some ⟨P, 0, none⟩)] w fun e w' => e = .returned (.tuple #[]) ∧ Blk w' L (fl (lessF f (rch F f v))) 60 ∧ Blk w' P (fl (moreF g (rch F f v))) 60 ∧ Kept (fun i => i = L ∨ i = P) w w'
theorem tbl_ne {w : World} {T L : Nat} {C D : Array Value} (h : Blk w T C 62) (k : Blk w L D 60) : T ≠ L := fun e => by
  subst e
  unfold Blk at h k
  rw [h] at k
  simp at k
set_option maxRecDepth 100000 in
set_option maxHeartbeats 4000000 in
theorem gather_next (n : Nat) (ih : GatherC n) : GatherC (n + 1) := by
  intro F f g v T L P w hn hv hfv hLP hT hL hP
  have IH := hide ih
  have hTL := tbl_ne hT hL
  have hTP := tbl_ne hT hP
  have HG0 := hide (gat0 F f v)
  have HSK := hide (fun k D (h : Gat F f v k D) hs => gat_skip h hs)
  have HGO := hide (fun k D (hk : k < 9) (h : Gat F f v k D) h1 h2 => gat_go hv hk h h1 h2)
  have HEN := hide (fun D (h : Gat F f v 9 D) => gat_end hv h)
  have HFW := hide (fun k D (h : Gat F f v k D) => gat_fewer hv hfv h)
  have HIX := hide (index_fl (F v))
  have hrow := hT.part (v * 9) (fl (F v)) (tb_part F v hv)
  have hiL := hide (infoVL (F v))
  have HT := hide hT
  have HL := hide hL
  have HP := hide hP
  have hTl := hT.lt
  have hLl := hL.lt
  have hPl := hP.lt
  have c0 := hL.cell v _ (fl_at f v hv)
  have c1 := hP.cell v _ (fl_at g v hv)
  have f0 := hL.froz v
  have f1 := hP.froz v
  have hx0 : (0 : Int) ≤ (v : Int) := by omega
  have hx1 : (v : Int) < 9 := by omega
  obtain ⟨C, hCdef⟩ : ∃ C, C = fl (F v) := ⟨_, rfl⟩
  rw [← hCdef] at HIX hrow hiL
  have HRW := hide hrow
  have hgv : ∃ b, b = g v := ⟨_, rfl⟩
  obtain ⟨bg, hbg⟩ := hgv
  rw [← hbg] at c1
  rw [hfv] at c0
  have A1 : Hid (Blk ((w.setCell ⟨L, v, none⟩ (.bool false)).setCell ⟨P, v, none⟩ (.bool true)) L (fl (lessF f (fun j => j == v))) 60 ∧ Blk ((w.setCell ⟨L, v, none⟩ (.bool false)).setCell ⟨P, v, none⟩ (.bool true)) P (fl (moreF g (fun j => j == v))) 60 ∧ Kept (fun i => i = L ∨ i = P) w ((w.setCell ⟨L, v, none⟩ (.bool false)).setCell ⟨P, v, none⟩ (.bool true))) := by
    refine ⟨?_, ?_, ?_⟩
    · rw [← less_set]; exact (hL.set v _).set_other hLP _ _
    · rw [← more_set]; exact (hP.set_other (Ne.symm hLP) _ _).set v _
    · exact (Gr.Kept.set _ _ _ _ (.inl rfl)).trans (Gr.Kept.set _ _ _ _ (.inr rfl))
  have HCD := hide hCdef
  clear hCdef
  clear hT hL hP hrow hbg ih hfv
  go_enter Try.func43, Try.ntmps43
  go_wp2_with fail
  go_region
  obtain ⟨hL1, hP1, hk1⟩ := unhide A1
  obtain ⟨wx, hwx⟩ : ∃ W, W = ((w.setCell ⟨L, v, none⟩ (.bool false)).setCell ⟨P, v, none⟩ (.bool true)).drew := ⟨_, rfl⟩
  rw [← hwx]
  replace hL1 : Blk wx L (fl (lessF f (fun j => j == v))) 60 := by rw [hwx]; exact hL1.drew
  replace hP1 : Blk wx P (fl (moreF g (fun j => j == v))) 60 := by rw [hwx]; exact hP1.drew
  replace hk1 : Kept (fun i => i = L ∨ i = P) w wx := by rw [hwx]; exact Gr.Kept.drew hk1
  clear hwx
  have HT1 := hide ((unhide HT).kept hk1 (by omega))
  have HR1 := hide ((unhide HT1).part (v * 9) (fl (F v)) (tb_part F v hv))
  have hCF : Hid (∀ W : World, W.rangeAt T (v * 9) (fl (F v)).toList → W.rangeAt T (v * 9) (fl (F v)).toList) := fun _ h => h
  clear HT HL HP A1 c0 c1 f0 f1 HRW
  generalize hCC : fl (F v) = C' at HR1 hCF
  obtain rfl : C' = C := by rw [← hCC, ← unhide HCD]
  have HL1 := hide hL1
  have HP1 := hide hP1
  clear hL1 hP1 hCF hCC
  go_wp2_with (first
    | refine wpList_load_mid rfl 60 _ rfl T (v * 9) rfl C'.toList _ (unhide HR1) Try.underlying60 rfl (unhide hiL) ?_)
  go_loopw [23] (fun i wr => ∃ (k : Nat) (D : Nat → Bool), i = .int .i64 (k : Int) ∧ k ≤ 9 ∧ Hid (Gat F f v k D) ∧ Hid (Blk wr L (fl (lessF f D)) 60) ∧ Hid (Blk wr P (fl (moreF g D)) 60) ∧ Hid (Blk wr T (tb F) 62) ∧ Kept (fun i => i = L ∨ i = P) w wr) (fun i _ => 9 - (intOf i).toNat)
  case atStart => exact ⟨0, _, rfl, Nat.zero_le _, HG0, HL1, HP1, HT1, hk1⟩
  case round =>
    clear HG0 HL1 HP1 HT1 hk1 HR1
    obtain ⟨k, D, rfl, hk, HG, HL, HP, HT, hkp⟩ := hrel
    have hLl := (unhide HL).lt
    by_cases hlt : k < 9
    · have hix := unhide HIX wr k hlt
      have hy0 : (0 : Int) ≤ (k : Int) := by omega
      have hy1 : (k : Int) < 9 := by omega
      have d0 := (unhide HL).cell k _ (fl_at (lessF f D) k hlt)
      cases hF : F v k
      · rw [hF] at hix
        have HG' := hide (unhide HSK k D (unhide HG) (.inl hF))
        clear hF d0
        go_wp2_with fail
        exact ⟨⟨k + 1, D, by go_num, by omega, HG', HL, HP, HT, hkp⟩, by simp [intOf]; omega⟩
      · rw [hF] at hix
        cases hq : lessF f D k
        · rw [hq] at d0
          have HG' := hide (unhide HSK k D (unhide HG) (.inr hq))
          clear hF hq
          go_wp2_with fail
          exact ⟨⟨k + 1, D, by go_num, by omega, HG', HL, HP, HT, hkp⟩, by simp [intOf]; omega⟩
        · rw [hq] at d0
          have HG' := hide (unhide HGO k D hlt (unhide HG) hF hq)
          have CA := hide (unhide IH F (lessF f D) (moreF g D) k T L P wr (by have := unhide HFW k D (unhide HG); unfold lessF; omega) hlt hq hLP (unhide HT) (unhide HL) (unhide HP))
          rw [less_two, more_two] at CA
          clear hF hq
          go_wp2_with fail
          refine (unhide CA).mono ?_
          rintro e w5 ⟨rfl, hL5, hP5, hk5⟩
          have HT5 := hide ((unhide HT).kept hk5 (by omega))
          have hkp5 := hkp.trans hk5
          have HL5 := hide hL5
          have HP5 := hide hP5
          clear hL5 hP5 hk5 CA
          go_wp2_with fail
          exact ⟨⟨k + 1, _, by go_num, by omega, HG', HL5, HP5, HT5, hkp5⟩, by simp [intOf]; omega⟩
    · obtain rfl : k = 9 := by omega
      have he := unhide HEN D (unhide HG)
      subst he
      have HLE := hide (unhide HL)
      go_wp2
      go_end0
      exact ⟨rfl, unhide HL, unhide HP, hkp⟩
theorem gather_all : ∀ n, GatherC n
  | 0 => by intro F f g v T L P w hn; omega
  | n + 1 => gather_next n (gather_all n)
theorem gather_any (F : Nat → Nat → Bool) (f g : Nat → Bool) (v T L P : Nat) (w : World) (hv : v < 9) (hf : f v = true) (hLP : L ≠ P) (hT : Blk w T (tb F) 62) (hL : Blk w L (fl f) 60) (hP : Blk w P (fl g) 60) :
    Calls Try.prog 43 #[.pointer (some ⟨T, 0, none⟩), .int .i64 (v : Int), .pointer (some ⟨L, 0, none⟩), .pointer (some ⟨P, 0, none⟩)] w fun e w' => e = .returned (.tuple #[]) ∧ Blk w' L (fl (lessF f (rch F f v))) 60 ∧ Blk w' P (fl (moreF g (rch F f v))) 60 ∧ Kept (fun i => i = L ∨ i = P) w w' :=
  gather_all (cnt f + 1) F f g v T L P w (by omega) hv hf hLP hT hL hP
end Lk
end Go.Proofs.Ytnihoabminnbcaa
namespace Go.Proofs.Ytnihoabminnbcaa
namespace Lk
open Go.RowKit
open Gr (Blk Kept below_new setMany setMany_all below_setCells own_below own_lower)
/-- The cells of some sets. -/
def setsV (Ps : List (Nat → Bool)) : List Value := Ps.flatMap fun p => (fl p).toList
theorem setsV_length (Ps : List (Nat → Bool)) : (setsV Ps).length = Ps.length * 9 := by
  induction Ps with
  | nil => rfl
  | cons p r ih => simp only [setsV, List.flatMap_cons, List.length_append, Array.length_toList, fl_size, List.length_cons] at ih ⊢; omega
theorem setsV_snoc (Ps : List (Nat → Bool)) (p : Nat → Bool) : setsV (Ps ++ [p]) = setsV Ps ++ (fl p).toList := by
  unfold setsV
  rw [List.flatMap_append]
  simp
theorem setsV_at : ∀ (Ps : List (Nat → Bool)) (k : Nat) (h : k < Ps.length) (j : Nat), j < 9 → (setsV Ps)[k * 9 + j]? = (fl Ps[k])[j]?
  | p :: r, 0, _, j, hj => by
    unfold setsV
    rw [List.flatMap_cons, List.getElem?_append_left (by simp [fl_size]; omega)]
    simp
  | p :: r, k + 1, h, j, hj => by
    unfold setsV
    rw [List.flatMap_cons, List.getElem?_append_right (by simp [fl_size]; omega)]
    have e : (k + 1) * 9 + j - (fl p).toList.length = k * 9 + j := by simp [fl_size]; omega
    rw [e]
    exact setsV_at r k (by simpa using h) j hj
/-- A row of sets that a call has made. -/
def StsOwn (w : World) (B : Nat) (v : Value) (Ps : List (Nat → Bool)) : Prop := w.ownsRow B 60 9 v Ps.length (setsV Ps)
theorem StsOwn.below {w w' : World} {B : Nat} {v : Value} {Ps : List (Nat → Bool)} (h : StsOwn w B v Ps) (hb : Below w.heap.size w w') : StsOwn w' B v Ps := own_below h hb
theorem StsOwn.lower {w : World} {B C : Nat} {v : Value} {Ps : List (Nat → Bool)} (h : StsOwn w B v Ps) (hC : C ≤ B) : StsOwn w C v Ps := own_lower hC h
theorem StsOwn.shape {w : World} {B : Nat} {v : Value} {Ps : List (Nat → Bool)} (h : StsOwn w B v Ps) : ∃ a c, v = .slice a Ps.length c := by
  rcases h.2 with ⟨rfl, h0⟩ | ⟨g, cap, cur, rfl, _⟩
  · exact ⟨none, 0, by rw [h0]⟩
  · exact ⟨_, _, rfl⟩
theorem infoV3 : (Try.prog.info? 60).map (fun i => (i.zero, i.size, i.bytes)) = some (some (.agg (fl fun _ => false)), 9, 9) := by kernel_rfl
theorem fl_ones (f : Nat → Bool) : ∀ u ∈ (fl f).toList, u.oneCell' = true := fun u hu => by
  have h := fl_one f
  rw [Array.all_eq_true_iff_forall_mem] at h
  exact h u (by simpa using hu)
theorem fl_nine (f : Nat → Bool) : ∃ b0 b1 b2 b3 b4 b5 b6 b7 b8 : Bool, fl f = #[.bool b0, .bool b1, .bool b2, .bool b3, .bool b4, .bool b5, .bool b6, .bool b7, .bool b8] :=
  ⟨f 0, f 1, f 2, f 3, f 4, f 5, f 6, f 7, f 8, rfl⟩
theorem prts_length (F : Nat → Nat → Bool) : ∀ (L : List Nat) (f : Nat → Bool), (prts F L f).length ≤ L.length
  | [], _ => by simp [prts]
  | v :: r, f => by
    cases h : f v
    · rw [prts_out h]; exact Nat.le_trans (prts_length F r f) (by simp)
    · rw [prts_in h]; simp only [List.length_cons]; have := prts_length F r (fun j => f j && !rch F f v j); omega
set_option maxRecDepth 100000 in
set_option maxHeartbeats 4000000 in
theorem parts_any (F : Nat → Nat → Bool) (f : Nat → Bool) (T : Nat) (w : World) (hT : Blk w T (tb F) 62) :
    Calls Try.prog 23 #[.pointer (some ⟨T, 0, none⟩), .agg (fl f)] w fun e w' => (∃ d, e = .returned d ∧ StsOwn w' w.heap.size d (prts F (List.range' 0 9) f)) ∧ Below w.heap.size w w' := by
  obtain ⟨i1, hi1, hz0, hz1, hz2⟩ := info_parts infoV3
  have GA := hide (fun g v L P W hv hf hLP hT hL hP => gather_any F f g v T L P W hv hf hLP hT hL hP)
  have HFL := hide (fl_at f)
  clear GA HFL
  have hTl := hT.lt
  have hzv := zero_fl
  have HZ : Hid (Array.size (fl fun _ => false) = 9) := fl_size _
  have HZF : Hid ((fl fun _ => false) = (fl fun _ => false)) := rfl
  have HPL := hide (prts_length F (List.range' 0 9) f)
  have HS1 : Hid (∀ k, k < 9 → ∀ h : Nat → Bool, h k = true → prts F (List.range' k (9 - k)) h = rch F h k :: prts F (List.range' (k + 1) (9 - (k + 1))) (lessF h (rch F h k))) := fun k hk h hh => by
    rw [show 9 - k = (9 - (k + 1)) + 1 by omega, List.range'_succ, prts_in hh]
    rfl
  have HS0 : Hid (∀ k, k < 9 → ∀ h : Nat → Bool, h k = false → prts F (List.range' k (9 - k)) h = prts F (List.range' (k + 1) (9 - (k + 1))) h) := fun k hk h hh => by
    rw [show 9 - k = (9 - (k + 1)) + 1 by omega, List.range'_succ, prts_out hh]
  obtain ⟨R, hR⟩ : ∃ R, R = prts F (List.range' 0 9) f := ⟨_, rfl⟩
  have H0 : Hid (R = [] ++ prts F (List.range' 0 (9 - 0)) f) := hR
  rw [← hR] at HPL ⊢
  have HEMP : Hid (fl (fun _ => false) = fl (fun _ => false)) := rfl
  have HGA : Hid (∀ (h : Nat → Bool) (v L P : Nat) (W : World), v < 9 → h v = true → L ≠ P → Blk W T (tb F) 62 → Blk W L (fl h) 60 → Blk W P (fl fun _ => false) 60 → Calls Try.prog 43 #[.pointer (some ⟨T, 0, none⟩), .int .i64 (v : Int), .pointer (some ⟨L, 0, none⟩), .pointer (some ⟨P, 0, none⟩)] W fun e w' => e = .returned (.tuple #[]) ∧ Blk w' L (fl (lessF h (rch F h v))) 60 ∧ Blk w' P (fl (rch F h v)) 60 ∧ Kept (fun i => i = L ∨ i = P) W w') := fun h v L P W hv hh hLP hT hL hP => by
    have h1 := gather_any F h (fun _ => false) v T L P W hv hh hLP hT hL hP
    have e : moreF (fun _ => false) (rch F h v) = rch F h v := by funext j; unfold moreF; simp
    rwa [e] at h1
  clear HZF HEMP hR
  generalize (fl fun _ => false) = Z at hzv HZ hz0 HGA
  have HZC : Hid ((Value.agg Z).cells.size = 9) := unhide HZ
  have HT := hide hT
  have HB0 : Hid (Blk (w.alloc (Obj.cells (fl f) 60)) w.heap.size (fl f) 60) := Gr.Blk.new0
  clear hT
  obtain ⟨C, hC⟩ : ∃ C, C = fl f := ⟨_, rfl⟩
  have HCF := hide hC
  rw [← hC] at HB0 ⊢
  clear hC
  go_enter Try.func23, Try.ntmps23
  go_wp2_with fail
  obtain ⟨V1, hV1⟩ : ∃ W, W = w.alloc (Obj.cells C 60) := ⟨_, rfl⟩
  rw [← hV1] at HB0 ⊢
  have b1 : Below w.heap.size w V1 := by rw [hV1]; exact below_new _ _
  have HT1 := hide ((unhide HT).below b1)
  have z1 : w.heap.size < V1.heap.size := by rw [hV1]; simp
  rw [unhide HCF] at HB0
  clear hV1 HT
  go_loopw [5, 8] (fun out i wr => ∃ (k : Nat) (h : Nat → Bool) (Ps : List (Nat → Bool)), i = .int .i64 (k : Int) ∧ k ≤ 9 ∧ Hid (R = Ps ++ prts F (List.range' k (9 - k)) h) ∧ Hid (StsOwn wr (w.heap.size + 1) out Ps) ∧ Hid (Blk wr w.heap.size (fl h) 60) ∧ Hid (Blk wr T (tb F) 62) ∧ Below w.heap.size w wr) (fun _ i _ => 9 - (intOf i).toNat)
  case atStart => exact ⟨0, f, [], rfl, Nat.zero_le _, H0, ⟨rfl, .inl ⟨rfl, rfl⟩⟩, HB0, HT1, b1⟩
  case round =>
    clear H0 HB0 HT1 b1 z1
    obtain ⟨k, h, Ps, rfl, hk, HR, HO, HB, HT, hb⟩ := hrel
    obtain ⟨A, cp, rfl⟩ := (unhide HO).shape
    have hgl := (unhide HB).lt
    by_cases hlt : k < 9
    · have hy0 : (0 : Int) ≤ (k : Int) := by omega
      have hy1 : (k : Int) < 9 := by omega
      have d0 := (unhide HB).cell k _ (fl_at h k hlt)
      cases hq : h k
      · rw [hq] at d0
        have HR' : Hid (R = Ps ++ prts F (List.range' (k + 1) (9 - (k + 1))) h) := by show _ = _; rw [← unhide HS0 k hlt h hq]; exact unhide HR
        clear hq
        go_wp2_with fail
        exact ⟨⟨k + 1, h, Ps, by go_num, by omega, HR', HO, HB, HT, hb⟩, by simp [intOf]; omega⟩
      · rw [hq] at d0
        have HR' : Hid (R = (Ps ++ [rch F h k]) ++ prts F (List.range' (k + 1) (9 - (k + 1))) (lessF h (rch F h k))) := by show _ = _; rw [List.append_assoc, List.singleton_append, ← unhide HS1 k hlt h hq]; exact unhide HR
        have HN9 : Hid (Ps.length + 1 ≤ 9) := by
          show _ ≤ _
          have h1 := unhide HPL
          rw [unhide HR'] at h1
          simp at h1
          omega
        have GA := hide (fun L P W hLP hT hL hP => unhide HGA h k L P W hlt hq hLP hT hL hP)
        have hi2 := hide (infoVF (rch F h k))
        have hiL := hide (infoVL (rch F h k))
        have HP9 := hide (fl_size (rch F h k))
        have HP1 := hide (fl_ones (rch F h k))
        have HSN := hide (setsV_snoc Ps (rch F h k))
        obtain ⟨m0, m1, m2, m3, m4, m5, m6, m7, m8, hnine⟩ := fl_nine (rch F h k)
        rw [hnine] at GA hi2 hiL HP9 HP1 HSN
        clear hnine
        clear hq
        go_wp2_with fail
        obtain ⟨V2, hV2⟩ : ∃ W, W = wr.alloc (Obj.cells Z 60) := ⟨_, rfl⟩
        rw [← hV2]
        have n2 : Below wr.heap.size wr V2 := by rw [hV2]; exact below_new _ _
        have P2 : Blk V2 wr.heap.size Z 60 := by rw [hV2]; exact Gr.Blk.new0
        have hzb := hb.size
        clear hV2
        refine (unhide GA w.heap.size wr.heap.size V2 (by omega) ((unhide HT).below n2) ((unhide HB).below n2) P2).mono ?_
        rintro e w4 ⟨rfl, hL4, hP4, hk4⟩
        have b4 : Below w.heap.size w w4 := (hb.trans (n2.mono hb.size)).trans ((hk4.below (B := w.heap.size) (by have := n2.size; omega) (fun i hi => by omega)))
        have hz4 : wr.heap.size < w4.heap.size := hP4.lt
        have HT4 := hide (((unhide HT).below n2).kept hk4 (by omega))
        have O4 : StsOwn w4 (w.heap.size + 1) (.slice A Ps.length cp) Ps := hk4.own ((unhide HO).below n2) (fun g hg hs => by have := World.ownsRow.lt (unhide HO) g hg; omega)
        have HL4 := hide hL4
        have r4 := hide hP4.range
        clear hL4 hk4 n2 P2 HT HB HO GA hP4
        have HN9' := unhide HN9
        have hb4' : w.heap.size + 1 ≤ w4.heap.size := by omega
        have OA := (own_below (w := w4) O4 (below_new w4 (Obj.cells #[Value.bool m0, Value.bool m1, Value.bool m2, Value.bool m3, Value.bool m4, Value.bool m5, Value.bool m6, Value.bool m7, Value.bool m8] 60)))
        have HNW := World.news_of_block (heap_alloc_new w4 (Obj.cells #[Value.bool m0, Value.bool m1, Value.bool m2, Value.bool m3, Value.bool m4, Value.bool m5, Value.bool m6, Value.bool m7, Value.bool m8] 60))
        go_wp2_with (first
          | (at_builtin; refine wpList_append_own _ rfl _ _ 66 rfl (w.heap.size + 1) 60 i1 (.agg Z) 9 9 Try.underlying66 hi1 hz0 hz1 hz2 (unhide HZC) (by decide) _ Ps.length _ rfl OA ⟨w4.heap.size, 0, none⟩ 1 1 [Value.bool m0, Value.bool m1, Value.bool m2, Value.bool m3, Value.bool m4, Value.bool m5, Value.bool m6, Value.bool m7, Value.bool m8] rfl rfl HNW (unhide HP1) ?_ ?_ ?_ ?_)
          | refine wpList_load_mid rfl 60 _ rfl wr.heap.size 0 rfl [Value.bool m0, Value.bool m1, Value.bool m2, Value.bool m3, Value.bool m4, Value.bool m5, Value.bool m6, Value.bool m7, Value.bool m8] _ (unhide r4) Try.underlying60 rfl (unhide hiL) ?_)
        · unfold maxLen; omega
        · omega
        · simp; omega
        intro v' w5 hown5 hgrow5 _
        have hb5 := below_append (B := w.heap.size + 1) (w := w4) (wr := w4) (Below.refl _ _) (by omega) O4 hgrow5
        have b5 := b4.trans (hb5.mono (by omega))
        have HL5 : Hid (Blk w5 w.heap.size (fl (lessF h (rch F h k))) 60) := by
          show Blk _ _ _ _
          have h9 := (unhide HL4).below (below_new w4 (Obj.cells #[Value.bool m0, Value.bool m1, Value.bool m2, Value.bool m3, Value.bool m4, Value.bool m5, Value.bool m6, Value.bool m7, Value.bool m8] 60))
          exact Gr.Blk.grown h9 hgrow5 (fun e => by have h8 := World.ownsRow.lt O4 w.heap.size e.symm; omega)
        have HT5 : Hid (Blk w5 T (tb F) 62) := by
          show Blk _ _ _ _
          have h9 := (unhide HT4).below (below_new w4 (Obj.cells #[Value.bool m0, Value.bool m1, Value.bool m2, Value.bool m3, Value.bool m4, Value.bool m5, Value.bool m6, Value.bool m7, Value.bool m8] 60))
          exact Gr.Blk.grown h9 hgrow5 (fun e => by have h8 := World.ownsRow.lt O4 T e.symm; omega)
        rw [← unhide HSN] at hown5
        have hfe : Ps.length + 1 = (Ps ++ [rch F h k]).length := by simp
        rw [hfe] at hown5
        have HO5 : Hid (StsOwn w5 (w.heap.size + 1) v' (Ps ++ [rch F h k])) := hown5
        clear hown5 hgrow5 hb5 hfe O4 OA HNW HL4 HT4
        go_wp2_with fail
        exact ⟨⟨k + 1, _, _, by go_num, by omega, HR', HO5, HL5, HT5, b5⟩, by simp [intOf]; omega⟩
    · obtain rfl : k = 9 := by omega
      have hr : R = Ps := by rw [unhide HR]; simp [prts]
      subst hr
      have HO' := hide ((unhide HO).lower (show w.heap.size ≤ w.heap.size + 1 by omega))
      go_wp2
      go_ret
      exact ⟨⟨_, rfl, unhide HO'⟩, hb⟩
end Lk
end Go.Proofs.Ytnihoabminnbcaa
namespace Go.Proofs.Ytnihoabminnbcaa
namespace Lk
open Gr (EdgeI hit atFrom graphOk graph_sound edgeOk_iff ahead ahead_iff at_some at_none)
theorem at_iff (x y : Int) (Q : List EdgeI) : decide (0 ≤ atFrom x y 0 Q) = Q.any (hit x y) := by
  cases h : Q.any (hit x y)
  · rw [List.any_eq_false] at h
    have := at_none x y Q 0 h
    rw [this]
    rfl
  · rw [List.any_eq_true] at h
    obtain ⟨e, he, hh⟩ := h
    obtain ⟨i, _, _, _, h3⟩ := at_some x y Q 0 ⟨e, he, hh⟩
    rw [h3]
    simp
theorem hit_swap (x y : Int) (e : EdgeI) : hit x y e = hit y x e := by
  unfold hit
  rw [Bool.or_comm]
theorem any_swap (x y : Int) (Q : List EdgeI) : Q.any (hit x y) = Q.any (hit y x) := by
  congr 1
  funext e
  exact hit_swap x y e
/-- Edges of which no two are between the same vertices. -/
def Apart (Q : List EdgeI) : Prop := (∀ e ∈ Q, 0 ≤ e.A ∧ e.A < e.B ∧ e.B < 9) ∧ ∀ i j (hi : i < Q.length) (hj : j < Q.length), i < j → ¬ (Q[i].A = Q[j].A ∧ Q[i].B = Q[j].B)
theorem apart_of {s : Int} {Q : List EdgeI} (h : graphOk s Q = true) : Apart Q := by
  obtain ⟨h0, h9, he, hp⟩ := graph_sound h
  refine ⟨fun e hm => ?_, fun i j hi hj hij hh => ?_⟩
  · have := (edgeOk_iff s e).1 (he e hm)
    omega
  · have := (ahead_iff _ _).1 (List.pairwise_iff_getElem.1 hp i j hi hj hij)
    omega
theorem lnk_any {Q : List EdgeI} (hq : Apart Q) (a b : Nat) : ∀ j, j ≤ Q.length → lnk Q j a b = (Q.take j).any (hit (a : Int) (b : Int))
  | 0, _ => by simp [lnk]
  | j + 1, h => by
    have hj : j < Q.length := by omega
    have ih := lnk_any hq a b j (by omega)
    rw [lnk_next Q j hj, List.take_succ_eq_append_getElem hj, List.any_append]
    have hr := hq.1 _ (List.getElem_mem hj)
    unfold turnF
    by_cases hh : hit (a : Int) (b : Int) Q[j] = true
    · have h2 := hh
      unfold hit at h2
      simp only [Bool.or_eq_true, Bool.and_eq_true, beq_iff_eq] at h2
      have hno : (Q.take j).any (hit (a : Int) (b : Int)) = false := by
        rw [List.any_eq_false]
        intro e he h3
        obtain ⟨i, hi, rfl⟩ := List.mem_iff_getElem.1 he
        have hil : i < j := by simp at hi; omega
        rw [List.getElem_take] at h3
        have hr2 := hq.1 _ (List.getElem_mem (show i < Q.length by omega))
        unfold hit at h3
        simp only [Bool.or_eq_true, Bool.and_eq_true, beq_iff_eq] at h3
        exact hq.2 i j (by omega) hj hil (by omega)
      rw [if_pos (by omega), ih, hno]
      simp [hh]
    · have h2 := hh
      unfold hit at h2
      simp only [Bool.or_eq_true, Bool.and_eq_true, beq_iff_eq] at h2
      rw [if_neg (by omega), ih]
      simp [hh]
theorem lnkF_any {Q : List EdgeI} (hq : Apart Q) (a b : Nat) : lnkF Q a b = Q.any (hit (a : Int) (b : Int)) := by
  unfold lnkF
  rw [lnk_any hq a b _ (Nat.le_refl _), List.take_length]
theorem lnkF_swap {Q : List EdgeI} (hq : Apart Q) (a b : Nat) : lnkF Q a b = lnkF Q b a := by
  rw [lnkF_any hq, lnkF_any hq, any_swap]
/-- Two vertices are beside each other by an edge between them alone. -/
theorem nb_is {Q : List EdgeI} (hq : Apart Q) (v u : Nat) : nb Q (v : Int) u = lnkF Q v u := by
  rw [lnkF_any hq]
  unfold nb
  rw [at_iff, any_swap]
  by_cases e : u = v
  · subst e
    have : Q.any (hit (u : Int) (u : Int)) = false := by
      rw [List.any_eq_false]
      intro e he h
      have := hq.1 e he
      unfold hit at h
      simp at h
      omega
    rw [this]
    simp
  · have : ((u : Int) != (v : Int)) = true := by simp; omega
    rw [this, Bool.true_and]
theorem lnk_out {s : Int} {Q : List EdgeI} (h : graphOk s Q = true) (a b : Nat) (hb : s ≤ (b : Int)) : lnkF Q a b = false := by
  obtain ⟨h0, h9, he, hp⟩ := graph_sound h
  rw [lnkF_any (apart_of h), List.any_eq_false]
  intro e hm hh
  have := (edgeOk_iff s e).1 (he e hm)
  unfold hit at hh
  simp at hh
  omega
/-- What a set of nine flags has below a bound is all that it has. -/
theorem setTo_low (f : Nat → Bool) (n : Nat) : ∀ d, (∀ j, n ≤ j → j < n + d → f j = false) → setTo f (n + d) = setTo f n
  | 0, _ => rfl
  | d + 1, h => by
    rw [show n + (d + 1) = n + d + 1 by omega, setTo_out (h (n + d) (by omega) (by omega))]
    exact setTo_low f n d (fun j h1 h2 => h j h1 (by omega))
theorem setTo_congr {f g : Nat → Bool} {k : Nat} (h : ∀ j, j < k → f j = g j) : setTo f k = setTo g k := by
  unfold setTo
  congr 1
  exact List.filter_congr (fun j hj => h j (List.mem_range.1 hj))
theorem next_is {s : Int} {Q : List EdgeI} (h : graphOk s Q = true) (v : Nat) : setTo (lnkF Q v) 9 = nextTo Q (v : Int) s.toNat := by
  obtain ⟨h0, h9, _, _⟩ := graph_sound h
  obtain ⟨d, hd⟩ : ∃ d, 9 = s.toNat + d := ⟨9 - s.toNat, by omega⟩
  rw [hd, setTo_low _ _ d (fun j h1 _ => lnk_out h v j (by omega))]
  exact setTo_congr (fun j _ => (nb_is (apart_of h) v j).symm)
end Lk
end Go.Proofs.Ytnihoabminnbcaa
namespace Go.Proofs.Ytnihoabminnbcaa
namespace Lk
open Go.RowKit
open Gr (Blk Kept below_new setMany setMany_all below_setCells own_below own_lower InOwn intsAt_of_own InAt isPlace_is results_cell1)
theorem StsOwn.row {w : World} {B g n c : Nat} {Ps : List (Nat → Bool)} (h : StsOwn w B (.slice (some ⟨g, 0, none⟩) n c) Ps) (k : Nat) (hk : k < Ps.length) : w.rangeAt g (k * 9) (fl Ps[k]).toList := fun j v hv => by
  have hj : j < 9 := by
    have := (List.getElem?_eq_some_iff.1 hv).1
    simpa [fl_size] using this
  have e : n = Ps.length := by
    rcases World.ownsRow.form h (by omega) with ⟨g', cap, h1, _⟩
    simp at h1
    exact h1.2.1
  subst e
  rw [World.ownsRow.cellAt h (k * 9 + j) (by omega), setsV_at Ps k hk j hj, ← hv, Array.getElem?_toList]
theorem StsOwn.form {w : World} {B : Nat} {v : Value} {Ps : List (Nat → Bool)} (h : StsOwn w B v Ps) (h0 : 0 < Ps.length) : ∃ g c, v = .slice (some ⟨g, 0, none⟩) Ps.length c := by
  obtain ⟨g, cap, h1, _⟩ := World.ownsRow.form h h0
  exact ⟨g, cap, h1⟩
/-- How many sets have an odd number of vertices. -/
def oddN (Ps : List (Nat → Bool)) : Nat := (Ps.map fun p => (setTo p 9).length % 2).sum
theorem odd_next (Ps : List (Nat → Bool)) (k : Nat) (h : k < Ps.length) : oddN (Ps.take (k + 1)) = oddN (Ps.take k) + (setTo Ps[k] 9).length % 2 := by
  unfold oddN
  rw [List.take_succ_eq_append_getElem h, List.map_append, List.sum_append]
  simp
theorem odd_le : ∀ (Ps : List (Nat → Bool)), oddN Ps ≤ Ps.length
  | [] => by simp [oddN]
  | p :: r => by
    have := odd_le r
    unfold oddN at *
    simp only [List.map_cons, List.sum_cons, List.length_cons]
    omega
/-- The vertices below n that are not among the first numbers of a list. -/
def leftTo (n : Nat) (K : List Int) (j : Nat) : Nat → Bool := fun v => decide (v < n) && !inK (K.take j) (v : Int)
theorem inK_next (K : List Int) (j : Nat) (h : j < K.length) (x : Int) : inK (K.take (j + 1)) x = (inK (K.take j) x || (x == K[j])) := by
  unfold inK
  rw [List.take_succ_eq_append_getElem h, List.contains_eq_any_beq, List.any_append, ← List.contains_eq_any_beq]
  simp
theorem left_in (n : Nat) (K : List Int) (j : Nat) (h : j < K.length) (x : Nat) (hx : K[j] = (x : Int)) : (fl (leftTo n K j)).setIfInBounds x (.bool false) = fl (leftTo n K (j + 1)) := by
  rw [fl_set]
  refine fl_congr (fun v _ => ?_)
  unfold leftTo
  rw [inK_next K j h, hx]
  by_cases e : v = x
  · subst e; simp
  · have e2 : ((v : Int) == (x : Int)) = false := by simp; omega
    simp [e, e2]
theorem left_out (n : Nat) (K : List Int) (j : Nat) (h : j < K.length) (hx : (decide (0 ≤ K[j]) && decide (K[j] < (n : Int))) = false) : fl (leftTo n K j) = fl (leftTo n K (j + 1)) := by
  refine fl_congr (fun v _ => ?_)
  unfold leftTo
  rw [inK_next K j h]
  by_cases hv : v < n
  · have e2 : ((v : Int) == K[j]) = false := by
      cases hq : ((v : Int) == K[j])
      · rfl
      · have := eq_of_beq hq
        rw [← this] at hx
        simp at hx
        omega
    simp [e2]
  · simp [hv]
/-- The vertices below n that are not on a list. -/
def leftF (n : Nat) (K : List Int) : Nat → Bool := fun v => decide (v < n) && !inK K (v : Int)
end Lk
end Go.Proofs.Ytnihoabminnbcaa
namespace Go.Proofs.Ytnihoabminnbcaa
namespace Lk
open Go.RowKit
open Gr (Blk Kept EdgeI GrAt InAt GBox below_new setMany setMany_all below_setCells graphOk implGraph_gen)
/-- The parts of a graph without some vertices, as sets. -/
def partsR (s : Int) (Q : List EdgeI) (K : List Int) : List (Nat → Bool) := prts (lnkF Q) (List.range' 0 9) (leftF s.toNat K)
/-- What OddParts tells. -/
def oddR (s : Int) (Q : List EdgeI) (K : List Int) : Int := if graphOk s Q = true then (oddN (partsR s Q K) : Int) else -1
end Lk
end Go.Proofs.Ytnihoabminnbcaa
