/-
  The contracts of impl's vertexSet.list, allVertices and leftOf.
-/
import Derived.Test.YtejfknkcakeakaaLkF
import Derived.Test.YtejfknkcakeakaaLk0
import Derived.Test.YtejfknkcakeakaaGrImplA
namespace Go.Proofs.Ytejfknkcakeakaa
namespace Lk
open Go.RowKit
open Gr (Blk Kept below_new below_setCells results_cell1 setMany setMany_all InOwn InAt intsV intsAt_of_own info3 isPlace_is)

theorem own_nil (w : World) (B : Nat) : InOwn w B (.slice none 0 0) [] := ⟨by simp [intsV], .inl ⟨rfl, rfl⟩⟩

set_option maxRecDepth 100000 in
set_option maxHeartbeats 2000000 in
theorem list_any (f : Nat → Bool) (w : World) :
    Calls Try.prog 47 #[.agg (fl f)] w fun e w' => (∃ d, e = .returned d ∧ InOwn w' w.heap.size d (setTo f 9)) ∧ Below w.heap.size w w' := by
  obtain ⟨i0, hi, hz0, hz1, hz2⟩ := info_parts info3
  have HIX := hide (index_fl f)
  have hiL := hide (infoVL f)
  have HS1 := hide (fun k h => setTo_in (f := f) (k := k) h)
  have HS0 := hide (fun k h => setTo_out (f := f) (k := k) h)
  have HNIL : Hid ([] = setTo f 0) := rfl
  have HSL := hide (setTo_length f)
  generalize fl f = C at HIX hiL ⊢
  go_enter Try.func47, Try.ntmps47
  obtain ⟨V1, hV1⟩ : ∃ W, W = w.alloc (Obj.cells C 63) := ⟨_, rfl⟩
  have HB1 : Hid (Blk V1 w.heap.size C 63) := by show Blk _ _ _ _; rw [hV1]; exact Gr.Blk.new0
  have hr1 := hide (unhide HB1).range
  rw [hV1] at hr1
  have b1 : Below w.heap.size w V1 := by rw [hV1]; exact below_new _ _
  go_wp2_with (first
    | refine wpList_load_mid rfl 63 _ rfl w.heap.size 0 rfl C.toList _ (unhide hr1) Try.underlying63 rfl (unhide hiL) ?_)
  rw [← hV1]
  clear hV1 hr1 HB1
  go_loopw [3, 7] (fun out i wr => ∃ k : Nat, i = .int .i64 (k : Int) ∧ k ≤ 9 ∧ Hid (InOwn wr V1.heap.size out (setTo f k)) ∧ Below V1.heap.size V1 wr) (fun _ i _ => 9 - (intOf i).toNat)
  case atStart => exact ⟨0, rfl, Nat.zero_le _, own_nil _ _, Below.refl _ _⟩
  case round =>
    obtain ⟨k, rfl, hk, HO, hb⟩ := hrel
    obtain ⟨A, cp, rfl, _⟩ := intsAt_of_own (unhide HO)
    by_cases hlt : k < 9
    · have hx1 : (k : Int) < 9 := by omega
      have hx0 : (0 : Int) ≤ (k : Int) := by omega
      have hix := unhide HIX wr k hlt
      cases hq : f k
      · have HF := hide (unhide HS0 k hq)
        rw [hq] at hix
        clear hq
        go_wp2_with fail
        exact ⟨⟨k + 1, by go_num, by omega, (by rw [unhide HF]; exact unhide HO), hb⟩, by simp [intOf]; omega⟩
      · have HF := hide (unhide HS1 k hq)
        rw [hq] at hix
        have hfl := unhide HSL k
        have hown := unhide HO
        unfold InOwn at hown
        clear hq HO
        go_wp2_with (at_builtin; refine wpList_append_own _ rfl _ _ 26 rfl V1.heap.size 3 i0 (.int .i64 0) 1 8 Try.underlying26 hi hz0 hz1 hz2 rfl (by decide) _ _ _ rfl (hown.alloc _) ⟨wr.heap.size, 0, none⟩ 1 1 [.int .i64 (k : Int)] rfl rfl (cell_one_new _ _ _) (one_intL _) ?_ ?_ ?_ ?_)
        · unfold maxLen; omega
        · omega
        · have := hb.size; first | omega | (simp; omega)
        intro v' w4 hown' hgrow _
        have hb4 := below_append hb (Nat.le_refl _) hown hgrow
        rw [← intsV_snocL, ← unhide HF] at hown'
        have hfe : (setTo f k).length + 1 = (setTo f (k + 1)).length := by rw [unhide HF]; simp
        rw [hfe] at hown'
        have HO4 : Hid (InOwn w4 V1.heap.size v' (setTo f (k + 1))) := hown'
        clear hown' hgrow hown HF hfe hfl
        go_wp2_with fail
        exact ⟨⟨k + 1, by go_num, by omega, unhide HO4, hb4⟩, by simp [intOf]; omega⟩
    · obtain rfl : k = 9 := by omega
      go_wp2
      go_ret
      exact ⟨⟨_, rfl, (unhide HO).lower b1.size⟩, b1.trans (hb.mono b1.size)⟩

/-- The first k vertices. -/
def allF (k : Nat) : Nat → Bool := fun j => decide (j < k)

theorem all_next (k : Nat) : (fl (allF k)).setIfInBounds k (.bool true) = fl (allF (k + 1)) := by
  rw [fl_set]
  refine fl_congr (fun j _ => ?_)
  unfold allF
  by_cases h : j = k
  · subst h; simp
  · have : j < k + 1 ↔ j < k := by omega
    simp [h, this]

set_option maxRecDepth 100000 in
set_option maxHeartbeats 2000000 in
theorem allV_any (n : Nat) (hn : n ≤ 9) (w : World) :
    Calls Try.prog 59 #[.int .i64 (n : Int)] w fun e w' => e = .returned (.agg (fl (allF n))) ∧ Below w.heap.size w w' := by
  have HN := hide all_next
  have hzv := zero_fl
  have HZ : Hid (Array.size (fl fun _ => false) = 9) := fl_size _
  have H0 : Hid ((fl fun _ => false) = fl (allF 0)) := fl_congr (fun j _ => by simp [allF])
  have HAT : Hid (∀ (j k : Nat), k < 9 → (fl (allF j))[k]? = some (.bool (allF j k))) := fun j k h => fl_at _ k h
  generalize (fl fun _ => false) = Z at hzv HZ H0
  go_enter Try.func59, Try.ntmps59
  go_wp2_with fail
  obtain ⟨V1, hV1⟩ : ∃ W, W = w.alloc (Obj.cells Z 63) := ⟨_, rfl⟩
  obtain ⟨V2, hV2⟩ : ∃ W, W = V1.alloc (Obj.cells Z 63) := ⟨_, rfl⟩
  rw [← hV1, ← hV2]
  have b2 : Below w.heap.size w V2 := by rw [hV2, hV1]; exact (below_new _ _).alloc (by simp) _
  have HR2 : Hid (Blk V2 w.heap.size Z 63) := by show Blk _ _ _ _; rw [hV2, hV1]; exact Gr.Blk.new0.alloc
  have HT2 : Hid (Blk V2 (w.heap.size + 1) (fl (allF 0)) 63) := by show Blk _ _ _ _; rw [← unhide H0, hV2, hV1]; exact Gr.Blk.new1
  clear hV1 hV2 H0
  go_loopw [6] (fun i wr => ∃ j : Nat, i = .int .i64 (j : Int) ∧ j ≤ n ∧ Hid (Blk wr (w.heap.size + 1) (fl (allF j)) 63) ∧ Hid (Blk wr w.heap.size Z 63) ∧ Below w.heap.size w wr) (fun i _ => n - (intOf i).toNat)
  case atStart => exact ⟨0, rfl, Nat.zero_le _, HT2, HR2, b2⟩
  case round =>
    obtain ⟨j, rfl, hj, HT, HR, hb⟩ := hrel
    by_cases hlt : j < n
    · have hx2 : (j : Int) < (n : Int) := by omega
      have hx1 : (j : Int) < 9 := by omega
      have hx0 : (0 : Int) ≤ (j : Int) := by omega
      have q0 := (unhide HT).cell j _ (unhide HAT j j (by omega))
      have f0 := (unhide HT).froz j
      generalize allF j j = bb at q0
      have HT3 : Hid (Blk (wr.setCell ⟨w.heap.size + 1, j, none⟩ (.bool true)) (w.heap.size + 1) (fl (allF (j + 1))) 63) := by
        show Blk _ _ _ _
        rw [← unhide HN j]
        exact (unhide HT).set j _
      have HR3 : Hid (Blk (wr.setCell ⟨w.heap.size + 1, j, none⟩ (.bool true)) w.heap.size Z 63) := (unhide HR).set_other (by omega) j _
      have hb3 : Below w.heap.size w (wr.setCell ⟨w.heap.size + 1, j, none⟩ (.bool true)) := hb.setCell (p := ⟨w.heap.size + 1, j, none⟩) (by simp) _
      go_wp2_with fail
      exact ⟨⟨j + 1, by go_num, by omega, HT3, HR3, hb3⟩, by simp [intOf]; omega⟩
    · obtain rfl : j = n := by omega
      have HR1 := hide (unhide HT).range
      have HR5 : Hid (wr.there w.heap.size 0 (fl (allF j)).size) := (unhide HR).there 0 _ (by rw [fl_size, unhide HZ]; omega)
      have hi1 := hide (infoVL (allF j))
      have hi2 := hide (infoVF (allF j))
      have h1 := hide (fl_one (allF j))
      have HB : Hid (Blk (wr.setCells w.heap.size 0 (fl (allF j)).toList) w.heap.size (fl (allF j)) 63) := by
        have h := Gr.Blk.many (fl (allF j)).toList 0 (unhide HR)
        rwa [setMany_all _ _ (by rw [fl_size, unhide HZ])] at h
      have HLD := hide (load_fl (unhide HB))
      generalize hC : fl (allF j) = C at HR1 HR5 hi1 hi2 h1 HLD
      have HCE := hide hC
      clear hC HB
      go_wp2_with (first
        | refine wpList_load_mid rfl 63 _ rfl (w.heap.size + 1) 0 rfl C.toList _ (unhide HR1) Try.underlying63 rfl (unhide hi1) ?_
        | refine wpList_store_mid rfl 63 _ _ rfl w.heap.size 0 C rfl rfl (unhide HR5) (unhide hi2) (unhide h1) ?_)
      refine bodyPost_ret (v := .agg C) ?_ rfl ⟨(by rw [unhide HCE]), below_setCells _ _ (Nat.le_refl _) _ _ _ _ hb⟩
      have hld := unhide HLD
      rw [results_cell1 rfl]
      show ((asAddr (Value.pointer (some ⟨w.heap.size, 0, none⟩))).run Try.prog _).andThen _ = _
      simp [asAddr, Result.andThen, hld]

end Lk
end Go.Proofs.Ytejfknkcakeakaa
