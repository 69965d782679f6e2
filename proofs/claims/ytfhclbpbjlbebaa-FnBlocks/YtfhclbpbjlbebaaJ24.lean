/-
  Texts of this claim, one behind the other: LkB2.
-/
import Derived.Test.YtfhclbpbjlbebaaJ19

/-
  The contracts of impl's vertexSet.without and stepDown.
-/
namespace Go.Proofs.Ytfhclbpbjlbebaa
namespace Lk
open Go.RowKit
open Gr (Blk Kept below_new setMany setMany_all below_setCells results_cell1)

/-- A set without another one's first vertices. -/
def wo (f g : Nat → Bool) (k : Nat) : Nat → Bool := fun v => f v && !(decide (v < k) && g v)

theorem wo_next (f g : Nat → Bool) (k : Nat) : (fl (wo f g k)).setIfInBounds k (.bool (wo f g k k && !g k)) = fl (wo f g (k + 1)) := by
  rw [fl_set]
  refine fl_congr (fun v _ => ?_)
  unfold wo
  by_cases h : v = k
  · subst h; simp
  · have : v < k + 1 ↔ v < k := by omega
    simp [h, this]

set_option maxRecDepth 100000 in
set_option maxHeartbeats 2000000 in
theorem without_any (f g : Nat → Bool) (w : World) :
    Calls Try.prog 30 #[.agg (fl f), .agg (fl g)] w fun e w' => e = .returned (.agg (fl fun v => f v && !g v)) ∧ Below w.heap.size w w' := by
  have HN := hide (fun k => wo_next f g k)
  have HIX := hide (index_fl g)
  have hiL := hide (infoVL g)
  have H0 : Hid (fl f = fl (wo f g 0)) := fl_congr (fun v _ => by unfold wo; simp)
  have HEND : Hid (fl (wo f g 9) = fl fun v => f v && !g v) := fl_congr (fun v hv => by unfold wo; simp [hv])
  have HAT : Hid (∀ (j k : Nat), k < 9 → (fl (wo f g j))[k]? = some (.bool (wo f g j k))) := fun j k h => fl_at _ k h
  have hiR := hide (infoVF (fun v => f v && !g v))
  have hiRL := hide (infoVL (fun v => f v && !g v))
  have h1R := hide (fl_one (fun v => f v && !g v))
  have HRS := hide (fl_size (fun v => f v && !g v))
  have HLR := hide (fun W b (h : Blk W b (fl fun v => f v && !g v) 54) => load_fl h)
  generalize (fl fun v => f v && !g v) = R at HEND hiR hiRL h1R HRS HLR ⊢
  have hzv := zero_fl
  have HZ : Hid (Array.size (fl fun _ => false) = 9) := fl_size _
  generalize (fl fun _ => false) = Z at hzv HZ
  generalize fl f = C at H0 ⊢
  generalize fl g = D at HIX hiL ⊢
  go_enter Try.func30, Try.ntmps30
  obtain ⟨V1, hV1⟩ : ∃ W, W = w.alloc (Obj.cells C 54) := ⟨_, rfl⟩
  obtain ⟨V2, hV2⟩ : ∃ W, W = V1.alloc (Obj.cells D 54) := ⟨_, rfl⟩
  obtain ⟨V3, hV3⟩ : ∃ W, W = V2.alloc (Obj.cells Z 54) := ⟨_, rfl⟩
  have b3 : Below w.heap.size w V3 := by rw [hV3, hV2, hV1]; exact ((below_new _ _).alloc (by simp) _).alloc (by simp; omega) _
  have HC3 : Hid (Blk V3 w.heap.size (fl (wo f g 0)) 54) := by show Blk _ _ _ _; rw [← unhide H0, hV3, hV2, hV1]; exact Gr.Blk.new0.alloc.alloc
  have HD3 : Hid (Blk V3 (w.heap.size + 1) D 54) := by show Blk _ _ _ _; rw [hV3, hV2, hV1]; exact Gr.Blk.new1.alloc
  have HR3 : Hid (Blk V3 (w.heap.size + 1 + 1) Z 54) := by show Blk _ _ _ _; rw [hV3, hV2, hV1]; exact Gr.Blk.new2
  have r3 := hide (unhide HD3).range
  rw [hV3, hV2, hV1] at r3
  go_wp2_with (first
    | refine wpList_load_mid rfl 54 _ rfl (w.heap.size + 1) 0 rfl D.toList _ (unhide r3) Try.underlying54 rfl (unhide hiL) ?_)
  rw [← hV1, ← hV2, ← hV3]
  clear hV1 hV2 hV3 r3 HD3 H0
  go_loopw [8] (fun i wr => ∃ k : Nat, i = .int .i64 (k : Int) ∧ k ≤ 9 ∧ Hid (Blk wr w.heap.size (fl (wo f g k)) 54) ∧ Hid (Blk wr (w.heap.size + 1 + 1) Z 54) ∧ Below w.heap.size w wr) (fun i _ => 9 - (intOf i).toNat)
  case atStart => exact ⟨0, rfl, Nat.zero_le _, HC3, HR3, b3⟩
  case round =>
    obtain ⟨k, rfl, hk, HT, HR, hb⟩ := hrel
    by_cases hlt : k < 9
    · have hx1 : (k : Int) < 9 := by omega
      have hx0 : (0 : Int) ≤ (k : Int) := by omega
      have hix := unhide HIX wr k hlt
      have q0 := (unhide HT).cell k _ (unhide HAT k k hlt)
      have f0 := (unhide HT).froz k
      have HS := hide (unhide HN k)
      generalize wo f g k k = bk at q0 HS
      generalize g k = gk at hix HS
      have HT3 : Hid (Blk (wr.setCell ⟨w.heap.size, k, none⟩ (.bool (bk && !gk))) w.heap.size (fl (wo f g (k + 1))) 54) := by
        show Blk _ _ _ _
        rw [← unhide HS]
        exact (unhide HT).set k _
      have HR3 : Hid (Blk (wr.setCell ⟨w.heap.size, k, none⟩ (.bool (bk && !gk))) (w.heap.size + 1 + 1) Z 54) := (unhide HR).set_other (by omega) k _
      have hb3 : Below w.heap.size w (wr.setCell ⟨w.heap.size, k, none⟩ (.bool (bk && !gk))) := hb.setCell (p := ⟨w.heap.size, k, none⟩) (Nat.le_refl _) _
      clear HS HT HR
      cases bk with
      | true =>
        rw [Bool.true_and] at *
        go_wp2_with fail
        exact ⟨⟨k + 1, by go_num, by omega, HT3, HR3, hb3⟩, by simp [intOf]; omega⟩
      | false =>
        rw [Bool.false_and] at *
        go_wp2_with fail
        exact ⟨⟨k + 1, by go_num, by omega, HT3, HR3, hb3⟩, by simp [intOf]; omega⟩
    · obtain rfl : k = 9 := by omega
      have HT' : Hid (Blk wr w.heap.size R 54) := by show Blk _ _ _ _; rw [← unhide HEND]; exact unhide HT
      have HR1 := hide (unhide HT').range
      have HR5 : Hid (wr.there (w.heap.size + 1 + 1) 0 R.size) := (unhide HR).there 0 _ (by rw [unhide HZ, unhide HRS]; omega)
      have HB : Hid (Blk (wr.setCells (w.heap.size + 1 + 1) 0 R.toList) (w.heap.size + 1 + 1) R 54) := by
        have h := Gr.Blk.many R.toList 0 (unhide HR)
        rwa [setMany_all _ _ (by rw [unhide HZ, unhide HRS])] at h
      have HLD := hide (unhide HLR _ _ (unhide HB))
      clear HB HT'
      go_wp2_with (first
        | refine wpList_load_mid rfl 54 _ rfl w.heap.size 0 rfl R.toList _ (unhide HR1) Try.underlying54 rfl (unhide hiRL) ?_
        | refine wpList_store_mid rfl 54 _ _ rfl (w.heap.size + 1 + 1) 0 R rfl rfl (unhide HR5) (unhide hiR) (unhide h1R) ?_)
      refine bodyPost_ret (v := .agg R) ?_ rfl ⟨rfl, below_setCells _ _ (by omega) _ _ _ _ hb⟩
      have hld := unhide HLD
      rw [results_cell1 rfl]
      show ((asAddr (Value.pointer (some ⟨w.heap.size + 1 + 1, 0, none⟩))).run Try.prog _).andThen _ = _
      simp [asAddr, Result.andThen, hld]

/-- A set of which all from k on have come in. -/
def upF (n k : Nat) (f : Nat → Bool) : Nat → Bool := fun u => if k ≤ u ∧ u < n then true else f u

theorem up_in (n j : Nat) (f : Nat → Bool) (hj : j < n) : (fl (upF n (j + 1) f)).setIfInBounds j (.bool true) = fl (upF n j f) := by
  rw [fl_set]
  refine fl_congr (fun u _ => ?_)
  unfold upF
  by_cases h : u = j
  · subst h; simp [hj]
  · rw [if_neg h]
    have : (j + 1 ≤ u ∧ u < n) ↔ (j ≤ u ∧ u < n) := by omega
    simp only [this]

theorem up_out (n j : Nat) (f : Nat → Bool) : (fl (upF n (j + 1) f)).setIfInBounds j (.bool false) = fl (decF n j f) := by
  rw [fl_set]
  refine fl_congr (fun u _ => ?_)
  unfold upF decF
  by_cases h : u = j
  · rw [if_pos h, if_pos h]
  · rw [if_neg h, if_neg h]
    have : (j + 1 ≤ u ∧ u < n) ↔ (j < u ∧ u < n) := by omega
    simp only [this]

/-- What stepDown leaves. -/
def Stepped (n L : Nat) (f : Nat → Bool) (b : Bool) (w' : World) : Prop :=
  (b = true → ∃ k, k < n ∧ f k = true ∧ (∀ u, k < u → u < n → f u = false) ∧ Blk w' L (fl (decF n k f)) 54) ∧ (b = false → ∀ u, u < n → f u = false)

set_option maxRecDepth 100000 in
set_option maxHeartbeats 2000000 in
theorem step_any (n L : Nat) (f : Nat → Bool) (hn : n ≤ 9) (w : World) (h : Blk w L (fl f) 54) :
    Calls Try.prog 28 #[.pointer (some ⟨L, 0, none⟩), .int .i64 (n : Int)] w fun e w' => (∃ x : Value, e = .returned x ∧ ∃ b : Bool, x = .bool b ∧ Stepped n L f b w') ∧ Kept (fun i => i = L) w w' := by
  have HU1 := hide (fun j hj => up_in n j f hj)
  have HU0 := hide (fun j => up_out n j f)
  have H0 : Hid (Blk w L (fl (upF n n f)) 54) := by
    have e : fl f = fl (upF n n f) := fl_congr (fun u _ => by unfold upF; rw [if_neg (by omega)])
    show Blk _ _ _ _
    rw [← e]
    exact h
  have hLl := h.lt
  clear h
  go_enter Try.func28, Try.ntmps28
  go_wp2_with fail
  go_loopw [5] (fun i wr => ∃ (k : Nat) (x : Int), i = .int .i64 x ∧ Hid (x = (k : Int) - 1) ∧ k ≤ n ∧ Hid (∀ u, k ≤ u → u < n → f u = false) ∧ Hid (Blk wr L (fl (upF n k f)) 54) ∧ Kept (fun i => i = L) w wr) (fun i _ => (intOf i + 1).toNat)
  case atStart => exact ⟨n, _, rfl, (by show _ = _; first | rfl | (simp; done) | omega), Nat.le_refl _, (fun u h1 h2 => absurd h2 (by omega)), H0, Gr.Kept.refl _ _⟩
  case round =>
    clear H0
    obtain ⟨k, x, rfl, HXE, hk, HF, HB, hkp⟩ := hrel
    have hLl := (unhide HB).lt
    cases k with
    | zero =>
      obtain rfl : x = -1 := by have := unhide HXE; omega
      have HST : Hid (Stepped n L f false wr) := ⟨(fun h => by cases h), fun _ u hu => unhide HF u (Nat.zero_le _) hu⟩
      go_wp2
      go_ret
      exact ⟨⟨_, rfl, false, rfl, unhide HST⟩, hkp⟩
    | succ j =>
      obtain rfl : x = (j : Int) := by have := unhide HXE; omega
      have hx0 : (0 : Int) ≤ (j : Int) := by omega
      have hx1 : (j : Int) < 9 := by omega
      have hj9 : j < 9 := by omega
      have hup : upF n (j + 1) f j = f j := by unfold upF; rw [if_neg (by omega)]
      have q0 := (unhide HB).cell j _ (fl_at _ j hj9)
      rw [hup] at q0
      have f0 := (unhide HB).froz j
      cases hq : f j
      · rw [hq] at q0
        have HB' : Hid (Blk (wr.setCell ⟨L, j, none⟩ (.bool true)) L (fl (upF n j f)) 54) := by
          show Blk _ _ _ _
          rw [← unhide HU1 j (by omega)]
          exact (unhide HB).set j _
        have HF' : Hid (∀ u, j ≤ u → u < n → f u = false) := fun u h1 h2 => by
          by_cases e : u = j
          · rw [e]; exact hq
          · exact unhide HF u (by omega) h2
        have c2 : (wr.setCell ⟨L, j, none⟩ (.bool true)).cell? ⟨L, j, none⟩ = some (.bool true) := (Gr.Blk.set (unhide HB) j (.bool true)).cell j _ (by rw [Array.getElem?_setIfInBounds_self]; simp [fl_size, hj9])
        have hkp' : Kept (fun i => i = L) w (wr.setCell ⟨L, j, none⟩ (.bool true)) := hkp.trans (Gr.Kept.set _ _ _ _ rfl)
        clear hq hup
        go_wp2_with fail
        go_region
        go_wp2_with fail
        exact ⟨⟨j, _, rfl, (by show _ = _; first | rfl | (simp; done) | omega), by omega, HF', HB', hkp'⟩, by simp [intOf]; try omega⟩
      · rw [hq] at q0
        have HB' : Hid (Blk (wr.setCell ⟨L, j, none⟩ (.bool false)) L (fl (decF n j f)) 54) := by
          show Blk _ _ _ _
          rw [← unhide HU0 j]
          exact (unhide HB).set j _
        have HST : Hid (Stepped n L f true (wr.setCell ⟨L, j, none⟩ (.bool false)).drew) := ⟨fun _ => ⟨j, by omega, hq, fun u h1 h2 => unhide HF u (by omega) h2, (unhide HB').drew⟩, fun h => by cases h⟩
        have c2 : (wr.setCell ⟨L, j, none⟩ (.bool false)).cell? ⟨L, j, none⟩ = some (.bool false) := (Gr.Blk.set (unhide HB) j (.bool false)).cell j _ (by rw [Array.getElem?_setIfInBounds_self]; simp [fl_size, hj9])
        have hkp' : Kept (fun i => i = L) w (wr.setCell ⟨L, j, none⟩ (.bool false)) := hkp.trans (Gr.Kept.set _ _ _ _ rfl)
        clear hq hup
        go_wp2_with fail
        go_region
        go_wp2_with fail
        go_ret
        exact ⟨⟨_, rfl, true, rfl, unhide HST⟩, hkp'⟩

end Lk
end Go.Proofs.Ytfhclbpbjlbebaa
