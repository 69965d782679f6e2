/-
 Rg1.
-/
import Derived.Test.YtihnaddfpmjpaaaGreatDoorJ7
import Derived.Test.YtihnaddfpmjpaaaGreatDoorJ13
namespace Go.Proofs.YtihnaddfpmjpaaaGreatDoor
namespace Rg
open Go.RowKit
def valD (l : List UInt8) : Nat := l.foldl (fun a b => a * 10 + (b.toNat - 48)) 0
theorem val_dec (n : Nat) : valD (Lib.decDigits n) = n := by
  induction n using Nat.strongRecOn with
  | ind n ih =>
    rw [Lib.decDigits]
    by_cases h : n < 10
    · rw [dif_pos h]
      simp only [valD, List.foldl_cons, List.foldl_nil]
      rw [toNat_ofNat_small _ (by omega)]
      omega
    · rw [dif_neg h]
      have h1 := ih (n / 10) (by omega)
      unfold valD at h1 ⊢
      rw [List.foldl_append, h1]
      simp only [List.foldl_cons, List.foldl_nil]
      rw [toNat_ofNat_small _ (by omega)]
      omega
theorem val_tw (n : Nat) : valD (tw n).toList = n := by
  have h := val_dec n
  rw [← Lib.itoa_nonneg] at h
  unfold tw
  split
  · rw [ByteArray.toList_eq, show (ByteArray.mk #[48] ++ ByteArray.mk (Lib.itoa (n : Int)).toArray).data.toList = 48 :: Lib.itoa (n : Int) by simp]
    simpa [valD] using h
  · rw [ByteArray.toList_eq]
    simpa using h
def qk (n : Nat) : ByteArray := ⟨#[113]⟩ ++ tw n
theorem qk_list (n : Nat) : (qk n).toList = 113 :: (tw n).toList := by
  rw [ByteArray.toList_eq, ByteArray.toList_eq]
  simp [qk]
theorem qk_inj {i j : Nat} (h : (qk i).toList = (qk j).toList) : i = j := by
  rw [qk_list, qk_list] at h
  have h2 : (tw i).toList = (tw j).toList := by simpa using h
  have := congrArg valD h2
  rwa [val_tw, val_tw] at this
theorem get_mem : ∀ (Q : PL) (k : ByteArray), (getP Q k).isSome = true → k.toList ∈ Q.map fun q => q.1.toList
  | [], k, h => by simp [getP] at h
  | q :: r, k, h => by
    rw [getP] at h
    split at h
    · rename_i hq
      have := eq_of_beq hq
      simp [this]
    · simp only [List.map_cons, List.mem_cons]
      exact Or.inr (get_mem r k h)
theorem nodup_le {α : Type} [BEq α] [LawfulBEq α] : ∀ (L M : List α), L.Nodup → (∀ x ∈ L, x ∈ M) → L.length ≤ M.length
  | [], M, _, _ => by simp
  | x :: L, M, h, hm => by
    have h1 := List.nodup_cons.1 h
    have hx := hm x (by simp)
    have h2 := nodup_le L (M.erase x) h1.2 (fun y hy => (List.mem_erase_of_ne (by intro e; subst e; exact h1.1 hy)).2 (hm y (by simp [hy])))
    rw [List.length_erase_of_mem hx] at h2
    have h3 : 0 < M.length := List.length_pos_of_mem hx
    rw [List.length_cons]
    omega
theorem rounds_le (Q : PL) (n : Nat) (h : ∀ i, i < n → (getP Q (qk i)).isSome = true) : n ≤ Q.length := by
  have h1 : ((List.range n).map fun i => (qk i).toList).Nodup := by
    unfold List.Nodup
    rw [List.pairwise_map]
    refine List.Pairwise.imp ?_ (List.nodup_range (n := n))
    intro a b hab e
    exact hab (qk_inj e)
  have h2 := nodup_le _ (Q.map fun q => q.1.toList) h1 (fun x hx => by
    obtain ⟨i, hi, rfl⟩ := List.mem_map.1 hx
    exact get_mem Q _ (h i (by simpa using hi)))
  simpa using h2
def rndF (Q : PL) : Nat → Nat → Nat
  | 0, n => n
  | f + 1, n => if (getP Q (qk n)).isSome = true then rndF Q f (n + 1) else n
def rnds (Q : PL) : Nat := rndF Q (Q.length + 1) 0
set_option maxRecDepth 100000 in
set_option maxHeartbeats 1000000 in
theorem rounds_any (a : Option Addr) (len cap B : Nat) (Q : PL) (hlen : len ≤ 1000) (w : World) (hB : B ≤ w.heap.size) (hs : Tr.PairsAt w a len B Q) :
    Calls Tryz.prog 62 #[.slice a len cap] w fun e w' => e = .returned (.int .i64 ((rnds Q : Nat) : Int)) ∧ Below w.heap.size w w' := by
  have hL := hs.1
  have HG := hide (fun k w1 (hb : Below w.heap.size w w1) => get_any a len cap B Q k (by omega) w1 (hs.below hb hB))
  have HR0 : Hid (rnds Q = rndF Q (Q.length + 1 - 0) 0) := rfl
  generalize rnds Q = R at HR0 ⊢
  have HL := hide hL
  have TW := hide (fun (n : Nat) (h : n ≤ 1000000) w1 => two_any n h w1)
  have QS := hide (fun (n : Nat) (h : n ≤ 1000000) => tw_size n (by omega))
  have HRL := hide (fun n h => rounds_le Q n h)
  clear hs hL
  have hz0 : ¬ 9223372036854775807 < (ByteArray.mk #[113]).size + (tw 0).size := by have := unhide QS 0 (by omega); have : (ByteArray.mk #[113]).size = 1 := rfl; omega
  go_enter Tryz.func62, Tryz.ntmps62
  go_wp2_with fail
  refine (unhide TW 0 (by omega) w).mono ?_
  rintro e w1 ⟨rfl, hb1⟩
  have HK0 : Hid (ByteArray.mk #[113] ++ tw 0 = qk 0) := rfl
  go_wp2_with fail
  rw [unhide HK0]
  refine (unhide HG (qk 0) w1 hb1).mono ?_
  rintro e w2 ⟨rfl, rfl⟩
  go_wp2_with fail
  go_loopw [3, 5] (fun i h wr => ∃ (j : Nat), i = .int .i64 (j : Int) ∧ h = .bool (getP Q (qk j)).isSome ∧ j ≤ len ∧ Hid (R = rndF Q (Q.length + 1 - j) j) ∧ Hid (∀ i, i < j → (getP Q (qk i)).isSome = true) ∧ Below w.heap.size w wr) (fun i _ _ => len + 1 - (intOf i).toNat)
  case atStart => exact ⟨0, rfl, rfl, Nat.zero_le _, unhide HR0, (fun i h => absurd h (Nat.not_lt_zero _)), hb1⟩
  case round =>
    obtain ⟨j, rfl, rfl, hj, HR, HA, hb⟩ := hrel
    have HE : Hid (rndF Q (Q.length + 1 - j) j = if (getP Q (qk j)).isSome = true then rndF Q (Q.length + 1 - (j + 1)) (j + 1) else j) := by
      have hl := unhide HL
      show _ = _
      rw [show Q.length + 1 - j = (Q.length + 1 - (j + 1)) + 1 by omega, rndF]
    cases hs : (getP Q (qk j)).isSome
    · rw [hs, if_neg (by simp)] at HE
      have hR : R = j := (unhide HR).trans (unhide HE)
      subst hR
      go_wp2
      go_ret
      exact ⟨rfl, hb⟩
    · rw [hs, if_pos rfl] at HE
      have HA2 : Hid (∀ i, i < j + 1 → (getP Q (qk i)).isSome = true) := fun i hi => by
        rcases Nat.lt_succ_iff_lt_or_eq.1 hi with h | rfl
        · exact unhide HA i h
        · exact hs
      have hj2 : j + 1 ≤ len := by have := unhide HRL (j + 1) (unhide HA2); have := unhide HL; omega
      have HR2 := hide ((unhide HR).trans (unhide HE))
      have hz : ¬ 9223372036854775807 < (ByteArray.mk #[113]).size + (tw (j + 1)).size := by have := unhide QS (j + 1) (by omega); have : (ByteArray.mk #[113]).size = 1 := rfl; omega
      have HTW : Hid (∀ w1, Calls Tryz.prog 81 #[.int .i64 ((j : Int) + 1)] w1 fun e w' => e = .returned (.string (tw (j + 1))) ∧ Below w1.heap.size w1 w') := fun w1 => by have h := unhide TW (j + 1) (by omega) w1; rw [Int.natCast_add] at h; exact h
      have HK1 : Hid (ByteArray.mk #[113] ++ tw (j + 1) = qk (j + 1)) := rfl
      go_wp2_with fail
      refine (unhide HTW _).mono ?_
      rintro e w3 ⟨rfl, hb3⟩
      have hb3' := hb.trans (hb3.mono hb.size)
      go_wp2_with fail
      rw [unhide HK1]
      refine (unhide HG (qk (j + 1)) w3 hb3').mono ?_
      rintro e w4 ⟨rfl, rfl⟩
      go_wp2_with fail
      exact ⟨⟨j + 1, by go_num, rfl, by omega, unhide HR2, unhide HA2, hb3'⟩, by simp [intOf]; omega⟩
def isR (r : Nat) (k : ByteArray) : Bool := (k.size == 5) && ((k.extract 0 3).toList == (ByteArray.mk #[114] ++ tw r).toList)
def textF (r : Nat) : ByteArray → PL → ByteArray
  | s, [] => s
  | s, q :: L => textF r (if isR r q.1 = true then s ++ q.2 else s) L
def textP (Q : PL) (r : Nat) : ByteArray := textF r ⟨#[]⟩ Q
theorem textF_step (r : Nat) (Q : PL) (s : ByteArray) (j : Nat) (h : j < Q.length) : textF r s (Q.drop j) = textF r (if isR r Q[j].1 = true then s ++ Q[j].2 else s) (Q.drop (j + 1)) := by
  rw [List.drop_eq_getElem_cons h]
  rfl
theorem totP_drop (Q : PL) (j : Nat) (h : j < Q.length) : Tr.totP (Q.drop j) = (Q[j].1.size + Q[j].2.size) + Tr.totP (Q.drop (j + 1)) := by
  unfold Tr.totP
  rw [List.drop_eq_getElem_cons h, List.map_cons, List.sum_cons]
set_option maxRecDepth 100000 in
set_option maxHeartbeats 2000000 in
theorem text_any (a : Option Addr) (len cap B : Nat) (Q : PL) (r : Nat) (hr : r ≤ 1000000) (hlen : len ≤ 1048576) (htot : Tr.totP Q ≤ 1048576) (w : World) (hB : B ≤ w.heap.size) (hs : Tr.PairsAt w a len B Q) :
    Calls Tryz.prog 72 #[.slice a len cap, .int .i64 (r : Int)] w fun e w' => e = .returned (.string (textP Q r)) ∧ Below w.heap.size w w' := by
  obtain ⟨hL, hc⟩ := hs
  have HC := hide hc
  have HST := hide (fun s j h => textF_step r Q s j h)
  have HTD := hide (fun j h => totP_drop Q j h)
  have H0 : Hid (textP Q r = textF r ⟨#[]⟩ (Q.drop 0)) := rfl
  have TW := hide (fun w1 => two_any r hr w1)
  have tz := tw_size r (by omega)
  have hISR : ∀ k, isR r k = ((k.size == 5) && ((k.extract 0 3).toList == (ByteArray.mk #[114] ++ tw r).toList)) := fun _ => rfl
  generalize textP Q r = R at H0 ⊢
  generalize tw r = T at TW tz hISR
  have HISR := hide hISR
  have hz : ¬ 9223372036854775807 < (ByteArray.mk #[114]).size + T.size := by have : (ByteArray.mk #[114]).size = 1 := rfl; omega
  clear hc hISR
  subst hL
  go_enter Tryz.func72, Tryz.ntmps72
  go_wp2_with fail
  go_loopw [5, 6] (fun t i wr => ∃ (j : Nat) (s : ByteArray), i = .int .i64 (j : Int) ∧ t = .string s ∧ j ≤ Q.length ∧ s.size + Tr.totP (Q.drop j) ≤ 1048576 ∧ Hid (R = textF r s (Q.drop j)) ∧ Below w.heap.size w wr) (fun _ i _ => Q.length - (intOf i).toNat)
  case atStart => exact ⟨0, ⟨#[]⟩, rfl, rfl, Nat.zero_le _, (by show 0 + _ ≤ _; rw [Nat.zero_add]; exact htot), unhide H0, Below.refl _ _⟩
  case round =>
    obtain ⟨j, s, rfl, rfl, hj, hsz, HR, hb⟩ := hrel
    have hzr := hb.size
    by_cases hlt : j < Q.length
    · obtain ⟨b, off, rfl, hbB, d0, d1⟩ := unhide HC j hlt
      have HR2 := hide ((unhide HR).trans (unhide HST s j hlt))
      have htd := unhide HTD j hlt
      generalize Q[j] = q at d0 d1 HR2 htd
      obtain ⟨x, y⟩ := q
      simp only at d0 d1 HR2 htd
      rw [unhide HISR x] at HR2
      rw [← hb.cell (p := ⟨b, off + j * 2, none⟩) (by simp; omega)] at d0
      rw [← hb.cell (p := ⟨b, off + j * 2 + 1, none⟩) (by simp; omega)] at d1
      have E0 : ∀ d : Gr.Grown wr.heap.size wr, d.w.cell? ⟨b, off + j * 2, none⟩ = some (.string x) := fun d => d.cell (by omega) d0
      have HTDr := hide htd
      have hjn : (j : Int) < ((Q.length : Nat) : Int) := by omega
      by_cases h5 : x.size = 5
      · have h5b : ((x.size : Int) == 5) = true := by rw [h5]; rfl
        have h5c : (x.size == 5) = true := by rw [h5]; rfl
        have h3 : (3 : Int) ≤ (x.size : Int) := by omega
        rw [h5c, Bool.true_and] at HR2
        clear htd h5 h5c
        cases hq : ((x.extract 0 3).toList == (ByteArray.mk #[114] ++ T).toList)
        · rw [hq, if_neg (by simp)] at HR2
          go_wp2_with fail
          refine Gr.wp_region_grown wr.heap.size (by kernel_rfl) (by kernel_rfl) ?_
          repeat (go_big_quiet_step ((go_at_call 81; exact Gr.Calls.grown (Nat.le_refl _) (unhide TW _))))
          refine wpQuiet_nil ?_
          rintro w5 ⟨d5, rfl⟩
          obtain ⟨W5, hb5⟩ := d5
          dsimp only
          have hb5' := hb.trans (hb5.mono hb.size)
          clear E0 d0 d1
          go_wp2_with fail
          exact ⟨⟨j + 1, s, by go_num, rfl, by omega, by have := unhide HTDr; omega, unhide HR2, hb5'⟩, by simp [intOf]; omega⟩
        · rw [hq, if_pos rfl] at HR2
          have hsy : s.size + y.size ≤ 1048576 := by have := unhide HTDr; omega
          have hz2 : ¬ 9223372036854775807 < s.size + y.size := by omega
          go_wp2_with fail
          refine Gr.wp_region_grown wr.heap.size (by kernel_rfl) (by kernel_rfl) ?_
          repeat (go_big_quiet_step ((go_at_call 81; exact Gr.Calls.grown (Nat.le_refl _) (unhide TW _))))
          refine wpQuiet_nil ?_
          rintro w5 ⟨d5, rfl⟩
          obtain ⟨W5, hb5⟩ := d5
          dsimp only
          have hb5' := hb.trans (hb5.mono hb.size)
          have d1' := (hb5.cell (p := ⟨b, off + j * 2 + 1, none⟩) (by simp; omega)).trans d1
          clear E0 d0 d1
          go_wp2_with fail
          exact ⟨⟨j + 1, s ++ y, by go_num, rfl, by omega, by rw [ByteArray.size_append]; have := unhide HTDr; omega, unhide HR2, hb5'⟩, by simp [intOf]; omega⟩
      · have h5b : ((x.size : Int) == 5) = false := by rw [beq_eq_false_iff_ne]; omega
        have h5c : (x.size == 5) = false := by rw [beq_eq_false_iff_ne]; exact h5
        rw [h5c, Bool.false_and, if_neg (by simp)] at HR2
        clear htd h5 h5c
        go_wp2_with fail
        refine Gr.wp_region_grown wr.heap.size (by kernel_rfl) (by kernel_rfl) ?_
        repeat (go_big_quiet_step (fail))
        refine wpQuiet_nil ?_
        rintro w5 ⟨d5, rfl⟩
        obtain ⟨W5, hb5⟩ := d5
        dsimp only
        have hb5' := hb.trans (hb5.mono hb.size)
        clear E0 d0 d1
        go_wp2_with fail
        exact ⟨⟨j + 1, s, by go_num, rfl, by omega, by have := unhide HTDr; omega, unhide HR2, hb5'⟩, by simp [intOf]; omega⟩
    · have hR : R = s := by rw [unhide HR, List.drop_eq_nil_of_le (by omega)]; rfl
      subst hR
      go_wp2
      go_ret
      exact ⟨rfl, hb⟩
end Rg
end Go.Proofs.YtihnaddfpmjpaaaGreatDoor
