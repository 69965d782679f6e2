/-
  The contracts of laws.markItemSS and laws.heldItemSS.
-/
import Derived.Test.YtdmcnojhjmadjaaTrGrp
namespace Go.Proofs.Ytdmcnojhjmadjaa
namespace Tr
open Go.RowKit
open Go.Proofs.Ytdmcnojhjmadjaa.Pg

/-- How many marks the groups ahead of the j-th take. -/
def offG (G : List (List It)) (j : Nat) : Nat := ((G.take j).map List.length).sum * 3

theorem offG_zero (G : List (List It)) : offG G 0 = 0 := by simp [offG]
theorem offG_succ (G : List (List It)) (j : Nat) (h : j < G.length) : offG G (j + 1) = offG G j + G[j].length * 3 := by
  unfold offG
  rw [List.take_succ_eq_append_getElem h, List.map_append, List.sum_append]
  simp [Nat.add_mul]

theorem offG_all (G : List (List It)) : offG G G.length = G.flatten.length * 3 := by
  unfold offG
  rw [List.take_length, List.length_flatten]

theorem offG_le (G : List (List It)) (j : Nat) : offG G j ≤ G.flatten.length * 3 := by
  have e : G.flatten = (G.take j).flatten ++ (G.drop j).flatten := by rw [← List.flatten_append, List.take_append_drop]
  unfold offG
  rw [e, List.length_append, List.length_flatten]
  omega

/-- The groups with the first j marked. -/
def mixG (k : Nat) (G : List (List It)) (j : Nat) : List (List It) := G.mapIdx fun i g => if i < j then marksI (k + offG G i) g.length else g

theorem mixG_length (k : Nat) (G : List (List It)) (j : Nat) : (mixG k G j).length = G.length := by simp [mixG]
theorem mixG_at (k : Nat) (G : List (List It)) (j i : Nat) (h : i < (mixG k G j).length) (h2 : i < G.length) : (mixG k G j)[i] = if i < j then marksI (k + offG G i) G[i].length else G[i] := by simp [mixG]
theorem mixG_zero (k : Nat) (G : List (List It)) : mixG k G 0 = G := by
  apply List.ext_getElem
  · simp [mixG]
  · intro i h1 h2; rw [mixG_at k G 0 i h1 h2, if_neg (by omega)]
theorem mixG_len_at (k : Nat) (G : List (List It)) (j i : Nat) (h : i < (mixG k G j).length) (h2 : i < G.length) : (mixG k G j)[i].length = G[i].length := by
  rw [mixG_at k G j i h h2]; split
  · exact marksI_length _ _
  · rfl

theorem Grps.marked {w w1 : World} {B C k j : Nat} {v : Value} {vs : List Value} {G : List (List It)} (h : Grps w B C v vs (mixG k G j)) (hd : Dist vs) (hj : j < G.length) (hjv : j < vs.length)
    (ho : w1.ownsRow B 68 3 vs[j] G[j].length (itsV (marksI (k + offG G j) G[j].length))) (hk : Kept (fun g => vs[j].ownBlock = some g) w w1) : Grps w1 B C v vs (mixG k G (j + 1)) := by
  have hl := h.1
  rw [mixG_length] at hl
  have hjo := (h.2.2 j hjv (by rw [mixG_length]; exact hj)).1
  refine ⟨by rw [mixG_length]; exact hl, ?_, fun i h1 h2 => ?_⟩
  · have h0 := h.2.1
    rw [mixG_length] at h0 ⊢
    exact hk.own h0 (fun g hg hg' => own_ne h0 hjo hg hg')
  · have hi : i < G.length := by rw [mixG_length] at h2; exact h2
    obtain ⟨o, c⟩ := h.2.2 i h1 (by rw [mixG_length]; exact hi)
    rw [mixG_at k G j i _ hi] at o
    rw [mixG_at k G (j + 1) i h2 hi]
    refine ⟨?_, c⟩
    by_cases e : i = j
    · subst e
      rw [if_pos (by omega), marksI_length]
      exact ho
    · have o2 := hk.own o (fun g hg hg' => e (hd i j h1 hjv g hg hg'))
      by_cases e2 : i < j
      · rw [if_pos (by omega)]
        rw [if_pos e2] at o2
        exact o2
      · rw [if_neg (by omega)]
        rw [if_neg e2] at o2
        exact o2

set_option maxRecDepth 100000 in
set_option maxHeartbeats 1000000 in
theorem markGrps_any (v : Value) (vs : List Value) (B C k : Nat) (G : List (List It)) (h0 : 0 < k) (hk : k + G.flatten.length * 3 ≤ 100000000) (hlen : G.length ≤ 1048576) (hd : Dist vs) (w : World) (h : Grps w B C v vs G) :
    Calls Try.prog 18 #[v, .int .i64 (k : Int)] w fun e w' => e = .returned (.int .i64 ((k + G.flatten.length * 3 : Nat) : Int)) ∧ Grps w' B C v vs (mixG k G G.length) ∧ Kept (fun g => ∃ j, ∃ h1 : j < vs.length, vs[j].ownBlock = some g) w w' := by
  obtain ⟨A, c, rfl⟩ := row_shape h.2.1
  have hvl := h.1
  have h2 := h
  rw [← mixG_zero k G] at h2
  have H := hide h2
  have HD := hide hd
  obtain ⟨n, hn⟩ : ∃ n, n = G.length := ⟨_, rfl⟩
  have HN := hide hn
  have HV : Hid (vs.length = n) := by show _ = _; omega
  have HALL := hide (offG_all G)
  have HLE := hide (offG_le G)
  obtain ⟨t, ht⟩ : ∃ t, t = G.flatten.length * 3 := ⟨_, rfl⟩
  rw [← ht] at hk HALL HLE ⊢
  rw [← hn] at hlen ⊢
  clear h h2 hd hn hvl ht
  go_enter Try.func18, Try.ntmps18
  go_wp2_with fail
  go_loopw [1, 5] (fun a1 a5 wr => ∃ j y : Nat, a5 = .int .i64 j ∧ j ≤ n ∧ Hid (y = k + offG G j) ∧ y ≤ 100000000 ∧ a1 = .int .i64 (y : Int) ∧ Grps wr B C (.slice A n c) vs (mixG k G j) ∧ Kept (fun g => ∃ j, ∃ h1 : j < vs.length, vs[j].ownBlock = some g) w wr) (fun _ a5 _ => n - (intOf a5).toNat)
  case atStart => exact ⟨0, k, rfl, Nat.zero_le _, by show _ = _; rw [offG_zero]; rfl, by omega, rfl, (by have h := unhide H; rw [mixG_length, ← unhide HN] at h; exact h), Kept.refl _ _⟩
  case round =>
    obtain ⟨j, y, rfl, hj, HY, hyl, rfl, hg, hkp⟩ := hrel
    by_cases hlt : j < n
    · have hjG : j < G.length := by have := unhide HN; omega
      have hjv : j < vs.length := by have := unhide HV; omega
      have hjm : j < (mixG k G j).length := by rw [mixG_length]; exact hjG
      have hown := hg.2.1
      rw [mixG_length, ← unhide HN] at hown
      obtain ⟨g, cap, hA, _, hgl⟩ := hown.form (by omega)
      simp at hA
      obtain ⟨rfl, rfl⟩ := hA
      obtain ⟨oj, _⟩ := hg.2.2 j hjv hjm
      rw [mixG_len_at k G j j hjm hjG] at oj
      have e0 : (mixG k G j)[j] = G[j] := by rw [mixG_at k G j j hjm hjG, if_neg (by omega)]
      rw [e0] at oj
      obtain ⟨a1, c1, e1, _⟩ := ItemsAt.of_own oj
      have hc1 := hown.cellAt j (by omega)
      rw [List.getElem?_eq_getElem hjv, e1] at hc1
      have hs := offG_succ G j hjG
      have hle := unhide HLE (j + 1)
      have hy2 : y + G[j].length * 3 ≤ 100000000 := by have := unhide HY; omega
      have MK := markItems_any vs[j] B G[j].length y G[j] (by have := unhide HY; omega) (by omega) wr oj
      rw [e1] at MK
      have HMK := hide MK
      have HG := hide hg
      have HE1 := hide e1
      have HS : Hid (y + G[j].length * 3 = k + offG G (j + 1)) := by show _ = _; rw [hs, unhide HY]; omega
      have HKP := hide hkp
      have HMG : Hid (∀ w1, w1.ownsRow B 68 3 vs[j] G[j].length (itsV (marksI y G[j].length)) → Kept (fun g => vs[j].ownBlock = some g) wr w1 → Grps w1 B C (.slice (some ⟨g, 0, none⟩) n c) vs (mixG k G (j + 1))) := fun w1 ho hk1 => (unhide HG).marked (unhide HD) hjG hjv (by rw [← unhide HY]; exact ho) hk1
      have hx0 : (0 : Int) ≤ (j : Int) := by omega
      have hx1 : (j : Int) < (n : Int) := by omega
      generalize G[j].length = m at hc1 HMK HS hy2 HMG HE1
      clear MK hg hown oj e0 e1 hs hle hkp
      go_wp2_with fail
      refine (unhide HMK).mono ?_
      rintro e w1 ⟨rfl, ho1, hk1⟩
      have hk1' := hk1
      rw [← unhide HE1] at ho1 hk1'
      have HG1 := hide (unhide HMG w1 ho1 hk1')
      have HKP1 := hide ((unhide HKP).trans (hk1'.weak (fun i hi => ⟨j, hjv, hi⟩)))
      clear ho1 hk1 hk1'
      go_wp2
      go_roundw
      case rel => exact ⟨j + 1, y + m * 3, by go_num, by omega, unhide HS, by omega, rfl, unhide HG1, unhide HKP1⟩
      case measure => simp [intOf]; omega
    · obtain rfl : j = n := by omega
      have HG := hide hg
      clear hg
      go_wp2
      go_ret
      refine ⟨?_, unhide HG, hkp⟩
      have e : (y : Int) = ((k + t : Nat) : Int) := by
        have h1 := unhide HY
        have h2 := unhide HALL
        rw [← unhide HN] at h2
        rw [h1, h2]
      rw [← e]
      rfl

set_option maxRecDepth 100000 in
set_option maxHeartbeats 1000000 in
theorem heldGrps_any (v : Value) (vs : List Value) (B C k : Nat) (G : List (List It)) (h0 : 0 < k) (hk : k + G.flatten.length * 3 ≤ 100000000) (hlen : G.length ≤ 1048576) (w : World) (h : Grps w B C v vs (mixG k G G.length)) :
    Calls Try.prog 19 #[v, .int .i64 (k : Int)] w fun e w' => e = .returned (.int .i64 ((k + G.flatten.length * 3 : Nat) : Int)) ∧ Below w.heap.size w w' := by
  have hown := h.2.1
  rw [mixG_length] at hown
  obtain ⟨A, c, rfl⟩ := row_shape hown
  have hvl := h.1
  rw [mixG_length] at hvl
  have H := hide h
  obtain ⟨n, hn⟩ : ∃ n, n = G.length := ⟨_, rfl⟩
  have HN := hide hn
  have HV : Hid (vs.length = n) := by show _ = _; omega
  have HALL := hide (offG_all G)
  have HLE := hide (offG_le G)
  obtain ⟨t, ht⟩ : ∃ t, t = G.flatten.length * 3 := ⟨_, rfl⟩
  rw [← ht] at hk HALL HLE ⊢
  rw [← hn] at hlen ⊢
  clear h hown hn hvl ht
  go_enter Try.func19, Try.ntmps19
  go_wp2_with fail
  go_loopw [1, 5] (fun a1 a5 wr => ∃ j y : Nat, a5 = .int .i64 j ∧ j ≤ n ∧ Hid (y = k + offG G j) ∧ y ≤ 100000000 ∧ a1 = .int .i64 (y : Int) ∧ Below w.heap.size w wr) (fun _ a5 _ => n - (intOf a5).toNat)
  case atStart => exact ⟨0, k, rfl, Nat.zero_le _, by show _ = _; rw [offG_zero]; rfl, by omega, rfl, Below.refl _ _⟩
  case round =>
    obtain ⟨j, y, rfl, hj, HY, hyl, rfl, hb⟩ := hrel
    by_cases hlt : j < n
    · have hjG : j < G.length := by have := unhide HN; omega
      have hjv : j < vs.length := by have := unhide HV; omega
      have hjm : j < (mixG k G G.length).length := by rw [mixG_length]; exact hjG
      have hg := (unhide H).below hb
      have hown := hg.2.1
      rw [mixG_length] at hown
      obtain ⟨g, cap, hA, _, hgl⟩ := hown.form (by omega)
      simp at hA
      obtain ⟨rfl, _, rfl⟩ := hA
      obtain ⟨oj, _⟩ := hg.2.2 j hjv hjm
      rw [mixG_len_at k G _ j hjm hjG] at oj
      have e0 : (mixG k G G.length)[j] = marksI y G[j].length := by rw [mixG_at k G _ j hjm hjG, if_pos hjG, ← unhide HY]
      rw [e0] at oj
      obtain ⟨a1, c1, e1, hi1⟩ := ItemsAt.of_own oj
      rw [← unhide HN] at hown
      have hc1 := hown.cellAt j (by omega)
      rw [List.getElem?_eq_getElem hjv, e1] at hc1
      have hs := offG_succ G j hjG
      have hle := unhide HLE (j + 1)
      have hy2 : y + G[j].length * 3 ≤ 100000000 := by have := unhide HY; omega
      have HH := hide (heldItems_any a1 G[j].length c1 wr.heap.size y (by have := unhide HY; omega) (by omega) wr (Nat.le_refl _) hi1)
      have HS : Hid (y + G[j].length * 3 = k + offG G (j + 1)) := by show _ = _; rw [hs, unhide HY]; omega
      have hx0 : (0 : Int) ≤ (j : Int) := by omega
      have hx1 : (j : Int) < (n : Int) := by omega
      generalize G[j].length = m at hc1 HH HS hy2
      have hng : ¬ ((y + m * 3 : Nat) : Int) < 0 := by omega
      clear hg hown oj e0 e1 hs hle hi1
      go_wp2_with fail
      refine (unhide HH).mono ?_
      rintro e w1 ⟨rfl, hb1⟩
      have hbe := hb.trans (hb1.mono hb.size)
      clear hb1 hb
      go_wp2
      go_roundw
      case rel => exact ⟨j + 1, y + m * 3, by go_num, by omega, unhide HS, by omega, rfl, hbe⟩
      case measure => simp [intOf]; omega
    · obtain rfl : j = n := by omega
      go_wp2
      go_ret
      refine ⟨?_, hb⟩
      have e : (y : Int) = ((k + t : Nat) : Int) := by
        have h1 := unhide HY
        have h2 := unhide HALL
        rw [← unhide HN] at h2
        rw [h1, h2]
      rw [← e]
      rfl
end Tr
end Go.Proofs.Ytdmcnojhjmadjaa
