/-
  Rows of rows of numbers that a call has made; the contracts of what the laws do with them: equality, marks.
-/
import Derived.Test.YtejfknkcakeakaaGrKInts
namespace Go.Proofs.Ytejfknkcakeakaa
namespace Lk
open Go.RowKit
open Gr (Kept own_below own_lower InOwn InAt intsV intsAt_of_own marksN marksN_length)

theorem infoRow : (Try.prog.info? 26).map (fun i => (i.zero, i.size, i.bytes)) = some (some (.slice none 0 0), 1, 24) := by kernel_rfl

/-- A row of rows of items, all of it made by a call: no block below B; the rows lie below C. -/
def Grps (w : World) (B C : Nat) (v : Value) (vs : List Value) (G : List (List Int)) : Prop :=
  vs.length = G.length ∧ w.ownsRow B 26 1 v G.length vs ∧ ∀ j (h1 : j < vs.length) (h2 : j < G.length), w.ownsRow B 3 1 vs[j] G[j].length (intsV G[j]) ∧ ∀ g, vs[j].ownBlock = some g → g < C

/-- No two of the rows lie in one block. -/
def Dist (vs : List Value) : Prop := ∀ i j (hi : i < vs.length) (hj : j < vs.length) g, vs[i].ownBlock = some g → vs[j].ownBlock = some g → i = j

theorem own_ne {w : World} {B B' n m g : Nat} {v u : Value} {xs ys : List Value} (h : w.ownsRow B 26 1 v n xs) (h' : w.ownsRow B' 3 1 u m ys) (hg : v.ownBlock = some g) (hg' : u.ownBlock = some g) : False := by
  rcases h.2 with ⟨rfl, _⟩ | ⟨g1, cap, cur, rfl, _, hh, _⟩
  · cases hg
  · rcases h'.2 with ⟨rfl, _⟩ | ⟨g2, cap2, cur2, rfl, _, hh2, _⟩
    · cases hg'
    · have e1 : g1 = g := Option.some.inj hg
      have e2 : g2 = g := Option.some.inj hg'
      subst e1 e2
      rw [hh] at hh2
      simp at hh2

theorem row_shape {w : World} {B e n : Nat} {v : Value} {xs : List Value} (h : w.ownsRow B e 1 v n xs) : ∃ A c, v = .slice A n c := by
  rcases h.2 with ⟨rfl, h0⟩ | ⟨g, cap, cur, rfl, _⟩
  · exact ⟨none, 0, by rw [h0]⟩
  · exact ⟨_, _, rfl⟩

theorem Grps.below {w w' : World} {B C : Nat} {v : Value} {vs : List Value} {G : List (List Int)} (h : Grps w B C v vs G) (hb : Below w.heap.size w w') : Grps w' B C v vs G :=
  ⟨h.1, own_below h.2.1 hb, fun j h1 h2 => ⟨own_below (h.2.2 j h1 h2).1 hb, (h.2.2 j h1 h2).2⟩⟩

theorem Grps.mono {w : World} {B C C' : Nat} {v : Value} {vs : List Value} {G : List (List Int)} (h : Grps w B C v vs G) (hC : C ≤ C') : Grps w B C' v vs G :=
  ⟨h.1, h.2.1, fun j h1 h2 => ⟨(h.2.2 j h1 h2).1, fun g hg => Nat.lt_of_lt_of_le ((h.2.2 j h1 h2).2 g hg) hC⟩⟩

theorem Grps.lower {w : World} {B B' C : Nat} {v : Value} {vs : List Value} {G : List (List Int)} (h : Grps w B C v vs G) (hB : B' ≤ B) : Grps w B' C v vs G :=
  ⟨h.1, own_lower hB h.2.1, fun j h1 h2 => ⟨own_lower hB (h.2.2 j h1 h2).1, (h.2.2 j h1 h2).2⟩⟩

theorem Grps.kept {S : Nat → Prop} {w w' : World} {B C : Nat} {v : Value} {vs : List Value} {G : List (List Int)} (h : Grps w B C v vs G) (hk : Kept S w w') (hS : ∀ g, v.ownBlock = some g → ¬ S g)
    (hT : ∀ j (h1 : j < vs.length) g, vs[j].ownBlock = some g → ¬ S g) : Grps w' B C v vs G :=
  ⟨h.1, hk.own h.2.1 hS, fun j h1 h2 => ⟨hk.own (h.2.2 j h1 h2).1 (hT j h1), (h.2.2 j h1 h2).2⟩⟩

/-- Every block of it lies at B or behind, and was there. -/
theorem Grps.blk {w : World} {B C : Nat} {v : Value} {vs : List Value} {G : List (List Int)} (h : Grps w B C v vs G) : (∀ g, v.ownBlock = some g → B ≤ g ∧ g < w.heap.size) ∧ ∀ j (h1 : j < vs.length) g, vs[j].ownBlock = some g → B ≤ g ∧ g < w.heap.size :=
  ⟨h.2.1.lt, fun j h1 => (h.2.2 j h1 (by rw [← h.1]; exact h1)).1.lt⟩

/-- What is turned outside of it leaves it as it is. -/
theorem Grps.keptB {S : Nat → Prop} {w w' : World} {B C : Nat} {v : Value} {vs : List Value} {G : List (List Int)} (h : Grps w B C v vs G) (hk : Kept S w w') (hS : ∀ g, B ≤ g → g < w.heap.size → ¬ S g) : Grps w' B C v vs G :=
  h.kept hk (fun g hg => hS g (h.blk.1 g hg).1 (h.blk.1 g hg).2) (fun j h1 g hg => hS g (h.blk.2 j h1 g hg).1 (h.blk.2 j h1 g hg).2)

theorem Grps.snoc {w w1 : World} {B C C' : Nat} {v v' u : Value} {vs : List Value} {G : List (List Int)} {q : List Int} (h : Grps w B C v vs G) (hu : w.ownsRow B 3 1 u q.length (intsV q)) (huC : ∀ g, u.ownBlock = some g → g < C') (hC : C ≤ C')
    (hown : w1.ownsRow B 26 1 v' (G.length + 1) (vs ++ [u])) (hk : Kept (fun g => v.ownBlock = some g) w w1) : Grps w1 B C' v' (vs ++ [u]) (G ++ [q]) := by
  refine ⟨by simp [h.1], by simpa using hown, fun j h1 h2 => ?_⟩
  have hl := h.1
  by_cases hj : j < vs.length
  · have hj2 : j < G.length := by omega
    have e1 : (vs ++ [u])[j] = vs[j] := List.getElem_append_left hj
    have e2 : (G ++ [q])[j] = G[j] := List.getElem_append_left hj2
    rw [e1, e2]
    obtain ⟨ho, hc⟩ := h.2.2 j hj hj2
    exact ⟨hk.own ho (fun g hg hg' => own_ne h.2.1 ho hg' hg), fun g hg => Nat.lt_of_lt_of_le (hc g hg) hC⟩
  · have hj3 : j = vs.length := by simp at h1; omega
    subst hj3
    have e1 : (vs ++ [u])[vs.length] = u := by simp
    have e2 : (G ++ [q])[vs.length] = q := by rw [List.getElem_append_right (by omega)]; simp [hl]
    rw [e1, e2]
    exact ⟨hk.own hu (fun g hg hg' => own_ne h.2.1 hu hg' hg), huC⟩

theorem Dist.nil : Dist [] := fun i _ hi => by simp at hi

theorem Dist.snoc {vs : List Value} {u : Value} {C : Nat} (h : Dist vs) (hC : ∀ j (h1 : j < vs.length) g, vs[j].ownBlock = some g → g < C) (hu : ∀ g, u.ownBlock = some g → C ≤ g) : Dist (vs ++ [u]) := by
  intro i j hi hj g hgi hgj
  by_cases hi' : i < vs.length
  · rw [List.getElem_append_left hi'] at hgi
    by_cases hj' : j < vs.length
    · rw [List.getElem_append_left hj'] at hgj
      exact h i j hi' hj' g hgi hgj
    · have e : j = vs.length := by simp at hj; omega
      subst e
      have e1 : (vs ++ [u])[vs.length] = u := by simp
      rw [e1] at hgj
      have := hC i hi' g hgi
      have := hu g hgj
      omega
  · have e : i = vs.length := by simp at hi; omega
    subst e
    have e1 : (vs ++ [u])[vs.length] = u := by simp
    rw [e1] at hgi
    by_cases hj' : j < vs.length
    · rw [List.getElem_append_left hj'] at hgj
      have := hC j hj' g hgj
      have := hu g hgi
      omega
    · simp at hj; omega

set_option maxRecDepth 100000 in
set_option maxHeartbeats 1000000 in
theorem eqGrps_same (v v' : Value) (vs vs' : List Value) (B B' C C' : Nat) (G : List (List Int)) (hlen : G.length ≤ 1048576) (hsm : ∀ g ∈ G, g.length ≤ 1048576) (w : World) (h : Grps w B C v vs G) (h' : Grps w B' C' v' vs' G) :
    Calls Try.prog 22 #[v, v'] w fun e w' => e = .returned (.bool true) ∧ Below w.heap.size w w' := by
  obtain ⟨A, c, rfl⟩ := row_shape h.2.1
  obtain ⟨A', c', rfl⟩ := row_shape h'.2.1
  obtain ⟨n, hn⟩ : ∃ n, n = G.length := ⟨_, rfl⟩
  have H := hide h
  have H' := hide h'
  have HN := hide hn
  have HSM := hide hsm
  rw [← hn] at hlen ⊢
  clear h h' hn hsm
  go_enter Try.func22, Try.ntmps22
  go_wp2_with fail
  go_loopw [5] (fun i wr => ∃ k : Nat, i = .int .i64 k ∧ k ≤ n ∧ Below w.heap.size w wr) (fun i _ => n - (intOf i).toNat)
  case atStart => exact ⟨0, rfl, Nat.zero_le _, Below.refl _ _⟩
  case round =>
    obtain ⟨k, rfl, hk, hb⟩ := hrel
    by_cases hlt : k < n
    · have hkG : k < G.length := by have := unhide HN; omega
      have hkv : k < vs.length := by have := (unhide H).1; omega
      have hkv' : k < vs'.length := by have := (unhide H').1; omega
      have hg := (unhide H).below hb
      have hg' := (unhide H').below hb
      obtain ⟨g, cap, hA, _, hgl⟩ := hg.2.1.form (by omega)
      obtain ⟨g', cap', hA', _, hgl'⟩ := hg'.2.1.form (by omega)
      simp at hA hA'
      obtain ⟨rfl, rfl⟩ := hA
      obtain ⟨rfl, rfl⟩ := hA'
      obtain ⟨a1, c1, e1, hi1⟩ := intsAt_of_own (hg.2.2 k hkv hkG).1
      obtain ⟨a2, c2, e2, hi2⟩ := intsAt_of_own (hg'.2.2 k hkv' hkG).1
      have hc1 := hg.2.1.cellAt k (by rw [← hg.1]; omega)
      have hc2 := hg'.2.1.cellAt k (by rw [← hg'.1]; omega)
      rw [List.getElem?_eq_getElem hkv, e1] at hc1
      rw [List.getElem?_eq_getElem hkv', e2] at hc2
      have HQ := hide (fun w2 (hb2 : Below wr.heap.size wr w2) => Gr.eqInts_same a1 a2 G[k].length c1 c2 wr.heap.size wr.heap.size G[k] (unhide HSM _ (List.getElem_mem hkG)) w2 hb2.size hb2.size (hi1.below hb2 (Nat.le_refl _)) (hi2.below hb2 (Nat.le_refl _)))
      have hx0 : (0 : Int) ≤ (k : Int) := by omega
      have hx1 : (k : Int) < (n : Int) := by omega
      generalize G[k].length = m at hc1 hc2 HQ
      clear hi1 hi2 hg hg' e1 e2
      go_wp2_with fail
      go_region_held3 (fun u => u.cell? ⟨g, k, none⟩ = some (.slice a1 m c1) ∧ u.cell? ⟨g', k, none⟩ = some (.slice a2 m c2))
        (first | go_keep | exact ⟨(hb2.cell (p := ⟨g, k, none⟩) hgl).trans hc1, (hb2.cell (p := ⟨g', k, none⟩) hgl').trans hc2⟩)
        ((go_at_call 14; refine (unhide HQ _ (Below.refl _ _).drew).mono ?_; rintro e w2 ⟨rfl, hb2⟩))
      have hbe := hb.drew.trans (hb2.mono hb.size)
      clear hb2
      go_wp2
      go_roundw
      case rel => exact ⟨k + 1, by go_num, by omega, hbe⟩
      case measure => simp [intOf]; omega
    · go_wp2
      go_ret
      exact ⟨rfl, hb⟩

/-- How many marks the groups ahead of the j-th take. -/
def offG (G : List (List Int)) (j : Nat) : Nat := ((G.take j).map List.length).sum

theorem offG_zero (G : List (List Int)) : offG G 0 = 0 := by simp [offG]
theorem offG_succ (G : List (List Int)) (j : Nat) (h : j < G.length) : offG G (j + 1) = offG G j + G[j].length := by
  unfold offG
  rw [List.take_succ_eq_append_getElem h, List.map_append, List.sum_append]
  simp

theorem offG_all (G : List (List Int)) : offG G G.length = G.flatten.length := by
  unfold offG
  rw [List.take_length, List.length_flatten]

theorem offG_le (G : List (List Int)) (j : Nat) : offG G j ≤ G.flatten.length := by
  have e : G.flatten = (G.take j).flatten ++ (G.drop j).flatten := by rw [← List.flatten_append, List.take_append_drop]
  unfold offG
  rw [e, List.length_append, List.length_flatten]
  omega

/-- The groups with the first j marked. -/
def mixG (k : Nat) (G : List (List Int)) (j : Nat) : List (List Int) := G.mapIdx fun i g => if i < j then marksN (k + offG G i) g.length else g

theorem mixG_length (k : Nat) (G : List (List Int)) (j : Nat) : (mixG k G j).length = G.length := by simp [mixG]
theorem mixG_at (k : Nat) (G : List (List Int)) (j i : Nat) (h : i < (mixG k G j).length) (h2 : i < G.length) : (mixG k G j)[i] = if i < j then marksN (k + offG G i) G[i].length else G[i] := by simp [mixG]
theorem mixG_zero (k : Nat) (G : List (List Int)) : mixG k G 0 = G := by
  apply List.ext_getElem
  · simp [mixG]
  · intro i h1 h2; rw [mixG_at k G 0 i h1 h2, if_neg (by omega)]
theorem mixG_len_at (k : Nat) (G : List (List Int)) (j i : Nat) (h : i < (mixG k G j).length) (h2 : i < G.length) : (mixG k G j)[i].length = G[i].length := by
  rw [mixG_at k G j i h h2]; split
  · exact marksN_length _ _
  · rfl

theorem Grps.marked {w w1 : World} {B C k j : Nat} {v : Value} {vs : List Value} {G : List (List Int)} (h : Grps w B C v vs (mixG k G j)) (hd : Dist vs) (hj : j < G.length) (hjv : j < vs.length)
    (ho : w1.ownsRow B 3 1 vs[j] G[j].length (intsV (marksN (k + offG G j) G[j].length))) (hk : Kept (fun g => vs[j].ownBlock = some g) w w1) : Grps w1 B C v vs (mixG k G (j + 1)) := by
  have hl := h.1
  rw [mixG_length] at hl
  have hjo := (h.2.2 j hjv (by rw [mixG_length]; exact hj)).1
  refine ⟨by rw [mixG_length]; exact hl, ?_, fun i h1 h2 => ?_⟩
  · have h0 := h.2.1
    rw [mixG_length] at h0 ⊢
    exact hk.own h0 (fun g hg hg' => own_ne h0 hjo hg hg')
  · have hi : i < G.length := by rw [mixG_length] at h2; exact h2
    obtain ⟨o, c⟩ := h.2.2 i h1 (by rw [mixG_length]; exact hi)
    rw [mixG_at k G j i _ hi] at o
    rw [mixG_at k G (j + 1) i h2 hi]
    refine ⟨?_, c⟩
    by_cases e : i = j
    · subst e
      rw [if_pos (by omega), marksN_length]
      exact ho
    · have o2 := hk.own o (fun g hg hg' => e (hd i j h1 hjv g hg hg'))
      by_cases e2 : i < j
      · rw [if_pos (by omega)]
        rw [if_pos e2] at o2
        exact o2
      · rw [if_neg (by omega)]
        rw [if_neg e2] at o2
        exact o2

set_option maxRecDepth 100000 in
set_option maxHeartbeats 1000000 in
theorem markGrps_any (v : Value) (vs : List Value) (B C k : Nat) (G : List (List Int)) (hk : k + G.flatten.length ≤ 100000000) (hlen : G.length ≤ 1048576) (hd : Dist vs) (w : World) (h : Grps w B C v vs G) :
    Calls Try.prog 23 #[v, .int .i64 (k : Int)] w fun e w' => e = .returned (.int .i64 ((k + G.flatten.length : Nat) : Int)) ∧ Grps w' B C v vs (mixG k G G.length) ∧ Kept (fun g => ∃ j, ∃ h1 : j < vs.length, vs[j].ownBlock = some g) w w' := by
  obtain ⟨A, c, rfl⟩ := row_shape h.2.1
  have hvl := h.1
  have h2 := h
  rw [← mixG_zero k G] at h2
  have H := hide h2
  have HD := hide hd
  obtain ⟨n, hn⟩ : ∃ n, n = G.length := ⟨_, rfl⟩
  have HN := hide hn
  have HV : Hid (vs.length = n) := by show _ = _; omega
  have HALL := hide (offG_all G)
  have HLE := hide (offG_le G)
  obtain ⟨t, ht⟩ : ∃ t, t = G.flatten.length := ⟨_, rfl⟩
  rw [← ht] at hk HALL HLE ⊢
  rw [← hn] at hlen ⊢
  clear h h2 hd hn hvl ht
  go_enter Try.func23, Try.ntmps23
  go_wp2_with fail
  go_loopw [1, 5] (fun a1 a5 wr => ∃ j y : Nat, a5 = .int .i64 j ∧ j ≤ n ∧ Hid (y = k + offG G j) ∧ y ≤ 100000000 ∧ a1 = .int .i64 (y : Int) ∧ Grps wr B C (.slice A n c) vs (mixG k G j) ∧ Kept (fun g => ∃ j, ∃ h1 : j < vs.length, vs[j].ownBlock = some g) w wr) (fun _ a5 _ => n - (intOf a5).toNat)
  case atStart => exact ⟨0, k, rfl, Nat.zero_le _, by show _ = _; rw [offG_zero]; rfl, by omega, rfl, (by have h := unhide H; rw [mixG_length, ← unhide HN] at h; exact h), Kept.refl _ _⟩
  case round =>
    obtain ⟨j, y, rfl, hj, HY, hyl, rfl, hg, hkp⟩ := hrel
    by_cases hlt : j < n
    · have hjG : j < G.length := by have := unhide HN; omega
      have hjv : j < vs.length := by have := unhide HV; omega
      have hjm : j < (mixG k G j).length := by rw [mixG_length]; exact hjG
      have hown := hg.2.1
      rw [mixG_length, ← unhide HN] at hown
      obtain ⟨g, cap, hA, _, hgl⟩ := hown.form (by omega)
      simp at hA
      obtain ⟨rfl, rfl⟩ := hA
      obtain ⟨oj, _⟩ := hg.2.2 j hjv hjm
      rw [mixG_len_at k G j j hjm hjG] at oj
      have e0 : (mixG k G j)[j] = G[j] := by rw [mixG_at k G j j hjm hjG, if_neg (by omega)]
      rw [e0] at oj
      obtain ⟨a1, c1, e1, _⟩ := intsAt_of_own oj
      have hc1 := hown.cellAt j (by omega)
      rw [List.getElem?_eq_getElem hjv, e1] at hc1
      have hs := offG_succ G j hjG
      have hle := unhide HLE (j + 1)
      have hy2 : y + G[j].length ≤ 100000000 := by have := unhide HY; omega
      have MK := Gr.markInts_to vs[j] B G[j].length y G[j] (by omega) wr oj
      rw [e1] at MK
      have HMK := hide MK
      have HG := hide hg
      have HE1 := hide e1
      have HS : Hid (y + G[j].length = k + offG G (j + 1)) := by show _ = _; rw [hs, unhide HY]; omega
      have HKP := hide hkp
      have HMG : Hid (∀ w1, w1.ownsRow B 3 1 vs[j] G[j].length (intsV (marksN y G[j].length)) → Kept (fun g => vs[j].ownBlock = some g) wr w1 → Grps w1 B C (.slice (some ⟨g, 0, none⟩) n c) vs (mixG k G (j + 1))) := fun w1 ho hk1 => (unhide HG).marked (unhide HD) hjG hjv (by rw [← unhide HY]; exact ho) hk1
      have hx0 : (0 : Int) ≤ (j : Int) := by omega
      have hx1 : (j : Int) < (n : Int) := by omega
      generalize G[j].length = m at hc1 HMK HS hy2 HMG HE1
      clear MK hg hown oj e0 e1 hs hle hkp
      go_wp2_with fail
      refine (unhide HMK).mono ?_
      rintro e w1 ⟨rfl, ho1, hk1⟩
      have hk1' := hk1
      rw [← unhide HE1] at ho1 hk1'
      have HG1 := hide (unhide HMG w1 ho1 hk1')
      have HKP1 := hide ((unhide HKP).trans (hk1'.weak (fun i hi => ⟨j, hjv, hi⟩)))
      clear ho1 hk1 hk1'
      go_wp2
      go_roundw
      case rel => exact ⟨j + 1, y + m, by go_num, by omega, unhide HS, by omega, rfl, unhide HG1, unhide HKP1⟩
      case measure => simp [intOf]; omega
    · obtain rfl : j = n := by omega
      have HG := hide hg
      clear hg
      go_wp2
      go_ret
      refine ⟨?_, unhide HG, hkp⟩
      have e : (y : Int) = ((k + t : Nat) : Int) := by
        have h1 := unhide HY
        have h2 := unhide HALL
        rw [← unhide HN] at h2
        rw [h1, h2]
      rw [← e]
      rfl

set_option maxRecDepth 100000 in
set_option maxHeartbeats 1000000 in
theorem heldGrps_any (v : Value) (vs : List Value) (B C k : Nat) (G : List (List Int)) (hk : k + G.flatten.length ≤ 100000000) (hlen : G.length ≤ 1048576) (w : World) (h : Grps w B C v vs (mixG k G G.length)) :
    Calls Try.prog 24 #[v, .int .i64 (k : Int)] w fun e w' => e = .returned (.int .i64 ((k + G.flatten.length : Nat) : Int)) ∧ Below w.heap.size w w' := by
  have hown := h.2.1
  rw [mixG_length] at hown
  obtain ⟨A, c, rfl⟩ := row_shape hown
  have hvl := h.1
  rw [mixG_length] at hvl
  have H := hide h
  obtain ⟨n, hn⟩ : ∃ n, n = G.length := ⟨_, rfl⟩
  have HN := hide hn
  have HV : Hid (vs.length = n) := by show _ = _; omega
  have HALL := hide (offG_all G)
  have HLE := hide (offG_le G)
  obtain ⟨t, ht⟩ : ∃ t, t = G.flatten.length := ⟨_, rfl⟩
  rw [← ht] at hk HALL HLE ⊢
  rw [← hn] at hlen ⊢
  clear h hown hn hvl ht
  go_enter Try.func24, Try.ntmps24
  go_wp2_with fail
  go_loopw [1, 5] (fun a1 a5 wr => ∃ j y : Nat, a5 = .int .i64 j ∧ j ≤ n ∧ Hid (y = k + offG G j) ∧ y ≤ 100000000 ∧ a1 = .int .i64 (y : Int) ∧ Below w.heap.size w wr) (fun _ a5 _ => n - (intOf a5).toNat)
  case atStart => exact ⟨0, k, rfl, Nat.zero_le _, by show _ = _; rw [offG_zero]; rfl, by omega, rfl, Below.refl _ _⟩
  case round =>
    obtain ⟨j, y, rfl, hj, HY, hyl, rfl, hb⟩ := hrel
    by_cases hlt : j < n
    · have hjG : j < G.length := by have := unhide HN; omega
      have hjv : j < vs.length := by have := unhide HV; omega
      have hjm : j < (mixG k G G.length).length := by rw [mixG_length]; exact hjG
      have hg := (unhide H).below hb
      have hown := hg.2.1
      rw [mixG_length] at hown
      obtain ⟨g, cap, hA, _, hgl⟩ := hown.form (by omega)
      simp at hA
      obtain ⟨rfl, _, rfl⟩ := hA
      obtain ⟨oj, _⟩ := hg.2.2 j hjv hjm
      rw [mixG_len_at k G _ j hjm hjG] at oj
      have e0 : (mixG k G G.length)[j] = marksN y G[j].length := by rw [mixG_at k G _ j hjm hjG, if_pos hjG, ← unhide HY]
      rw [e0] at oj
      obtain ⟨a1, c1, e1, hi1⟩ := intsAt_of_own oj
      rw [← unhide HN] at hown
      have hc1 := hown.cellAt j (by omega)
      rw [List.getElem?_eq_getElem hjv, e1] at hc1
      have hs := offG_succ G j hjG
      have hle := unhide HLE (j + 1)
      have hy2 : y + G[j].length ≤ 100000000 := by have := unhide HY; omega
      have HH := hide (Gr.heldInts_any a1 G[j].length c1 wr.heap.size y (by omega) wr hi1)
      have HS : Hid (y + G[j].length = k + offG G (j + 1)) := by show _ = _; rw [hs, unhide HY]; omega
      have hx0 : (0 : Int) ≤ (j : Int) := by omega
      have hx1 : (j : Int) < (n : Int) := by omega
      generalize G[j].length = m at hc1 HH HS hy2
      have hng : ¬ ((y + m : Nat) : Int) < 0 := by omega
      clear hg hown oj e0 e1 hs hle hi1
      go_wp2_with fail
      refine (unhide HH).mono ?_
      rintro e w1 ⟨rfl, hw1⟩
      have hb1 : Below wr.heap.size wr w1 := by rw [hw1]; exact Below.refl _ _
      clear hw1
      have hbe := hb.trans (hb1.mono hb.size)
      clear hb1 hb
      go_wp2
      go_roundw
      case rel => exact ⟨j + 1, y + m, by go_num, by omega, unhide HS, by omega, rfl, hbe⟩
      case measure => simp [intOf]; omega
    · obtain rfl : j = n := by omega
      go_wp2
      go_ret
      refine ⟨?_, hb⟩
      have e : (y : Int) = ((k + t : Nat) : Int) := by
        have h1 := unhide HY
        have h2 := unhide HALL
        rw [← unhide HN] at h2
        rw [h1, h2]
      rw [← e]
      rfl
end Lk
end Go.Proofs.Ytejfknkcakeakaa
