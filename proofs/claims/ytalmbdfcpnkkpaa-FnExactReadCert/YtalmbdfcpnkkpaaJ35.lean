/-
  Texts of this claim, one behind the other: GrGroupM, GrGroupN.
-/
import Derived.Test.YtalmbdfcpnkkpaaJ14
import Derived.Test.YtalmbdfcpnkkpaaJ32

/-
  Groups that a call has made, each with a row of its own: what is marked is held.
-/
namespace Go.Proofs.Ytalmbdfcpnkkpaa
namespace Gr
open Go.ChangeShapes Go.WideShapes Go.ChangeAt Go.RowKit

/-- The cells of groups: the row of the members, and the number. -/
def gC : List Value → List Int → List Value
  | m :: ms, z :: zs => m :: .int .i64 z :: gC ms zs
  | _, _ => []

theorem gC_length : ∀ (ms : List Value) (zs : List Int), ms.length = zs.length → (gC ms zs).length = zs.length * 2
  | [], [], _ => rfl
  | m :: ms, z :: zs, h => by
    have := gC_length ms zs (by simpa using h)
    simp only [gC, List.length_cons, this]
    omega
  | [], z :: zs, h => by simp at h
  | m :: ms, [], h => by simp at h

theorem gC_at : ∀ (ms : List Value) (zs : List Int) (j : Nat) (h1 : j < ms.length) (h2 : j < zs.length), (gC ms zs)[j * 2]? = some ms[j] ∧ (gC ms zs)[j * 2 + 1]? = some (.int .i64 zs[j])
  | [], _, _, h1, _ => by simp at h1
  | m :: ms, [], _, _, h2 => by simp at h2
  | m :: ms, z :: zs, 0, _, _ => ⟨rfl, rfl⟩
  | m :: ms, z :: zs, j + 1, h1, h2 => by
    have := gC_at ms zs j (by simpa using h1) (by simpa using h2)
    simp only [gC, List.getElem_cons_succ]
    rw [show (j + 1) * 2 = j * 2 + 1 + 1 by omega]
    simpa using this

theorem gC_set : ∀ (ms : List Value) (zs : List Int) (j : Nat) (z : Int), ms.length = zs.length → (gC ms zs).set (j * 2 + 1) (.int .i64 z) = gC ms (zs.set j z)
  | [], [], _, _, _ => rfl
  | m :: ms, y :: zs, 0, z, _ => rfl
  | m :: ms, y :: zs, j + 1, z, h => by
    have := gC_set ms zs j z (by simpa using h)
    simp only [gC, List.set_cons_succ]
    rw [show (j + 1) * 2 = j * 2 + 1 + 1 by omega]
    simp only [List.set_cons_succ]
    rw [this]
  | [], z :: zs, _, _, h => by simp at h
  | m :: ms, [], _, _, h => by simp at h

def zsOf (G : List GrpI) : List Int := G.map (·.Z)
theorem zsOf_length (G : List GrpI) : (zsOf G).length = G.length := by simp [zsOf]
theorem zsOf_at (G : List GrpI) (j : Nat) (h : j < (zsOf G).length) (h2 : j < G.length) : (zsOf G)[j] = G[j].Z := by simp [zsOf]

/-- No two of some rows lie in one block. -/
def DistV (vs : List Value) : Prop := ∀ i j (hi : i < vs.length) (hj : j < vs.length) g, vs[i].ownBlock = some g → vs[j].ownBlock = some g → i = j

/-- A row of groups that a call has made. -/
def GOwn (w : World) (B : Nat) (v : Value) (ms : List Value) (G : List GrpI) : Prop :=
  ms.length = G.length ∧ w.ownsRow B 46 2 v G.length (gC ms (zsOf G)) ∧ ∀ j (h1 : j < ms.length) (h2 : j < G.length), InOwn w B ms[j] G[j].M

theorem GOwn.below {w w' : World} {B : Nat} {v : Value} {ms : List Value} {G : List GrpI} (h : GOwn w B v ms G) (hb : Below w.heap.size w w') : GOwn w' B v ms G :=
  ⟨h.1, own_below h.2.1 hb, fun j h1 h2 => (h.2.2 j h1 h2).below hb⟩

theorem own_shape {w : World} {B e s n : Nat} {v : Value} {xs : List Value} (h : w.ownsRow B e s v n xs) : ∃ A c, v = .slice A n c := by
  rcases h.2 with ⟨rfl, h0⟩ | ⟨g, cap, cur, rfl, _⟩
  · exact ⟨none, 0, by rw [h0]⟩
  · exact ⟨_, _, rfl⟩

/-- How many marks the groups ahead of the j-th take. -/
def offQ (G : List GrpI) (j : Nat) : Nat := ((G.take j).map (fun q => q.M.length + 1)).sum

theorem offQ_zero (G : List GrpI) : offQ G 0 = 0 := by simp [offQ]
theorem offQ_succ (G : List GrpI) (j : Nat) (h : j < G.length) : offQ G (j + 1) = offQ G j + G[j].M.length + 1 := by
  unfold offQ
  rw [List.take_succ_eq_append_getElem h, List.map_append, List.sum_append]
  simp
  omega

theorem offQ_le (G : List GrpI) (j : Nat) : offQ G j ≤ offQ G G.length := by
  unfold offQ
  rw [List.take_length]
  conv => rhs; rw [← List.take_append_drop j G]
  rw [List.map_append, List.sum_append]
  omega

theorem offQ_ge (G : List GrpI) : G.length ≤ offQ G G.length := by
  unfold offQ
  rw [List.take_length]
  induction G with
  | nil => simp
  | cons q r ih => simp only [List.map_cons, List.sum_cons, List.length_cons]; omega

/-- The groups with the first j marked. -/
def mixQ (k : Nat) (G : List GrpI) (j : Nat) : List GrpI := G.mapIdx fun i q => if i < j then ⟨marksN (k + offQ G i) q.M.length, ((k + offQ G i + q.M.length : Nat) : Int)⟩ else q

theorem mixQ_length (k : Nat) (G : List GrpI) (j : Nat) : (mixQ k G j).length = G.length := by simp [mixQ]
theorem mixQ_at (k : Nat) (G : List GrpI) (j i : Nat) (h : i < (mixQ k G j).length) (h2 : i < G.length) : (mixQ k G j)[i] = if i < j then ⟨marksN (k + offQ G i) G[i].M.length, ((k + offQ G i + G[i].M.length : Nat) : Int)⟩ else G[i] := by simp [mixQ]
theorem mixQ_zero (k : Nat) (G : List GrpI) : mixQ k G 0 = G := by
  apply List.ext_getElem
  · simp [mixQ]
  · intro i h1 h2; rw [mixQ_at k G 0 i h1 h2, if_neg (by omega)]

theorem mixQ_zs (k : Nat) (G : List GrpI) (j : Nat) (h : j < G.length) : (zsOf (mixQ k G j)).set j ((k + offQ G j + G[j].M.length : Nat) : Int) = zsOf (mixQ k G (j + 1)) := by
  apply List.ext_getElem
  · simp [zsOf, mixQ]
  · intro i h1 h2
    have hi : i < G.length := by simp [zsOf, mixQ] at h2; exact h2
    rw [List.getElem_set, zsOf_at _ i h2 (by rw [mixQ_length]; exact hi), mixQ_at k G (j + 1) i (by rw [mixQ_length]; exact hi) hi]
    by_cases e : j = i
    · subst e
      simp
    · rw [if_neg e, zsOf_at _ i (by rw [zsOf_length, mixQ_length]; exact hi) (by rw [mixQ_length]; exact hi), mixQ_at k G j i (by rw [mixQ_length]; exact hi) hi]
      have : i < j + 1 ↔ i < j := by omega
      simp only [this]

theorem GOwn.marked {w w1 : World} {B k j g cap : Nat} {ms : List Value} {G : List GrpI} (h : GOwn w B (.slice (some ⟨g, 0, none⟩) G.length cap) ms (mixQ k G j)) (hd : DistV ms) (hj : j < G.length) (hjm : j < ms.length)
    (ho : InOwn w1 B ms[j] (marksN (k + offQ G j) G[j].M.length)) (hk : Kept (InBlk ms[j]) w w1) :
    w1.ownsRow B 46 2 (.slice (some ⟨g, 0, none⟩) G.length cap) G.length (gC ms (zsOf (mixQ k G j))) ∧
    GOwn (w1.setCell ⟨g, j * 2 + 1, none⟩ (.int .i64 ((k + offQ G j + G[j].M.length : Nat) : Int))) B (.slice (some ⟨g, 0, none⟩) G.length cap) ms (mixQ k G (j + 1)) := by
  have hl := h.1
  rw [mixQ_length] at hl
  have hrow := h.2.1
  rw [mixQ_length] at hrow
  have hjo := h.2.2 j hjm (by rw [mixQ_length]; exact hj)
  have hne : (3 : Nat) ≠ 46 := by decide
  have hrow1 : w1.ownsRow B 46 2 (.slice (some ⟨g, 0, none⟩) G.length cap) G.length (gC ms (zsOf (mixQ k G j))) := hk.own_alien hrow (fun b hb => own_alien hjo hne b hb)
  refine ⟨hrow1, by rw [mixQ_length]; exact hl, ?_, fun i h1 h2 => ?_⟩
  · rw [mixQ_length]
    have h3 := (hrow1.stored (j * 2 + 1) (.int .i64 ((k + offQ G j + G[j].M.length : Nat) : Int))).1
    rw [gC_set _ _ _ _ (by rw [zsOf_length, mixQ_length]; exact hl), mixQ_zs k G j hj] at h3
    exact h3
  · have hi : i < G.length := by rw [mixQ_length] at h2; exact h2
    have o := h.2.2 i h1 (by rw [mixQ_length]; exact hi)
    rw [mixQ_at k G j i _ hi] at o
    rw [mixQ_at k G (j + 1) i h2 hi]
    have hks : Kept (fun b => b = g) w1 (w1.setCell ⟨g, j * 2 + 1, none⟩ (.int .i64 ((k + offQ G j + G[j].M.length : Nat) : Int))) := Kept.set _ _ _ _ rfl
    have hal : ∀ b, b = g → Alien w1 b 3 := fun b hb => by
      subst hb
      exact own_alien hrow1 (Ne.symm hne) b rfl
    by_cases e : i = j
    · subst e
      rw [if_pos (by omega)]
      exact hks.own_alien ho hal
    · have o2 := hk.own o (fun b hb hb' => e (hd i j h1 hjm b hb hb'))
      by_cases e2 : i < j
      · rw [if_pos (by omega)]
        rw [if_pos e2] at o2
        exact hks.own_alien o2 hal
      · rw [if_neg (by omega)]
        rw [if_neg e2] at o2
        exact hks.own_alien o2 hal

/-- The blocks of groups. -/
def GoBlk (v : Value) (ms : List Value) (g : Nat) : Prop := v.ownBlock = some g ∨ ∃ j, ∃ h : j < ms.length, ms[j].ownBlock = some g

end Gr
end Go.Proofs.Ytalmbdfcpnkkpaa

/-
  The contracts of laws.markGroupS and laws.heldGroupS.
-/
namespace Go.Proofs.Ytalmbdfcpnkkpaa
namespace Gr
open Go.ChangeShapes Go.WideShapes Go.ChangeAt Go.RowKit

set_option maxRecDepth 100000 in
set_option maxHeartbeats 1000000 in
theorem markGroupS_any (v : Value) (ms : List Value) (B k : Nat) (G : List GrpI) (hk : k + offQ G G.length ≤ 100000000) (hd : DistV ms) (w : World) (h : GOwn w B v ms G) :
    Calls Try.prog 40 #[v, .int .i64 (k : Int)] w fun e w' => e = .returned (.int .i64 ((k + offQ G G.length : Nat) : Int)) ∧ GOwn w' B v ms (mixQ k G G.length) ∧ Kept (GoBlk v ms) w w' := by
  obtain ⟨A, c, rfl⟩ := own_shape h.2.1
  have hvl := h.1
  have h2 := h
  rw [← mixQ_zero k G] at h2
  have H := hide h2
  have HD := hide hd
  obtain ⟨n, hn⟩ : ∃ n, n = G.length := ⟨_, rfl⟩
  have HN := hide hn
  have HV : Hid (ms.length = n) := by show _ = _; omega
  have HLE := hide (offQ_le G)
  obtain ⟨t, ht⟩ : ∃ t, t = offQ G G.length := ⟨_, rfl⟩
  have HT := hide ht
  have hn8 : n ≤ 100000000 := by have := offQ_ge G; omega
  rw [← ht] at hk HLE ⊢
  rw [← hn] at ⊢
  clear h h2 hd hn hvl ht
  go_enter Try.func40, Try.ntmps40
  go_wp2_with fail
  go_loopw [1, 5] (fun a1 a5 wr => ∃ j y : Nat, a5 = .int .i64 j ∧ j ≤ n ∧ Hid (y = k + offQ G j) ∧ y ≤ 100000000 ∧ a1 = .int .i64 (y : Int) ∧ Hid (GOwn wr B (.slice A n c) ms (mixQ k G j)) ∧ Hid (Kept (GoBlk (.slice A n c) ms) w wr)) (fun _ a5 _ => n - (intOf a5).toNat)
  case atStart => exact ⟨0, k, rfl, Nat.zero_le _, by show _ = _; rw [offQ_zero]; rfl, by omega, rfl, (by have h := unhide H; rw [mixQ_length, ← unhide HN] at h; exact h), Kept.refl _ _⟩
  case round =>
    obtain ⟨j, y, rfl, hj, HY, hyl, rfl, HG, HKP⟩ := hrel
    by_cases hlt : j < n
    · have hjG : j < G.length := by have := unhide HN; omega
      have hjv : j < ms.length := by have := unhide HV; omega
      have hjm : j < (mixQ k G j).length := by rw [mixQ_length]; exact hjG
      have hg := unhide HG
      have hown := hg.2.1
      rw [mixQ_length, ← unhide HN] at hown
      obtain ⟨g, cap, hA, _, hgl⟩ := hown.form (by omega)
      simp at hA
      obtain ⟨rfl, rfl⟩ := hA
      have oj := hg.2.2 j hjv hjm
      have e0 : (mixQ k G j)[j] = G[j] := by rw [mixQ_at k G j j hjm hjG, if_neg (by omega)]
      rw [e0] at oj
      obtain ⟨a1, c1, e1⟩ := own_shape oj
      have hc1 := hown.cellAt (j * 2) (by omega)
      rw [(gC_at ms (zsOf (mixQ k G j)) j hjv (by rw [zsOf_length]; exact hjm)).1, e1] at hc1
      have hs := offQ_succ G j hjG
      have hle := unhide HLE (j + 1)
      have hy2 : y + G[j].M.length + 1 ≤ 100000000 := by have := unhide HY; omega
      have MK := markInts_gen ms[j] B y G[j].M (by omega) wr oj
      rw [e1] at MK
      have HMK := hide MK
      have HS : Hid (y + G[j].M.length + 1 = k + offQ G (j + 1)) := by show _ = _; rw [hs, unhide HY]; omega
      have HMG : Hid (∀ w1, InOwn w1 B (.slice a1 G[j].M.length c1) (marksN y G[j].M.length) → Kept (InBlk (.slice a1 G[j].M.length c1)) wr w1 → w1.ownsRow B 46 2 (.slice (some ⟨g, 0, none⟩) n c) n (gC ms (zsOf (mixQ k G j))) ∧ GOwn (w1.setCell ⟨g, j * 2 + 1, none⟩ (.int .i64 ((y + G[j].M.length : Nat) : Int))) B (.slice (some ⟨g, 0, none⟩) n c) ms (mixQ k G (j + 1)) ∧ Kept (GoBlk (.slice (some ⟨g, 0, none⟩) n c) ms) w w1) := fun w1 ho hk1 => by
        rw [← e1] at ho hk1
        have hn := unhide HN
        have hy := unhide HY
        have h0 := unhide HG
        rw [hn] at h0 ⊢
        rw [hy] at ho ⊢
        obtain ⟨r1, r2⟩ := h0.marked (unhide HD) hjG hjv ho hk1
        exact ⟨r1, r2, (by have h5 := unhide HKP; rw [hn] at h5; exact h5.trans (hk1.weak (fun i hi => .inr ⟨j, hjv, hi⟩)))⟩
      have HZ2 := hide (gC_at ms (zsOf (mixQ k G j)) j hjv (by rw [zsOf_length]; exact hjm)).2
      have hx0 : (0 : Int) ≤ (j : Int) := by omega
      have hx1 : (j : Int) < (n : Int) := by omega
      generalize (zsOf (mixQ k G j))[j]'(by rw [zsOf_length]; exact hjm) = z0 at HZ2
      generalize G[j].M.length = m at hc1 HMK HS hy2 HMG
      clear MK hg hown oj e0 e1 hs hle
      go_wp2_with fail
      refine (unhide HMK).mono ?_
      rintro e w1 ⟨rfl, ho1, hk1⟩
      obtain ⟨r1, r2, r3⟩ := unhide HMG w1 ho1 hk1
      have q1 := r1.cellAt (j * 2 + 1) (by omega)
      rw [unhide HZ2] at q1
      have f1 := r1.frozenAt (j * 2 + 1)
      have HG1 := hide r2
      have HKP1 := hide (r3.trans (Kept.set w1 g (j * 2 + 1) (.int .i64 ((y + m : Nat) : Int)) (.inl rfl)))
      clear ho1 hk1 r1 r2 r3 HMG
      go_wp2
      go_roundw
      case rel => exact ⟨j + 1, y + m + 1, by go_num, by omega, unhide HS, by omega, by go_num, unhide HG1, unhide HKP1⟩
      case measure => simp [intOf]; omega
    · obtain rfl : j = n := by omega
      go_wp2
      go_ret
      refine ⟨?_, unhide HG, unhide HKP⟩
      have e : (y : Int) = ((k + t : Nat) : Int) := by
        have h1 := unhide HY
        rw [unhide HN, ← unhide HT] at h1
        rw [h1]
      rw [← e]
      rfl

set_option maxRecDepth 100000 in
set_option maxHeartbeats 1000000 in
theorem heldGroupS_any (v : Value) (ms : List Value) (B k : Nat) (G : List GrpI) (hk : k + offQ G G.length ≤ 100000000) (w : World) (h : GOwn w B v ms (mixQ k G G.length)) :
    Calls Try.prog 43 #[v, .int .i64 (k : Int)] w fun e w' => e = .returned (.int .i64 ((k + offQ G G.length : Nat) : Int)) ∧ Below w.heap.size w w' := by
  have hown := h.2.1
  rw [mixQ_length] at hown
  obtain ⟨A, c, rfl⟩ := own_shape hown
  have hvl := h.1
  rw [mixQ_length] at hvl
  have H := hide h
  obtain ⟨n, hn⟩ : ∃ n, n = G.length := ⟨_, rfl⟩
  have HN := hide hn
  have HV : Hid (ms.length = n) := by show _ = _; omega
  have HLE := hide (offQ_le G)
  obtain ⟨t, ht⟩ : ∃ t, t = offQ G G.length := ⟨_, rfl⟩
  have HT := hide ht
  have hn8 : n ≤ 100000000 := by have := offQ_ge G; omega
  rw [← ht] at hk HLE ⊢
  rw [← hn] at ⊢
  clear h hown hn hvl ht
  go_enter Try.func43, Try.ntmps43
  go_wp2_with fail
  go_loopw [1, 5] (fun a1 a5 wr => ∃ j y : Nat, a5 = .int .i64 j ∧ j ≤ n ∧ Hid (y = k + offQ G j) ∧ y ≤ 100000000 ∧ a1 = .int .i64 (y : Int) ∧ Below w.heap.size w wr) (fun _ a5 _ => n - (intOf a5).toNat)
  case atStart => exact ⟨0, k, rfl, Nat.zero_le _, by show _ = _; rw [offQ_zero]; rfl, by omega, rfl, Below.refl _ _⟩
  case round =>
    obtain ⟨j, y, rfl, hj, HY, hyl, rfl, hb⟩ := hrel
    by_cases hlt : j < n
    · have hjG : j < G.length := by have := unhide HN; omega
      have hjv : j < ms.length := by have := unhide HV; omega
      have hjm : j < (mixQ k G G.length).length := by rw [mixQ_length]; exact hjG
      have hg := (unhide H).below hb
      have hown := hg.2.1
      rw [mixQ_length] at hown
      obtain ⟨g, cap, hA, _, hgl⟩ := hown.form (by omega)
      simp at hA
      obtain ⟨rfl, _, rfl⟩ := hA
      have oj := hg.2.2 j hjv hjm
      have e0 : (mixQ k G G.length)[j] = ⟨marksN y G[j].M.length, ((y + G[j].M.length : Nat) : Int)⟩ := by rw [mixQ_at k G _ j hjm hjG, if_pos hjG, ← unhide HY]
      rw [e0] at oj
      have oa := oj.at
      obtain ⟨a1, c1, e1⟩ := oa.shape
      rw [marksN_length] at e1
      have hgc := gC_at ms (zsOf (mixQ k G G.length)) j hjv (by rw [zsOf_length]; exact hjm)
      rw [zsOf_at _ j _ hjm, e0] at hgc
      have hc1 := hown.cellAt (j * 2) (by omega)
      rw [hgc.1, e1] at hc1
      have hc2 := hown.cellAt (j * 2 + 1) (by omega)
      rw [hgc.2] at hc2
      have hs := offQ_succ G j hjG
      have hle := unhide HLE (j + 1)
      have hy2 : y + G[j].M.length + 1 ≤ 100000000 := by have := unhide HY; omega
      have HH := heldInts_gen ms[j] wr.heap.size y G[j].M.length (by omega) wr (Nat.le_refl _) oa
      rw [e1] at HH
      have HHH := hide HH
      have HS : Hid (y + G[j].M.length + 1 = k + offQ G (j + 1)) := by show _ = _; rw [hs, unhide HY]; omega
      have hx0 : (0 : Int) ≤ (j : Int) := by omega
      have hx1 : (j : Int) < (n : Int) := by have := unhide HN; omega
      simp only at hc2
      generalize G[j].M.length = m at hc1 hc2 HHH HS hy2
      have hng : ¬ ((y + m : Nat) : Int) < 0 := by omega
      have hnq : (((y + m : Nat) : Int) != ((y + m : Nat) : Int)) = false := by simp
      have hgs : g < wr.heap.size := hgl
      clear hg hown oj e0 e1 hs hle oa HH hgc
      have hln := unhide HN
      have HX : Hid (G.length = n) := hln.symm
      clear hln
      go_wp2_with fail
      refine (unhide HHH).mono ?_
      rintro e w1 ⟨rfl, hb1⟩
      have hbe := hb.trans (hb1.mono hb.size)
      rw [← hb1.cell (p := ⟨g, j * 2 + 1, none⟩) hgs] at hc2
      clear hb1 hb hc1
      go_wp2
      go_roundw
      case rel => exact ⟨j + 1, y + m + 1, by go_num, by omega, unhide HS, by omega, by go_num, hbe⟩
      case measure => simp [intOf]; omega
    · obtain rfl : j = n := by omega
      go_wp2
      go_ret
      refine ⟨?_, hb⟩
      have e : (y : Int) = ((k + t : Nat) : Int) := by
        have h1 := unhide HY
        rw [unhide HN, ← unhide HT] at h1
        rw [h1]
      rw [← e]
      rfl
end Gr
end Go.Proofs.Ytalmbdfcpnkkpaa
