/-
  The contracts of laws.markStringS and heldStringS: what is marked is held; nothing but that row is written.
-/
import Derived.Test.YtobdmjoonjblpaaGreatDoorMark
import Derived.Deep.AppendLies
namespace Go.Proofs.YtobdmjoonjblpaaGreatDoor
open Go.RowKit

/-- Nothing of old memory is turned but blocks in S. -/
def Kept (S : Nat → Prop) (w w' : World) : Prop :=
  w'.os = w.os ∧ w'.tape = w.tape ∧ w'.output = w.output ∧ w.heap.size ≤ w'.heap.size ∧ ∀ i, i < w.heap.size → ¬ S i → w'.heap[i]? = w.heap[i]?

theorem Kept.refl (S : Nat → Prop) (w : World) : Kept S w w := ⟨rfl, rfl, rfl, Nat.le_refl _, fun _ _ _ => rfl⟩

theorem Kept.trans {S : Nat → Prop} {a b c : World} (h : Kept S a b) (k : Kept S b c) : Kept S a c :=
  ⟨k.1.trans h.1, k.2.1.trans h.2.1, k.2.2.1.trans h.2.2.1, Nat.le_trans h.2.2.2.1 k.2.2.2.1, fun i hi hn => (k.2.2.2.2 i (Nat.lt_of_lt_of_le hi h.2.2.2.1) hn).trans (h.2.2.2.2 i hi hn)⟩

theorem Kept.weak {S T : Nat → Prop} {w w' : World} (h : Kept S w w') (hST : ∀ i, S i → T i) : Kept T w w' :=
  ⟨h.1, h.2.1, h.2.2.1, h.2.2.2.1, fun i hi hn => h.2.2.2.2 i hi (fun hs => hn (hST i hs))⟩

theorem Kept.of_below {S : Nat → Prop} {w w' : World} (h : Below w.heap.size w w') : Kept S w w' :=
  ⟨h.os, h.tape, h.output, h.size, fun i hi _ => h.block i hi⟩

theorem Kept.below {S : Nat → Prop} {w w' : World} {B : Nat} (h : Kept S w w') (hB : B ≤ w.heap.size) (hS : ∀ i, S i → B ≤ i) : Below B w w' :=
  ⟨h.1, h.2.1, h.2.2.1, h.2.2.2.1, fun i hi => h.2.2.2.2 i (by omega) (fun hs => by have := hS i hs; omega)⟩

theorem Kept.set {S : Nat → Prop} (w : World) (g j : Nat) (v : Value) (hg : S g) : Kept S w (w.setCell ⟨g, j, none⟩ v) :=
  ⟨rfl, rfl, rfl, by simp [World.setCell], fun i _ hn => Below.heap_setCell _ _ _ _ (fun e => hn (by rw [e]; exact hg))⟩

theorem Kept.drew {S : Nat → Prop} {w w' : World} (h : Kept S w w') : Kept S w w'.drew := h

theorem Kept.own {S : Nat → Prop} {w w' : World} {B e size n : Nat} {v : Value} {xs : List Value} (h : Kept S w w') (ho : w.ownsRow B e size v n xs) (hS : ∀ g, v.ownBlock = some g → ¬ S g) : w'.ownsRow B e size v n xs := by
  obtain ⟨h1, h2⟩ := ho
  refine ⟨h1, ?_⟩
  rcases h2 with h2 | ⟨g, cap, cur, rfl, a2, a3, a4⟩
  · exact .inl h2
  · refine .inr ⟨g, cap, cur, rfl, a2, ?_, a4⟩
    rw [h.2.2.2.2 g ?_ (hS g rfl)]
    · exact a3
    · rcases Nat.lt_or_ge g w.heap.size with h | h
      · exact h
      · rw [Array.getElem?_eq_none h] at a3; cases a3

/-- The texts of n numbers from k on. -/
def marks (k n : Nat) : List ByteArray := (List.range n).map fun i => markT (k + i)

theorem marks_length (k n : Nat) : (marks k n).length = n := by simp [marks]
theorem marks_at (k n i : Nat) (h : i < (marks k n).length) : (marks k n)[i] = markT (k + i) := by simp [marks]

/-- The first j of a list, and of another one the rest. -/
def over {α : Type} (M L : List α) (j : Nat) : List α := M.take j ++ L.drop j

theorem over_zero {α : Type} (M L : List α) : over M L 0 = L := by simp [over]
theorem over_all {α : Type} (M L : List α) (h : M.length = L.length) : over M L L.length = M := by simp [over, ← h]
theorem over_length {α : Type} (M L : List α) (j : Nat) (h : M.length = L.length) (hj : j ≤ L.length) : (over M L j).length = L.length := by simp [over]; omega

theorem over_set {α : Type} (M L : List α) (j : Nat) (h : M.length = L.length) (hj : j < L.length) : (over M L j).set j (M[j]'(by omega)) = over M L (j + 1) := by
  unfold over
  have e : (M.take j).length = j := by simp; omega
  rw [List.set_append_right _ _ (by omega), e, Nat.sub_self]
  have e2 : L.drop j = L[j] :: L.drop (j + 1) := (List.getElem_cons_drop hj).symm
  rw [e2, List.set_cons_zero, List.take_succ_eq_append_getElem (by omega), List.append_assoc]
  rfl

set_option maxRecDepth 100000 in
set_option maxHeartbeats 1000000 in
theorem markStrs_any (v : Value) (B n k : Nat) (L : List ByteArray) (h0 : 0 < k) (h1 : k + n ≤ 100000000) (w : World) (ho : w.ownsRow B 9 1 v n (strsV L)) :
    Calls Tryz.prog 61 #[v, .int .i64 (k : Int)] w fun e w' => e = .returned (.int .i64 ((k + n : Nat) : Int)) ∧ w'.ownsRow B 9 1 v n (strsV (marks k n)) ∧ Kept (fun g => v.ownBlock = some g) w w' := by
  have hl : L.length = n := by have := ho.1; simp [strsV] at this; omega
  obtain ⟨A, cap, rfl⟩ : ∃ A cap, v = .slice A n cap := by
    obtain ⟨a, c, e, _⟩ := StrsAt.of_own ho
    exact ⟨a, c, e⟩
  have HO := hide ho
  have HL := hide hl
  clear ho hl
  go_enter Tryz.func61, Tryz.ntmps61
  go_wp2_with fail
  go_loopw [1, 5] (fun a1 a5 wr => ∃ j : Nat, a5 = .int .i64 j ∧ j ≤ n ∧ a1 = .int .i64 ((k + j : Nat) : Int) ∧ wr.ownsRow B 9 1 (.slice A n cap) n (strsV (over (marks k n) L j)) ∧ Kept (fun g => (Value.slice A n cap).ownBlock = some g) w wr) (fun _ a5 _ => n - (intOf a5).toNat)
  case atStart => exact ⟨0, rfl, Nat.zero_le _, rfl, by rw [over_zero]; exact unhide HO, Kept.refl _ _⟩
  case round =>
    obtain ⟨j, rfl, hj, rfl, hown, hkp⟩ := hrel
    by_cases hlt : j < n
    · obtain ⟨g, cap', hA, hBg, hgl⟩ := hown.form (by omega)
      simp at hA
      obtain ⟨rfl, rfl⟩ := hA
      have hm := marks_at k n j (by rw [marks_length]; exact hlt)
      have hjL : j < L.length := by have := unhide HL; omega
      have hset := over_set (marks k n) L j (by rw [marks_length]; exact (unhide HL).symm) hjL
      rw [hm] at hset
      have HSET := hide hset
      have hol : j < (over (marks k n) L j).length := by rw [over_length _ _ _ (by rw [marks_length]; exact (unhide HL).symm) (by omega)]; exact hjL
      have hx0 : (0 : Int) ≤ (j : Int) := by omega
      have hx1 : (j : Int) < (n : Int) := by omega
      have HW := hide hown
      have HT := hide (fun w => markText_any (k + j) (by omega) (by omega) w)
      clear hm hset hown
      go_wp2_with fail
      refine (unhide HT _).mono ?_
      rintro e w1 ⟨rfl, hb1⟩
      have hown := own_below (unhide HW) hb1
      have hkp1 := hkp.trans (Kept.of_below hb1)
      have hce := hown.cellAt j (by omega)
      have hce2 : (strsV (over (marks k n) L j))[j]? = some (.string (over (marks k n) L j)[j]) := by simp [strsV, hol]
      rw [hce2] at hce
      have hfz := hown.frozenAt j
      have hst := (hown.stored j (.string (markT (k + j)))).1
      rw [strsV_set, unhide HSET] at hst
      have HST := hide hst
      generalize (over (marks k n) L j)[j] = z at hce
      clear hst hown hce2 hb1 hkp
      generalize markT (k + j) = t at HST
      go_wp2
      go_roundw
      case rel => exact ⟨j + 1, by go_num, by omega, by go_num, unhide HST, hkp1.trans (Kept.set _ g j _ rfl)⟩
      case measure => simp [intOf]; omega
    · obtain rfl : j = n := by omega
      have HW := hide hown
      clear hown
      go_wp2
      go_ret
      refine ⟨rfl, ?_, hkp⟩
      have h := unhide HW
      have e := unhide HL
      have e2 := over_all (marks k L.length) L (by rw [marks_length])
      rw [e] at e2
      rw [e2] at h
      exact h
end Go.Proofs.YtobdmjoonjblpaaGreatDoor
