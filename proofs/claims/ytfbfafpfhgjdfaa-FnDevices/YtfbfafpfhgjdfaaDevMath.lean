/-
  Devices without a program: what is flushed is what is read.
-/
import Derived.Test.YtfbfafpfhgjdfaaDevWriteImpl
import Derived.Test.YtfbfafpfhgjdfaaDevFlushImpl
namespace Go.Proofs.Ytfbfafpfhgjdfaa
open Go.RowKit

theorem flushL_get (i : Nat) (Q : List (Int × ByteArray)) : ∀ (L : List ByteArray) (h : i < L.length) (h' : i < (flushL L Q).length), (∀ q ∈ Q, 0 ≤ q.1) → (flushL L Q)[i] = lastOf i L[i] Q := by
  induction Q with
  | nil => intro L h h' _; rfl
  | cons q Q ih =>
    intro L h h' hq
    have e1 : flushL L (q :: Q) = flushL (L.set q.1.toNat q.2) Q := rfl
    have e2 : lastOf i L[i] (q :: Q) = lastOf i (if q.1 = (i : Int) then q.2 else L[i]) Q := rfl
    have h2 : i < (L.set q.1.toNat q.2).length := by rw [List.length_set]; exact h
    have h3 := ih (L.set q.1.toNat q.2) h2 (by rw [flushL_length]; exact h2) (fun r hr => hq r (List.mem_cons_of_mem _ hr))
    rw [e2]
    have h4 : (L.set q.1.toNat q.2)[i] = if q.1 = (i : Int) then q.2 else L[i] := by
      have h0 := hq q List.mem_cons_self
      rw [List.getElem_set]
      by_cases he : q.1 = (i : Int)
      · rw [if_pos (by omega), if_pos he]
      · rw [if_neg (by omega), if_neg he]
    rw [← h4, ← h3]
    rfl

theorem lastOf_put (i : Nat) (s : ByteArray) (Q : List (Int × ByteArray)) (x : Int) (t : ByteArray) : lastOf i s (Q ++ [(x, t)]) = if x = (i : Int) then t else lastOf i s Q := by
  unfold lastOf
  rw [List.foldl_append]
  rfl

theorem flush_right {L : List ByteArray} {Q : List (Int × ByteArray)} (h : devOk L Q = true) : devOk (flushL L Q) [] = true := by
  have hd := devOk_sec h
  have hs := flushL_size hd.2.2.2.1 (fun q hq => (hd.2.2.2.2 q hq).2.2)
  unfold devOk
  rw [flushL_length, decide_eq_true (by omega), decide_eq_true (by omega)]
  simp only [List.length_nil, List.all_nil, Bool.and_true, Bool.true_and, Bool.and_eq_true, List.all_eq_true]
  exact ⟨by simp, fun s h1 => by have := hs s h1; simp [secOk]; omega⟩

theorem write_right {L : List ByteArray} {Q : List (Int × ByteArray)} (h : devOk L Q = true) (hq : Q.length ≤ 7) (k : Nat) (hk : k < L.length) (t : ByteArray) (ht : t.size ≤ 64) : wrOk L Q (k : Int) t = true ∧ devOk L (Q ++ [((k : Int), t)]) = true := by
  have hp : putOk L.length (k : Int) t = true := by unfold putOk; simp; omega
  refine ⟨?_, ?_⟩
  · unfold wrOk
    rw [h, hp, decide_eq_false (by omega)]
    rfl
  · unfold devOk at h ⊢
    simp only [Bool.and_eq_true, decide_eq_true_eq, List.all_eq_true] at h ⊢
    refine ⟨h.1, ?_, h.2.2.1, fun q hq' => ?_⟩
    · simp; omega
    · rcases List.mem_append.1 hq' with h1 | h1
      · exact h.2.2.2 q h1
      · simp at h1; rw [h1]; exact hp

/-- What is read of a written device, of what a flush leaves of it, and of the device ahead of it. -/
theorem reads (L : List ByteArray) (Q : List (Int × ByteArray)) (h : devOk L Q = true) (hq : Q.length ≤ 7) (k : Nat) (hk : k < L.length) (t : ByteArray) (ht : t.size ≤ 64) (i : Nat) (hi : i < L.length) :
    ∃ x z, readA L (Q ++ [((k : Int), t)]) (i : Int) = (x, true) ∧ readA (flushL L (Q ++ [((k : Int), t)])) [] (i : Int) = (x, true) ∧ readA L Q (i : Int) = (z, true) ∧ (i = k → x = t) ∧ (i ≠ k → x = z) := by
  obtain ⟨_, hw⟩ := write_right h hq k hk t ht
  have hf := flush_right hw
  have hd := devOk_sec hw
  have hl : i < (flushL L (Q ++ [((k : Int), t)])).length := by rw [flushL_length]; exact hi
  refine ⟨lastOf i L[i] (Q ++ [((k : Int), t)]), lastOf i L[i] Q, ?_, ?_, ?_, ?_, ?_⟩
  · unfold readA
    rw [if_pos ⟨hw, by omega, by omega⟩]
    simp [hi]
  · unfold readA
    rw [if_pos ⟨hf, by omega, by rw [flushL_length]; omega⟩]
    simp [hl]
    rw [flushL_get i _ L hi hl (fun q hq => (hd.2.2.2.2 q hq).1)]
    rfl
  · unfold readA
    rw [if_pos ⟨h, by omega, by omega⟩]
    simp [hi]
  · intro e
    rw [lastOf_put, if_pos (by omega)]
  · intro e
    rw [lastOf_put, if_neg (by omega)]
end Go.Proofs.Ytfbfafpfhgjdfaa
