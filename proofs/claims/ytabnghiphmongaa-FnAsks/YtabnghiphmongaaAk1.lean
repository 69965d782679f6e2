/-
  Asks in bytes, as mathematics: what ReadAsk takes, asked as the program asks it: each number is there, and nothing stands behind the last.
-/
import Derived.Test.YtabnghiphmongaaAkRead
import Derived.Test.YtabnghiphmongaaWRdT
namespace Go.Proofs.Ytabnghiphmongaa
namespace Gr
open Go.RowKit

theorem rd_false {t : ByteArray} {c : CS} (h : (rd t c).2.b = false) : c.b = false ∧ ∃ x e, readA t (c.p : Int) = some (x, e) ∧ rd t c = ((x : Int), ⟨e, false⟩) := by
  unfold rd at h ⊢
  by_cases hb : c.b = true
  · rw [if_pos hb] at h; simp at h
  · rw [if_neg hb] at h ⊢
    refine ⟨by simpa using hb, ?_⟩
    cases hr : readA t (c.p : Int) with
    | none => rw [hr] at h; simp at h
    | some x => exact ⟨x.1, x.2, rfl, rfl⟩

theorem rd_true {t : ByteArray} {c : CS} (hb : c.b = false) (h : (rd t c).2.b = true) : readA t (c.p : Int) = none := by
  unfold rd at h
  rw [if_neg (by simp [hb])] at h
  cases hr : readA t (c.p : Int) with
  | none => rfl
  | some x => rw [hr] at h; simp at h

theorem rd_bad_stays (t : ByteArray) (c : CS) (h : c.b = true) : (rd t c).2.b = true := by
  unfold rd; rw [if_pos h]

theorem rdN_bad_stays (t : ByteArray) : ∀ (k : Nat) (c : CS), c.b = true → (rdN t k c).2.b = true
  | 0, _, h => h
  | k + 1, c, h => by
    rw [rdN]
    exact rdN_bad_stays t k _ (rd_bad_stays t c h)

/-- A number that is not there spoils all that follows. -/
theorem rdN_bad_le (t : ByteArray) (c : CS) : ∀ (k m : Nat), k ≤ m → (rdN t k c).2.b = true → (rdN t m c).2.b = true := by
  intro k m hkm h
  induction m with
  | zero => obtain rfl : k = 0 := by omega
            exact h
  | succ m ih =>
    rcases Nat.lt_or_ge k (m + 1) with h1 | h1
    · rw [rdN_snoc]
      exact rd_bad_stays t _ (ih (by omega))
    · obtain rfl : k = m + 1 := by omega
      exact h

/-- What was read stands there. -/
theorem rdN_text (t : ByteArray) : ∀ (k : Nat) (c : CS), c.p ≤ t.size → (rdN t k c).2.b = false → (rdN t k c).2.p ≤ t.size ∧ t.data.toList.take (rdN t k c).2.p = t.data.toList.take c.p ++ (rdN t k c).1.flatMap vL ∧ ∀ y ∈ (rdN t k c).1, small y
  | 0, c, hc, _ => ⟨hc, by simp [rdN], fun y hy => by simp [rdN] at hy⟩
  | k + 1, c, hc, h => by
    rw [rdN] at h ⊢
    simp only at h ⊢
    have h1 : (rd t c).2.b = false := by
      cases hb : (rd t c).2.b with
      | false => rfl
      | true => rw [rdN_bad_stays t k _ hb] at h; simp at h
    obtain ⟨_, x, e, hr, he⟩ := rd_false h1
    rw [he] at h ⊢
    simp only at h ⊢
    obtain ⟨h2, h3⟩ := readA_text hr
    obtain ⟨i1, i2, i3⟩ := rdN_text t k ⟨e, false⟩ h3 h
    refine ⟨i1, ?_, ?_⟩
    · rw [i2, h2]
      simp [vL]
    · intro y hy
      rcases List.mem_cons.1 hy with rfl | hy
      · have := readA_bound hr
        exact ⟨by omega, by omega⟩
      · exact i3 y hy

/-- As many numbers as an ask tells, each a small one, are written. -/
theorem ask_written (op : Int) (L : List Int) (h1 : 1 ≤ op ∧ op ≤ 6) (hl : L.length = askN op) (hs : ∀ y ∈ L, small y) : ∃ B, askR (askOf op L) = some B ∧ B.data.toList = (opB op).data.toList ++ L.flatMap vL := by
  have hop : (askOf op L).Op = op := rfl
  unfold askR
  rw [hop, if_pos h1]
  have hn : askN op = 0 ∨ askN op = 1 ∨ askN op = 5 := by unfold askN; (repeat' split) <;> omega
  rcases hn with hn | hn | hn
  · rw [hn] at hl ⊢
    match L, hl with
    | [], _ => exact ⟨_, by simp [askL, askOf, padL, askGo]; rfl, by simp⟩
  · rw [hn] at hl ⊢
    match L, hl with
    | [a], _ =>
      obtain ⟨a0, a1⟩ := hs a (by simp)
      exact ⟨_, by simp [askL, askOf, padL, askGo, a0, a1]; rfl, by simp [vB_list]⟩
  · rw [hn] at hl ⊢
    match L, hl with
    | [a, b, c, d, e], _ =>
      obtain ⟨a0, a1⟩ := hs a (by simp)
      obtain ⟨b0, b1⟩ := hs b (by simp)
      obtain ⟨c0, c1⟩ := hs c (by simp)
      obtain ⟨d0, d1⟩ := hs d (by simp)
      obtain ⟨e0, e1⟩ := hs e (by simp)
      exact ⟨_, by simp [askL, askOf, padL, askGo, a0, a1, b0, b1, c0, c1, d0, d1, e0, e1]; rfl, by simp [vB_list]⟩

theorem opB_take (t : ByteArray) (h : 0 < t.size) : (opB (opOf t)).data.toList = t.data.toList.take 1 := by
  have e : opOf t = ((t[0]'h).toNat : Int) := by unfold opOf; rw [byteAt_eq h]
  unfold opB
  rw [e]
  have hs : 0 < t.data.toList.length := by rw [Array.length_toList]; exact h
  obtain ⟨d⟩ := t
  obtain ⟨l⟩ := d
  cases l with
  | nil => simp at hs
  | cons a l =>
    show [UInt8.ofNat ((a.toNat : Int).toNat)] = [a]
    simp

/-- What the program asks of a text. -/
def raM (t : ByteArray) : Bool := decide (0 < t.size) && ((decide (1 ≤ opOf t) && decide (opOf t ≤ 6)) && (!(rdN t (askN (opOf t)) ⟨1, false⟩).2.b && decide ((rdN t (askN (opOf t)) ⟨1, false⟩).2.p = t.size)))

theorem raM_is (t : ByteArray) : raM t = raOk t := by
  unfold raM raOk
  by_cases h0 : 0 < t.size
  · rw [decide_eq_true h0, Bool.true_and, Bool.true_and]
    by_cases h1 : 1 ≤ opOf t ∧ opOf t ≤ 6
    · rw [decide_eq_true h1.1, decide_eq_true h1.2, Bool.true_and, Bool.true_and]
      cases hb : (rdN t (askN (opOf t)) ⟨1, false⟩).2.b with
      | true => rfl
      | false =>
        simp only [Bool.not_false, Bool.true_and]
        obtain ⟨i1, i2, i3⟩ := rdN_text t (askN (opOf t)) ⟨1, false⟩ (by show 1 ≤ t.size; omega) hb
        obtain ⟨B, hB, hBl⟩ := ask_written (opOf t) _ h1 (rdN_length t _ _) i3
        have hok : askOk (raX t) = true := by unfold askOk raX; rw [hB]; rfl
        have hT : askT (raX t) = B := by unfold askT raX; rw [hB]; rfl
        rw [hok, hT, Bool.true_and]
        have hBt : B.data.toList = t.data.toList.take (rdN t (askN (opOf t)) ⟨1, false⟩).2.p := by rw [hBl, i2, opB_take t h0]
        have hsz : t.data.toList.length = t.size := Array.length_toList
        have hiff : (rdN t (askN (opOf t)) ⟨1, false⟩).2.p = t.size ↔ B = t := by
          constructor
          · intro h
            apply ByteArray.ext
            rw [← Array.toList_inj, hBt, h, ← hsz, List.take_length]
          · intro h
            have := congrArg List.length hBt
            rw [h, List.length_take, hsz] at this
            omega
        exact decide_eq_decide.2 hiff
    · have hno : askOk (raX t) = false := by unfold askOk askR; rw [if_neg (by show ¬ (1 ≤ opOf t ∧ opOf t ≤ 6); exact h1)]; rfl
      rw [hno]
      have : (decide (1 ≤ opOf t) && decide (opOf t ≤ 6)) = false := by simp; omega
      rw [this]
      simp
  · rw [decide_eq_false h0, Bool.false_and, Bool.false_and]

end Gr
end Go.Proofs.Ytabnghiphmongaa
