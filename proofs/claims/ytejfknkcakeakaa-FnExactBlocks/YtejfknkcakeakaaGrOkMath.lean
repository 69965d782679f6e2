/-
  What a right graph is, as mathematics; where an edge stands.
-/
import Derived.Test.YtejfknkcakeakaaGrEdgeAt
namespace Go.Proofs.Ytejfknkcakeakaa
namespace Gr
open Go.RowKit

theorem ahead_iff (p e : EdgeI) : ahead p e = true ↔ p.A < e.A ∨ p.A = e.A ∧ p.B < e.B := by
  unfold ahead
  simp

theorem ahead_trans {a b c : EdgeI} (h : ahead a b = true) (k : ahead b c = true) : ahead a c = true := by
  rw [ahead_iff] at *
  omega

theorem edgeOk_iff (s : Int) (e : EdgeI) : edgeOk s e = true ↔ 0 ≤ e.A ∧ e.A < e.B ∧ e.B < s ∧ worthOk e.W1 = true ∧ worthOk e.W2 = true ∧ worthOk e.W3 = true := by
  unfold edgeOk
  simp

theorem okFrom_sound (s : Int) : ∀ (Q : List EdgeI) (p : Option EdgeI), okFrom s p Q = true → (∀ e ∈ Q, edgeOk s e = true) ∧ Q.Pairwise (fun a b => ahead a b = true) ∧ ∀ q, p = some q → ∀ e ∈ Q, ahead q e = true
  | [], _, _ => ⟨by simp, List.Pairwise.nil, by simp⟩
  | e :: r, p, h => by
    have h' : (edgeOk s e && (aheadOf p e && okFrom s (some e) r)) = true := h
    simp only [Bool.and_eq_true] at h'
    obtain ⟨h1, h2, h3⟩ := h'
    obtain ⟨i1, i2, i3⟩ := okFrom_sound s r (some e) h3
    refine ⟨fun x hx => ?_, List.Pairwise.cons (fun x hx => i3 e rfl x hx) i2, fun q hq x hx => ?_⟩
    · rcases List.mem_cons.1 hx with rfl | hx
      · exact h1
      · exact i1 x hx
    · subst hq
      have h2' : ahead q e = true := h2
      rcases List.mem_cons.1 hx with rfl | hx
      · exact h2'
      · exact ahead_trans h2' (i3 e rfl x hx)

theorem okFrom_of (s : Int) : ∀ (Q : List EdgeI) (p : Option EdgeI), (∀ e ∈ Q, edgeOk s e = true) → Q.Pairwise (fun a b => ahead a b = true) → (∀ q, p = some q → ∀ e ∈ Q, ahead q e = true) → okFrom s p Q = true
  | [], _, _, _, _ => rfl
  | e :: r, p, h1, h2, h3 => by
    show (edgeOk s e && (aheadOf p e && okFrom s (some e) r)) = true
    simp only [Bool.and_eq_true]
    rw [List.pairwise_cons] at h2
    refine ⟨h1 e List.mem_cons_self, ?_, okFrom_of s r (some e) (fun x hx => h1 x (List.mem_cons_of_mem _ hx)) h2.2 (fun q hq x hx => by obtain rfl := Option.some.inj hq; exact h2.1 x hx)⟩
    cases p with
    | none => rfl
    | some q => exact h3 q rfl e List.mem_cons_self

theorem graph_sound {s : Int} {Q : List EdgeI} (h : graphOk s Q = true) : 0 ≤ s ∧ s ≤ 9 ∧ (∀ e ∈ Q, edgeOk s e = true) ∧ Q.Pairwise (fun a b => ahead a b = true) := by
  unfold graphOk at h
  simp only [Bool.and_eq_true, decide_eq_true_eq] at h
  obtain ⟨⟨h0, h1⟩, h2⟩ := h
  obtain ⟨i1, i2, _⟩ := okFrom_sound s Q none h2
  exact ⟨h0, h1, i1, i2⟩

theorem graph_of {s : Int} {Q : List EdgeI} (h0 : 0 ≤ s) (h1 : s ≤ 9) (h2 : ∀ e ∈ Q, edgeOk s e = true) (h3 : Q.Pairwise (fun a b => ahead a b = true)) : graphOk s Q = true := by
  unfold graphOk
  rw [okFrom_of s Q none h2 h3 (by simp), decide_eq_true h0, decide_eq_true h1]
  rfl

theorem mono_at {K : List Int} (h : K.Pairwise (· < ·)) {i j : Nat} {x y : Int} (hi : K[i]? = some x) (hj : K[j]? = some y) : (i < j ↔ x < y) ∧ (i = j ↔ x = y) := by
  obtain ⟨hi', rfl⟩ := List.getElem?_eq_some_iff.1 hi
  obtain ⟨hj', rfl⟩ := List.getElem?_eq_some_iff.1 hj
  have hp := List.pairwise_iff_getElem.1 h
  rcases Nat.lt_trichotomy i j with hij | rfl | hij
  · have := hp i j hi' hj' hij
    exact ⟨⟨fun _ => this, fun _ => hij⟩, ⟨fun e => by omega, fun e => by omega⟩⟩
  · exact ⟨⟨fun e => by omega, fun e => by omega⟩, ⟨fun _ => rfl, fun _ => rfl⟩⟩
  · have := hp j i hj' hi' hij
    exact ⟨⟨fun e => by omega, fun e => by omega⟩, ⟨fun e => by omega, fun e => by omega⟩⟩

theorem lt_of_at {K : List Int} {i : Nat} {x : Int} (h : K[i]? = some x) : i < K.length := (List.getElem?_eq_some_iff.1 h).1

theorem hit_iff {s x y : Int} {e : EdgeI} (he : edgeOk s e = true) (hxy : x < y) : (hit x y e = true ↔ e.A = x ∧ e.B = y) ∧ (hit y x e = true ↔ e.A = x ∧ e.B = y) := by
  have := (edgeOk_iff s e).1 he
  unfold hit
  simp only [Bool.or_eq_true, Bool.and_eq_true, beq_iff_eq]
  omega

theorem at_some (x y : Int) : ∀ (Q : List EdgeI) (k : Nat), (∃ e ∈ Q, hit x y e = true) → ∃ i e, Q[i]? = some e ∧ hit x y e = true ∧ atFrom x y k Q = ((k + i : Nat) : Int)
  | [], _, h => by simp at h
  | q :: r, k, h => by
    unfold atFrom
    by_cases hq : hit x y q = true
    · rw [if_pos hq]
      exact ⟨0, q, rfl, hq, rfl⟩
    · rw [if_neg hq]
      have hr : ∃ e ∈ r, hit x y e = true := by
        obtain ⟨e, he, hh⟩ := h
        rcases List.mem_cons.1 he with rfl | he
        · exact absurd hh hq
        · exact ⟨e, he, hh⟩
      obtain ⟨i, e, h1, h2, h3⟩ := at_some x y r (k + 1) hr
      exact ⟨i + 1, e, by simpa using h1, h2, by rw [h3]; omega⟩

theorem at_none (x y : Int) : ∀ (Q : List EdgeI) (k : Nat), (∀ e ∈ Q, ¬ hit x y e = true) → atFrom x y k Q = -1
  | [], _, _ => rfl
  | q :: r, k, h => by
    unfold atFrom
    rw [if_neg (h q List.mem_cons_self)]
    exact at_none x y r (k + 1) (fun e he => h e (List.mem_cons_of_mem _ he))

/-- Two edges of a right graph between the same vertices are one. -/
theorem same_edge {Q : List EdgeI} (h : Q.Pairwise (fun a b => ahead a b = true)) {p e : EdgeI} (hp : p ∈ Q) (he : e ∈ Q) (hA : p.A = e.A) (hB : p.B = e.B) : p = e := by
  obtain ⟨i, hi, rfl⟩ := List.getElem_of_mem hp
  obtain ⟨j, hj, rfl⟩ := List.getElem_of_mem he
  have hq := List.pairwise_iff_getElem.1 h
  rcases Nat.lt_trichotomy i j with hij | rfl | hij
  · have := (ahead_iff _ _).1 (hq i j hi hj hij); omega
  · rfl
  · have := (ahead_iff _ _).1 (hq j i hj hi hij); omega

end Gr
end Go.Proofs.Ytejfknkcakeakaa
