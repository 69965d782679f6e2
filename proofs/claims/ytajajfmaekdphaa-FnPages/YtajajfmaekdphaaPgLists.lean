/-
  Plain lemmas on what is read of a page.
-/
import Derived.Test.YtajajfmaekdphaaPgThree
namespace Go.Proofs.Ytajajfmaekdphaa

theorem restA_one (s : ByteArray) (a : Nat) : restA 1 s a = (rsA s a).map (fun p => (p.1, 0, p.2)) := if_pos rfl

theorem restA_other {k : Int} (h : k ≠ 1) (s : ByteArray) (a : Nat) : restA k s a = (readA s (a : Int)).map (fun p => (⟨#[]⟩, (p.1 : Int), p.2)) := if_neg h

theorem itA_key {k : Int} {s : ByteArray} {a : Nat} (h : rsA s a = none) : itA k s a = none := by unfold itA; rw [h]; rfl

theorem itA_rest {k : Int} {s : ByteArray} {a : Nat} {t : ByteArray} {b : Nat} (h : rsA s a = some (t, b)) (h2 : restA k s b = none) : itA k s a = none := by unfold itA; rw [h]; simp [h2]

theorem itA_yes {k : Int} {s : ByteArray} {a : Nat} {t u : ByteArray} {b c : Nat} {y : Int} (h : rsA s a = some (t, b)) (h2 : restA k s b = some (u, y, c)) : itA k s a = some (⟨t, u, y⟩, c) := by unfold itA; rw [h]; simp [h2]

def Small (L : List It) : Prop := ∀ x ∈ L, x.key.size ≤ 8000 ∧ x.val.size ≤ 8000

theorem Small.snoc {L : List It} {x : It} (h : Small L) (h1 : x.key.size ≤ 8000) (h2 : x.val.size ≤ 8000) : Small (L ++ [x]) := by
  intro y hy
  rcases List.mem_append.1 hy with h3 | h3
  · exact h y h3
  · simp at h3; subst h3; exact ⟨h1, h2⟩

theorem size_none : (⟨#[]⟩ : ByteArray).size ≤ 8000 := by simp [ByteArray.size]


theorem itsA_small {k : Int} {s : ByteArray} : ∀ {n a : Nat} {Q : List It}, itsA k s n a = some Q → Small Q ∧ (a ≤ s.size → Q.length + a ≤ s.size) := by
  intro n
  induction n with
  | zero => intro a Q h; simp [itsA] at h; subst h; exact ⟨fun x hx => by simp at hx, fun h => by simpa using h⟩
  | succ n ih =>
    intro a Q h
    cases hi : itA k s a with
    | none => rw [itsA_stop hi] at h; cases h
    | some p =>
      obtain ⟨x, e⟩ := p
      rw [itsA_step hi] at h
      have ha := itA_ahead hi
      cases hq : itsA k s n e with
      | none => rw [hq] at h; simp at h
      | some Q' =>
        rw [hq] at h
        simp at h
        subst h
        have h2 := ih hq
        refine ⟨fun y hy => ?_, fun h3 => ?_⟩
        · rcases List.mem_cons.1 hy with rfl | hy
          · exact ⟨ha.2.2.1, ha.2.2.2⟩
          · exact h2.1 y hy
        · have := h2.2 ha.2.1
          simp
          omega
end Go.Proofs.Ytajajfmaekdphaa
