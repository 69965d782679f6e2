/-
  What ReadVar reads stands in the text as it is written. Without a program.
-/
import Derived.Test.YtabnghiphmongaaGrRd
namespace Go.Proofs.Ytabnghiphmongaa
namespace Gr
open Go.RowKit

theorem readV_text {s : ByteArray} {a : Nat} : ∀ {f i n sc x e : Nat}, readV s a f i n sc = some (x, e) → varB 4 x = (s.extract a e).toList ∧ i < e ∧ e ≤ s.size := by
  intro f
  induction f with
  | zero => intro i n sc x e h; simp [readV] at h
  | succ f ih =>
    intro i n sc x e h
    simp only [readV] at h
    split at h
    · split at h
      · split at h
        · simp at h
        · split at h
          · rename_i he
            simp at h
            obtain ⟨rfl, rfl⟩ := h
            exact ⟨he, by omega, by omega⟩
          · simp at h
      · have := ih h
        exact ⟨this.1, by omega, this.2.2⟩
    · simp at h

theorem readA_text {t : ByteArray} {p x e : Nat} (h : readA t (p : Int) = some (x, e)) : t.data.toList.take e = t.data.toList.take p ++ varB 4 x ∧ e ≤ t.size := by
  unfold readA at h
  split at h
  · rw [Int.toNat_natCast] at h
    obtain ⟨h1, h2, h3⟩ := readV_text h
    refine ⟨?_, h3⟩
    have e1 : (t.extract p e).toList = (t.data.toList.drop p).take (e - p) := by
      rw [ByteArray.toList_eq]
      simp [List.extract_eq_take_drop]
    have e2 : e = p + (e - p) := by omega
    rw [h1, e1]
    conv => lhs; rw [e2]
    exact List.take_add
  · simp at h

end Gr
end Go.Proofs.Ytabnghiphmongaa
