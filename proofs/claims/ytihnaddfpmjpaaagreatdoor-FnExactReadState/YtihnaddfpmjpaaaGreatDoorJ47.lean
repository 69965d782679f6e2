/-
 CyM.
-/
import Derived.Test.YtihnaddfpmjpaaaGreatDoorJ2
import Derived.Test.YtihnaddfpmjpaaaGreatDoorJ46
import Derived.Test.YtihnaddfpmjpaaaGreatDoorJ33
namespace Go.Proofs.YtihnaddfpmjpaaaGreatDoor
namespace Cy
open Go.RowKit
def shB (s : ByteArray) : ByteArray := Gr.vB (s.size : Int) ++ s
theorem shB_size (s : ByteArray) : (shB s).size ≤ s.size + 5 := by
  unfold shB
  rw [ByteArray.size_append]
  have := Gr.vB_size (s.size : Int)
  omega
def stA : ByteArray → Rg.PL → ByteArray
  | t, [] => t
  | t, q :: r => stA (t ++ shB q.1 ++ shB q.2) r
def stT (Q : Rg.PL) : ByteArray := stA (Gr.vB (Q.length : Int)) Q
theorem stA_snoc : ∀ (L : Rg.PL) (t : ByteArray) (q : ByteArray × ByteArray), stA t (L ++ [q]) = stA t L ++ shB q.1 ++ shB q.2
  | [], _, _ => rfl
  | _ :: r, _, q => stA_snoc r _ q
theorem stA_take (t : ByteArray) (L : Rg.PL) (j : Nat) (h : j < L.length) : stA t (L.take (j + 1)) = stA t (L.take j) ++ shB L[j].1 ++ shB L[j].2 := by
  rw [List.take_succ_eq_append_getElem h, stA_snoc]
theorem stA_size : ∀ (L : Rg.PL) (t : ByteArray), (∀ q ∈ L, q.1.size ≤ 8 ∧ q.2.size ≤ 40) → (stA t L).size ≤ t.size + 58 * L.length
  | [], t, _ => by simp [stA]
  | q :: r, t, h => by
    have h1 := stA_size r (t ++ shB q.1 ++ shB q.2) (fun x hx => h x (by simp [hx]))
    have h2 := h q (by simp)
    have h3 := shB_size q.1
    have h4 := shB_size q.2
    rw [ByteArray.size_append, ByteArray.size_append] at h1
    rw [List.length_cons]
    show (stA (t ++ shB q.1 ++ shB q.2) r).size ≤ _
    omega
theorem state_map {Q : Rg.PL} (h : Rg.stateOk Q = true) : Q.length ≤ 120 ∧ ∀ q ∈ Q, q.1.size ≤ 8 ∧ q.2.size ≤ 40 := by
  unfold Rg.stateOk at h
  simp only [Bool.and_eq_true, decide_eq_true_eq] at h
  exact ⟨h.1.1, fun q hq => (Rg.map_pair h.1 q hq).2⟩
theorem stT_size {Q : Rg.PL} (h : Rg.stateOk Q = true) : ∀ j, j ≤ Q.length → (stA (Gr.vB (Q.length : Int)) (Q.take j)).size ≤ 7000 := fun j hj => by
  obtain ⟨h1, h2⟩ := state_map h
  have h3 := stA_size (Q.take j) (Gr.vB (Q.length : Int)) (fun q hq => h2 q (List.mem_of_mem_take hq))
  have h4 := Gr.vB_size (Q.length : Int)
  have h5 : (Q.take j).length ≤ 120 := by rw [List.length_take]; omega
  omega
def textR (Q : Rg.PL) : ByteArray := if Rg.stateOk Q = true then sealB (stT Q) else ⟨#[]⟩
end Cy
end Go.Proofs.YtihnaddfpmjpaaaGreatDoor
