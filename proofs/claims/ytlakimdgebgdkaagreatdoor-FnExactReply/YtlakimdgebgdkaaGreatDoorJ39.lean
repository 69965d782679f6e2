/-
  Texts of this claim, one behind the other: Rg10.
-/
import Derived.Test.YtlakimdgebgdkaaGreatDoorJ34
import Derived.Test.YtlakimdgebgdkaaGreatDoorJ38

/-
  The specification's contract of RoundOf, in the form that a law's walk asks for; what it tells is small.
-/
namespace Go.Proofs.YtlakimdgebgdkaaGreatDoor
namespace Gr
open Go.RowKit

theorem specRound_gen (B : Nat) (v : Value) (Q : List (ByteArray × ByteArray)) (r : Int) (h1 : pasize Q ≤ 1048576) (w : World) (hB : B ≤ w.heap.size) (hv : PaAt w v B Q) :
    Calls Tryz.prog 14 #[v, .int .i64 r] w fun e w' => (∃ d c, e = .returned (.tuple #[d, c, .bool (Rg.roOk Q r)]) ∧ InOwn w' w.heap.size d (Rg.roP Q r) ∧ CeAt w' c w'.heap.size (Rg.roC Q r).s (Rg.roC Q r).Q (Rg.roC Q r).M (Rg.roC Q r).Y (Rg.roC Q r).G) ∧ Below w.heap.size w w' := by
  obtain ⟨a, c, rfl, hQ, _⟩ := hv
  exact Rg.specRound_any a Q.length c B Q r (pasize_le h1).1 w hB hQ

theorem roC_small (Q : List (ByteArray × ByteArray)) (r : Int) : csize (Rg.roC Q r).Q (Rg.roC Q r).M (Rg.roC Q r).Y (Rg.roC Q r).G ≤ 1048576 ∧ mkAll 1 (Rg.roC Q r).Q (Rg.roC Q r).M (Rg.roC Q r).Y (Rg.roC Q r).G ≤ 100000000 := by
  unfold Rg.roC
  split
  · exact rc_small _
  · simp [csize, psize, mkAll, mkY, mkM, gbulk, offQ]

theorem roP_small (Q : List (ByteArray × ByteArray)) (r : Int) : (Rg.roP Q r).length ≤ 100000 := by
  unfold Rg.roP
  split
  · rename_i h
    unfold Rg.roOk at h
    rw [Bool.and_eq_true] at h
    have hM := (Rg.state_map h.1).1
    have h2 := Rg.get_size Q (Rg.qk r.toNat)
    have h3 := Rg.map_tot hM
    unfold Rg.poolP
    rw [List.length_map, ByteArray.toList_eq]
    show (Rg.oT (Rg.getP Q (Rg.qk r.toNat))).data.toList.length ≤ _
    rw [Array.length_toList]
    exact Nat.le_trans h2 h3
  · simp
end Gr
end Go.Proofs.YtlakimdgebgdkaaGreatDoor
