/-
  The contracts of the four bytes of a sum, and of the specification's Sealed and Unsealed.
-/
import Derived.Test.YtobdmjoonjblpaaGreatDoorSumSpec
import Derived.Deep.RegionHeld3
namespace Go.Proofs.YtobdmjoonjblpaaGreatDoor
open Go.RowKit

theorem four_row (X : Nat) (hX : X < 4294967296) (w : World) :
    (convert 67 9 (.slice (some ⟨w.heap.size, 0, none⟩) 4 4)).run Tryz.prog (w.alloc (.cells #[.int .u8 ((X : Int) / 16777216), .int .u8 ((X : Int) / 65536 % 256), .int .u8 ((X : Int) / 256 % 256), .int .u8 ((X : Int) % 256)] 5)) =
      .ok (.string ⟨(four X).toArray⟩) (w.alloc (.cells #[.int .u8 ((X : Int) / 16777216), .int .u8 ((X : Int) / 65536 % 256), .int .u8 ((X : Int) / 256 % 256), .int .u8 ((X : Int) % 256)] 5)) := by
  refine run_convert_bytes_back _ 67 9 5 ⟨w.heap.size, 0, none⟩ 4 (four X) Tryz.underlying67 Tryz.underlying5 Tryz.underlying9 fun j hj => ?_
  have hj4 : j < 4 := hj
  rw [Addr.add_lit, Nat.zero_add, cell_of_row _ w.heap.size j _ 5 (0, 0) (heap_alloc_new w _)]
  have h1 : ((UInt8.ofNat (X / 16777216)).toNat : Int) = (X : Int) / 16777216 := by rw [toNat_ofNat_small _ (by omega)]; omega
  have h2 : ((UInt8.ofNat (X / 65536)).toNat : Int) = (X : Int) / 65536 % 256 := by simp [UInt8.toNat_ofNat']
  have h3 : ((UInt8.ofNat (X / 256)).toNat : Int) = (X : Int) / 256 % 256 := by simp [UInt8.toNat_ofNat']
  have h4 : ((UInt8.ofNat X).toNat : Int) = (X : Int) % 256 := by simp [UInt8.toNat_ofNat']
  rw [← h1, ← h2, ← h3, ← h4]
  match j, hj4 with
  | 0, _ => rfl
  | 1, _ => rfl
  | 2, _ => rfl
  | 3, _ => rfl

set_option maxRecDepth 100000 in
set_option maxHeartbeats 1000000 in
theorem four_any (X : Nat) (hX : X < 4294967296) (w : World) :
    Calls Tryz.prog 125 #[.int .u32 X] w fun e w' => e = .returned (.string ⟨(four X).toArray⟩) ∧ Below w.heap.size w w' := by
  have hcv := four_row X hX w
  go_enter Tryz.func125, Tryz.ntmps125
  go_wp2
  go_ret
  exact ⟨rfl, (Below.refl _ _).alloc (Nat.le_refl _) _⟩

theorem specSumOf_any (s : ByteArray) (hs : s.size ≤ 140737488355328) (w : World) :
    Calls Tryz.prog 126 #[.string s] w fun e w' => e = .returned (.int .u32 ((sumN 4294967295 s.data.toList : Nat) : Int)) ∧ w' = w := by
  have H := hide (specSum_any 4294967295 (by omega) s hs w)
  go_enter Tryz.func126, Tryz.ntmps126
  go_wp2_with fail
  refine (unhide H).mono ?_
  rintro e w1 ⟨rfl, rfl⟩
  go_wp2
  go_ret
  exact ⟨rfl, rfl⟩
end Go.Proofs.YtobdmjoonjblpaaGreatDoor
