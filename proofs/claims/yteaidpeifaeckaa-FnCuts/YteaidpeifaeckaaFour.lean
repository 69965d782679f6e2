/-
  The contracts of the four bytes of a sum, and of the specification's Sealed and Unsealed.
-/
import Derived.Test.YteaidpeifaeckaaSumSpec
import Derived.Deep.RegionHeld3
namespace Go.Proofs.Yteaidpeifaeckaa
open Go.RowKit

theorem four_row (X : Nat) (hX : X < 4294967296) (w : World) :
    (convert 22 9 (.slice (some ⟨w.heap.size, 0, none⟩) 4 4)).run Try.prog (w.alloc (.cells #[.int .u8 ((X : Int) / 16777216), .int .u8 ((X : Int) / 65536 % 256), .int .u8 ((X : Int) / 256 % 256), .int .u8 ((X : Int) % 256)] 5)) =
      .ok (.string ⟨(four X).toArray⟩) (w.alloc (.cells #[.int .u8 ((X : Int) / 16777216), .int .u8 ((X : Int) / 65536 % 256), .int .u8 ((X : Int) / 256 % 256), .int .u8 ((X : Int) % 256)] 5)) := by
  refine run_convert_bytes_back _ 22 9 5 ⟨w.heap.size, 0, none⟩ 4 (four X) Try.underlying22 Try.underlying5 Try.underlying9 fun j hj => ?_
  have hj4 : j < 4 := hj
  rw [Addr.add_lit, Nat.zero_add, cell_of_row _ w.heap.size j _ 5 (0, 0) (heap_alloc_new w _)]
  have h1 : ((UInt8.ofNat (X / 16777216)).toNat : Int) = (X : Int) / 16777216 := by rw [toNat_ofNat_small _ (by omega)]; omega
  have h2 : ((UInt8.ofNat (X / 65536)).toNat : Int) = (X : Int) / 65536 % 256 := by simp [UInt8.toNat_ofNat']
  have h3 : ((UInt8.ofNat (X / 256)).toNat : Int) = (X : Int) / 256 % 256 := by simp [UInt8.toNat_ofNat']
  have h4 : ((UInt8.ofNat X).toNat : Int) = (X : Int) % 256 := by simp [UInt8.toNat_ofNat']
  rw [← h1, ← h2, ← h3, ← h4]
  match j, hj4 with
  | 0, _ => rfl
  | 1, _ => rfl
  | 2, _ => rfl
  | 3, _ => rfl

end Go.Proofs.Yteaidpeifaeckaa
