/-
  Texts of one byte, out of a row of one byte.
-/
import Derived.Test.YteaidpeifaeckaaPgTo
namespace Go.Proofs.Yteaidpeifaeckaa
namespace Pg
open Go.RowKit

/-- A text of one byte. -/
theorem byte_row (b : UInt8) (w : World) :
    (convert 22 9 (.slice (some ⟨w.heap.size, 0, none⟩) 1 1)).run Try.prog (w.alloc (.cells #[.int .u8 (b.toNat : Int)] 5)) = .ok (.string ⟨#[b]⟩) (w.alloc (.cells #[.int .u8 (b.toNat : Int)] 5)) := by
  refine run_convert_bytes_back _ 22 9 5 ⟨w.heap.size, 0, none⟩ 1 [b] Try.underlying22 Try.underlying5 Try.underlying9 fun j hj => ?_
  have hj0 : j = 0 := by simp at hj; omega
  subst hj0
  rw [Addr.add_lit, Nat.zero_add, cell_of_row _ w.heap.size 0 _ 5 (0, 0) (heap_alloc_new w _)]
  rfl

theorem byte_row_drew (b : UInt8) (x : Int) (hx : IntKind.u8.wrap x = (b.toNat : Int)) (w : World) :
    (convert 22 9 (.slice (some ⟨w.heap.size, 0, none⟩) 1 1)).run Try.prog (w.alloc (.cells #[.int .u8 (IntKind.u8.wrap x)] 5)).drew = .ok (.string ⟨#[b]⟩) (w.alloc (.cells #[.int .u8 (IntKind.u8.wrap x)] 5)).drew := by
  rw [hx]
  exact byte_row b w.drew

theorem byte_row_wrap (b : UInt8) (x : Int) (hx : IntKind.u8.wrap x = (b.toNat : Int)) (w : World) :
    (convert 22 9 (.slice (some ⟨w.heap.size, 0, none⟩) 1 1)).run Try.prog (w.alloc (.cells #[.int .u8 (IntKind.u8.wrap x)] 5)) = .ok (.string ⟨#[b]⟩) (w.alloc (.cells #[.int .u8 (IntKind.u8.wrap x)] 5)) := by
  rw [hx]
  exact byte_row b w

theorem byte_at (b : UInt8) (g : Nat) (w : World) (hc : w.cell? ⟨g, 0, none⟩ = some (.int .u8 (b.toNat : Int))) : (convert 22 9 (.slice (some ⟨g, 0, none⟩) 1 1)).run Try.prog w = .ok (.string ⟨#[b]⟩) w := by
  refine run_convert_bytes_back _ 22 9 5 ⟨g, 0, none⟩ 1 [b] Try.underlying22 Try.underlying5 Try.underlying9 fun j hj => ?_
  have hj0 : j = 0 := by simp at hj; omega
  subst hj0
  rw [Addr.add_lit, Nat.zero_add, hc]
  rfl

theorem byte_cell (b : UInt8) (x : Int) (hx : IntKind.u8.wrap x = (b.toNat : Int)) (w : World) : (w.alloc (.cells #[.int .u8 (IntKind.u8.wrap x)] 5)).drew.cell? ⟨w.heap.size, 0, none⟩ = some (.int .u8 (b.toNat : Int)) := by
  rw [hx]
  exact cell_of_row _ w.heap.size 0 _ 5 (0, 0) (heap_alloc_new w.drew _)

theorem lt_alloc {w : World} {g : Nat} (h : g < w.heap.size) (o : Obj) : g < (w.alloc o).drew.heap.size := by simp; omega

theorem lt_alloc' {w : World} {g : Nat} (h : g < w.heap.size) (o : Obj) : g < (w.alloc o).heap.size := by simp; omega

theorem lt_new (w : World) (o : Obj) : w.heap.size < (w.alloc o).drew.heap.size := by simp

end Pg
end Go.Proofs.Yteaidpeifaeckaa
