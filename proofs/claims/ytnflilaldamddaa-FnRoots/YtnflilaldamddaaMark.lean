/-
  The contract of laws.markText: a text for each number.
-/
import Derived.Test.YtnflilaldamddaaDevEq
namespace Go.Proofs.Ytnflilaldamddaa
open Go.RowKit

/-- One figure. -/
def fig1 (k : Nat) : ByteArray := ⟨#[UInt8.ofNat (48 + k % 10)]⟩

def mkT : Nat → Nat → ByteArray → ByteArray
  | 0, _, out => out
  | f + 1, k, out => if k = 0 then out else mkT f (k / 10) (fig1 k ++ out)

/-- The text of a number from 1 on. -/
def markT (k : Nat) : ByteArray := ⟨#[109]⟩ ++ mkT 20 k ⟨#[]⟩

theorem mkT_step (f k : Nat) (out : ByteArray) (h : k ≠ 0) : mkT (f + 1) k out = mkT f (k / 10) (fig1 k ++ out) := if_neg h
theorem mkT_end (f : Nat) (out : ByteArray) : mkT f 0 out = out := by cases f <;> simp [mkT]

theorem fig_row (k : Nat) (w : World) :
    (convert 22 9 (.slice (some ⟨w.heap.size, 0, none⟩) 1 1)).run Try.prog (w.alloc (.cells #[.int .u8 (48 + (k : Int) % 10)] 5)) = .ok (.string (fig1 k)) (w.alloc (.cells #[.int .u8 (48 + (k : Int) % 10)] 5)) := by
  refine run_convert_bytes_back _ 22 9 5 ⟨w.heap.size, 0, none⟩ 1 [UInt8.ofNat (48 + k % 10)] Try.underlying22 Try.underlying5 Try.underlying9 fun j hj => ?_
  have hj0 : j = 0 := by simp at hj; omega
  subst hj0
  rw [Addr.add_lit, Nat.zero_add, cell_of_row _ w.heap.size 0 _ 5 (0, 0) (heap_alloc_new w _)]
  have h : ((UInt8.ofNat (48 + k % 10)).toNat : Int) = 48 + (k : Int) % 10 := by rw [toNat_ofNat_small _ (by omega)]; omega
  rw [← h]
  rfl

end Go.Proofs.Ytnflilaldamddaa
