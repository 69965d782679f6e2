/-
  The contract of laws.markText: a text for each number.
-/
import Derived.Test.YtldbanpfhlmjmaaGrBase
namespace Go.Proofs.Ytldbanpfhlmjmaa
open Go.RowKit

/-- One figure. -/
def fig1 (k : Nat) : ByteArray := ⟨#[UInt8.ofNat (48 + k % 10)]⟩

def mkT : Nat → Nat → ByteArray → ByteArray
  | 0, _, out => out
  | f + 1, k, out => if k = 0 then out else mkT f (k / 10) (fig1 k ++ out)

/-- The text of a number from 1 on. -/
def markT (k : Nat) : ByteArray := ⟨#[109]⟩ ++ mkT 20 k ⟨#[]⟩

theorem mkT_step (f k : Nat) (out : ByteArray) (h : k ≠ 0) : mkT (f + 1) k out = mkT f (k / 10) (fig1 k ++ out) := if_neg h
theorem mkT_end (f : Nat) (out : ByteArray) : mkT f 0 out = out := by cases f <;> simp [mkT]

theorem fig_row (k : Nat) (w : World) :
    (convert 67 9 (.slice (some ⟨w.heap.size, 0, none⟩) 1 1)).run Try.prog (w.alloc (.cells #[.int .u8 (48 + (k : Int) % 10)] 5)) = .ok (.string (fig1 k)) (w.alloc (.cells #[.int .u8 (48 + (k : Int) % 10)] 5)) := by
  refine run_convert_bytes_back _ 67 9 5 ⟨w.heap.size, 0, none⟩ 1 [UInt8.ofNat (48 + k % 10)] Try.underlying67 Try.underlying5 Try.underlying9 fun j hj => ?_
  have hj0 : j = 0 := by simp at hj; omega
  subst hj0
  rw [Addr.add_lit, Nat.zero_add, cell_of_row _ w.heap.size 0 _ 5 (0, 0) (heap_alloc_new w _)]
  have h : ((UInt8.ofNat (48 + k % 10)).toNat : Int) = 48 + (k : Int) % 10 := by rw [toNat_ofNat_small _ (by omega)]; omega
  rw [← h]
  rfl

set_option maxRecDepth 100000 in
set_option maxHeartbeats 1000000 in
theorem markText_any (k : Nat) (h0 : 0 < k) (h1 : k ≤ 1000000000) (w : World) :
    Calls Try.prog 32 #[.int .i64 (k : Int)] w fun e w' => e = .returned (.string (markT k)) ∧ Below w.heap.size w w' := by
  have hk0 : ¬ (k : Int) ≤ 0 := by omega
  go_enter Try.func32, Try.ntmps32
  go_wp2_with fail
  go_loopw [0, 3] (fun a0 a3 wr => ∃ (y f : Nat) (out : ByteArray), a0 = .int .i64 y ∧ y ≤ 1000000000 ∧ y < 10 ^ f ∧ f ≤ 20 ∧ out.size + f ≤ 20 ∧ a3 = .string out ∧ Hid (mkT f y out = mkT 20 k ⟨#[]⟩) ∧ Below w.heap.size w wr) (fun a0 _ _ => (intOf a0).toNat)
  case atStart => exact ⟨k, 20, ⟨#[]⟩, rfl, h1, by omega, Nat.le_refl _, Nat.le_refl _, rfl, rfl, Below.refl _ _⟩
  case round =>
    obtain ⟨y, f, out, rfl, hy1, hyf, hf, hos, rfl, hm, hb⟩ := hrel
    by_cases hy : 0 < y
    · obtain ⟨f, rfl⟩ : ∃ f', f = f' + 1 := ⟨f - 1, by cases f with | zero => simp at hyf; omega | succ f => rfl⟩
      have hcv := fig_row y wr
      have hst := mkT_step f y out (by omega)
      have HM := hide (hst.symm.trans (unhide hm))
      have hyf2 : y / 10 < 10 ^ f := by rw [Nat.pow_succ] at hyf; omega
      have HYF := hide hyf2
      have hfs : (fig1 y).size = 1 := rfl
      generalize fig1 y = g at hcv HM hfs
      clear hst hm hyf hyf2
      have hy' : (0 : Int) < (y : Int) := by omega
      go_wp2
      go_roundw
      case rel => exact ⟨y / 10, f, g ++ out, by go_num, by omega, unhide HYF, by omega, by rw [ByteArray.size_append]; omega, rfl, unhide HM, hb.alloc hb.size _⟩
      case measure => simp [intOf]; omega
    · obtain rfl : y = 0 := by omega
      have hm2 := unhide hm
      rw [mkT_end] at hm2
      have HM := hide hm2
      clear hm hm2 hyf
      go_wp2
      go_ret
      refine ⟨?_, hb⟩
      unfold markT
      rw [← unhide HM]
      rfl
end Go.Proofs.Ytldbanpfhlmjmaa
