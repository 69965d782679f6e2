/-
  Texts of this claim, one behind the other: DevOk, DevEq, Mark.
-/
import Derived.Test.YtjhnippfepbjmaaGreatDoorJ4
import Derived.Deep.RegionHeld3

/-
  The contracts of spec.l01In, spec.l03Put and spec.DeviceOk.
-/
namespace Go.Proofs.YtjhnippfepbjmaaGreatDoor
open Go.RowKit

theorem l01In_dv (x y z : Int) (w : World) :
    Calls Tryz.prog 31 #[.int .i64 x, .int .i64 y, .int .i64 z] w fun e w' => e = .returned (.bool (decide (y ≤ x) && decide (x ≤ z))) ∧ w' = w := by
  go_enter Tryz.func31, Tryz.ntmps31
  go_wp2
  all_goals (go_ret; exact ⟨by simp_all <;> omega, rfl⟩)

/-- Whether a put is right on n sectors. -/
def putOk (n : Nat) (x : Int) (s : ByteArray) : Bool := (decide (0 ≤ x) && decide (x ≤ (n : Int) - 1)) && decide ((s.size : Int) ≤ 64)

def secOk (s : ByteArray) : Bool := decide ((s.size : Int) ≤ 64)
def putOk2 (n : Nat) (q : Int × ByteArray) : Bool := putOk n q.1 q.2

/-- Whether a device is right. -/
def devOk (L : List ByteArray) (Q : List (Int × ByteArray)) : Bool :=
  (decide ((1 : Int) ≤ (L.length : Int)) && decide ((L.length : Int) ≤ 400)) && (decide ((Q.length : Int) ≤ 400) && (L.all secOk && Q.all (putOk2 L.length)))

theorem all_take_succ {α : Type} (p : α → Bool) (L : List α) (k : Nat) (h : k < L.length) : (L.take (k + 1)).all p = ((L.take k).all p && p L[k]) := by
  rw [List.take_succ_eq_append_getElem h, List.all_append]
  simp

theorem all_false {α : Type} (p : α → Bool) (L : List α) (k : Nat) (h : k < L.length) (hp : p L[k] = false) : L.all p = false := by
  rw [List.all_eq_false]
  exact ⟨L[k], List.getElem_mem h, by simp [hp]⟩

end Go.Proofs.YtjhnippfepbjmaaGreatDoor

/-
  The contracts of laws.eqStringS, eqPut, eqPutS and eqDevice at what is the same: true.
-/
namespace Go.Proofs.YtjhnippfepbjmaaGreatDoor
open Go.RowKit

end Go.Proofs.YtjhnippfepbjmaaGreatDoor

/-
  The contract of laws.markText: a text for each number.
-/
namespace Go.Proofs.YtjhnippfepbjmaaGreatDoor
open Go.RowKit

/-- One figure. -/
def fig1 (k : Nat) : ByteArray := ⟨#[UInt8.ofNat (48 + k % 10)]⟩

def mkT : Nat → Nat → ByteArray → ByteArray
  | 0, _, out => out
  | f + 1, k, out => if k = 0 then out else mkT f (k / 10) (fig1 k ++ out)

/-- The text of a number from 1 on. -/
def markT (k : Nat) : ByteArray := ⟨#[109]⟩ ++ mkT 20 k ⟨#[]⟩

theorem mkT_step (f k : Nat) (out : ByteArray) (h : k ≠ 0) : mkT (f + 1) k out = mkT f (k / 10) (fig1 k ++ out) := if_neg h
theorem mkT_end (f : Nat) (out : ByteArray) : mkT f 0 out = out := by cases f <;> simp [mkT]

theorem fig_row (k : Nat) (w : World) :
    (convert 66 9 (.slice (some ⟨w.heap.size, 0, none⟩) 1 1)).run Tryz.prog (w.alloc (.cells #[.int .u8 (48 + (k : Int) % 10)] 5)) = .ok (.string (fig1 k)) (w.alloc (.cells #[.int .u8 (48 + (k : Int) % 10)] 5)) := by
  refine run_convert_bytes_back _ 66 9 5 ⟨w.heap.size, 0, none⟩ 1 [UInt8.ofNat (48 + k % 10)] Tryz.underlying66 Tryz.underlying5 Tryz.underlying9 fun j hj => ?_
  have hj0 : j = 0 := by simp at hj; omega
  subst hj0
  rw [Addr.add_lit, Nat.zero_add, cell_of_row _ w.heap.size 0 _ 5 (0, 0) (heap_alloc_new w _)]
  have h : ((UInt8.ofNat (48 + k % 10)).toNat : Int) = 48 + (k : Int) % 10 := by rw [toNat_ofNat_small _ (by omega)]; omega
  rw [← h]
  rfl

set_option maxRecDepth 100000 in
set_option maxHeartbeats 1000000 in
theorem markText_any (k : Nat) (h0 : 0 < k) (h1 : k ≤ 1000000000) (w : World) :
    Calls Tryz.prog 17 #[.int .i64 (k : Int)] w fun e w' => e = .returned (.string (markT k)) ∧ Below w.heap.size w w' := by
  have hk0 : ¬ (k : Int) ≤ 0 := by omega
  go_enter Tryz.func17, Tryz.ntmps17
  go_wp2_with fail
  go_loopw [0, 3] (fun a0 a3 wr => ∃ (y f : Nat) (out : ByteArray), a0 = .int .i64 y ∧ y ≤ 1000000000 ∧ y < 10 ^ f ∧ f ≤ 20 ∧ out.size + f ≤ 20 ∧ a3 = .string out ∧ Hid (mkT f y out = mkT 20 k ⟨#[]⟩) ∧ Below w.heap.size w wr) (fun a0 _ _ => (intOf a0).toNat)
  case atStart => exact ⟨k, 20, ⟨#[]⟩, rfl, h1, by omega, Nat.le_refl _, Nat.le_refl _, rfl, rfl, Below.refl _ _⟩
  case round =>
    obtain ⟨y, f, out, rfl, hy1, hyf, hf, hos, rfl, hm, hb⟩ := hrel
    by_cases hy : 0 < y
    · obtain ⟨f, rfl⟩ : ∃ f', f = f' + 1 := ⟨f - 1, by cases f with | zero => simp at hyf; omega | succ f => rfl⟩
      have hcv := fig_row y wr
      have hst := mkT_step f y out (by omega)
      have HM := hide (hst.symm.trans (unhide hm))
      have hyf2 : y / 10 < 10 ^ f := by rw [Nat.pow_succ] at hyf; omega
      have HYF := hide hyf2
      have hfs : (fig1 y).size = 1 := rfl
      generalize fig1 y = g at hcv HM hfs
      clear hst hm hyf hyf2
      have hy' : (0 : Int) < (y : Int) := by omega
      go_wp2
      go_roundw
      case rel => exact ⟨y / 10, f, g ++ out, by go_num, by omega, unhide HYF, by omega, by rw [ByteArray.size_append]; omega, rfl, unhide HM, hb.alloc hb.size _⟩
      case measure => simp [intOf]; omega
    · obtain rfl : y = 0 := by omega
      have hm2 := unhide hm
      rw [mkT_end] at hm2
      have HM := hide hm2
      clear hm hm2 hyf
      go_wp2
      go_ret
      refine ⟨?_, hb⟩
      unfold markT
      rw [← unhide HM]
      rfl
end Go.Proofs.YtjhnippfepbjmaaGreatDoor
