/-
 Base, WMath, WVar, Draw.
-/
import Derived.WalkKit
import Derived.ProofKit
import Derived.OpenShut
import Derived.WalkSpells
import Derived.WalkSmall
import Derived.WalkLawsBesides
import Derived.Deep.QuietTactic
import Derived.BigQuiet
import Derived.Laws.BitsAllLaws
import Derived.Laws.BytesArg
import Derived.Laws.IdiomStrings
import Derived.Test.YtkjclkelnheheaaProg
namespace Go.Proofs.Ytkjclkelnheheaa
open Go.RowKit
theorem hide {p : Prop} (h : p) : Hid p := h
theorem unhide {p : Prop} (h : Hid p) : p := h
theorem below_append {B : Nat} {w wr w1 : World} {o : Obj} {e size n : Nat} {v : Value} {xs : List Value} (hb : Below B w wr) (hB : B ≤ w.heap.size) (hown : wr.ownsRow B e size v n xs)
    (hg : (wr.alloc o).grownBy w1 v.ownBlock) : Below B w w1 := by
  have hs := hb.size
  exact (hb.alloc (by omega) o).grown hg (by simp; omega) (fun k hk => (hown.lt k hk).1)
def varB : Nat → Nat → List UInt8
  | 0, n => [UInt8.ofNat n]
  | f + 1, n => if 127 < n then UInt8.ofNat (n % 128 + 128) :: varB f (n / 128) else [UInt8.ofNat n]
theorem and_mask (a : Int) (m : Nat) (hm : m < 9223372036854775808) : 0 ≤ bits .and .i64 a (m : Int) ∧ bits .and .i64 a (m : Int) ≤ (m : Int) := by
  have e : bits .and .i64 a (m : Int) = IntKind.i64.wrap ((BitVec.ofInt 64 a &&& BitVec.ofInt 64 (m : Int)).toNat : Int) := rfl
  have hb : (BitVec.ofInt 64 a &&& BitVec.ofInt 64 (m : Int)).toNat ≤ m := by
    rw [BitVec.toNat_and, ofInt_u64 m (by omega)]
    exact Nat.and_le_right
  rw [e, IntWalk.i64_in _ ⟨by omega, by omega⟩]
  omega
theorem and_255 (a : Int) : 0 ≤ bits .and .i64 a 255 ∧ bits .and .i64 a 255 ≤ 255 := and_mask a 255 (by omega)
def Code (a : Option Addr) (len B : Nat) (w : World) : Prop := ∀ j, j < len → ∃ b off z, a = some ⟨b, off, none⟩ ∧ b < B ∧ w.cell? ⟨b, off + j, none⟩ = some (.int .u8 z) ∧ 0 ≤ z ∧ z ≤ 255
def Cur (a : Option Addr) (len cap g : Nat) (w : World) : Prop :=
  ∃ (i : Nat) (h : Int), i ≤ len ∧ w.heap[g]? = some (.cells #[.slice a len cap, .int .i64 i, .int .i64 h] 89 (0, 0))
theorem cell_of_three {w : World} {g : Nat} {x y z : Value} {t : TypeId} (h : w.heap[g]? = some (.cells #[x, y, z] t (0, 0))) :
    w.cell? ⟨g, 0, none⟩ = some x ∧ w.cell? ⟨g, 1, none⟩ = some y ∧ w.cell? ⟨g, 2, none⟩ = some z ∧ ∀ j, w.frozen? ⟨g, j, none⟩ = false := by
  refine ⟨?_, ?_, ?_, fun j => ?_⟩
  · rw [cell_of_row w g 0 _ t (0, 0) h]; rfl
  · rw [cell_of_row w g 1 _ t (0, 0) h]; rfl
  · rw [cell_of_row w g 2 _ t (0, 0) h]; rfl
  · exact frozen_of_row w g j _ t h
theorem grown_set (w : World) (g j : Nat) (u : Value) : w.grownBy (w.setCell ⟨g, j, none⟩ u) (some g) :=
  ⟨rfl, rfl, rfl, by simp [World.setCell], fun k _ hne => Below.heap_setCell _ _ _ _ (fun e => hne (by rw [e]))⟩
theorem grown_trans {a b c : World} {row : Option Nat} (h : a.grownBy b row) (k : b.grownBy c row) : a.grownBy c row :=
  ⟨k.os.trans h.os, k.tape.trans h.tape, k.output.trans h.output, Nat.le_trans h.size k.size, fun i hi hne => (k.block i (Nat.lt_of_lt_of_le hi h.size) hne).trans (h.block i hi hne)⟩
theorem grown_drewN (w : World) (k : Nat) (row : Option Nat) : w.grownBy (w.drewN k) row := ⟨rfl, rfl, rfl, Nat.le_refl _, fun _ _ _ => rfl⟩
theorem three_two {w : World} {g : Nat} {x y z : Value} {t : TypeId} (h : w.heap[g]? = some (.cells #[x, y, z] t (0, 0))) (u : Value) :
    (w.setCell ⟨g, 2, none⟩ u).heap[g]? = some (.cells #[x, y, u] t (0, 0)) := heap_setCell_same w g 2 _ t u h
theorem three_one {w : World} {g : Nat} {x y z : Value} {t : TypeId} (h : w.heap[g]? = some (.cells #[x, y, z] t (0, 0))) (u : Value) :
    (w.setCell ⟨g, 1, none⟩ u).heap[g]? = some (.cells #[x, u, z] t (0, 0)) := heap_setCell_same w g 1 _ t u h
set_option maxRecDepth 100000 in
set_option maxHeartbeats 1000000 in
theorem byte_any (a : Option Addr) (len cap g B : Nat) (hl : len ≤ 1048576) (hB : B ≤ g) (w : World) (hc : Cur a len cap g w) (hd : Code a len B w) :
    Calls Try.prog 48 #[.pointer (some ⟨g, 0, none⟩)] w fun e w' => (∃ x : Int, e = .returned (.int .i64 x) ∧ 0 ≤ x ∧ x ≤ 255) ∧ Cur a len cap g w' ∧ w.grownBy w' (some g) := by
  obtain ⟨i, h, hi, hg⟩ := hc
  obtain ⟨c0, c1, c2, cf⟩ := cell_of_three hg
  have f1 := cf 1
  have f2 := cf 2
  have HG := hide hg
  clear hg cf
  by_cases hlt : i < len
  · obtain ⟨b, off, z, rfl, hb, hz, hz0, hz1⟩ := hd i hlt
    clear hd
    have hbg : b ≠ g := by omega
    have hx0 : (0 : Int) ≤ (i : Int) := by omega
    have hx1 : (i : Int) < (len : Int) := by omega
    go_enter Try.func48, Try.ntmps48
    go_wp2_with fail
    go_quiet (fail)
    go_wp2_with fail
    go_quiet (fail)
    go_wp2_with fail
    go_quiet (fail)
    go_wp2
    go_ret
    refine ⟨⟨_, rfl, and_255 _⟩, ⟨i + 1, wrap64 (wrap64 (h * 6364136223846793005) + 1442695040888963407), by omega, ?_⟩, ?_⟩
    · exact three_one (three_two (unhide HG) _) _
    · exact grown_trans (grown_trans (grown_set w g 2 _) (grown_drewN _ _ _)) (grown_set _ g 1 _)
  · clear hd
    have hx1 : ¬ (i : Int) < (len : Int) := by omega
    go_enter Try.func48, Try.ntmps48
    go_wp2_with fail
    go_quiet (fail)
    go_wp2_with fail
    go_quiet (fail)
    go_wp2
    go_ret
    refine ⟨⟨_, rfl, and_255 _⟩, ⟨i, wrap64 (wrap64 (h * 6364136223846793005) + 1442695040888963407), hi, ?_⟩, ?_⟩
    · exact three_two (unhide HG) _
    · exact grown_trans (grown_trans (grown_set w g 2 _) (grown_drewN _ _ _)) (grown_drewN _ _ _)
theorem Code.grown {a : Option Addr} {len B g : Nat} {w w' : World} (h : Code a len B w) (hB : B ≤ g) (hg : w.grownBy w' (some g)) : Code a len B w' := by
  intro j hj
  obtain ⟨b, off, z, e, hb, hc, h0, h1⟩ := h j hj
  refine ⟨b, off, z, e, hb, ?_, h0, h1⟩
  exact hg.cell hc (fun e => by have := Option.some.inj e; simp at this; omega)
def DrawPost (a : Option Addr) (len cap g : Nat) (w : World) (n : Int) (e : Ending) (w' : World) : Prop :=
  ∃ x : Int, e = .returned (.int .i64 x) ∧ 0 ≤ x ∧ x < n ∧ Cur a len cap g w' ∧ w.grownBy w' (some g)
set_option maxRecDepth 100000 in
theorem below_small (a : Option Addr) (len cap g B : Nat) (n : Int) (hl : len ≤ 1048576) (hB : B ≤ g) (h0 : 0 < n) (h1 : n ≤ 256) (w : World) (hc : Cur a len cap g w) (hd : Code a len B w) :
    Calls Try.prog 21 #[.pointer (some ⟨g, 0, none⟩), .int .i64 n] w fun e w' => DrawPost a len cap g w n e w' := by
  have H := hide (byte_any a len cap g B hl hB w hc hd)
  have hne : ¬ n ≤ 0 := by omega
  clear hc hd
  go_enter Try.func21, Try.ntmps21
  go_wp2_with fail
  refine (unhide H).mono ?_
  rintro e w1 ⟨⟨x, rfl, hx0, hx1⟩, hc1, hg1⟩
  have HC := hide hc1
  have HG := hide hg1
  clear hc1 hg1
  go_wp2
  go_ret
  exact ⟨x % n, rfl, Int.emod_nonneg _ (by omega), Int.emod_lt_of_pos _ h0, unhide HC, unhide HG⟩
set_option maxRecDepth 100000 in
theorem below_great (a : Option Addr) (len cap g B : Nat) (n : Int) (hl : len ≤ 1048576) (hB : B ≤ g) (h0 : 256 < n) (w : World) (hc : Cur a len cap g w) (hd : Code a len B w) :
    Calls Try.prog 21 #[.pointer (some ⟨g, 0, none⟩), .int .i64 n] w fun e w' => DrawPost a len cap g w n e w' := by
  have H := hide (fun (w : World) (hc : Cur a len cap g w) (hd : Code a len B w) => byte_any a len cap g B hl hB w hc hd)
  have hne : ¬ n ≤ 0 := by omega
  have HC0 := hide hc
  have HD0 := hide hd
  clear hc hd
  go_enter Try.func21, Try.ntmps21
  go_wp2_with fail
  refine (unhide H w (unhide HC0) (unhide HD0)).mono ?_
  rintro e w1 ⟨⟨x1, rfl, hx0, hx1⟩, hc1, hg1⟩
  have HC1 := hide hc1
  have HG1 := hide hg1
  have HD1 := hide ((unhide HD0).grown hB hg1)
  clear hc1 hg1
  go_wp2_with fail
  refine (unhide H w1 (unhide HC1) (unhide HD1)).mono ?_
  rintro e w2 ⟨⟨x2, rfl, hy0, hy1⟩, hc2, hg2⟩
  have HC2 := hide hc2
  have HG2 := hide (grown_trans (unhide HG1) hg2)
  have HD2 := hide ((unhide HD1).grown hB hg2)
  clear hc2 hg2
  go_wp2_with fail
  refine (unhide H w2 (unhide HC2) (unhide HD2)).mono ?_
  rintro e w3 ⟨⟨x3, rfl, hz0, hz1⟩, hc3, hg3⟩
  have HC3 := hide hc3
  have HG3 := hide (grown_trans (unhide HG2) hg3)
  have HD3 := hide ((unhide HD2).grown hB hg3)
  clear hc3 hg3
  go_wp2_with fail
  refine (unhide H w3 (unhide HC3) (unhide HD3)).mono ?_
  rintro e w4 ⟨⟨x4, rfl, hu0, hu1⟩, hc4, hg4⟩
  have HC4 := hide hc4
  have HG4 := hide (grown_trans (unhide HG3) hg4)
  clear hc4 hg4
  go_wp2
  go_ret
  exact ⟨(x1 * 16777216 + x2 * 65536 + x3 * 256 + x4) % n, rfl, Int.emod_nonneg _ (by omega), Int.emod_lt_of_pos _ (by omega), unhide HC4, unhide HG4⟩
theorem below_any (a : Option Addr) (len cap g B : Nat) (n : Int) (hl : len ≤ 1048576) (hB : B ≤ g) (h0 : 0 < n) (w : World) (hc : Cur a len cap g w) (hd : Code a len B w) :
    Calls Try.prog 21 #[.pointer (some ⟨g, 0, none⟩), .int .i64 n] w fun e w' => DrawPost a len cap g w n e w' := by
  by_cases h : n ≤ 256
  · exact below_small a len cap g B n hl hB h0 h w hc hd
  · exact below_great a len cap g B n hl hB (by omega) w hc hd
theorem once_any (a : Option Addr) (len cap g B : Nat) (n : Int) (hl : len ≤ 1048576) (hB : B ≤ g) (h0 : 0 < n) (w : World) (hc : Cur a len cap g w) (hd : Code a len B w) :
    Calls Try.prog 20 #[.pointer (some ⟨g, 0, none⟩), .int .i64 n] w fun e w' => (∃ b : Bool, e = .returned (.bool b)) ∧ Cur a len cap g w' ∧ w.grownBy w' (some g) := by
  have H := hide (below_any a len cap g B n hl hB h0 w hc hd)
  clear hc hd
  go_enter Try.func20, Try.ntmps20
  go_wp2_with fail
  refine (unhide H).mono ?_
  rintro e w1 ⟨x, rfl, hx0, hx1, hc1, hg1⟩
  have HC := hide hc1
  have HG := hide hg1
  clear hc1 hg1
  go_wp2
  go_ret
  exact ⟨⟨x == 0, rfl⟩, unhide HC, unhide HG⟩
set_option maxRecDepth 100000 in
set_option maxHeartbeats 1000000 in
theorem new_any (a : Option Addr) (len cap : Nat) (hl : len ≤ 1048576) (w : World) (hd : Code a len w.heap.size w) :
    Calls Try.prog 18 #[.slice a len cap] w fun e w' => e = .returned (.pointer (some ⟨w.heap.size, 0, none⟩)) ∧ Cur a len cap w.heap.size w' ∧ Below w.heap.size w w' := by
  have HD := hide hd
  clear hd
  go_enter Try.func18, Try.ntmps18
  go_wp2_with fail
  go_loop [3, 4] (fun a3 a4 => ∃ (h : Int) (i : Nat), a3 = .int .i64 h ∧ a4 = .int .i64 i ∧ i ≤ len) (fun _ a4 => len - (intOf a4).toNat)
  case atStart => exact ⟨_, 0, rfl, rfl, Nat.zero_le _⟩
  case round =>
    obtain ⟨h, i, rfl, rfl, hi⟩ := hrel
    by_cases hlt : i < len
    · by_cases h4 : i < 4000
      · obtain ⟨b, off, z, rfl, hb, hz, hz0, hz1⟩ := unhide HD i hlt
        have hx0 : (0 : Int) ≤ (i : Int) := by omega
        have hx1 : (i : Int) < (len : Int) := by omega
        go_wp2
        go_round
        case rel => exact ⟨_, i + 1, rfl, by go_num, by omega⟩
        case measure => simp [intOf]; omega
      · go_wp2
        go_ret
        exact ⟨rfl, ⟨0, h, Nat.zero_le _, heap_alloc_new w _⟩, (Below.refl _ _).alloc (Nat.le_refl _) _⟩
    · go_wp2
      go_ret
      exact ⟨rfl, ⟨0, h, Nat.zero_le _, heap_alloc_new w _⟩, (Below.refl _ _).alloc (Nat.le_refl _) _⟩
end Go.Proofs.Ytkjclkelnheheaa
