/-
 Base, Draw, WMath, WVar, WTrip.
-/
import Derived.WalkKit
import Derived.ProofKit
import Derived.OpenShut
import Derived.WalkSpells
import Derived.WalkSmall
import Derived.WalkLawsBesides
import Derived.Deep.QuietTactic
import Derived.BigQuiet
import Derived.Laws.BitsAllLaws
import Derived.Laws.BytesArg
import Derived.Laws.IdiomStrings
import Derived.Test.YthbhdfeafbineaaGreatProg
namespace Go.Proofs.YthbhdfeafbineaaGreat
open Go.RowKit
theorem hide {p : Prop} (h : p) : Hid p := h
theorem unhide {p : Prop} (h : Hid p) : p := h
def bytesV (l : List UInt8) : List Value := l.map fun b => Value.int .u8 (b.toNat : Int)
theorem bytesV_snoc (l : List UInt8) (c : UInt8) : bytesV l ++ [Value.int .u8 (c.toNat : Int)] = bytesV (l ++ [c]) := by
  simp [bytesV]
theorem toNat_ofNat_small (n : Nat) (h : n < 256) : (UInt8.ofNat n).toNat = n := by
  simp [UInt8.toNat_ofNat']; omega
theorem convert_own {P : Program} (w : World) (src dst e : TypeId) (base : Nat) (v : Value) (l : List UInt8) (hs : P.underlying src = some (.slice e)) (he : P.underlying e = some (.int .u8))
    (hd : P.underlying dst = some .string) (hown : w.ownsRow base e 1 v l.length (bytesV l)) : (convert src dst v).run P w = .ok (.string ⟨l.toArray⟩) w := by
  have hown0 := hown
  rcases hown.2 with ⟨rfl, h0⟩ | ⟨g, cap, cur, rfl, hg, hh, hnc, hcp, hcs, htake⟩
  · obtain rfl : l = [] := List.length_eq_zero_iff.1 h0
    exact run_convert_bytes_nil w src e hs he 0 0 dst hd
  · refine run_convert_bytes_back w src dst e ⟨g, 0, none⟩ cap l hs he hd fun j hj => ?_
    rw [Addr.add_lit, Nat.zero_add, hown0.cellAt j (by omega)]
    simp [bytesV, hj]
theorem own_snoc {w1 : World} {B e : Nat} {v' : Value} {pre : List UInt8} {c : UInt8} {x : Int} (hx : x = (c.toNat : Int))
    (h : w1.ownsRow B e 1 v' (pre.length + 1) (bytesV pre ++ [.int .u8 x])) : w1.ownsRow B e 1 v' (pre ++ [c]).length (bytesV (pre ++ [c])) := by
  rw [hx, bytesV_snoc] at h
  simpa using h
theorem one_byte (x : Int) : ∀ u, u ∈ [Value.int .u8 x] → u.oneCell' = true := by
  intro u hu; simp at hu; subst hu; rfl
theorem below_append {B : Nat} {w wr w1 : World} {o : Obj} {e size n : Nat} {v : Value} {xs : List Value} (hb : Below B w wr) (hB : B ≤ w.heap.size) (hown : wr.ownsRow B e size v n xs)
    (hg : (wr.alloc o).grownBy w1 v.ownBlock) : Below B w w1 := by
  have hs := hb.size
  exact (hb.alloc (by omega) o).grown hg (by simp; omega) (fun k hk => (hown.lt k hk).1)
theorem and_mask (a : Int) (m : Nat) (hm : m < 9223372036854775808) : 0 ≤ bits .and .i64 a (m : Int) ∧ bits .and .i64 a (m : Int) ≤ (m : Int) := by
  have e : bits .and .i64 a (m : Int) = IntKind.i64.wrap ((BitVec.ofInt 64 a &&& BitVec.ofInt 64 (m : Int)).toNat : Int) := rfl
  have hb : (BitVec.ofInt 64 a &&& BitVec.ofInt 64 (m : Int)).toNat ≤ m := by
    rw [BitVec.toNat_and, ofInt_u64 m (by omega)]
    exact Nat.and_le_right
  rw [e, IntWalk.i64_in _ ⟨by omega, by omega⟩]
  omega
theorem and_255 (a : Int) : 0 ≤ bits .and .i64 a 255 ∧ bits .and .i64 a 255 ≤ 255 := and_mask a 255 (by omega)
def Code (a : Option Addr) (len B : Nat) (w : World) : Prop := ∀ j, j < len → ∃ b off z, a = some ⟨b, off, none⟩ ∧ b < B ∧ w.cell? ⟨b, off + j, none⟩ = some (.int .u8 z) ∧ 0 ≤ z ∧ z ≤ 255
def Cur (a : Option Addr) (len cap g : Nat) (w : World) : Prop :=
  ∃ (i : Nat) (h : Int), i ≤ len ∧ w.heap[g]? = some (.cells #[.slice a len cap, .int .i64 i, .int .i64 h] 89 (0, 0))
theorem cell_of_three {w : World} {g : Nat} {x y z : Value} {t : TypeId} (h : w.heap[g]? = some (.cells #[x, y, z] t (0, 0))) :
    w.cell? ⟨g, 0, none⟩ = some x ∧ w.cell? ⟨g, 1, none⟩ = some y ∧ w.cell? ⟨g, 2, none⟩ = some z ∧ ∀ j, w.frozen? ⟨g, j, none⟩ = false := by
  refine ⟨?_, ?_, ?_, fun j => ?_⟩
  · rw [cell_of_row w g 0 _ t (0, 0) h]; rfl
  · rw [cell_of_row w g 1 _ t (0, 0) h]; rfl
  · rw [cell_of_row w g 2 _ t (0, 0) h]; rfl
  · exact frozen_of_row w g j _ t h
theorem grown_set (w : World) (g j : Nat) (u : Value) : w.grownBy (w.setCell ⟨g, j, none⟩ u) (some g) :=
  ⟨rfl, rfl, rfl, by simp [World.setCell], fun k _ hne => Below.heap_setCell _ _ _ _ (fun e => hne (by rw [e]))⟩
theorem grown_trans {a b c : World} {row : Option Nat} (h : a.grownBy b row) (k : b.grownBy c row) : a.grownBy c row :=
  ⟨k.os.trans h.os, k.tape.trans h.tape, k.output.trans h.output, Nat.le_trans h.size k.size, fun i hi hne => (k.block i (Nat.lt_of_lt_of_le hi h.size) hne).trans (h.block i hi hne)⟩
theorem grown_drewN (w : World) (k : Nat) (row : Option Nat) : w.grownBy (w.drewN k) row := ⟨rfl, rfl, rfl, Nat.le_refl _, fun _ _ _ => rfl⟩
theorem three_two {w : World} {g : Nat} {x y z : Value} {t : TypeId} (h : w.heap[g]? = some (.cells #[x, y, z] t (0, 0))) (u : Value) :
    (w.setCell ⟨g, 2, none⟩ u).heap[g]? = some (.cells #[x, y, u] t (0, 0)) := heap_setCell_same w g 2 _ t u h
theorem three_one {w : World} {g : Nat} {x y z : Value} {t : TypeId} (h : w.heap[g]? = some (.cells #[x, y, z] t (0, 0))) (u : Value) :
    (w.setCell ⟨g, 1, none⟩ u).heap[g]? = some (.cells #[x, u, z] t (0, 0)) := heap_setCell_same w g 1 _ t u h
set_option maxRecDepth 100000 in
set_option maxHeartbeats 1000000 in
theorem byte_any (a : Option Addr) (len cap g B : Nat) (hl : len ≤ 1048576) (hB : B ≤ g) (w : World) (hc : Cur a len cap g w) (hd : Code a len B w) :
    Calls Tryz.prog 59 #[.pointer (some ⟨g, 0, none⟩)] w fun e w' => (∃ x : Int, e = .returned (.int .i64 x) ∧ 0 ≤ x ∧ x ≤ 255) ∧ Cur a len cap g w' ∧ w.grownBy w' (some g) := by
  obtain ⟨i, h, hi, hg⟩ := hc
  obtain ⟨c0, c1, c2, cf⟩ := cell_of_three hg
  have f1 := cf 1
  have f2 := cf 2
  have HG := hide hg
  clear hg cf
  by_cases hlt : i < len
  · obtain ⟨b, off, z, rfl, hb, hz, hz0, hz1⟩ := hd i hlt
    clear hd
    have hbg : b ≠ g := by omega
    have hx0 : (0 : Int) ≤ (i : Int) := by omega
    have hx1 : (i : Int) < (len : Int) := by omega
    go_enter Tryz.func59, Tryz.ntmps59
    go_wp2_with fail
    go_quiet (fail)
    go_wp2_with fail
    go_quiet (fail)
    go_wp2_with fail
    go_quiet (fail)
    go_wp2
    go_ret
    refine ⟨⟨_, rfl, and_255 _⟩, ⟨i + 1, wrap64 (wrap64 (h * 6364136223846793005) + 1442695040888963407), by omega, ?_⟩, ?_⟩
    · exact three_one (three_two (unhide HG) _) _
    · exact grown_trans (grown_trans (grown_set w g 2 _) (grown_drewN _ _ _)) (grown_set _ g 1 _)
  · clear hd
    have hx1 : ¬ (i : Int) < (len : Int) := by omega
    go_enter Tryz.func59, Tryz.ntmps59
    go_wp2_with fail
    go_quiet (fail)
    go_wp2_with fail
    go_quiet (fail)
    go_wp2
    go_ret
    refine ⟨⟨_, rfl, and_255 _⟩, ⟨i, wrap64 (wrap64 (h * 6364136223846793005) + 1442695040888963407), hi, ?_⟩, ?_⟩
    · exact three_two (unhide HG) _
    · exact grown_trans (grown_trans (grown_set w g 2 _) (grown_drewN _ _ _)) (grown_drewN _ _ _)
theorem Code.grown {a : Option Addr} {len B g : Nat} {w w' : World} (h : Code a len B w) (hB : B ≤ g) (hg : w.grownBy w' (some g)) : Code a len B w' := by
  intro j hj
  obtain ⟨b, off, z, e, hb, hc, h0, h1⟩ := h j hj
  refine ⟨b, off, z, e, hb, ?_, h0, h1⟩
  exact hg.cell hc (fun e => by have := Option.some.inj e; simp at this; omega)
def DrawPost (a : Option Addr) (len cap g : Nat) (w : World) (n : Int) (e : Ending) (w' : World) : Prop :=
  ∃ x : Int, e = .returned (.int .i64 x) ∧ 0 ≤ x ∧ x < n ∧ Cur a len cap g w' ∧ w.grownBy w' (some g)
set_option maxRecDepth 100000 in
theorem below_small (a : Option Addr) (len cap g B : Nat) (n : Int) (hl : len ≤ 1048576) (hB : B ≤ g) (h0 : 0 < n) (h1 : n ≤ 256) (w : World) (hc : Cur a len cap g w) (hd : Code a len B w) :
    Calls Tryz.prog 36 #[.pointer (some ⟨g, 0, none⟩), .int .i64 n] w fun e w' => DrawPost a len cap g w n e w' := by
  have H := hide (byte_any a len cap g B hl hB w hc hd)
  have hne : ¬ n ≤ 0 := by omega
  clear hc hd
  go_enter Tryz.func36, Tryz.ntmps36
  go_wp2_with fail
  refine (unhide H).mono ?_
  rintro e w1 ⟨⟨x, rfl, hx0, hx1⟩, hc1, hg1⟩
  have HC := hide hc1
  have HG := hide hg1
  clear hc1 hg1
  go_wp2
  go_ret
  exact ⟨x % n, rfl, Int.emod_nonneg _ (by omega), Int.emod_lt_of_pos _ h0, unhide HC, unhide HG⟩
set_option maxRecDepth 100000 in
theorem below_great (a : Option Addr) (len cap g B : Nat) (n : Int) (hl : len ≤ 1048576) (hB : B ≤ g) (h0 : 256 < n) (w : World) (hc : Cur a len cap g w) (hd : Code a len B w) :
    Calls Tryz.prog 36 #[.pointer (some ⟨g, 0, none⟩), .int .i64 n] w fun e w' => DrawPost a len cap g w n e w' := by
  have H := hide (fun (w : World) (hc : Cur a len cap g w) (hd : Code a len B w) => byte_any a len cap g B hl hB w hc hd)
  have hne : ¬ n ≤ 0 := by omega
  have HC0 := hide hc
  have HD0 := hide hd
  clear hc hd
  go_enter Tryz.func36, Tryz.ntmps36
  go_wp2_with fail
  refine (unhide H w (unhide HC0) (unhide HD0)).mono ?_
  rintro e w1 ⟨⟨x1, rfl, hx0, hx1⟩, hc1, hg1⟩
  have HC1 := hide hc1
  have HG1 := hide hg1
  have HD1 := hide ((unhide HD0).grown hB hg1)
  clear hc1 hg1
  go_wp2_with fail
  refine (unhide H w1 (unhide HC1) (unhide HD1)).mono ?_
  rintro e w2 ⟨⟨x2, rfl, hy0, hy1⟩, hc2, hg2⟩
  have HC2 := hide hc2
  have HG2 := hide (grown_trans (unhide HG1) hg2)
  have HD2 := hide ((unhide HD1).grown hB hg2)
  clear hc2 hg2
  go_wp2_with fail
  refine (unhide H w2 (unhide HC2) (unhide HD2)).mono ?_
  rintro e w3 ⟨⟨x3, rfl, hz0, hz1⟩, hc3, hg3⟩
  have HC3 := hide hc3
  have HG3 := hide (grown_trans (unhide HG2) hg3)
  have HD3 := hide ((unhide HD2).grown hB hg3)
  clear hc3 hg3
  go_wp2_with fail
  refine (unhide H w3 (unhide HC3) (unhide HD3)).mono ?_
  rintro e w4 ⟨⟨x4, rfl, hu0, hu1⟩, hc4, hg4⟩
  have HC4 := hide hc4
  have HG4 := hide (grown_trans (unhide HG3) hg4)
  clear hc4 hg4
  go_wp2
  go_ret
  exact ⟨(x1 * 16777216 + x2 * 65536 + x3 * 256 + x4) % n, rfl, Int.emod_nonneg _ (by omega), Int.emod_lt_of_pos _ (by omega), unhide HC4, unhide HG4⟩
theorem below_any (a : Option Addr) (len cap g B : Nat) (n : Int) (hl : len ≤ 1048576) (hB : B ≤ g) (h0 : 0 < n) (w : World) (hc : Cur a len cap g w) (hd : Code a len B w) :
    Calls Tryz.prog 36 #[.pointer (some ⟨g, 0, none⟩), .int .i64 n] w fun e w' => DrawPost a len cap g w n e w' := by
  by_cases h : n ≤ 256
  · exact below_small a len cap g B n hl hB h0 h w hc hd
  · exact below_great a len cap g B n hl hB (by omega) w hc hd
theorem once_any (a : Option Addr) (len cap g B : Nat) (n : Int) (hl : len ≤ 1048576) (hB : B ≤ g) (h0 : 0 < n) (w : World) (hc : Cur a len cap g w) (hd : Code a len B w) :
    Calls Tryz.prog 40 #[.pointer (some ⟨g, 0, none⟩), .int .i64 n] w fun e w' => (∃ b : Bool, e = .returned (.bool b)) ∧ Cur a len cap g w' ∧ w.grownBy w' (some g) := by
  have H := hide (below_any a len cap g B n hl hB h0 w hc hd)
  clear hc hd
  go_enter Tryz.func40, Tryz.ntmps40
  go_wp2_with fail
  refine (unhide H).mono ?_
  rintro e w1 ⟨x, rfl, hx0, hx1, hc1, hg1⟩
  have HC := hide hc1
  have HG := hide hg1
  clear hc1 hg1
  go_wp2
  go_ret
  exact ⟨⟨x == 0, rfl⟩, unhide HC, unhide HG⟩
set_option maxRecDepth 100000 in
set_option maxHeartbeats 1000000 in
theorem new_any (a : Option Addr) (len cap : Nat) (hl : len ≤ 1048576) (w : World) (hd : Code a len w.heap.size w) :
    Calls Tryz.prog 17 #[.slice a len cap] w fun e w' => e = .returned (.pointer (some ⟨w.heap.size, 0, none⟩)) ∧ Cur a len cap w.heap.size w' ∧ Below w.heap.size w w' := by
  have HD := hide hd
  clear hd
  go_enter Tryz.func17, Tryz.ntmps17
  go_wp2_with fail
  go_loop [3, 4] (fun a3 a4 => ∃ (h : Int) (i : Nat), a3 = .int .i64 h ∧ a4 = .int .i64 i ∧ i ≤ len) (fun _ a4 => len - (intOf a4).toNat)
  case atStart => exact ⟨_, 0, rfl, rfl, Nat.zero_le _⟩
  case round =>
    obtain ⟨h, i, rfl, rfl, hi⟩ := hrel
    by_cases hlt : i < len
    · by_cases h4 : i < 4000
      · obtain ⟨b, off, z, rfl, hb, hz, hz0, hz1⟩ := unhide HD i hlt
        have hx0 : (0 : Int) ≤ (i : Int) := by omega
        have hx1 : (i : Int) < (len : Int) := by omega
        go_wp2
        go_round
        case rel => exact ⟨_, i + 1, rfl, by go_num, by omega⟩
        case measure => simp [intOf]; omega
      · go_wp2
        go_ret
        exact ⟨rfl, ⟨0, h, Nat.zero_le _, heap_alloc_new w _⟩, (Below.refl _ _).alloc (Nat.le_refl _) _⟩
    · go_wp2
      go_ret
      exact ⟨rfl, ⟨0, h, Nat.zero_le _, heap_alloc_new w _⟩, (Below.refl _ _).alloc (Nat.le_refl _) _⟩
def varB : Nat → Nat → List UInt8
  | 0, n => [UInt8.ofNat n]
  | f + 1, n => if 127 < n then UInt8.ofNat (n % 128 + 128) :: varB f (n / 128) else [UInt8.ofNat n]
theorem varB_last (f n : Nat) (h : n ≤ 127) : varB f n = [UInt8.ofNat n] := by
  cases f with
  | zero => rfl
  | succ f => simp only [varB]; rw [if_neg (by omega)]
theorem varB_more (f n : Nat) (h : 127 < n) : varB (f + 1) n = UInt8.ofNat (n % 128 + 128) :: varB f (n / 128) := by
  simp only [varB]; rw [if_pos h]
theorem varB_length (f n : Nat) : (varB f n).length ≤ f + 1 := by
  induction f generalizing n with
  | zero => simp [varB]
  | succ f ih =>
    simp only [varB]
    split
    · have := ih (n / 128)
      simp
      omega
    · simp
def byteAt (s : ByteArray) (i : Nat) : Nat := if h : i < s.size then (s[i]'h).toNat else 0
theorem byteAt_eq {s : ByteArray} {i : Nat} (h : i < s.size) : byteAt s i = (s[i]'h).toNat := by simp [byteAt, h]
theorem byteAt_lt (s : ByteArray) (i : Nat) : byteAt s i < 256 := by
  unfold byteAt
  split
  · exact UInt8.toNat_lt _
  · omega
def readV (s : ByteArray) (a : Nat) : Nat → Nat → Nat → Nat → Option (Nat × Nat)
  | 0, _, _, _ => none
  | f + 1, i, n, sc =>
    if i < s.size then
      if byteAt s i < 128 then
        if 1000000000 < n + byteAt s i % 128 * sc then none
        else if varB 4 (n + byteAt s i % 128 * sc) = (s.extract a (i + 1)).toList then some (n + byteAt s i % 128 * sc, i + 1) else none
      else readV s a f (i + 1) (n + byteAt s i % 128 * sc) (sc * 128)
    else none
def rvOut : Option (Nat × Nat) → Value
  | none => .tuple #[.int .i64 0, .int .i64 0, .bool false]
  | some p => .tuple #[.int .i64 (p.1 : Int), .int .i64 (p.2 : Int), .bool true]
theorem readV_end (s : ByteArray) (a f i n sc : Nat) (h : ¬ i < s.size) : readV s a f i n sc = none := by
  cases f with
  | zero => rfl
  | succ f => simp [readV, h]
theorem readV_more {s : ByteArray} {a f i n sc : Nat} (h : i < s.size) (hb : ¬ byteAt s i < 128) :
    readV s a (f + 1) i n sc = readV s a f (i + 1) (n + byteAt s i % 128 * sc) (sc * 128) := by
  simp only [readV]; rw [if_pos h, if_neg hb]
theorem readV_great {s : ByteArray} {a f i n sc : Nat} (h : i < s.size) (hb : byteAt s i < 128) (hg : 1000000000 < n + byteAt s i % 128 * sc) :
    readV s a (f + 1) i n sc = none := by
  simp only [readV]; rw [if_pos h, if_pos hb, if_pos hg]
theorem readV_yes {s : ByteArray} {a f i n sc : Nat} (h : i < s.size) (hb : byteAt s i < 128) (hg : ¬ 1000000000 < n + byteAt s i % 128 * sc)
    (he : varB 4 (n + byteAt s i % 128 * sc) = (s.extract a (i + 1)).toList) : readV s a (f + 1) i n sc = some (n + byteAt s i % 128 * sc, i + 1) := by
  simp only [readV]; rw [if_pos h, if_pos hb, if_neg hg, if_pos he]
theorem readV_other {s : ByteArray} {a f i n sc : Nat} (h : i < s.size) (hb : byteAt s i < 128) (hg : ¬ 1000000000 < n + byteAt s i % 128 * sc)
    (he : varB 4 (n + byteAt s i % 128 * sc) ≠ (s.extract a (i + 1)).toList) : readV s a (f + 1) i n sc = none := by
  simp only [readV]; rw [if_pos h, if_pos hb, if_neg hg, if_neg he]
theorem weight_le {sc f : Nat} (h : sc * 128 ^ (f + 1) = 34359738368) : sc ≤ 268435456 := by
  rw [Nat.pow_succ, ← Nat.mul_assoc] at h
  have h1 : sc * 128 ^ f = 268435456 := by omega
  have h2 : 0 < 128 ^ f := Nat.pow_pos (by omega)
  have h3 : sc * 1 ≤ sc * 128 ^ f := Nat.mul_le_mul_left sc h2
  omega
theorem weight_step {sc f : Nat} (h : sc * 128 ^ (f + 1) = 34359738368) : sc * 128 * 128 ^ f = 34359738368 := by
  rw [Nat.pow_succ] at h; rw [Nat.mul_assoc, Nat.mul_comm 128]; exact h
theorem readV_bound {s : ByteArray} {a : Nat} : ∀ {f i n sc x e : Nat}, readV s a f i n sc = some (x, e) → x ≤ 1000000000 ∧ e ≤ s.size := by
  intro f
  induction f with
  | zero => intro i n sc x e h; simp [readV] at h
  | succ f ih =>
    intro i n sc x e h
    simp only [readV] at h
    split at h
    · split at h
      · split at h
        · simp at h
        · split at h
          · simp at h
            obtain ⟨rfl, rfl⟩ := h
            exact ⟨by omega, by omega⟩
          · simp at h
      · exact ih h
    · simp at h
def readA (s : ByteArray) (a : Int) : Option (Nat × Nat) := if 0 ≤ a ∧ a ≤ (s.size : Int) then readV s a.toNat 5 a.toNat 0 1 else none
theorem readA_bound {s : ByteArray} {a : Int} {x e : Nat} (h : readA s a = some (x, e)) : x ≤ 1000000000 ∧ e ≤ s.size := by
  unfold readA at h
  split at h
  · exact readV_bound h
  · simp at h
theorem info5 : (Tryz.prog.info? 5).map (fun i => (i.zero, i.size, i.bytes)) = some (some (.int .u8 0), 1, 1) := by kernel_rfl
set_option maxRecDepth 100000 in
set_option maxHeartbeats 1000000 in
theorem l01Var_any (n : Nat) (hn : n ≤ 1000000000) (w : World) :
    Calls Tryz.prog 57 #[.int .i64 n] w fun e w' => e = .returned (.string ⟨(varB 4 n).toArray⟩) ∧ Below w.heap.size w w' := by
  obtain ⟨i0, hi, hz0, hz1, hz2⟩ := info_parts info5
  go_enter Tryz.func57, Tryz.ntmps57
  go_wp2_with fail
  go_loopw [0, 3] (fun a out wr => ∃ (m f : Nat) (pre : List UInt8), a = .int .i64 m ∧ m < 128 ^ (f + 1) ∧ pre.length + f = 4 ∧ pre ++ varB f m = varB 4 n ∧ wr.ownsRow w.heap.size 5 1 out pre.length (bytesV pre) ∧ Below w.heap.size w wr)
    (fun a _ _ => (intOf a).toNat)
  case atStart =>
    refine ⟨n, 4, [], rfl, by omega, rfl, rfl, ?_, (Below.refl _ _).alloc (Nat.le_refl _) _⟩
    exact World.ownsRow_made w #[] 0 (Nat.le_refl _) (Nat.zero_le _) rfl
  case round =>
    obtain ⟨m, f, pre, rfl, hm, hl, hv, hown, hb⟩ := hrel
    have hml : m < 34359738368 := Nat.lt_of_lt_of_le hm (by
      have : f ≤ 4 := by omega
      exact Nat.le_trans (Nat.pow_le_pow_right (by omega) (show f + 1 ≤ 5 by omega)) (by decide))
    have hbs := hb.size
    by_cases hlt : 127 < m
    · go_wp2_with (at_builtin; refine wpList_append_own _ rfl _ _ 22 rfl w.heap.size 5 i0 (.int .u8 0) 1 1 Tryz.underlying22 hi hz0 hz1 hz2 rfl (by decide) _ _ _ rfl (hown.alloc _) ⟨wr.heap.size, 0, none⟩ 1 1 [.int .u8 ((m : Int) % 128 + 128)] rfl rfl (cell_one_new _ _ _) (one_byte _) ?c3 ?c4 ?c5 ?_)
      case c3 => unfold maxLen; omega
      case c4 => omega
      case c5 => simp; omega
      intro v' w1 hown' hgrow _
      have hb1 := below_append hb (Nat.le_refl _) hown hgrow
      have hown1 := own_snoc (c := UInt8.ofNat (m % 128 + 128)) (by rw [toNat_ofNat_small _ (by omega)]; omega) hown'
      clear hown' hgrow hown hb
      go_wp2
      go_roundw
      case rel =>
        obtain ⟨f', rfl⟩ : ∃ f', f = f' + 1 := ⟨f - 1, by
          rcases f with _ | f
          · simp at hm; omega
          · rfl⟩
        refine ⟨m / 128, f', pre ++ [UInt8.ofNat (m % 128 + 128)], by go_num, ?_, by simp; omega, ?_, hown1, hb1⟩
        · rw [Nat.div_lt_iff_lt_mul (by omega)]; rw [Nat.pow_succ] at hm; exact hm
        · rw [← hv, varB_more f' m hlt]; simp
      case measure => simp [intOf]; omega
    · go_wp2_with (at_builtin; refine wpList_append_own _ rfl _ _ 22 rfl w.heap.size 5 i0 (.int .u8 0) 1 1 Tryz.underlying22 hi hz0 hz1 hz2 rfl (by decide) _ _ _ rfl (hown.alloc _) ⟨wr.heap.size, 0, none⟩ 1 1 [.int .u8 (m : Int)] rfl rfl (cell_one_new _ _ _) (one_byte _) ?d3 ?d4 ?d5 ?_)
      case d3 => unfold maxLen; omega
      case d4 => omega
      case d5 => simp; omega
      intro v' w1 hown' hgrow _
      have hb1 := below_append hb (Nat.le_refl _) hown hgrow
      have hown1 := own_snoc (c := UInt8.ofNat m) (by rw [toNat_ofNat_small _ (by omega)]) hown'
      have hcv := convert_own w1 22 9 5 w.heap.size v' _ Tryz.underlying22 Tryz.underlying5 Tryz.underlying9 hown1
      rw [← varB_last f m (by omega), hv] at hcv
      clear hown' hgrow hown hb hown1
      go_wp2
      go_ret
      exact ⟨rfl, hb1⟩
theorem l01In_any (x a b : Int) (w : World) : Calls Tryz.prog 51 #[.int .i64 x, .int .i64 a, .int .i64 b] w fun e w' => e = .returned (.bool (decide (a ≤ x) && decide (x ≤ b))) ∧ w' = w := by
  by_cases h1 : a ≤ x
  · by_cases h2 : x ≤ b
    · go_enter Tryz.func51, Tryz.ntmps51
      go_wp2
      go_ret
      exact ⟨by simp [h1, h2], rfl⟩
    · go_enter Tryz.func51, Tryz.ntmps51
      go_wp2
      go_ret
      exact ⟨by simp; omega, rfl⟩
  · go_enter Tryz.func51, Tryz.ntmps51
    go_wp2
    go_ret
    exact ⟨by simp; omega, rfl⟩
theorem implVar_no (n : Int) (hn : n < 0 ∨ 1000000000 < n) (w : World) :
    Calls Tryz.prog 92 #[.int .i64 n] w fun e w' => e = .returned (.tuple #[.string ⟨#[]⟩, .bool false]) ∧ w' = w := by
  by_cases h : n < 0
  · go_enter Tryz.func92, Tryz.ntmps92
    go_wp2
    go_ret2
    exact ⟨rfl, rfl⟩
  · have h2 : 1000000000 < n := by omega
    go_enter Tryz.func92, Tryz.ntmps92
    go_wp2
    go_ret2
    exact ⟨rfl, rfl⟩
set_option maxRecDepth 100000 in
set_option maxHeartbeats 1000000 in
theorem implVar_yes (n : Nat) (hn : n ≤ 1000000000) (w : World) :
    Calls Tryz.prog 92 #[.int .i64 n] w fun e w' => e = .returned (.tuple #[.string ⟨(varB 4 n).toArray⟩, .bool true]) ∧ Below w.heap.size w w' := by
  obtain ⟨i0, hi, hz0, hz1, hz2⟩ := info_parts info5
  have hmk : ∀ w : World, (Instr.makeSlice 22 (.int .i64 0) (.int .i64 5)).run Tryz.prog w = .ok (.slice (some ⟨w.heap.size, 0, none⟩) 0 5) (w.alloc (.cells #[.int .u8 0, .int .u8 0, .int .u8 0, .int .u8 0, .int .u8 0] 5)) := fun _ => by kernel_rfl
  go_enter Tryz.func92, Tryz.ntmps92
  go_wp2_with fail
  go_loopw [0, 4] (fun a out wr => ∃ (m f : Nat) (pre : List UInt8), a = .int .i64 m ∧ m < 128 ^ (f + 1) ∧ pre.length + f = 4 ∧ pre ++ varB f m = varB 4 n ∧ wr.ownsRow w.heap.size 5 1 out pre.length (bytesV pre) ∧ Below w.heap.size w wr)
    (fun a _ _ => (intOf a).toNat)
  case atStart =>
    refine ⟨n, 4, [], rfl, by omega, rfl, rfl, ?_, (Below.refl _ _).alloc (Nat.le_refl _) _⟩
    exact World.ownsRow_made w _ 5 (Nat.le_refl _) (by decide) rfl
  case round =>
    obtain ⟨m, f, pre, rfl, hm, hl, hv, hown, hb⟩ := hrel
    have hml : m < 34359738368 := Nat.lt_of_lt_of_le hm (by
      have : f ≤ 4 := by omega
      exact Nat.le_trans (Nat.pow_le_pow_right (by omega) (show f + 1 ≤ 5 by omega)) (by decide))
    have hbs := hb.size
    by_cases hlt : 127 < m
    · go_wp2_with (at_builtin; refine wpList_append_own _ rfl _ _ 22 rfl w.heap.size 5 i0 (.int .u8 0) 1 1 Tryz.underlying22 hi hz0 hz1 hz2 rfl (by decide) _ _ _ rfl (hown.alloc _) ⟨wr.heap.size, 0, none⟩ 1 1 [.int .u8 ((m : Int) % 128 + 128)] rfl rfl (cell_one_new _ _ _) (one_byte _) ?c3 ?c4 ?c5 ?_)
      case c3 => unfold maxLen; omega
      case c4 => omega
      case c5 => simp; omega
      intro v' w1 hown' hgrow _
      have hb1 := below_append hb (Nat.le_refl _) hown hgrow
      have hown1 := own_snoc (c := UInt8.ofNat (m % 128 + 128)) (by rw [toNat_ofNat_small _ (by omega)]; omega) hown'
      clear hown' hgrow hown hb
      go_wp2
      go_roundw
      case rel =>
        obtain ⟨f', rfl⟩ : ∃ f', f = f' + 1 := ⟨f - 1, by
          rcases f with _ | f
          · simp at hm; omega
          · rfl⟩
        refine ⟨m / 128, f', pre ++ [UInt8.ofNat (m % 128 + 128)], by go_num, ?_, by simp; omega, ?_, hown1, hb1⟩
        · rw [Nat.div_lt_iff_lt_mul (by omega)]; rw [Nat.pow_succ] at hm; exact hm
        · rw [← hv, varB_more f' m hlt]; simp
      case measure => simp [intOf]; omega
    · go_wp2_with (at_builtin; refine wpList_append_own _ rfl _ _ 22 rfl w.heap.size 5 i0 (.int .u8 0) 1 1 Tryz.underlying22 hi hz0 hz1 hz2 rfl (by decide) _ _ _ rfl (hown.alloc _) ⟨wr.heap.size, 0, none⟩ 1 1 [.int .u8 (m : Int)] rfl rfl (cell_one_new _ _ _) (one_byte _) ?d3 ?d4 ?d5 ?_)
      case d3 => unfold maxLen; omega
      case d4 => omega
      case d5 => simp; omega
      intro v' w1 hown' hgrow _
      have hb1 := below_append hb (Nat.le_refl _) hown hgrow
      have hown1 := own_snoc (c := UInt8.ofNat m) (by rw [toNat_ofNat_small _ (by omega)]) hown'
      have hcv := convert_own w1 22 9 5 w.heap.size v' _ Tryz.underlying22 Tryz.underlying5 Tryz.underlying9 hown1
      rw [← varB_last f m (by omega), hv] at hcv
      clear hown' hgrow hown hb hown1
      go_wp2
      go_ret2
      exact ⟨rfl, hb1⟩
theorem byteAt_list (s : ByteArray) (i : Nat) : byteAt s i = ((s.data.toList)[i]?.map UInt8.toNat).getD 0 := by
  unfold byteAt
  split
  · rename_i h
    have h2 : i < s.data.toList.length := by simpa using h
    rw [List.getElem?_eq_getElem h2]
    rfl
  · rename_i h
    have h2 : s.data.toList.length ≤ i := by simpa using h
    rw [List.getElem?_eq_none h2]
    rfl
theorem byteAt_mk (l : List UInt8) (i : Nat) (h : i < l.length) : byteAt ⟨l.toArray⟩ i = (l[i]'h).toNat := by
  rw [byteAt_list]
  simp [List.getElem?_eq_getElem h]
theorem mix (m sc acc : Nat) : acc + m % 128 * sc + m / 128 * (sc * 128) = acc + m * sc := by
  have h : m / 128 * (sc * 128) = 128 * (m / 128) * sc := by
    rw [Nat.mul_comm sc 128, ← Nat.mul_assoc, Nat.mul_comm (m / 128) 128]
  have e : m % 128 * sc + 128 * (m / 128) * sc = m * sc := by
    rw [← Nat.add_mul, Nat.mod_add_div]
  rw [h, Nat.add_assoc, e]
theorem readV_var {s : ByteArray} {a n : Nat} (hn : n ≤ 1000000000) : ∀ (g m i acc sc f : Nat), m < 128 ^ (g + 1) → g < f → acc + m * sc = n →
    (∀ j (hj : j < (varB g m).length), byteAt s (i + j) = ((varB g m)[j]'hj).toNat) → i + (varB g m).length ≤ s.size → varB 4 n = (s.extract a (i + (varB g m).length)).toList →
    readV s a f i acc sc = some (n, i + (varB g m).length) := by
  intro g
  induction g with
  | zero =>
    intro m i acc sc f hm hf hacc hb hi hq
    obtain ⟨f, rfl⟩ : ∃ f', f = f' + 1 := ⟨f - 1, by omega⟩
    have hm7 : m ≤ 127 := by simp at hm; omega
    rw [varB_last 0 m hm7] at hb hi hq ⊢
    have hb0 := hb 0 (by simp)
    simp only [List.getElem_cons_zero, Nat.add_zero] at hb0
    rw [toNat_ofNat_small m (by omega)] at hb0
    simp only [List.length_cons, List.length_nil, Nat.zero_add] at hi hq ⊢
    have e : acc + byteAt s i % 128 * sc = n := by rw [hb0, Nat.mod_eq_of_lt (by omega)]; exact hacc
    rw [readV_yes (by omega) (by omega) (by rw [e]; omega) (by rw [e]; exact hq), e]
  | succ g ih =>
    intro m i acc sc f hm hf hacc hb hi hq
    obtain ⟨f, rfl⟩ : ∃ f', f = f' + 1 := ⟨f - 1, by omega⟩
    by_cases hm7 : m ≤ 127
    · rw [varB_last (g + 1) m hm7] at hb hi hq ⊢
      have hb0 := hb 0 (by simp)
      simp only [List.getElem_cons_zero, Nat.add_zero] at hb0
      rw [toNat_ofNat_small m (by omega)] at hb0
      simp only [List.length_cons, List.length_nil, Nat.zero_add] at hi hq ⊢
      have e : acc + byteAt s i % 128 * sc = n := by rw [hb0, Nat.mod_eq_of_lt (by omega)]; exact hacc
      rw [readV_yes (by omega) (by omega) (by rw [e]; omega) (by rw [e]; exact hq), e]
    · rw [varB_more g m (by omega)] at hb hi hq ⊢
      have hb0 := hb 0 (by simp)
      simp only [List.getElem_cons_zero, Nat.add_zero] at hb0
      rw [toNat_ofNat_small _ (by omega)] at hb0
      simp only [List.length_cons] at hi hq ⊢
      rw [readV_more (by omega) (by omega), hb0, show (m % 128 + 128) % 128 = m % 128 by omega]
      have hle : i + ((varB g (m / 128)).length + 1) = i + 1 + (varB g (m / 128)).length := by omega
      rw [hle] at hi hq ⊢
      refine ih (m / 128) (i + 1) (acc + m % 128 * sc) (sc * 128) f ?_ (by omega) ?_ ?_ hi hq
      · rw [Nat.div_lt_iff_lt_mul (by omega)]; rw [Nat.pow_succ] at hm; exact hm
      · rw [mix]; exact hacc
      · intro j hj
        have := hb (j + 1) (by simp; omega)
        simp only [List.getElem_cons_succ] at this
        rw [← this]
        congr 1
        omega
theorem extract_mid (p q r : List UInt8) : ((ByteArray.mk (p ++ q ++ r).toArray).extract p.length (p.length + q.length)).toList = q := by
  rw [ByteArray.toList_eq]
  simp
theorem readA_var (p r : List UInt8) (n : Nat) (hn : n ≤ 1000000000) : readA ⟨(p ++ varB 4 n ++ r).toArray⟩ (p.length : Int) = some (n, p.length + (varB 4 n).length) := by
  have hsz : (ByteArray.mk (p ++ varB 4 n ++ r).toArray).size = p.length + (varB 4 n).length + r.length := by simp [ByteArray.size]; omega
  rw [readA, if_pos ⟨by omega, by omega⟩, Int.toNat_natCast]
  refine readV_var hn 4 n p.length 0 1 5 (by omega) (by omega) (by omega) ?_ (by omega) ?_
  · intro j hj
    rw [byteAt_mk _ _ (by simp; omega)]
    congr 1
    rw [List.getElem_append_left (by simp; omega), List.getElem_append_right (by omega)]
    simp
  · exact (extract_mid p (varB 4 n) r).symm
end Go.Proofs.YthbhdfeafbineaaGreat
