/-
 Base, WMath, WVar, WTrip.
-/
import Derived.WalkKit
import Derived.ProofKit
import Derived.OpenShut
import Derived.WalkSpells
import Derived.WalkSmall
import Derived.WalkLawsBesides
import Derived.Deep.QuietTactic
import Derived.BigQuiet
import Derived.Laws.BitsAllLaws
import Derived.Laws.BytesArg
import Derived.Laws.IdiomStrings
import Derived.Test.YtihnaddfpmjpaaaGreatDoorProg
namespace Go.Proofs.YtihnaddfpmjpaaaGreatDoor
open Go.RowKit
theorem hide {p : Prop} (h : p) : Hid p := h
theorem unhide {p : Prop} (h : Hid p) : p := h
def bytesV (l : List UInt8) : List Value := l.map fun b => Value.int .u8 (b.toNat : Int)
theorem bytesV_snoc (l : List UInt8) (c : UInt8) : bytesV l ++ [Value.int .u8 (c.toNat : Int)] = bytesV (l ++ [c]) := by
  simp [bytesV]
theorem toNat_ofNat_small (n : Nat) (h : n < 256) : (UInt8.ofNat n).toNat = n := by
  simp [UInt8.toNat_ofNat']; omega
theorem convert_own {P : Program} (w : World) (src dst e : TypeId) (base : Nat) (v : Value) (l : List UInt8) (hs : P.underlying src = some (.slice e)) (he : P.underlying e = some (.int .u8))
    (hd : P.underlying dst = some .string) (hown : w.ownsRow base e 1 v l.length (bytesV l)) : (convert src dst v).run P w = .ok (.string ⟨l.toArray⟩) w := by
  have hown0 := hown
  rcases hown.2 with ⟨rfl, h0⟩ | ⟨g, cap, cur, rfl, hg, hh, hnc, hcp, hcs, htake⟩
  · obtain rfl : l = [] := List.length_eq_zero_iff.1 h0
    exact run_convert_bytes_nil w src e hs he 0 0 dst hd
  · refine run_convert_bytes_back w src dst e ⟨g, 0, none⟩ cap l hs he hd fun j hj => ?_
    rw [Addr.add_lit, Nat.zero_add, hown0.cellAt j (by omega)]
    simp [bytesV, hj]
theorem own_snoc {w1 : World} {B e : Nat} {v' : Value} {pre : List UInt8} {c : UInt8} {x : Int} (hx : x = (c.toNat : Int))
    (h : w1.ownsRow B e 1 v' (pre.length + 1) (bytesV pre ++ [.int .u8 x])) : w1.ownsRow B e 1 v' (pre ++ [c]).length (bytesV (pre ++ [c])) := by
  rw [hx, bytesV_snoc] at h
  simpa using h
theorem one_byte (x : Int) : ∀ u, u ∈ [Value.int .u8 x] → u.oneCell' = true := by
  intro u hu; simp at hu; subst hu; rfl
theorem below_append {B : Nat} {w wr w1 : World} {o : Obj} {e size n : Nat} {v : Value} {xs : List Value} (hb : Below B w wr) (hB : B ≤ w.heap.size) (hown : wr.ownsRow B e size v n xs)
    (hg : (wr.alloc o).grownBy w1 v.ownBlock) : Below B w w1 := by
  have hs := hb.size
  exact (hb.alloc (by omega) o).grown hg (by simp; omega) (fun k hk => (hown.lt k hk).1)
def varB : Nat → Nat → List UInt8
  | 0, n => [UInt8.ofNat n]
  | f + 1, n => if 127 < n then UInt8.ofNat (n % 128 + 128) :: varB f (n / 128) else [UInt8.ofNat n]
theorem varB_last (f n : Nat) (h : n ≤ 127) : varB f n = [UInt8.ofNat n] := by
  cases f with
  | zero => rfl
  | succ f => simp only [varB]; rw [if_neg (by omega)]
theorem varB_more (f n : Nat) (h : 127 < n) : varB (f + 1) n = UInt8.ofNat (n % 128 + 128) :: varB f (n / 128) := by
  simp only [varB]; rw [if_pos h]
theorem varB_length (f n : Nat) : (varB f n).length ≤ f + 1 := by
  induction f generalizing n with
  | zero => simp [varB]
  | succ f ih =>
    simp only [varB]
    split
    · have := ih (n / 128)
      simp
      omega
    · simp
def byteAt (s : ByteArray) (i : Nat) : Nat := if h : i < s.size then (s[i]'h).toNat else 0
theorem byteAt_eq {s : ByteArray} {i : Nat} (h : i < s.size) : byteAt s i = (s[i]'h).toNat := by simp [byteAt, h]
theorem byteAt_lt (s : ByteArray) (i : Nat) : byteAt s i < 256 := by
  unfold byteAt
  split
  · exact UInt8.toNat_lt _
  · omega
def readV (s : ByteArray) (a : Nat) : Nat → Nat → Nat → Nat → Option (Nat × Nat)
  | 0, _, _, _ => none
  | f + 1, i, n, sc =>
    if i < s.size then
      if byteAt s i < 128 then
        if 1000000000 < n + byteAt s i % 128 * sc then none
        else if varB 4 (n + byteAt s i % 128 * sc) = (s.extract a (i + 1)).toList then some (n + byteAt s i % 128 * sc, i + 1) else none
      else readV s a f (i + 1) (n + byteAt s i % 128 * sc) (sc * 128)
    else none
def rvOut : Option (Nat × Nat) → Value
  | none => .tuple #[.int .i64 0, .int .i64 0, .bool false]
  | some p => .tuple #[.int .i64 (p.1 : Int), .int .i64 (p.2 : Int), .bool true]
theorem readV_end (s : ByteArray) (a f i n sc : Nat) (h : ¬ i < s.size) : readV s a f i n sc = none := by
  cases f with
  | zero => rfl
  | succ f => simp [readV, h]
theorem readV_more {s : ByteArray} {a f i n sc : Nat} (h : i < s.size) (hb : ¬ byteAt s i < 128) :
    readV s a (f + 1) i n sc = readV s a f (i + 1) (n + byteAt s i % 128 * sc) (sc * 128) := by
  simp only [readV]; rw [if_pos h, if_neg hb]
theorem readV_great {s : ByteArray} {a f i n sc : Nat} (h : i < s.size) (hb : byteAt s i < 128) (hg : 1000000000 < n + byteAt s i % 128 * sc) :
    readV s a (f + 1) i n sc = none := by
  simp only [readV]; rw [if_pos h, if_pos hb, if_pos hg]
theorem readV_yes {s : ByteArray} {a f i n sc : Nat} (h : i < s.size) (hb : byteAt s i < 128) (hg : ¬ 1000000000 < n + byteAt s i % 128 * sc)
    (he : varB 4 (n + byteAt s i % 128 * sc) = (s.extract a (i + 1)).toList) : readV s a (f + 1) i n sc = some (n + byteAt s i % 128 * sc, i + 1) := by
  simp only [readV]; rw [if_pos h, if_pos hb, if_neg hg, if_pos he]
theorem readV_other {s : ByteArray} {a f i n sc : Nat} (h : i < s.size) (hb : byteAt s i < 128) (hg : ¬ 1000000000 < n + byteAt s i % 128 * sc)
    (he : varB 4 (n + byteAt s i % 128 * sc) ≠ (s.extract a (i + 1)).toList) : readV s a (f + 1) i n sc = none := by
  simp only [readV]; rw [if_pos h, if_pos hb, if_neg hg, if_neg he]
theorem weight_le {sc f : Nat} (h : sc * 128 ^ (f + 1) = 34359738368) : sc ≤ 268435456 := by
  rw [Nat.pow_succ, ← Nat.mul_assoc] at h
  have h1 : sc * 128 ^ f = 268435456 := by omega
  have h2 : 0 < 128 ^ f := Nat.pow_pos (by omega)
  have h3 : sc * 1 ≤ sc * 128 ^ f := Nat.mul_le_mul_left sc h2
  omega
theorem weight_step {sc f : Nat} (h : sc * 128 ^ (f + 1) = 34359738368) : sc * 128 * 128 ^ f = 34359738368 := by
  rw [Nat.pow_succ] at h; rw [Nat.mul_assoc, Nat.mul_comm 128]; exact h
theorem readV_bound {s : ByteArray} {a : Nat} : ∀ {f i n sc x e : Nat}, readV s a f i n sc = some (x, e) → x ≤ 1000000000 ∧ e ≤ s.size := by
  intro f
  induction f with
  | zero => intro i n sc x e h; simp [readV] at h
  | succ f ih =>
    intro i n sc x e h
    simp only [readV] at h
    split at h
    · split at h
      · split at h
        · simp at h
        · split at h
          · simp at h
            obtain ⟨rfl, rfl⟩ := h
            exact ⟨by omega, by omega⟩
          · simp at h
      · exact ih h
    · simp at h
def readA (s : ByteArray) (a : Int) : Option (Nat × Nat) := if 0 ≤ a ∧ a ≤ (s.size : Int) then readV s a.toNat 5 a.toNat 0 1 else none
theorem readA_bound {s : ByteArray} {a : Int} {x e : Nat} (h : readA s a = some (x, e)) : x ≤ 1000000000 ∧ e ≤ s.size := by
  unfold readA at h
  split at h
  · exact readV_bound h
  · simp at h
theorem info5 : (Tryz.prog.info? 5).map (fun i => (i.zero, i.size, i.bytes)) = some (some (.int .u8 0), 1, 1) := by kernel_rfl
set_option maxRecDepth 100000 in
set_option maxHeartbeats 1000000 in
theorem l01Var_any (n : Nat) (hn : n ≤ 1000000000) (w : World) :
    Calls Tryz.prog 50 #[.int .i64 n] w fun e w' => e = .returned (.string ⟨(varB 4 n).toArray⟩) ∧ Below w.heap.size w w' := by
  obtain ⟨i0, hi, hz0, hz1, hz2⟩ := info_parts info5
  go_enter Tryz.func50, Tryz.ntmps50
  go_wp2_with fail
  go_loopw [0, 3] (fun a out wr => ∃ (m f : Nat) (pre : List UInt8), a = .int .i64 m ∧ m < 128 ^ (f + 1) ∧ pre.length + f = 4 ∧ pre ++ varB f m = varB 4 n ∧ wr.ownsRow w.heap.size 5 1 out pre.length (bytesV pre) ∧ Below w.heap.size w wr)
    (fun a _ _ => (intOf a).toNat)
  case atStart =>
    refine ⟨n, 4, [], rfl, by omega, rfl, rfl, ?_, (Below.refl _ _).alloc (Nat.le_refl _) _⟩
    exact World.ownsRow_made w #[] 0 (Nat.le_refl _) (Nat.zero_le _) rfl
  case round =>
    obtain ⟨m, f, pre, rfl, hm, hl, hv, hown, hb⟩ := hrel
    have hml : m < 34359738368 := Nat.lt_of_lt_of_le hm (by
      have : f ≤ 4 := by omega
      exact Nat.le_trans (Nat.pow_le_pow_right (by omega) (show f + 1 ≤ 5 by omega)) (by decide))
    have hbs := hb.size
    by_cases hlt : 127 < m
    · go_wp2_with (at_builtin; refine wpList_append_own _ rfl _ _ 103 rfl w.heap.size 5 i0 (.int .u8 0) 1 1 Tryz.underlying103 hi hz0 hz1 hz2 rfl (by decide) _ _ _ rfl (hown.alloc _) ⟨wr.heap.size, 0, none⟩ 1 1 [.int .u8 ((m : Int) % 128 + 128)] rfl rfl (cell_one_new _ _ _) (one_byte _) ?c3 ?c4 ?c5 ?_)
      case c3 => unfold maxLen; omega
      case c4 => omega
      case c5 => simp; omega
      intro v' w1 hown' hgrow _
      have hb1 := below_append hb (Nat.le_refl _) hown hgrow
      have hown1 := own_snoc (c := UInt8.ofNat (m % 128 + 128)) (by rw [toNat_ofNat_small _ (by omega)]; omega) hown'
      clear hown' hgrow hown hb
      go_wp2
      go_roundw
      case rel =>
        obtain ⟨f', rfl⟩ : ∃ f', f = f' + 1 := ⟨f - 1, by
          rcases f with _ | f
          · simp at hm; omega
          · rfl⟩
        refine ⟨m / 128, f', pre ++ [UInt8.ofNat (m % 128 + 128)], by go_num, ?_, by simp; omega, ?_, hown1, hb1⟩
        · rw [Nat.div_lt_iff_lt_mul (by omega)]; rw [Nat.pow_succ] at hm; exact hm
        · rw [← hv, varB_more f' m hlt]; simp
      case measure => simp [intOf]; omega
    · go_wp2_with (at_builtin; refine wpList_append_own _ rfl _ _ 103 rfl w.heap.size 5 i0 (.int .u8 0) 1 1 Tryz.underlying103 hi hz0 hz1 hz2 rfl (by decide) _ _ _ rfl (hown.alloc _) ⟨wr.heap.size, 0, none⟩ 1 1 [.int .u8 (m : Int)] rfl rfl (cell_one_new _ _ _) (one_byte _) ?d3 ?d4 ?d5 ?_)
      case d3 => unfold maxLen; omega
      case d4 => omega
      case d5 => simp; omega
      intro v' w1 hown' hgrow _
      have hb1 := below_append hb (Nat.le_refl _) hown hgrow
      have hown1 := own_snoc (c := UInt8.ofNat m) (by rw [toNat_ofNat_small _ (by omega)]) hown'
      have hcv := convert_own w1 103 9 5 w.heap.size v' _ Tryz.underlying103 Tryz.underlying5 Tryz.underlying9 hown1
      rw [← varB_last f m (by omega), hv] at hcv
      clear hown' hgrow hown hb hown1
      go_wp2
      go_ret
      exact ⟨rfl, hb1⟩
theorem l01In_any (x a b : Int) (w : World) : Calls Tryz.prog 90 #[.int .i64 x, .int .i64 a, .int .i64 b] w fun e w' => e = .returned (.bool (decide (a ≤ x) && decide (x ≤ b))) ∧ w' = w := by
  by_cases h1 : a ≤ x
  · by_cases h2 : x ≤ b
    · go_enter Tryz.func90, Tryz.ntmps90
      go_wp2
      go_ret
      exact ⟨by simp [h1, h2], rfl⟩
    · go_enter Tryz.func90, Tryz.ntmps90
      go_wp2
      go_ret
      exact ⟨by simp; omega, rfl⟩
  · go_enter Tryz.func90, Tryz.ntmps90
    go_wp2
    go_ret
    exact ⟨by simp; omega, rfl⟩
theorem implVar_no (n : Int) (hn : n < 0 ∨ 1000000000 < n) (w : World) :
    Calls Tryz.prog 86 #[.int .i64 n] w fun e w' => e = .returned (.tuple #[.string ⟨#[]⟩, .bool false]) ∧ w' = w := by
  by_cases h : n < 0
  · go_enter Tryz.func86, Tryz.ntmps86
    go_wp2
    go_ret2
    exact ⟨rfl, rfl⟩
  · have h2 : 1000000000 < n := by omega
    go_enter Tryz.func86, Tryz.ntmps86
    go_wp2
    go_ret2
    exact ⟨rfl, rfl⟩
set_option maxRecDepth 100000 in
set_option maxHeartbeats 1000000 in
theorem implVar_yes (n : Nat) (hn : n ≤ 1000000000) (w : World) :
    Calls Tryz.prog 86 #[.int .i64 n] w fun e w' => e = .returned (.tuple #[.string ⟨(varB 4 n).toArray⟩, .bool true]) ∧ Below w.heap.size w w' := by
  obtain ⟨i0, hi, hz0, hz1, hz2⟩ := info_parts info5
  have hmk : ∀ w : World, (Instr.makeSlice 103 (.int .i64 0) (.int .i64 5)).run Tryz.prog w = .ok (.slice (some ⟨w.heap.size, 0, none⟩) 0 5) (w.alloc (.cells #[.int .u8 0, .int .u8 0, .int .u8 0, .int .u8 0, .int .u8 0] 5)) := fun _ => by kernel_rfl
  go_enter Tryz.func86, Tryz.ntmps86
  go_wp2_with fail
  go_loopw [0, 4] (fun a out wr => ∃ (m f : Nat) (pre : List UInt8), a = .int .i64 m ∧ m < 128 ^ (f + 1) ∧ pre.length + f = 4 ∧ pre ++ varB f m = varB 4 n ∧ wr.ownsRow w.heap.size 5 1 out pre.length (bytesV pre) ∧ Below w.heap.size w wr)
    (fun a _ _ => (intOf a).toNat)
  case atStart =>
    refine ⟨n, 4, [], rfl, by omega, rfl, rfl, ?_, (Below.refl _ _).alloc (Nat.le_refl _) _⟩
    exact World.ownsRow_made w _ 5 (Nat.le_refl _) (by decide) rfl
  case round =>
    obtain ⟨m, f, pre, rfl, hm, hl, hv, hown, hb⟩ := hrel
    have hml : m < 34359738368 := Nat.lt_of_lt_of_le hm (by
      have : f ≤ 4 := by omega
      exact Nat.le_trans (Nat.pow_le_pow_right (by omega) (show f + 1 ≤ 5 by omega)) (by decide))
    have hbs := hb.size
    by_cases hlt : 127 < m
    · go_wp2_with (at_builtin; refine wpList_append_own _ rfl _ _ 103 rfl w.heap.size 5 i0 (.int .u8 0) 1 1 Tryz.underlying103 hi hz0 hz1 hz2 rfl (by decide) _ _ _ rfl (hown.alloc _) ⟨wr.heap.size, 0, none⟩ 1 1 [.int .u8 ((m : Int) % 128 + 128)] rfl rfl (cell_one_new _ _ _) (one_byte _) ?c3 ?c4 ?c5 ?_)
      case c3 => unfold maxLen; omega
      case c4 => omega
      case c5 => simp; omega
      intro v' w1 hown' hgrow _
      have hb1 := below_append hb (Nat.le_refl _) hown hgrow
      have hown1 := own_snoc (c := UInt8.ofNat (m % 128 + 128)) (by rw [toNat_ofNat_small _ (by omega)]; omega) hown'
      clear hown' hgrow hown hb
      go_wp2
      go_roundw
      case rel =>
        obtain ⟨f', rfl⟩ : ∃ f', f = f' + 1 := ⟨f - 1, by
          rcases f with _ | f
          · simp at hm; omega
          · rfl⟩
        refine ⟨m / 128, f', pre ++ [UInt8.ofNat (m % 128 + 128)], by go_num, ?_, by simp; omega, ?_, hown1, hb1⟩
        · rw [Nat.div_lt_iff_lt_mul (by omega)]; rw [Nat.pow_succ] at hm; exact hm
        · rw [← hv, varB_more f' m hlt]; simp
      case measure => simp [intOf]; omega
    · go_wp2_with (at_builtin; refine wpList_append_own _ rfl _ _ 103 rfl w.heap.size 5 i0 (.int .u8 0) 1 1 Tryz.underlying103 hi hz0 hz1 hz2 rfl (by decide) _ _ _ rfl (hown.alloc _) ⟨wr.heap.size, 0, none⟩ 1 1 [.int .u8 (m : Int)] rfl rfl (cell_one_new _ _ _) (one_byte _) ?d3 ?d4 ?d5 ?_)
      case d3 => unfold maxLen; omega
      case d4 => omega
      case d5 => simp; omega
      intro v' w1 hown' hgrow _
      have hb1 := below_append hb (Nat.le_refl _) hown hgrow
      have hown1 := own_snoc (c := UInt8.ofNat m) (by rw [toNat_ofNat_small _ (by omega)]) hown'
      have hcv := convert_own w1 103 9 5 w.heap.size v' _ Tryz.underlying103 Tryz.underlying5 Tryz.underlying9 hown1
      rw [← varB_last f m (by omega), hv] at hcv
      clear hown' hgrow hown hb hown1
      go_wp2
      go_ret2
      exact ⟨rfl, hb1⟩
theorem byteAt_list (s : ByteArray) (i : Nat) : byteAt s i = ((s.data.toList)[i]?.map UInt8.toNat).getD 0 := by
  unfold byteAt
  split
  · rename_i h
    have h2 : i < s.data.toList.length := by simpa using h
    rw [List.getElem?_eq_getElem h2]
    rfl
  · rename_i h
    have h2 : s.data.toList.length ≤ i := by simpa using h
    rw [List.getElem?_eq_none h2]
    rfl
theorem byteAt_mk (l : List UInt8) (i : Nat) (h : i < l.length) : byteAt ⟨l.toArray⟩ i = (l[i]'h).toNat := by
  rw [byteAt_list]
  simp [List.getElem?_eq_getElem h]
theorem mix (m sc acc : Nat) : acc + m % 128 * sc + m / 128 * (sc * 128) = acc + m * sc := by
  have h : m / 128 * (sc * 128) = 128 * (m / 128) * sc := by
    rw [Nat.mul_comm sc 128, ← Nat.mul_assoc, Nat.mul_comm (m / 128) 128]
  have e : m % 128 * sc + 128 * (m / 128) * sc = m * sc := by
    rw [← Nat.add_mul, Nat.mod_add_div]
  rw [h, Nat.add_assoc, e]
theorem readV_var {s : ByteArray} {a n : Nat} (hn : n ≤ 1000000000) : ∀ (g m i acc sc f : Nat), m < 128 ^ (g + 1) → g < f → acc + m * sc = n →
    (∀ j (hj : j < (varB g m).length), byteAt s (i + j) = ((varB g m)[j]'hj).toNat) → i + (varB g m).length ≤ s.size → varB 4 n = (s.extract a (i + (varB g m).length)).toList →
    readV s a f i acc sc = some (n, i + (varB g m).length) := by
  intro g
  induction g with
  | zero =>
    intro m i acc sc f hm hf hacc hb hi hq
    obtain ⟨f, rfl⟩ : ∃ f', f = f' + 1 := ⟨f - 1, by omega⟩
    have hm7 : m ≤ 127 := by simp at hm; omega
    rw [varB_last 0 m hm7] at hb hi hq ⊢
    have hb0 := hb 0 (by simp)
    simp only [List.getElem_cons_zero, Nat.add_zero] at hb0
    rw [toNat_ofNat_small m (by omega)] at hb0
    simp only [List.length_cons, List.length_nil, Nat.zero_add] at hi hq ⊢
    have e : acc + byteAt s i % 128 * sc = n := by rw [hb0, Nat.mod_eq_of_lt (by omega)]; exact hacc
    rw [readV_yes (by omega) (by omega) (by rw [e]; omega) (by rw [e]; exact hq), e]
  | succ g ih =>
    intro m i acc sc f hm hf hacc hb hi hq
    obtain ⟨f, rfl⟩ : ∃ f', f = f' + 1 := ⟨f - 1, by omega⟩
    by_cases hm7 : m ≤ 127
    · rw [varB_last (g + 1) m hm7] at hb hi hq ⊢
      have hb0 := hb 0 (by simp)
      simp only [List.getElem_cons_zero, Nat.add_zero] at hb0
      rw [toNat_ofNat_small m (by omega)] at hb0
      simp only [List.length_cons, List.length_nil, Nat.zero_add] at hi hq ⊢
      have e : acc + byteAt s i % 128 * sc = n := by rw [hb0, Nat.mod_eq_of_lt (by omega)]; exact hacc
      rw [readV_yes (by omega) (by omega) (by rw [e]; omega) (by rw [e]; exact hq), e]
    · rw [varB_more g m (by omega)] at hb hi hq ⊢
      have hb0 := hb 0 (by simp)
      simp only [List.getElem_cons_zero, Nat.add_zero] at hb0
      rw [toNat_ofNat_small _ (by omega)] at hb0
      simp only [List.length_cons] at hi hq ⊢
      rw [readV_more (by omega) (by omega), hb0, show (m % 128 + 128) % 128 = m % 128 by omega]
      have hle : i + ((varB g (m / 128)).length + 1) = i + 1 + (varB g (m / 128)).length := by omega
      rw [hle] at hi hq ⊢
      refine ih (m / 128) (i + 1) (acc + m % 128 * sc) (sc * 128) f ?_ (by omega) ?_ ?_ hi hq
      · rw [Nat.div_lt_iff_lt_mul (by omega)]; rw [Nat.pow_succ] at hm; exact hm
      · rw [mix]; exact hacc
      · intro j hj
        have := hb (j + 1) (by simp; omega)
        simp only [List.getElem_cons_succ] at this
        rw [← this]
        congr 1
        omega
theorem extract_mid (p q r : List UInt8) : ((ByteArray.mk (p ++ q ++ r).toArray).extract p.length (p.length + q.length)).toList = q := by
  rw [ByteArray.toList_eq]
  simp
theorem readA_var (p r : List UInt8) (n : Nat) (hn : n ≤ 1000000000) : readA ⟨(p ++ varB 4 n ++ r).toArray⟩ (p.length : Int) = some (n, p.length + (varB 4 n).length) := by
  have hsz : (ByteArray.mk (p ++ varB 4 n ++ r).toArray).size = p.length + (varB 4 n).length + r.length := by simp [ByteArray.size]; omega
  rw [readA, if_pos ⟨by omega, by omega⟩, Int.toNat_natCast]
  refine readV_var hn 4 n p.length 0 1 5 (by omega) (by omega) (by omega) ?_ (by omega) ?_
  · intro j hj
    rw [byteAt_mk _ _ (by simp; omega)]
    congr 1
    rw [List.getElem_append_left (by simp; omega), List.getElem_append_right (by omega)]
    simp
  · exact (extract_mid p (varB 4 n) r).symm
end Go.Proofs.YtihnaddfpmjpaaaGreatDoor
