/-
  Texts of this claim, one behind the other: WHex.
-/
import Derived.Test.YtlakimdgebgdkaaGreatDoorJ1
import Derived.Deep.QuietTactic
import Derived.BigQuiet
import Derived.Deep.RegionHeld3
import Derived.Deep.AppendLies

/-
  The contracts of the writers of figures: spec.l01Figure, spec.Hex, impl.Hex, for every text.
-/
namespace Go.Proofs.YtlakimdgebgdkaaGreatDoor
namespace Hx
open Go.RowKit

def figI (x : Int) : Int := if x < 10 then 48 + x else 87 + x

theorem figI_bd (x : Int) (h0 : 0 ≤ x) (h1 : x < 16) : 0 ≤ figI x ∧ figI x ≤ 255 := by
  unfold figI; split <;> omega

def fig (x : Nat) : UInt8 := UInt8.ofNat (figI (x : Int)).toNat

theorem fig_toNat (x : Nat) (h : x < 16) : ((fig x).toNat : Int) = figI (x : Int) := by
  have hb := figI_bd (x : Int) (by omega) (by omega)
  unfold fig
  rw [toNat_ofNat_small _ (by omega)]
  omega

def hexB (l : List UInt8) : List UInt8 := l.flatMap fun c => [fig (c.toNat / 16), fig (c.toNat % 16)]

theorem hexB_length (l : List UInt8) : (hexB l).length = 2 * l.length := by
  induction l with
  | nil => rfl
  | cons a l ih => simp only [hexB, List.flatMap_cons, List.length_append, List.length_cons, List.length_nil] at ih ⊢; omega

theorem hexB_snoc (l : List UInt8) (c : UInt8) : hexB (l ++ [c]) = hexB l ++ [fig (c.toNat / 16), fig (c.toNat % 16)] := by
  simp [hexB]

theorem take_snoc (s : ByteArray) (k : Nat) (h : k < s.size) : s.data.toList.take (k + 1) = s.data.toList.take k ++ [s[k]] := by
  rw [List.take_succ_eq_append_getElem (by simpa using h)]; rfl

theorem two_bytes (x y : Int) : ∀ u, u ∈ [Value.int .u8 x, Value.int .u8 y] → u.oneCell' = true := by
  intro u hu; simp at hu; rcases hu with rfl | rfl <;> rfl

theorem own_two {w1 : World} {B e : Nat} {v' : Value} {pre : List UInt8} {c d : UInt8} {x y : Int} (hx : x = (c.toNat : Int)) (hy : y = (d.toNat : Int))
    (h : w1.ownsRow B e 1 v' (pre.length + 2) (bytesV pre ++ [.int .u8 x, .int .u8 y])) : w1.ownsRow B e 1 v' (pre ++ [c, d]).length (bytesV (pre ++ [c, d])) := by
  subst hx hy
  simpa [bytesV] using h

theorem below_append_drew {B : Nat} {w wr w1 : World} {o : Obj} {e size n : Nat} {v : Value} {xs : List Value} (hb : Below B w wr) (hB : B ≤ w.heap.size) (hown : wr.ownsRow B e size v n xs)
    (hg : (wr.alloc o).drew.grownBy w1 v.ownBlock) : Below B w w1 := by
  have hs := hb.size
  exact ((hb.alloc (by omega) o).drew).grown hg (by simp; omega) (fun k hk => (hown.lt k hk).1)

theorem hex_step {w1 : World} {B e : Nat} {v' : Value} {s : ByteArray} {k : Nat} (h : k < s.size)
    (ho : w1.ownsRow B e 1 v' ((hexB (s.data.toList.take k)).length + 2) (bytesV (hexB (s.data.toList.take k)) ++ [.int .u8 (figI (((s[k]'h).toNat : Int) / 16)), .int .u8 (figI (((s[k]'h).toNat : Int) % 16))])) :
    w1.ownsRow B e 1 v' (hexB (s.data.toList.take (k + 1))).length (bytesV (hexB (s.data.toList.take (k + 1)))) := by
  have hB := UInt8.toNat_lt (s[k]'h)
  rw [take_snoc s k h, hexB_snoc]
  refine own_two ?_ ?_ ho
  · rw [fig_toNat _ (by omega)]; rfl
  · rw [fig_toNat _ (by omega)]; rfl

/-- The value of a figure's byte; -1 where it is none. -/

theorem info5 : (Tryz.prog.info? 5).map (fun i => (i.zero, i.size, i.bytes)) = some (some (.int .u8 0), 1, 1) := by kernel_rfl

theorem figure_any (x : Int) (h0 : 0 ≤ x) (h1 : x < 16) (w : World) : Calls Tryz.prog 28 #[.int .i64 x] w fun e w' => e = .returned (.int .u8 (figI x)) ∧ w' = w := by
  by_cases h : x < 10
  · have e : figI x = 48 + x := if_pos h
    go_enter Tryz.func28, Tryz.ntmps28
    go_wp2
    go_ret
    rw [e]
    exact ⟨rfl, rfl⟩
  · have e : figI x = 87 + x := if_neg h
    have E := hide e
    clear e
    go_enter Tryz.func28, Tryz.ntmps28
    go_wp2
    go_ret
    have e2 : 97 + x - 10 = 87 + x := by omega
    rw [unhide E, ← e2]
    exact ⟨rfl, rfl⟩

theorem specHex_no (s : ByteArray) (h : (8000 : Int) < (s.size : Int)) (w : World) :
    Calls Tryz.prog 16 #[.string s] w fun e w' => e = .returned (.tuple #[.string ⟨#[]⟩, .bool false]) ∧ w' = w := by
  go_enter Tryz.func16, Tryz.ntmps16
  go_wp2
  go_ret2
  exact ⟨rfl, rfl⟩

theorem implHex_no (s : ByteArray) (h : (8000 : Int) < (s.size : Int)) (w : World) :
    Calls Tryz.prog 67 #[.string s] w fun e w' => e = .returned (.tuple #[.string ⟨#[]⟩, .bool false]) ∧ w' = w := by
  go_enter Tryz.func67, Tryz.ntmps67
  go_wp2
  go_ret2
  exact ⟨rfl, rfl⟩

set_option maxRecDepth 100000 in
set_option maxHeartbeats 1000000 in
theorem specHex_yes (s : ByteArray) (h : s.size ≤ 8000) (w : World) :
    Calls Tryz.prog 16 #[.string s] w fun e w' => e = .returned (.tuple #[.string ⟨(hexB s.data.toList).toArray⟩, .bool true]) ∧ Below w.heap.size w w' := by
  obtain ⟨i0, hi, hz0, hz1, hz2⟩ := info_parts info5
  go_enter Tryz.func16, Tryz.ntmps16
  go_wp2_with fail
  go_loopw [4, 5] (fun out i wr => ∃ k : Nat, i = .int .i64 k ∧ k ≤ s.size ∧ wr.ownsRow w.heap.size 5 1 out (hexB (s.data.toList.take k)).length (bytesV (hexB (s.data.toList.take k))) ∧ Below w.heap.size w wr)
    (fun _ i _ => s.size - (intOf i).toNat)
  case atStart =>
    refine ⟨0, rfl, Nat.zero_le _, ?_, (Below.refl _ _).alloc (Nat.le_refl _) _⟩
    exact World.ownsRow_made w #[] 0 (Nat.le_refl _) (Nat.zero_le _) rfl
  case round =>
    obtain ⟨k, rfl, hk, hown, hb⟩ := hrel
    have hbs := hb.size
    by_cases hlt : k < s.size
    · have hB : ((s[k]'hlt).toNat : Int) ≤ 255 := by have := UInt8.toNat_lt (s[k]'hlt); omega
      have hlen : (hexB (s.data.toList.take k)).length ≤ 16000 := by
        rw [hexB_length]; have := List.length_take_le k s.data.toList; omega
      have hi1 : (0 : Int) ≤ (k : Int) := by omega
      have hi2 : (k : Int) < (s.size : Int) := by omega
      have hwA : IntKind.i64.wrap ((s[k]'hlt).toNat : Int) = ((s[k]'hlt).toNat : Int) := IntWalk.i64_in _ ⟨by omega, by omega⟩
      have hwD : IntKind.i64.wrap (((s[k]'hlt).toNat : Int) / 16) = ((s[k]'hlt).toNat : Int) / 16 := IntWalk.i64_in _ ⟨by omega, by omega⟩
      have hwM : ((s[k]'hlt).toNat : Int).tmod 16 = ((s[k]'hlt).toNat : Int) % 16 := Int.tmod_eq_emod_of_nonneg (by omega)
      go_wp2_with fail
      go_region_held3 (fun _ => True) (go_keep)
        (first
          | (go_at_call 28; refine (figure_any _ ?_ ?_ _).mono ?_; omega; omega; rintro e w1 ⟨rfl, rfl⟩)
          | (refine step_append_lies _ (by rfl) _ _ _ (by rfl) w.heap.size 5 i0 _ 1 1 Tryz.underlying77 hi hz0 hz1 hz2 rfl (by omega) _ _ _ (by rfl) ((hown.alloc _).drew) ⟨wr.heap.size, 0, none⟩ 2 2 [.int .u8 (figI ((s[k].toNat : Int) / 16)), .int .u8 (figI ((s[k].toNat : Int) % 16))] (by rfl) (by rfl) (World.news_of_block (cs := #[.int .u8 (figI ((s[k].toNat : Int) / 16)), .int .u8 (figI ((s[k].toNat : Int) % 16))]) (t := 5) (fr := (0, 0)) (heap_alloc_new wr _)) (two_bytes _ _) (by omega) (by unfold maxLen; omega) (by omega) (by simp; omega) (wr.heap.size + 1) (by simp) ?_; intro gg cap w1 hown1 hgrow hat hlt1))
      all_goals
        have hb1 := below_append_drew hb (Nat.le_refl _) hown hgrow
        have hown2 := hex_step hlt hown1
        clear hown1 hgrow hown hb hat hlt1
        go_wp2
        go_roundw
        case rel => exact ⟨k + 1, by go_num, by omega, hown2, hb1⟩
        case measure => simp [intOf]; omega
    · obtain rfl : k = s.size := by omega
      have hcv := convert_own wr 77 9 5 w.heap.size u4 _ Tryz.underlying77 Tryz.underlying5 Tryz.underlying9 hown
      rw [List.take_of_length_le (by simp)] at hcv
      clear hown
      go_wp2
      go_ret2
      exact ⟨rfl, hb⟩

/-- The figures' own text, at a figure. -/
theorem figures_at (x : Int) (h0 : 0 ≤ x) (h1 : x < 16) (w : World) :
    (Instr.index 9 (.string ⟨#[48, 49, 50, 51, 52, 53, 54, 55, 56, 57, 97, 98, 99, 100, 101, 102]⟩) (.int .u8 x)).run Tryz.prog w = .ok (.int .u8 (figI x)) w := by
  obtain ⟨n, rfl⟩ := Int.eq_ofNat_of_zero_le h0
  have hn : n < 16 := by omega
  have hc : n = 0 ∨ n = 1 ∨ n = 2 ∨ n = 3 ∨ n = 4 ∨ n = 5 ∨ n = 6 ∨ n = 7 ∨ n = 8 ∨ n = 9 ∨ n = 10 ∨ n = 11 ∨ n = 12 ∨ n = 13 ∨ n = 14 ∨ n = 15 := by omega
  rcases hc with rfl | rfl | rfl | rfl | rfl | rfl | rfl | rfl | rfl | rfl | rfl | rfl | rfl | rfl | rfl | rfl <;> (show _ = _; kernel_rfl)

set_option maxRecDepth 100000 in
set_option maxHeartbeats 1000000 in
theorem implHex_yes (s : ByteArray) (h : s.size ≤ 8000) (w : World) :
    Calls Tryz.prog 67 #[.string s] w fun e w' => e = .returned (.tuple #[.string ⟨(hexB s.data.toList).toArray⟩, .bool true]) ∧ Below w.heap.size w w' := by
  obtain ⟨i0, hi, hz0, hz1, hz2⟩ := info_parts info5
  obtain ⟨M, hM⟩ : ∃ M, M = madeCells (Value.int .u8 0).cells ((2 * (s.size : Int)).toNat * i0.size) := ⟨_, rfl⟩
  have hMs : M.size = 2 * s.size * 1 := by rw [hM, size_madeCells, hz1]; simp; omega
  have hmk : ∀ W : World, (Instr.makeSlice 77 (.int .i64 0) (.int .i64 (2 * (s.size : Int)))).run Tryz.prog W = .ok (.slice (some ⟨W.heap.size, 0, none⟩) 0 (2 * s.size)) (W.alloc (.cells M 5)) := fun W => by
    have h := run_make (P := Tryz.prog) W 77 5 i0 (.int .u8 0) Tryz.underlying77 hi hz0 .i64 .i64 0 (2 * (s.size : Int)) (by omega) (by omega) (by rw [hz2]; omega) (by omega)
    rw [← hM] at h
    have e : (2 * (s.size : Int)).toNat = 2 * s.size := by omega
    rw [e] at h
    simpa using h
  clear hM
  have HM := hide hMs
  clear hMs
  go_enter Tryz.func67, Tryz.ntmps67
  go_wp2_with fail
  go_loopw [4, 5] (fun out i wr => ∃ k : Nat, i = .int .i64 k ∧ k ≤ s.size ∧ wr.ownsRow w.heap.size 5 1 out (hexB (s.data.toList.take k)).length (bytesV (hexB (s.data.toList.take k))) ∧ Below w.heap.size w wr)
    (fun _ i _ => s.size - (intOf i).toNat)
  case atStart =>
    refine ⟨0, rfl, Nat.zero_le _, ?_, (Below.refl _ _).alloc (Nat.le_refl _) _⟩
    exact World.ownsRow_made w M (2 * s.size) (Nat.le_refl _) (by unfold maxLen; omega) (unhide HM)
  case round =>
    obtain ⟨k, rfl, hk, hown, hb⟩ := hrel
    have hbs := hb.size
    by_cases hlt : k < s.size
    · have hB : ((s[k]'hlt).toNat : Int) ≤ 255 := by have := UInt8.toNat_lt (s[k]'hlt); omega
      have hlen : (hexB (s.data.toList.take k)).length ≤ 16000 := by
        rw [hexB_length]; have := List.length_take_le k s.data.toList; omega
      have hi1 : (0 : Int) ≤ (k : Int) := by omega
      have hi2 : (k : Int) < (s.size : Int) := by omega
      have hwD : IntKind.u8.wrap (((s[k]'hlt).toNat : Int) / 16) = ((s[k]'hlt).toNat : Int) / 16 := IntWalk.u8_in _ ⟨by omega, by omega⟩
      have hwM : ((s[k]'hlt).toNat : Int).tmod 16 = ((s[k]'hlt).toNat : Int) % 16 := Int.tmod_eq_emod_of_nonneg (by omega)
      have hf1 := figures_at (((s[k]'hlt).toNat : Int) / 16) (by omega) (by omega)
      have hf2 := figures_at (((s[k]'hlt).toNat : Int) % 16) (by omega) (by omega)
      go_wp2_with fail
      go_region_held3 (fun _ => True) (go_keep)
        (first
          | (refine step_append_lies _ (by rfl) _ _ _ (by rfl) w.heap.size 5 i0 _ 1 1 Tryz.underlying77 hi hz0 hz1 hz2 rfl (by omega) _ _ _ (by rfl) ((hown.alloc _).drew) ⟨wr.heap.size, 0, none⟩ 2 2 [.int .u8 (figI ((s[k].toNat : Int) / 16)), .int .u8 (figI ((s[k].toNat : Int) % 16))] (by rfl) (by rfl) (World.news_of_block (cs := #[.int .u8 (figI ((s[k].toNat : Int) / 16)), .int .u8 (figI ((s[k].toNat : Int) % 16))]) (t := 5) (fr := (0, 0)) (heap_alloc_new wr _)) (two_bytes _ _) (by omega) (by unfold maxLen; omega) (by omega) (by simp; omega) (wr.heap.size + 1) (by simp) ?_; intro gg cap w1 hown1 hgrow hat hlt1))
      all_goals
        have hb1 := below_append_drew hb (Nat.le_refl _) hown hgrow
        have hown2 := hex_step hlt hown1
        clear hown1 hgrow hown hb hat hlt1
        go_wp2
        go_roundw
        case rel => exact ⟨k + 1, by go_num, by omega, hown2, hb1⟩
        case measure => simp [intOf]; omega
    · obtain rfl : k = s.size := by omega
      have hcv := convert_own wr 77 9 5 w.heap.size u4 _ Tryz.underlying77 Tryz.underlying5 Tryz.underlying9 hown
      rw [List.take_of_length_le (by simp)] at hcv
      clear hown
      go_wp2
      go_ret2
      exact ⟨rfl, hb⟩

end Hx
end Go.Proofs.YtlakimdgebgdkaaGreatDoor
