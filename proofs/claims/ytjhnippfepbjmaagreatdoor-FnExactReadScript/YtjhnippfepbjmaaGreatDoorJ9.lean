/-
  Texts of this claim, one behind the other: WUnhex.
-/
import Derived.Test.YtjhnippfepbjmaaGreatDoorJ1
import Derived.Test.YtjhnippfepbjmaaGreatDoorJ2
import Derived.WalkMore

/-
  The readers of figures by sixteens: spec.l01Value, impl.readFigures at the base 16, spec.Unhex, impl.Unhex, for every text (namespace Ux; out of stage 1's texts).
-/
namespace Go.Proofs.YtjhnippfepbjmaaGreatDoor
namespace Ux
open Go.RowKit

theorem info5 : (Tryz.prog.info? 5).map (fun i => (i.zero, i.size, i.bytes)) = some (some (.int .u8 0), 1, 1) := by kernel_rfl

/-- The value of a figure's byte; -1 where it is none. -/
def valI (c : Int) : Int := if 48 ≤ c ∧ c ≤ 57 then c - 48 else if 97 ≤ c ∧ c ≤ 102 then c - 87 else -1

theorem valI_bd (c : Int) : -1 ≤ valI c ∧ valI c ≤ 15 := by
  unfold valI
  split
  · omega
  · split <;> omega

def unhexF (s : ByteArray) : Nat → Nat → List UInt8 → Option (List UInt8)
  | 0, _, acc => some acc
  | f + 1, i, acc =>
    if valI (byteAt s i) < 0 ∨ valI (byteAt s (i + 1)) < 0 then none
    else unhexF s f (i + 2) (acc ++ [UInt8.ofNat (16 * valI (byteAt s i) + valI (byteAt s (i + 1))).toNat])

def uhOut : Option (List UInt8) → Value
  | none => .tuple #[.string ⟨#[]⟩, .bool false]
  | some l => .tuple #[.string ⟨l.toArray⟩, .bool true]

theorem unhexF_no {s : ByteArray} {f i : Nat} {acc : List UInt8} (h : valI (byteAt s i) < 0 ∨ valI (byteAt s (i + 1)) < 0) : unhexF s (f + 1) i acc = none := by
  simp only [unhexF]; rw [if_pos h]

theorem unhexF_yes {s : ByteArray} {f i : Nat} {acc : List UInt8} (h : ¬ (valI (byteAt s i) < 0 ∨ valI (byteAt s (i + 1)) < 0)) :
    unhexF s (f + 1) i acc = unhexF s f (i + 2) (acc ++ [UInt8.ofNat (16 * valI (byteAt s i) + valI (byteAt s (i + 1))).toNat]) := by
  simp only [unhexF]; rw [if_neg h]

/-- What figures of the base 16 tell, from place i on, n told already; f: how many are left. -/
def rf16 (s : ByteArray) : Nat → Nat → Nat → Option Nat
  | 0, _, n => some n
  | f + 1, i, n => if valI (byteAt s i) < 0 then none else rf16 s f (i + 1) (n * 16 + (valI (byteAt s i)).toNat)

def rfOut : Option Nat → Value
  | none => .tuple #[.int .i64 0, .bool false]
  | some n => .tuple #[.int .i64 (n : Int), .bool true]

theorem rf16_no {s : ByteArray} {f i n : Nat} (h : valI (byteAt s i) < 0) : rf16 s (f + 1) i n = none := by
  simp only [rf16]; rw [if_pos h]

theorem rf16_yes {s : ByteArray} {f i n : Nat} (h : ¬ valI (byteAt s i) < 0) : rf16 s (f + 1) i n = rf16 s f (i + 1) (n * 16 + (valI (byteAt s i)).toNat) := by
  simp only [rf16]; rw [if_neg h]

theorem pow16_le {i : Nat} (h : i ≤ 14) : 16 ^ i ≤ 72057594037927936 := by
  have : 16 ^ i ≤ 16 ^ 14 := Nat.pow_le_pow_right (by omega) h
  omega

theorem byteAt_list (s : ByteArray) (i : Nat) : byteAt s i = ((s.data.toList)[i]?.map UInt8.toNat).getD 0 := by
  unfold byteAt
  split
  · rename_i h
    have h2 : i < s.data.toList.length := by simpa using h
    rw [List.getElem?_eq_getElem h2]
    rfl
  · rename_i h
    have h2 : s.data.toList.length ≤ i := by simpa using h
    rw [List.getElem?_eq_none h2]
    rfl

theorem byteAt_extract (s : ByteArray) (a b j : Nat) (h : a + j < b) (hb : b ≤ s.size) : byteAt (s.extract a b) j = byteAt s (a + j) := by
  have h1 : j < (s.extract a b).size := by simp [ByteArray.size_extract]; omega
  rw [byteAt_eq h1, byteAt_eq (show a + j < s.size by omega)]
  congr 1
  exact ByteArray.getElem_extract ..

theorem rf16_two (s : ByteArray) (i : Nat) (h : i + 2 ≤ s.size) : rf16 (s.extract i (i + 2)) (s.extract i (i + 2)).size 0 0 =
    if valI (byteAt s i) < 0 ∨ valI (byteAt s (i + 1)) < 0 then none else some (16 * valI (byteAt s i) + valI (byteAt s (i + 1))).toNat := by
  have hz : (s.extract i (i + 2)).size = 2 := by simp [ByteArray.size_extract]; omega
  have e0 := byteAt_extract s i (i + 2) 0 (by omega) h
  have e1 := byteAt_extract s i (i + 2) 1 (by omega) h
  rw [hz]
  simp only [rf16, e0, e1, Nat.add_zero, Nat.zero_add]
  by_cases h0 : valI (byteAt s i) < 0
  · rw [if_pos h0, if_pos (Or.inl h0)]
  · rw [if_neg h0]
    by_cases h1 : valI (byteAt s (i + 1)) < 0
    · rw [if_pos h1, if_pos (Or.inr h1)]
    · rw [if_neg h1, if_neg (by omega)]
      congr 1
      omega



theorem value_any (x : Int) (h0 : 0 ≤ x) (h1 : x ≤ 255) (w : World) : Calls Tryz.prog 45 #[.int .u8 x] w fun e w' => e = .returned (.int .i64 (valI x)) ∧ w' = w := by
  by_cases ha : 48 ≤ x
  · by_cases hb : x ≤ 57
    · have e := hide (show valI x = x - 48 from if_pos ⟨ha, hb⟩)
      go_enter Tryz.func45, Tryz.ntmps45
      go_wp2
      go_ret
      rw [unhide e]
      exact ⟨rfl, rfl⟩
    · by_cases hc : 97 ≤ x
      · by_cases hd : x ≤ 102
        · have e := hide (show valI x = x - 87 from by rw [valI, if_neg (by omega), if_pos ⟨hc, hd⟩])
          go_enter Tryz.func45, Tryz.ntmps45
          go_wp2
          go_ret
          have e2 : x - 87 = x - 97 + 10 := by omega
          rw [unhide e, e2]
          exact ⟨rfl, rfl⟩
        · have e := hide (show valI x = -1 from by rw [valI, if_neg (by omega), if_neg (by omega)])
          go_enter Tryz.func45, Tryz.ntmps45
          go_wp2
          go_ret
          rw [unhide e]
          exact ⟨rfl, rfl⟩
      · have e := hide (show valI x = -1 from by rw [valI, if_neg (by omega), if_neg (by omega)])
        go_enter Tryz.func45, Tryz.ntmps45
        go_wp2
        go_ret
        rw [unhide e]
        exact ⟨rfl, rfl⟩
  · have e := hide (show valI x = -1 from by rw [valI, if_neg (by omega), if_neg (by omega)])
    go_enter Tryz.func45, Tryz.ntmps45
    go_wp2
    go_ret
    rw [unhide e]
    exact ⟨rfl, rfl⟩

set_option maxRecDepth 100000 in
set_option maxHeartbeats 1000000 in
theorem figures16 (s : ByteArray) (hs : s.size ≤ 15) (w : World) :
    Calls Tryz.prog 71 #[.string s, .int .i64 16] w fun e w' => e = .returned (rfOut (rf16 s s.size 0 0)) ∧ w' = w := by
  go_enter Tryz.func71, Tryz.ntmps71
  go_wp2_with fail
  go_step3
  go_wp2_with fail
  go_step3
  go_wp2_with fail
  go_loop [6, 7, 8] (fun a6 a7 a8 => ∃ n i f : Nat, a6 = .int .i64 n ∧ a7 = .bool true ∧ a8 = .int .i64 i ∧ i + f = s.size ∧ n < 16 ^ i ∧ rf16 s f i n = rf16 s s.size 0 0)
    (fun _ _ a8 => s.size - (intOf a8).toNat)
  case atStart => exact ⟨0, 0, s.size, rfl, rfl, rfl, by omega, by simp, rfl⟩
  case round =>
    obtain ⟨n, i, f, rfl, rfl, rfl, hif, hn, hv⟩ := hrel
    have HV := hide hv
    clear hv
    by_cases hlt : i < s.size
    · obtain ⟨f, rfl⟩ : ∃ f', f = f' + 1 := ⟨f - 1, by omega⟩
      have hp := pow16_le (i := i) (by omega)
      have hB : ((s[i]'hlt).toNat : Int) ≤ 255 := by have := UInt8.toNat_lt (s[i]'hlt); omega
      have HB := hide (show (byteAt s i : Int) = ((s[i]'hlt).toNat : Int) by rw [byteAt_eq hlt])
      by_cases ha : 48 ≤ ((s[i]'hlt).toNat : Int) ∧ ((s[i]'hlt).toNat : Int) ≤ 57
      · have HE := hide (show valI (byteAt s i) = ((s[i]'hlt).toNat : Int) - 48 from by rw [unhide HB, valI, if_pos ha])
        obtain ⟨ha1, ha2⟩ := ha
        go_wp2
        go_round
        case rel =>
          refine ⟨n * 16 + (valI (byteAt s i)).toNat, i + 1, f, ?_, rfl, by go_num, by omega, ?_, ?_⟩
          · rw [unhide HE]; go_num
          · rw [unhide HE, Nat.pow_succ]; omega
          · rw [← unhide HV, rf16_yes (by rw [unhide HE]; omega)]
        case measure => simp [intOf]; omega
      · by_cases hc : 97 ≤ ((s[i]'hlt).toNat : Int) ∧ ((s[i]'hlt).toNat : Int) ≤ 102
        · have HE := hide (show valI (byteAt s i) = ((s[i]'hlt).toNat : Int) - 87 from by rw [unhide HB, valI, if_neg ha, if_pos hc])
          obtain ⟨hc1, hc2⟩ := hc
          go_wp2
          go_round
          case rel =>
            refine ⟨n * 16 + (valI (byteAt s i)).toNat, i + 1, f, ?_, rfl, by go_num, by omega, ?_, ?_⟩
            · rw [unhide HE]; go_num
            · rw [unhide HE, Nat.pow_succ]; omega
            · rw [← unhide HV, rf16_yes (by rw [unhide HE]; omega)]
          case measure => simp [intOf]; omega
        · have HE := hide (show valI (byteAt s i) = -1 from by rw [unhide HB, valI, if_neg ha, if_neg hc])
          go_wp2
          all_goals
            go_ret2
            rw [← unhide HV, rf16_no (by rw [unhide HE]; omega)]
            exact ⟨rfl, rfl⟩
    · obtain rfl : f = 0 := by omega
      go_wp2
      go_ret2
      rw [← unhide HV]
      exact ⟨rfl, rfl⟩

theorem specUnhex_no (s : ByteArray) (h : (16000 : Int) < (s.size : Int) ∨ (s.size : Int) % 2 ≠ 0) (w : World) :
    Calls Tryz.prog 34 #[.string s] w fun e w' => e = .returned (uhOut none) ∧ w' = w := by
  by_cases h1 : (16000 : Int) < (s.size : Int)
  · go_enter Tryz.func34, Tryz.ntmps34
    go_wp2
    go_ret2
    exact ⟨rfl, rfl⟩
  · have h2 : (((s.size : Int) % 2) != 0) = true := by rw [bne_iff_ne]; omega
    go_enter Tryz.func34, Tryz.ntmps34
    go_wp2
    go_ret2
    exact ⟨rfl, rfl⟩

theorem implUnhex_no (s : ByteArray) (h : (16000 : Int) < (s.size : Int) ∨ (s.size : Int) % 2 ≠ 0) (hm : s.size ≤ 140737488355328) (w : World) :
    Calls Tryz.prog 103 #[.string s] w fun e w' => e = .returned (uhOut none) ∧ w' = w := by
  by_cases h2 : (s.size : Int) % 2 ≠ 0
  · have h3 : (((s.size : Int) % 2) != 0) = true := by rw [bne_iff_ne]; exact h2
    go_enter Tryz.func103, Tryz.ntmps103
    go_wp2
    go_ret2
    exact ⟨rfl, rfl⟩
  · have h3 : (((s.size : Int) % 2) != 0) = false := by rw [bne_eq_false_iff_eq]; omega
    have h1 : (16000 : Int) < (s.size : Int) := by omega
    go_enter Tryz.func103, Tryz.ntmps103
    go_wp2
    go_ret2
    exact ⟨rfl, rfl⟩

set_option maxRecDepth 100000 in
set_option maxHeartbeats 1000000 in
theorem specUnhex_yes (s : ByteArray) (h : s.size ≤ 16000) (h2 : s.size % 2 = 0) (w : World) :
    Calls Tryz.prog 34 #[.string s] w fun e w' => e = .returned (uhOut (unhexF s (s.size / 2) 0 [])) ∧ Below w.heap.size w w' := by
  obtain ⟨i0, hi, hz0, hz1, hz2⟩ := info_parts info5
  have H2 := hide h2
  have h3 : (((s.size : Int) % 2) != 0) = false := by rw [bne_eq_false_iff_eq]; omega
  clear h2
  go_enter Tryz.func34, Tryz.ntmps34
  go_wp2_with fail
  go_loopw [4, 5] (fun out a5 wr => ∃ (i f : Nat) (acc : List UInt8), a5 = .int .i64 i ∧ i + 2 * f = s.size ∧ acc.length ≤ i ∧ unhexF s f i acc = unhexF s (s.size / 2) 0 [] ∧ wr.ownsRow w.heap.size 5 1 out acc.length (bytesV acc) ∧ Below w.heap.size w wr)
    (fun _ a5 _ => s.size - (intOf a5).toNat)
  case atStart =>
    refine ⟨0, s.size / 2, [], rfl, by have := unhide H2; omega, Nat.zero_le _, rfl, ?_, (Below.refl _ _).alloc (Nat.le_refl _) _⟩
    exact World.ownsRow_made w #[] 0 (Nat.le_refl _) (Nat.zero_le _) rfl
  case round =>
    obtain ⟨i, f, acc, rfl, hif, hl, hv, hown, hb⟩ := hrel
    have HV := hide hv
    have HIF := hide hif
    clear hv
    have hbs := hb.size
    by_cases hlt : i < s.size
    · obtain ⟨f, rfl⟩ : ∃ f', f = f' + 1 := ⟨f - 1, by omega⟩
      have hlt2 : i + 1 < s.size := by omega
      clear hif
      have hB : ((s[i]'hlt).toNat : Int) ≤ 255 := by have := UInt8.toNat_lt (s[i]'hlt); omega
      have hB2 : ((s[i + 1]'hlt2).toNat : Int) ≤ 255 := by have := UInt8.toNat_lt (s[i + 1]'hlt2); omega
      have HB := hide (show (byteAt s i : Int) = ((s[i]'hlt).toNat : Int) by rw [byteAt_eq hlt])
      have HB2 := hide (show (byteAt s (i + 1) : Int) = ((s[i + 1]'hlt2).toNat : Int) by rw [byteAt_eq hlt2])
      have hd := valI_bd ((s[i]'hlt).toNat : Int)
      have hd2 := valI_bd ((s[i + 1]'hlt2).toNat : Int)
      obtain ⟨hd, hd'⟩ := hd
      obtain ⟨hd2, hd2'⟩ := hd2
      by_cases hn1 : valI ((s[i]'hlt).toNat : Int) < 0
      · go_wp2_with fail
        refine (value_any _ (by omega) (by omega) _).mono ?_
        rintro e w' ⟨rfl, rfl⟩
        go_wp2_with fail
        refine (value_any _ (by omega) (by omega) _).mono ?_
        rintro e w' ⟨rfl, rfl⟩
        go_wp2
        go_ret2
        rw [← unhide HV, unhexF_no (Or.inl (by rw [unhide HB]; exact hn1))]
        exact ⟨rfl, hb⟩
      · by_cases hn2 : valI ((s[i + 1]'hlt2).toNat : Int) < 0
        · go_wp2_with fail
          refine (value_any _ (by omega) (by omega) _).mono ?_
          rintro e w' ⟨rfl, rfl⟩
          go_wp2_with fail
          refine (value_any _ (by omega) (by omega) _).mono ?_
          rintro e w' ⟨rfl, rfl⟩
          go_wp2
          go_ret2
          rw [← unhide HV, unhexF_no (Or.inr (by rw [unhide HB2]; exact hn2))]
          exact ⟨rfl, hb⟩
        · go_wp2_with fail
          refine (value_any _ (by omega) (by omega) _).mono ?_
          rintro e w' ⟨rfl, rfl⟩
          go_wp2_with fail
          refine (value_any _ (by omega) (by omega) _).mono ?_
          rintro e w' ⟨rfl, rfl⟩
          go_wp2_with (at_builtin; refine wpList_append_own _ rfl _ _ 66 rfl w.heap.size 5 i0 (.int .u8 0) 1 1 Tryz.underlying66 hi hz0 hz1 hz2 rfl (by decide) _ _ _ rfl (hown.alloc _) ⟨w'.heap.size, 0, none⟩ 1 1 [.int .u8 (16 * valI ((s[i]'hlt).toNat : Int) + valI ((s[i + 1]'hlt2).toNat : Int))] rfl rfl (cell_one_new _ _ _) (one_byte _) ?c3 ?c4 ?c5 ?_)
          case c3 => unfold maxLen; omega
          case c4 => omega
          case c5 => simp; omega
          intro v' w1 hown' hgrow _
          have hb1 := below_append hb (Nat.le_refl _) hown hgrow
          have hown1 := own_snoc (c := UInt8.ofNat (16 * valI (byteAt s i) + valI (byteAt s (i + 1))).toNat) (by rw [unhide HB, unhide HB2, toNat_ofNat_small _ (by omega)]; omega) hown'
          clear hown' hgrow hown hb
          go_wp2
          go_roundw
          case rel =>
            refine ⟨i + 2, f, _, by go_num, by have := unhide HIF; omega, by simp; omega, ?_, hown1, hb1⟩
            rw [← unhide HV, unhexF_yes (by rw [unhide HB, unhide HB2]; omega)]
          case measure => simp [intOf]; omega
    · obtain rfl : f = 0 := by omega
      have hcv := convert_own wr 66 9 5 w.heap.size u4 _ Tryz.underlying66 Tryz.underlying5 Tryz.underlying9 hown
      clear hown hif
      go_wp2
      go_ret2
      rw [← unhide HV]
      exact ⟨rfl, hb⟩

set_option maxRecDepth 100000 in
set_option maxHeartbeats 1000000 in
theorem implUnhex_yes (s : ByteArray) (h : s.size ≤ 16000) (h2 : s.size % 2 = 0) (w : World) :
    Calls Tryz.prog 103 #[.string s] w fun e w' => e = .returned (uhOut (unhexF s (s.size / 2) 0 [])) ∧ Below w.heap.size w w' := by
  obtain ⟨i0, hi, hz0, hz1, hz2⟩ := info_parts info5
  have H2 := hide h2
  have h3 : (((s.size : Int) % 2) != 0) = false := by rw [bne_eq_false_iff_eq]; omega
  clear h2
  obtain ⟨M, hM⟩ : ∃ M, M = madeCells (Value.int .u8 0).cells (((s.size : Int) / 2).toNat * i0.size) := ⟨_, rfl⟩
  have hMs : M.size = s.size / 2 * 1 := by rw [hM, size_madeCells, hz1]; simp; omega
  have hmk : ∀ W : World, (Instr.makeSlice 66 (.int .i64 0) (.int .i64 ((s.size : Int) / 2))).run Tryz.prog W = .ok (.slice (some ⟨W.heap.size, 0, none⟩) 0 (s.size / 2)) (W.alloc (.cells M 5)) := fun W => by
    have h := run_make (P := Tryz.prog) W 66 5 i0 (.int .u8 0) Tryz.underlying66 hi hz0 .i64 .i64 0 ((s.size : Int) / 2) (by omega) (by omega) (by rw [hz2]; omega) (by omega)
    rw [← hM] at h
    have e : ((s.size : Int) / 2).toNat = s.size / 2 := by omega
    rw [e] at h
    simpa using h
  clear hM
  have HM := hide hMs
  clear hMs
  go_enter Tryz.func103, Tryz.ntmps103
  go_wp2_with fail
  go_loopw [4, 5] (fun out a5 wr => ∃ (i f : Nat) (acc : List UInt8), a5 = .int .i64 i ∧ i + 2 * f = s.size ∧ acc.length ≤ i ∧ unhexF s f i acc = unhexF s (s.size / 2) 0 [] ∧ wr.ownsRow w.heap.size 5 1 out acc.length (bytesV acc) ∧ Below w.heap.size w wr)
    (fun _ a5 _ => s.size - (intOf a5).toNat)
  case atStart =>
    refine ⟨0, s.size / 2, [], rfl, by have := unhide H2; omega, Nat.zero_le _, rfl, ?_, (Below.refl _ _).alloc (Nat.le_refl _) _⟩
    exact World.ownsRow_made w M (s.size / 2) (Nat.le_refl _) (by unfold maxLen; omega) (unhide HM)
  case round =>
    obtain ⟨i, f, acc, rfl, hif, hl, hv, hown, hb⟩ := hrel
    have HV := hide hv
    have HIF := hide hif
    clear hv
    have hbs := hb.size
    by_cases hlt : i < s.size
    · obtain ⟨f, rfl⟩ : ∃ f', f = f' + 1 := ⟨f - 1, by omega⟩
      have hlt2 : i + 1 < s.size := by omega
      clear hif
      have hd := valI_bd (byteAt s i : Int)
      have hd2 := valI_bd (byteAt s (i + 1) : Int)
      obtain ⟨hd, hd'⟩ := hd
      obtain ⟨hd2, hd2'⟩ := hd2
      have hsl : ∀ u, (Instr.slice 9 (.string s) (some (.int .i64 (i : Int))) (some (.int .i64 ((i : Int) + 2))) none).run Tryz.prog u = .ok (.string (s.extract i (i + 2))) u := fun u => by
        have h := run_slice_string (P := Tryz.prog) u 9 s .i64 .i64 (i : Int) ((i : Int) + 2) Tryz.underlying9 (by omega) (by omega) (by omega)
        have e : ((i : Int) + 2).toNat = i + 2 := by omega
        rw [e] at h
        simpa using h
      have hfg := figures16 (s.extract i (i + 2)) (by simp [ByteArray.size_extract]; omega)
      rw [rf16_two s i (by omega)] at hfg
      by_cases hno : valI (byteAt s i) < 0 ∨ valI (byteAt s (i + 1)) < 0
      · rw [if_pos hno] at hfg
        simp only [rfOut] at hfg
        have HF := hide hfg
        have HN := hide hno
        clear hfg hno
        go_wp2_with fail
        refine (unhide HF _).mono ?_
        rintro e w' ⟨rfl, rfl⟩
        go_wp2
        go_ret2
        rw [← unhide HV, unhexF_no (unhide HN)]
        exact ⟨rfl, hb⟩
      · rw [if_neg hno] at hfg
        simp only [rfOut] at hfg
        have HN := hide hno
        obtain ⟨x, hx⟩ : ∃ x : Nat, x = (16 * valI (byteAt s i) + valI (byteAt s (i + 1))).toNat := ⟨_, rfl⟩
        rw [← hx] at hfg
        have hx2 : x ≤ 255 := by omega
        have HX := hide hx
        have HF := hide hfg
        clear hfg hno hx hd hd2 hd' hd2'
        go_wp2_with fail
        refine (unhide HF _).mono ?_
        rintro e w' ⟨rfl, rfl⟩
        go_wp2_with (at_builtin; refine wpList_append_own _ rfl _ _ 66 rfl w.heap.size 5 i0 (.int .u8 0) 1 1 Tryz.underlying66 hi hz0 hz1 hz2 rfl (by decide) _ _ _ rfl (hown.alloc _) ⟨w'.heap.size, 0, none⟩ 1 1 [.int .u8 (x : Int)] rfl rfl (cell_one_new _ _ _) (one_byte _) ?c3 ?c4 ?c5 ?_)
        case c3 => unfold maxLen; omega
        case c4 => omega
        case c5 => simp; omega
        intro v' w1 hown' hgrow _
        have hb1 := below_append hb (Nat.le_refl _) hown hgrow
        have hown1 := own_snoc (c := UInt8.ofNat x) (by rw [toNat_ofNat_small _ (by omega)]) hown'
        clear hown' hgrow hown hb
        go_wp2
        go_roundw
        case rel =>
          refine ⟨i + 2, f, _, by go_num, by have := unhide HIF; omega, by simp; omega, ?_, hown1, hb1⟩
          rw [← unhide HV, unhexF_yes (unhide HN), ← unhide HX]
        case measure => simp [intOf]; omega
    · obtain rfl : f = 0 := by omega
      have hcv := convert_own wr 66 9 5 w.heap.size u4 _ Tryz.underlying66 Tryz.underlying5 Tryz.underlying9 hown
      clear hown hif
      go_wp2
      go_ret2
      rw [← unhide HV]
      exact ⟨rfl, hb⟩
end Ux
end Go.Proofs.YtjhnippfepbjmaaGreatDoor
