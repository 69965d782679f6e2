/-
  The walks of FnExactReadRoot and FnExactLastRoot, from the program's contracts on.
-/
import Derived.Test.YtnflilaldamddaaRtLast
import Derived.Test.YtnflilaldamddaaDevEq
import Derived.Test.YtnflilaldamddaaLawKit
import Derived.Deep.RegionHeld3
import Derived.Deep.DeepCutAuto
namespace Go.Proofs.Ytnflilaldamddaa
namespace Rt
open Go.RowKit

theorem eqRoot_same (s t : Int) (w : World) :
    Calls Try.prog 16 #[.agg #[.int .i64 s, .int .i64 t], .agg #[.int .i64 s, .int .i64 t]] w fun e w' => e = .returned (.bool true) ∧ Below w.heap.size w w' := by
  go_enter Try.func16, Try.ntmps16
  go_wp2
  go_ret
  exact ⟨rfl, ((Below.refl _ _).alloc (Nat.le_refl _) _).alloc (by simp) _⟩

set_option maxRecDepth 100000 in
set_option maxHeartbeats 1000000 in
theorem readRoot_walk (x : ByteArray) (w : World) (hI : x.size ≤ 1048576 → ∀ w, Calls Try.prog 11 #[.string x] w fun e w' => e = .returned (rootV x) ∧ Below w.heap.size w w') :
    Calls Try.prog 5 #[.string x] w fun e w' => e = .returned (.bool true) ∧ Below w.heap.size w w' := by
  by_cases hbig : (1048576 : Int) < (x.size : Int)
  · clear hI
    go_enter Try.func5, Try.ntmps5
    go_wp2
    go_ret
    exact ⟨rfl, Below.refl _ _⟩
  · have SP := hide (fun w => specReadRoot_any x w)
    have IM := hide (hI (by omega))
    clear hI
    rw [rootV_eq] at SP IM
    generalize rootS x = s at SP IM
    generalize rootR x = t at SP IM
    generalize rootF x = f at SP IM
    have EQ := hide (fun w => eqRoot_same s t w)
    go_enter Try.func5, Try.ntmps5
    go_wp2_with fail
    refine (unhide SP _).mono ?_
    rintro e w2 ⟨rfl, hb2⟩
    obtain ⟨W2, hW2⟩ : ∃ W, W = w2.alloc (Obj.cells #[Value.int .i64 s, Value.int .i64 t] 25) := ⟨_, rfl⟩
    have r2 : RBox W2 w2.heap.size s t := by rw [hW2]; exact heap_alloc_new w2 _
    have hc2 : Below w.heap.size w W2 := by rw [hW2]; exact hb2.alloc hb2.size _
    have hs2 : w2.heap.size < W2.heap.size := by rw [hW2]; simp
    go_wp2_with fail
    rw [← hW2]
    clear hW2 hb2
    refine (unhide IM _).mono ?_
    rintro e w3 ⟨rfl, hb3⟩
    have r3 : RBox w3 w2.heap.size s t := (hb3.block _ hs2).trans r2
    have hc3 := hc2.trans (hb3.mono hc2.size)
    have hs3 : w2.heap.size < w3.heap.size := Nat.lt_of_lt_of_le hs2 hb3.size
    obtain ⟨p0, p1, _⟩ := cells_of_two (((below_new1 w3 (Obj.cells #[Value.int .i64 s, Value.int .i64 t] 25)).block _ hs3).trans r3)
    have hc4 : Below w.heap.size w (w3.alloc (Obj.cells #[Value.int .i64 s, Value.int .i64 t] 25)) := hc3.alloc hc3.size _
    clear hb3 r2 r3 hc2 hc3
    go_wp2_with fail
    refine (unhide EQ _).mono ?_
    rintro e w5 ⟨rfl, hb5⟩
    have hc5 := hc4.trans (hb5.mono hc4.size)
    clear hb5
    go_wp2
    go_ret
    exact ⟨rfl, hc5⟩

theorem lastV_shape (x y : ByteArray) : ∃ s t k f, lastV x y = .tuple #[.agg #[.int .i64 s, .int .i64 t], .int .i64 k, .bool f] := by
  unfold lastV
  split
  · exact ⟨_, _, _, _, rfl⟩
  · split
    · exact ⟨_, _, _, _, rfl⟩
    · exact ⟨_, _, _, _, rfl⟩

set_option maxRecDepth 100000 in
set_option maxHeartbeats 2000000 in
theorem lastRoot_walk (v : Value) (L : List ByteArray) (Q : List (Int × ByteArray)) (w : World) (hd : DevAt w v w.heap.size L Q) (hS : Sane L Q)
    (hI : L.length ≤ 1048576 → Q.length ≤ 1048576 → ∀ w1 d, DevAt w1 d w1.heap.size L Q → Calls Try.prog 13 #[d] w1 fun e w' => e = .returned (lastV (readA L Q 0).1 (readA L Q 1).1) ∧ Below w1.heap.size w1 w') :
    Calls Try.prog 6 #[v] w fun e w' => e = .returned (.bool true) ∧ Below w.heap.size w w' := by
  have HD := hide hd
  have HS := hide hS
  have HI := hide hI
  obtain ⟨a, n, c, a', n', c', rfl, _, _⟩ := hd
  clear hS hI
  go_enter Try.func6, Try.ntmps6
  go_wp2_with fail
  obtain ⟨W1, hW1⟩ : ∃ W, W = w.alloc (Obj.cells #[Value.slice a n c, Value.slice a' n' c'] 46) := ⟨_, rfl⟩
  rw [← hW1]
  have HA : Hid (LBox W1 w.heap.size (Value.slice a n c) (Value.slice a' n' c')) := by show LBox _ _ _ _; rw [hW1]; exact LBox.new _ _ _
  have hb1 : Below w.heap.size w W1 := by rw [hW1]; exact (Below.refl _ _).alloc (Nat.le_refl _) _
  have hs1 : w.heap.size < W1.heap.size := by rw [hW1]; simp
  clear hW1
  refine (szDevice_any _ w.heap.size L Q (unhide HS) W1 hb1.size ((unhide HD).below hb1 (Nat.le_refl _))).mono ?_
  rintro e w2 ⟨⟨x, rfl, hx0, hx1, hx2⟩, hb2⟩
  have HX := hide hx2
  have hc2 : Below w.heap.size w w2 := hb1.trans (hb2.mono hb1.size)
  have HA := hide ((unhide HA).below hb2)
  clear hx2 hb2 hb1 hs1
  by_cases hneg : x < 0
  · go_wp2
    go_ret
    exact ⟨rfl, hc2⟩
  · have htot := unhide HX (by omega)
    have hl1 : L.length ≤ 1048576 := by omega
    have hl2 : Q.length ≤ 1048576 := by omega
    have hm : ∀ s ∈ L, s.size ≤ 9223372036854775807 := (unhide HS).2.2.1
    have TO := hide (fun w1 (hb : Below w.heap.size w w1) => toDevice_any _ w.heap.size L Q hl1 hl2 w1 hb.size ((unhide HD).below hb (Nat.le_refl _)))
    have SP := hide (fun w1 d (hd : DevAt w1 d w1.heap.size L Q) => specLast_any d w1.heap.size L Q hl1 hl2 hm w1 (Nat.le_refl _) hd)
    have IM := hide (unhide HI hl1 hl2)
    have EQ := hide (fun w1 d d' (hd : DevAt w1 d w1.heap.size L Q) (hd' : DevAt w1 d' w1.heap.size L Q) => eqDevice_same d d' w1.heap.size w1.heap.size L Q hl1 hl2 w1 (Nat.le_refl _) (Nat.le_refl _) hd hd')
    obtain ⟨s, t, k, f, hlv⟩ := lastV_shape (readA L Q 0).1 (readA L Q 1).1
    rw [hlv] at SP IM
    have ER := hide (fun w => eqRoot_same s t w)
    clear htot hl1 hl2 hm hx0 hx1 hlv HI
    obtain ⟨p0, p1⟩ := (unhide HA).cells
    go_wp2_with fail
    refine (unhide TO w2 hc2).mono ?_
    rintro e w3 ⟨⟨d9, rfl, ho9⟩, hb3⟩
    have HA := hide ((unhide HA).below hb3)
    have hc3 : Below w.heap.size w w3 := hc2.trans (hb3.mono hc2.size)
    have hd9 := ho9.at
    have S1 := hide (unhide SP w3 d9 hd9)
    obtain ⟨a9, n9, c9, b9, m9, k9, rfl, _, _⟩ := hd9
    clear ho9 hb3 p0 p1
    go_wp2_with fail
    refine (unhide S1).mono ?_
    rintro e w4 ⟨rfl, hb4⟩
    have HA := hide ((unhide HA).below hb4)
    have hc4 : Below w.heap.size w w4 := hc3.trans (hb4.mono hc3.size)
    clear hb4 S1
    obtain ⟨W4, hW4⟩ : ∃ W, W = w4.alloc (Obj.cells #[Value.int .i64 s, Value.int .i64 t] 25) := ⟨_, rfl⟩
    have r4 : RBox W4 w4.heap.size s t := by rw [hW4]; exact heap_alloc_new w4 _
    have hbW4 : Below w4.heap.size w4 W4 := by rw [hW4]; exact below_new1 _ _
    have hsW4 : w4.heap.size < W4.heap.size := by rw [hW4]; simp
    have HA := hide ((unhide HA).below hbW4)
    have hcW4 : Below w.heap.size w W4 := hc4.trans (hbW4.mono hc4.size)
    obtain ⟨p0, p1⟩ := (unhide HA).cells
    go_upto_region 6 with fail
    rw [← hW4]
    clear hW4 hbW4
    go_wp2_with fail
    refine (unhide TO W4 hcW4).mono ?_
    rintro e w5 ⟨⟨d1, rfl, ho1⟩, hb5⟩
    have HA := hide ((unhide HA).below hb5)
    have HR5 : Hid (RBox w5 w4.heap.size s t) := (hb5.block _ hsW4).trans r4
    have hc5 : Below w.heap.size w w5 := hcW4.trans (hb5.mono hcW4.size)
    have hs5 : w4.heap.size < w5.heap.size := Nat.lt_of_lt_of_le hsW4 hb5.size
    have hd1 := ho1.at
    have HD1 := hide hd1
    obtain ⟨a1, n1, c1, b1, m1, k1, rfl, _, _⟩ := hd1
    clear ho1 hb5 p0 p1 r4
    go_wp2_with fail
    obtain ⟨W5, hW5⟩ : ∃ W, W = w5.alloc (Obj.cells #[Value.slice a1 n1 c1, Value.slice b1 m1 k1] 36) := ⟨_, rfl⟩
    rw [← hW5]
    have hbW5 : Below w5.heap.size w5 W5 := by rw [hW5]; exact below_new1 _ _
    have hsW5 : w5.heap.size < W5.heap.size := by rw [hW5]; simp
    have HX5 : Hid (Box W5 w5.heap.size (Value.slice a1 n1 c1) (Value.slice b1 m1 k1)) := by show Box _ _ _ _; rw [hW5]; exact Box.new _ _ _
    clear hW5
    have HA := hide ((unhide HA).below hbW5)
    have HR5 : Hid (RBox W5 w4.heap.size s t) := (hbW5.block _ hs5).trans (unhide HR5)
    have hcW5 : Below w.heap.size w W5 := hc5.trans (hbW5.mono hc5.size)
    have hdW5 := ((unhide HD1).below hbW5 (Nat.le_refl _)).mono hbW5.size
    have HD5 := hide hdW5
    have S3 := hide (unhide IM W5 _ hdW5)
    clear hbW5 hdW5
    refine (unhide S3).mono ?_
    rintro e w6 ⟨rfl, hb6⟩
    have HA := hide ((unhide HA).below hb6)
    have HX6 := hide ((unhide HX5).below hb6)
    have HR6 : Hid (RBox w6 w4.heap.size s t) := (hb6.block _ (by omega)).trans (unhide HR5)
    have hc6 : Below w.heap.size w w6 := hcW5.trans (hb6.mono hcW5.size)
    have HD6 := hide (((unhide HD5).below hb6 (Nat.le_refl _)).mono hb6.size)
    have hs6 : w4.heap.size < w6.heap.size := by have := hb6.size; omega
    clear hb6 S3 HX5 HR5 HD5
    obtain ⟨W6, hW6⟩ : ∃ W, W = w6.alloc (Obj.cells #[Value.int .i64 s, Value.int .i64 t] 25) := ⟨_, rfl⟩
    have hbW6 : Below w6.heap.size w6 W6 := by rw [hW6]; exact below_new1 _ _
    have r6 : RBox W6 w6.heap.size s t := by rw [hW6]; exact heap_alloc_new w6 _
    have q6 : RBox W6 w4.heap.size s t := (hbW6.block _ hs6).trans (unhide HR6)
    have HA := hide ((unhide HA).below hbW6)
    have HX6 := hide ((unhide HX6).below hbW6)
    have HD6 := hide (((unhide HD6).below hbW6 (Nat.le_refl _)).mono hbW6.size)
    have hcW6 : Below w.heap.size w W6 := hc6.trans (hbW6.mono hc6.size)
    obtain ⟨p0, p1, _⟩ := cells_of_two r6
    obtain ⟨q0, q1, _⟩ := cells_of_two q6
    go_upto_region 8 with fail
    rw [← hW6]
    clear hW6 hbW6 r6 q6
    go_wp2_with fail
    refine (unhide ER _).mono ?_
    rintro e w7 ⟨rfl, hb7⟩
    have HA := hide ((unhide HA).below hb7)
    have HX7 := hide ((unhide HX6).below hb7)
    have HD7 := hide (((unhide HD6).below hb7 (Nat.le_refl _)).mono hb7.size)
    have hc7 : Below w.heap.size w w7 := hcW6.trans (hb7.mono hcW6.size)
    clear hb7 p0 p1 q0 q1 HX6 HD6
    obtain ⟨p0, p1⟩ := (unhide HA).cells
    obtain ⟨r0, r1⟩ := (unhide HX7).cells
    have hk0 : w.heap.size < w7.heap.size := (unhide HA).lt
    have hk5 : w5.heap.size < w7.heap.size := (unhide HX7).lt
    have HO1D := hide ((unhide HD7).below ((Below.refl w7.heap.size w7).drew) (Nat.le_refl _))
    go_wp2_with fail
    go_region_held3 (fun u => u.cell? ⟨w.heap.size, 0, none⟩ = some (Value.slice a n c) ∧ u.cell? ⟨w.heap.size, 1, none⟩ = some (Value.slice a' n' c') ∧ u.cell? ⟨w5.heap.size, 0, none⟩ = some (Value.slice a1 n1 c1) ∧ u.cell? ⟨w5.heap.size, 1, none⟩ = some (Value.slice b1 m1 k1))
      (first | go_keep | exact ⟨(hb9.cell (p := ⟨w.heap.size, 0, none⟩) l0).trans q0, (hb9.cell (p := ⟨w.heap.size, 1, none⟩) l0).trans q1, (hb9.cell (p := ⟨w5.heap.size, 0, none⟩) l5).trans s0, (hb9.cell (p := ⟨w5.heap.size, 1, none⟩) l5).trans s1⟩ | exact ⟨q0, q1, s0, s1⟩)
      (first
        | (go_at_call 19; refine (unhide TO _ hc7.drew).mono ?_; rintro e w8 ⟨⟨d8, rfl, ho8⟩, hb8⟩; have hd8 := ho8.at; have HO8 := hide (((unhide HO1D).below hb8 (Nat.le_refl _)).mono (show w7.heap.size ≤ w8.heap.size from hb8.size)); have HE8 := hide hd8; obtain ⟨a8, n8, c8, b8, m8, k8, rfl, _, _⟩ := hd8; have q0 := (hb8.cell (p := ⟨w.heap.size, 0, none⟩) hk0).trans p0; have q1 := (hb8.cell (p := ⟨w.heap.size, 1, none⟩) hk0).trans p1; have s0 := (hb8.cell (p := ⟨w5.heap.size, 0, none⟩) hk5).trans r0; have s1 := (hb8.cell (p := ⟨w5.heap.size, 1, none⟩) hk5).trans r1; have l0 : w.heap.size < w8.heap.size := Nat.lt_of_lt_of_le hk0 hb8.size; have l5 : w5.heap.size < w8.heap.size := Nat.lt_of_lt_of_le hk5 hb8.size; have hc8 : Below w.heap.size w w8 := hc7.drew.trans (hb8.mono hc7.size); clear ho8 hb8)
        | (go_at_call 20; refine (unhide EQ w8 _ _ (unhide HO8) (unhide HE8)).mono ?_; rintro e w9 ⟨rfl, hb9⟩))
    have hc9 : Below w.heap.size w w9 := hc8.trans (hb9.mono hc8.size)
    clear hb9
    go_wp2
    go_ret
    exact ⟨rfl, hc9⟩
end Rt
end Go.Proofs.Ytnflilaldamddaa
